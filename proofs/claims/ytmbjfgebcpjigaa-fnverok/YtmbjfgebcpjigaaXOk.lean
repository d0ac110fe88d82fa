/- The exact laws of DepsOk and DepsAt. -/
import Derived.Test.YtmbjfgebcpjigaaXDeps
import Derived.Test.YtmbjfgebcpjigaaSAt
namespace Go.Proofs.Ytmbjfgebcpjigaa
open Go.ChangeShapes Go.WideShapes Go.ChangeAt Go.RowKit

theorem row_deps {w : World} {base b n : Nat} {cap : Nat} {xs : List D} (h : w.ownsRow base 32 3 (.slice (some ⟨b, 0, none⟩) n cap) xs.length (flat3 xs)) : Deps w (some ⟨b, 0, none⟩) xs := by
  obtain ⟨a, c, he, hD, _⟩ := deps_of_row h
  simp at he
  obtain ⟨rfl, _⟩ := he
  exact hD

set_option maxHeartbeats 2000000 in
theorem lawExactDepsOk (a : Option Addr) (cap : Nat) (xs : List D) (w : World) (hn : xs.length ≤ maxLen) (h : Deps w a xs) :
    Calls Try.prog 15 #[.slice a xs.length cap] w fun e w' => e = .returned (.bool true) ∧ Below w.heap.size w w' := by
  have hz := szDeps_any a xs.length cap 1048576 w hn (by omega) (by omega)
  by_cases hbig : (1048576 : Int) < (xs.length : Int)
  · rw [if_pos hbig] at hz
    go_enter Try.func15, Try.ntmps15
    go_wp2_with fail
    refine hz.mono ?_
    rintro e w1 ⟨rfl, rfl⟩
    clear hz
    go_wp2
    go_ret
    exact ⟨rfl, Below.refl _ _⟩
  · rw [if_neg hbig] at hz
    have hx : xs.length ≤ 1048576 := by omega
    have hx' : xs.length ≤ 1099511627776 := by omega
    go_enter Try.func15, Try.ntmps15
    go_wp2_with fail
    refine hz.mono ?_
    rintro e w0 ⟨rfl, rfl⟩
    clear hz hbig hn
    go_wp2_with fail
    refine (toDeps_any a cap xs _ hx h).mono ?_
    rintro e w1 ⟨b1, rfl, _, R1, h1⟩
    go_wp2_with fail
    refine (sDepsOk_any _ _ xs _ hx' (row_deps R1)).mono ?_
    rintro e w2 ⟨rfl, h2⟩
    have B2 : Below w0.heap.size w0 w2 := h1.trans (h2.mono h1.size)
    clear h1 h2 R1
    go_wp2_with fail
    refine (toDeps_any a cap xs _ hx (h.below B2)).mono ?_
    rintro e w3 ⟨b3, rfl, _, R3, h3⟩
    have B3 : Below w0.heap.size w0 w3 := B2.trans (h3.mono B2.size)
    clear h3 B2
    go_wp2_with fail
    refine (iDepsOk_any _ _ xs _ hx' (row_deps R3)).mono ?_
    rintro e w4 ⟨rfl, h4⟩
    have B4 : Below w0.heap.size w0 w4 := B3.trans (h4.mono B3.size)
    have R4 := row_below R3 h4 (Nat.le_refl _)
    clear h4 B3 R3
    go_wp2_with fail
    refine (toDeps_any a cap xs _ hx (h.below B4)).mono ?_
    rintro e w5 ⟨b5, rfl, _, R5, h5⟩
    have B5 : Below w0.heap.size w0 w5 := B4.trans (h5.mono B4.size)
    have R6 := row_below R4 h5 (Nat.le_refl _)
    clear h5 B4 R4
    go_wp2_with fail
    refine (eqDeps_any _ _ xs _ _ _ hx (row_deps R6) (row_deps R5)).mono ?_
    rintro e w6 ⟨rfl, h6⟩
    have B6 : Below w0.heap.size w0 w6 := B5.trans (h6.mono B5.size)
    clear h6 B5 R6 R5
    go_wp2
    go_ret
    exact ⟨rfl, B6⟩

set_option maxHeartbeats 2000000 in
theorem lawExactDepsAt (a : Option Addr) (cap : Nat) (xs : List D) (key : Int) (w : World) (hn : xs.length ≤ maxLen) (h : Deps w a xs) :
    Calls Try.prog 18 #[.slice a xs.length cap, .int .i64 key] w fun e w' => e = .returned (.bool true) ∧ Below w.heap.size w w' := by
  have hz := szDeps_any a xs.length cap 1048576 w hn (by omega) (by omega)
  by_cases hbig : (1048576 : Int) < (xs.length : Int)
  · rw [if_pos hbig] at hz
    go_enter Try.func18, Try.ntmps18
    go_wp2_with fail
    refine hz.mono ?_
    rintro e w1 ⟨rfl, rfl⟩
    clear hz
    go_wp2
    go_ret
    exact ⟨rfl, Below.refl _ _⟩
  · rw [if_neg hbig] at hz
    have hx : xs.length ≤ 1048576 := by omega
    have hx' : xs.length ≤ 1099511627776 := by omega
    obtain ⟨t, s, hts⟩ : ∃ t s, atV xs key = stampV t s := ⟨_, _, rfl⟩
    have HS := fun b cap w h => sAt_any b cap xs key w hx' h
    have HI := fun b cap w h => iAt_any b cap xs key w hx' h
    rw [hts] at HS HI
    clear hts
    go_enter Try.func18, Try.ntmps18
    go_wp2_with fail
    refine hz.mono ?_
    rintro e w0 ⟨rfl, rfl⟩
    clear hz hbig hn
    go_wp2_with fail
    refine (toDeps_any a cap xs _ hx h).mono ?_
    rintro e w1 ⟨b1, rfl, _, R1, h1⟩
    go_wp2_with fail
    refine (HS _ _ _ (row_deps R1)).mono ?_
    rintro e w2 ⟨rfl, h2⟩
    have B2 : Below w0.heap.size w0 w2 := h1.trans (h2.mono h1.size)
    have B2' := B2.alloc B2.size (.cells #[.int .i64 t, .int .i64 s] 24)
    clear h1 h2 R1 B2
    go_wp2_with fail
    refine (toDeps_any a cap xs _ hx (h.below B2')).mono ?_
    rintro e w3 ⟨b3, rfl, _, R3, h3⟩
    have B3 : Below w0.heap.size w0 w3 := B2'.trans (h3.mono B2'.size)
    have D3 := (Blk.new w2 _ _).below h3 (by simp)
    clear h3 B2'
    go_wp2_with fail
    refine (HI _ _ _ (row_deps R3)).mono ?_
    rintro e w4 ⟨rfl, h4⟩
    have B4 : Below w0.heap.size w0 w4 := B3.trans (h4.mono B3.size)
    have R4 := row_below R3 h4 (Nat.le_refl _)
    have D4 := D3.below h4 D3.lt
    obtain ⟨q1, q2⟩ := D4.rules
    have z4 := D4.lt
    have R4' := R4.alloc (.cells #[.int .i64 t, .int .i64 s] 24)
    have B4' := B4.alloc B4.size (.cells #[.int .i64 t, .int .i64 s] 24)
    clear h4 B3 R3 D3 R4 B4
    go_wp2_with fail
    refine (eqStamp_any t s _).mono ?_
    rintro e w5 ⟨rfl, h5⟩
    have B5 : Below w0.heap.size w0 w5 := B4'.trans (h5.mono B4'.size)
    have R5 := row_below R4' h5 (Nat.le_refl _)
    clear h5 B4' R4' q1 q2 D4
    go_wp2_with fail
    refine (toDeps_any a cap xs _ hx (h.below B5)).mono ?_
    rintro e w6 ⟨b6, rfl, _, R6, h6⟩
    have B6 : Below w0.heap.size w0 w6 := B5.trans (h6.mono B5.size)
    have R7 := row_below R5 h6 (Nat.le_refl _)
    clear h6 B5 R5
    go_wp2_with fail
    refine (eqDeps_any _ _ xs _ _ _ hx (row_deps R7) (row_deps R6)).mono ?_
    rintro e w7 ⟨rfl, h7⟩
    have B7 : Below w0.heap.size w0 w7 := B6.trans (h7.mono B6.size)
    clear h7 B6 R6 R7
    go_wp2
    go_ret
    exact ⟨rfl, B7⟩
end Go.Proofs.Ytmbjfgebcpjigaa
