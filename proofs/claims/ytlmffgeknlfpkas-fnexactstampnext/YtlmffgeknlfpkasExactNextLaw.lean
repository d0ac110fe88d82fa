/- The exact law of StampNext. -/
import Derived.Test.YtlmffgeknlfpkasExactNext
import Derived.Test.YtlmffgeknlfpkasOpenStamps
namespace Go.Proofs.Ytlmffgeknlfpkas
open Go.ChangeShapes Go.WideShapes Go.ChangeAt Go.RowKit

theorem next_form (site : Int) (xs : List (Int × Int)) : ∃ (t s : Int) (f : Bool), nextV site xs = .tuple #[stampV t s, .bool f] := by
  rcases h : hasNext site xs with _ | _
  · exact ⟨0, 0, false, next_no h⟩
  · exact ⟨_, _, true, next_yes h⟩

set_option maxHeartbeats 4000000 in
theorem lawExactNext (site : Int) (a : Option Addr) (cap : Nat) (xs : List (Int × Int)) (w : World) (hn : xs.length ≤ maxLen) (h : Stamps w a xs) :
    Calls Try.prog 5 #[.int .i64 site, .slice a xs.length cap] w fun e w' => e = .returned (.bool true) ∧ Below w.heap.size w w' := by
  by_cases hbig : 1048576 < (xs.length : Int)
  · have E : (if 1048576 < (xs.length : Int) then (-1 : Int) else 1048576 - xs.length) = -1 := if_pos hbig
    go_enter Try.func5, Try.ntmps5
    go_wp2_with fail
    refine (sz_any a _ cap w hn).mono ?_
    rw [E]
    rintro e w1 ⟨rfl, rfl⟩
    clear E
    go_wp2
    go_ret
    exact ⟨rfl, Below.refl _ _⟩
  · have E : (if 1048576 < (xs.length : Int) then (-1 : Int) else 1048576 - xs.length) = 1048576 - xs.length := if_neg hbig
    have hx : xs.length ≤ 1048576 := by omega
    have hx' : xs.length ≤ 1099511627776 := by omega
    obtain ⟨t, s, f, F⟩ := next_form site xs
    go_enter Try.func5, Try.ntmps5
    go_wp2_with fail
    refine (sz_any a _ cap w hn).mono ?_
    rw [E]
    rintro e w0 ⟨rfl, rfl⟩
    clear E hbig hn
    go_wp2_with fail
    refine (toStamps_any a cap xs _ hx h).mono ?_
    rintro e w1 ⟨b1, rfl, S1, h1⟩
    go_wp2_with fail
    refine (sNext_any site _ _ xs _ hx' S1).mono ?_
    rw [F]
    rintro e w2 ⟨rfl, h2⟩
    have B2 : Below w0.heap.size w0 w2 := h1.trans (h2.mono h1.size)
    have B3 : Below w0.heap.size w0 (w2.alloc (.cells #[.int .i64 t, .int .i64 s] 25)) := B2.alloc B2.size _
    clear h1 h2 S1
    go_wp2_with fail
    refine (toStamps_any a cap xs _ hx (h.below B3)).mono ?_
    rintro e w3 ⟨b3, rfl, S3, h3⟩
    go_wp2_with fail
    refine (iNext_any site _ _ xs _ hx' S3).mono ?_
    rw [F]
    rintro e w4 ⟨rfl, h4⟩
    have S4 := (S3.below h4).below ((Below.refl w4.heap.size w4).alloc (Nat.le_refl _) (.cells #[.int .i64 t, .int .i64 s] 25))
    have h5 := h3.trans (h4.mono h3.size)
    have c0 : w4.cell? ⟨w2.heap.size, 0, none⟩ = some (.int .i64 t) := (h5.cell (p := ⟨w2.heap.size, 0, none⟩) (by simp)).trans (by simp [go_sem])
    have c1 : w4.cell? ⟨w2.heap.size, 1, none⟩ = some (.int .i64 s) := (h5.cell (p := ⟨w2.heap.size, 1, none⟩) (by simp)).trans (by simp [go_sem])
    have z4 : w2.heap.size < w4.heap.size := by have := h5.size; simp at this; omega
    have B4 : Below w0.heap.size w0 w4 := B3.trans (h5.mono (by have := B3.size; simpa using this))
    have B5 : Below w0.heap.size w0 (w4.alloc (.cells #[.int .i64 t, .int .i64 s] 25)) := B4.alloc B4.size _
    clear h3 h4 h5 S3 B2 B3 B4 F
    go_wp2_with fail
    refine (eqStamp_any t s _).mono ?_
    rintro e w5 ⟨rfl, h6⟩
    have S5 := S4.below h6
    have B6 : Below w0.heap.size w0 w5 := B5.trans (h6.mono B5.size)
    clear S4 h6 B5 c0 c1 z4
    go_wp2_with fail
    refine (toStamps_any a cap xs _ hx (h.below B6)).mono ?_
    rintro e w6 ⟨b6, rfl, S6, h7⟩
    have S7 := S5.below h7
    have B7 : Below w0.heap.size w0 w6 := B6.trans (h7.mono B6.size)
    clear h7 B6 S5
    go_wp2_with fail
    refine (eqStamps_any b3 b6 xs _ _ _ hx S7 S6).mono ?_
    rintro e w7 ⟨rfl, h8⟩
    have B8 : Below w0.heap.size w0 w7 := B7.trans (h8.mono B7.size)
    clear h8 B7 S6 S7
    go_wp2
    go_ret
    exact ⟨rfl, B8⟩
end Go.Proofs.Ytlmffgeknlfpkas
