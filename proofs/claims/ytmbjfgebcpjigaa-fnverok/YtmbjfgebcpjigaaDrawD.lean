/- What the laws of deps draw. -/
import Derived.Test.YtmbjfgebcpjigaaDrawDeps
namespace Go.Proofs.Ytmbjfgebcpjigaa
open Go.ChangeShapes Go.WideShapes Go.ChangeAt Go.RowKit

theorem Rd.drew {w : World} {B : Nat} {p : Int} (h : Rd w B p) : Rd w.drew B p := h.of_block (Nat.le_refl _) fun _ _ => rfl

theorem row_at {w : World} {base g n cap : Nat} {xs : List D} (h : w.ownsRow base 32 3 (.slice (some ⟨g, 0, none⟩) n cap) xs.length (flat3 xs)) {k : Nat} (hk : k < xs.length) : ∃ z : Int, w.cell? ⟨g, k * 3, none⟩ = some (.int .i64 z) := by
  obtain ⟨a', c, he, hD, _⟩ := deps_of_row h
  simp at he
  obtain ⟨rfl, _⟩ := he
  obtain ⟨b, o, he, _, e0, _, _⟩ := hD.at hk
  simp at he
  obtain ⟨rfl, rfl⟩ := he
  exact ⟨_, by simpa using e0⟩

theorem drawDOk (w : World) (a : Option Addr) (len cap : Nat) (h : Code w a len cap) :
    Calls Try.prog 36 #[.slice a len cap] w fun e w' => ∃ (v : Value) (xs : List D), e = .returned v ∧ xs.length ≤ 7 ∧ w'.ownsRow w.heap.size 32 3 v xs.length (flat3 xs) ∧ Below w.heap.size w w' := by
  go_enter Try.func36, Try.ntmps36
  go_wp2_with fail
  refine (open_any w a len cap h).mono ?_
  rintro e w1 ⟨rfl, hr, hb, hs⟩
  go_wp2_with fail
  refine (drawDeps _ 0 w1 hr (by omega)).mono ?_
  rintro e w2 ⟨v, xs, p', rfl, hl, hrow, _, hr2, hs2⟩
  have hB : Below w.heap.size w w2 := hs2.below hb (Nat.le_refl _)
  have hrow2 := row_mono hrow (base' := w.heap.size) (by omega)
  obtain ⟨va, vc, rfl, _⟩ := row_slice hrow2
  clear hs2 hr2 hr hb hrow
  go_wp2_with fail
  go_ret
  exact ⟨_, xs, rfl, hl, hrow2, hB⟩

theorem drawDJoin (w : World) (a : Option Addr) (len cap : Nat) (h : Code w a len cap) :
    Calls Try.prog 33 #[.slice a len cap] w fun e w' => ∃ (u v : Value) (xs ys : List D), e = .returned (.tuple #[u, v]) ∧ xs.length ≤ 7 ∧ ys.length ≤ 7 ∧ w'.ownsRow w.heap.size 32 3 u xs.length (flat3 xs) ∧ w'.ownsRow w.heap.size 32 3 v ys.length (flat3 ys) ∧ Below w.heap.size w w' := by
  go_enter Try.func33, Try.ntmps33
  go_wp2_with fail
  refine (open_any w a len cap h).mono ?_
  rintro e w1 ⟨rfl, hr, hb, hs⟩
  go_wp2_with fail
  refine (drawDeps _ 0 w1 hr (by omega)).mono ?_
  rintro e w2 ⟨u, xs, p', rfl, hl, hrow, hp', hr2, hs2⟩
  have hB : Below w.heap.size w w2 := hs2.below hb (Nat.le_refl _)
  obtain ⟨ua, uc, rfl, _⟩ := row_slice hrow
  clear hs2 hr hb
  go_wp2_with fail
  refine (drawDeps _ p' w2 hr2 (by omega)).mono ?_
  rintro e w3 ⟨v, ys, p3, rfl, hl3, hrow3, _, hr3, hs3⟩
  have hB3 : Below w.heap.size w w3 := hs3.below hB (Nat.le_refl _)
  have hrow4 := row_mono (row_step hrow hs3 (by omega)) (base' := w.heap.size) (by omega)
  have hrow5 := row_mono hrow3 (base' := w.heap.size) hB.size
  obtain ⟨va, vc, rfl, _⟩ := row_slice hrow5
  clear hs3 hr2 hr3 hrow hrow3 hB
  go_wp2_with fail
  go_ret2
  exact ⟨_, _, xs, ys, rfl, hl, hl3, hrow4, hrow5, hB3⟩

set_option maxHeartbeats 1000000 in
theorem drawDAt (w : World) (a : Option Addr) (len cap : Nat) (h : Code w a len cap) :
    Calls Try.prog 37 #[.slice a len cap] w fun e w' => ∃ (v : Value) (xs : List D) (key : Int), e = .returned (.tuple #[v, .int .i64 key]) ∧ xs.length ≤ 7 ∧ w'.ownsRow w.heap.size 32 3 v xs.length (flat3 xs) ∧ Below w.heap.size w w' := by
  go_enter Try.func37, Try.ntmps37
  go_wp2_with fail
  refine (open_any w a len cap h).mono ?_
  rintro e w1 ⟨rfl, hr, hb, hs⟩
  go_wp2_with fail
  refine (drawDeps _ 0 w1 hr (by omega)).mono ?_
  rintro e w2 ⟨v, xs, p', rfl, hl, hrow, hp', hr2, hs2⟩
  have hB : Below w.heap.size w w2 := hs2.below hb (Nat.le_refl _)
  obtain ⟨va, vc, rfl, _⟩ := row_slice hrow
  clear hs2 hr hb
  by_cases h0 : (0 : Int) < (xs.length : Int)
  · obtain ⟨g, rfl⟩ : ∃ g, va = some ⟨g, 0, none⟩ := by
      rcases hrow.2 with ⟨hn, hn0⟩ | ⟨g, cap, cur, he, _⟩
      · omega
      · simp at he; exact ⟨g, he.1⟩
    go_wp2_with fail
    refine (pick_any _ p' 4 w2 hr2 (by omega) (by omega)).mono ?_
    rintro e w3 ⟨c, rfl, c0, c1, hr3, hs3, hz3⟩
    have hB3 : Below w.heap.size w w3 := hs3.below hB (Nat.le_refl _)
    have hrow3 := row_step hrow hs3 (by omega)
    clear hs3 hr2 hrow hB hz3
    by_cases hc : 0 < c
    · go_wp2_with fail
      go_region_with (first | (go_at_call 60; refine (pick_any _ _ xs.length _ hr3.drew (by omega) (by omega)).mono ?_; rintro e w4 ⟨u, rfl, u0, u1, hr4, hs4, hz4⟩; have hrow4 := row_step (row_below hrow3 (Below.refl _ _).drew (Nat.le_refl _)) hs4 (by omega); obtain ⟨z, e0⟩ := row_at hrow4 (k := u.toNat) (by omega)))
      all_goals
        have hB4 : Below w.heap.size w w4 := hs4.below (hB3.trans ((Below.refl _ _).drew.mono hB3.size)) (Nat.le_refl _)
        have hrow5 := row_mono hrow4 (base' := w.heap.size) (by omega)
        clear hs4 hr3 hr4 hrow3 hrow4 hB3 hz4 e0
        go_wp2_with fail
        go_ret2
        exact ⟨_, xs, _, rfl, hl, hrow5, hB4⟩
    · go_wp2_with fail
      refine (pick_any _ _ 8 w3 hr3 (by omega) (by omega)).mono ?_
      rintro e w4 ⟨u, rfl, u0, u1, hr4, hs4, hz4⟩
      have hB4 : Below w.heap.size w w4 := hs4.below hB3 (Nat.le_refl _)
      have hrow4 := row_mono (row_step hrow3 hs4 (by omega)) (base' := w.heap.size) (by omega)
      clear hs4 hr3 hr4 hrow3 hB3 hz4
      go_wp2_with fail
      go_ret2
      exact ⟨_, xs, _, rfl, hl, hrow4, hB4⟩
  · go_wp2_with fail
    refine (pick_any _ p' 8 w2 hr2 (by omega) (by omega)).mono ?_
    rintro e w4 ⟨u, rfl, u0, u1, hr4, hs4, hz4⟩
    have hB4 : Below w.heap.size w w4 := hs4.below hB (Nat.le_refl _)
    have hrow4 := row_mono (row_step hrow hs4 (by omega)) (base' := w.heap.size) (by omega)
    clear hs4 hr2 hr4 hrow hB hz4
    go_wp2_with fail
    go_ret2
    exact ⟨_, xs, _, rfl, hl, hrow4, hB4⟩
end Go.Proofs.Ytmbjfgebcpjigaa
