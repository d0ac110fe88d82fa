/- Stamps as one number each. -/
import Derived.Test.YthlmodafadfnfaaStampOk
namespace Go.Proofs.Ythlmodafadfnfaa
open Go.ChangeShapes Go.WideShapes Go.ChangeAt Go.RowKit

theorem code_any (t s : Int) (w : World) (h : 0 ≤ t ∧ t ≤ 100000 ∧ -10 ≤ s ∧ s ≤ 100000) : Calls Try.prog 116 #[stampV t s] w fun e w' => e = .returned (.int .i64 (t * 4 + s)) ∧ Below w.heap.size w w' := by
  obtain ⟨h1, h2, h3, h4⟩ := h
  go_enter Try.func116, Try.ntmps116
  go_wp2
  go_ret
  exact ⟨rfl, (Below.refl _ _).alloc (Nat.le_refl _) _⟩
theorem time_any (c : Int) (w : World) (h1 : 0 ≤ c) (h2 : c ≤ 1000000) : Calls Try.prog 131 #[.int .i64 c] w fun e w' => e = .returned (.int .i64 (c / 4)) ∧ w' = w := by
  go_enter Try.func131, Try.ntmps131
  go_wp2
  go_ret
  exact ⟨rfl, rfl⟩
theorem csite_any (c : Int) (w : World) (h1 : 0 ≤ c) (h2 : c ≤ 1000000) : Calls Try.prog 132 #[.int .i64 c] w fun e w' => e = .returned (.int .i64 (c % 4)) ∧ w' = w := by
  go_enter Try.func132, Try.ntmps132
  go_wp2
  go_ret
  exact ⟨rfl, rfl⟩
theorem stamp_any (c : Int) (w : World) (h1 : 0 ≤ c) (h2 : c ≤ 1000000) : Calls Try.prog 126 #[.int .i64 c] w fun e w' => e = .returned (stampV (c / 4) (c % 4)) ∧ Below w.heap.size w w' := by
  go_enter Try.func126, Try.ntmps126
  go_wp2_with (first | (go_at_call 131; refine (time_any _ _ h1 h2).mono ?_; rintro e w' ⟨rfl, rfl⟩) | (go_at_call 132; refine (csite_any _ _ h1 h2).mono ?_; rintro e w' ⟨rfl, rfl⟩))
  refine bodyPost_ret (v := stampV (c / 4) (c % 4)) (by simp [results, Try.results126, go_sem]) rfl ⟨rfl, ?_⟩
  exact (Below.refl _ _).alloc (Nat.le_refl _) _

theorem iKey_any (n : Int) (w : World) : Calls Try.prog 91 #[.int .i64 n] w fun e w' => e = .returned (.bool (inB n 0 5)) ∧ w' = w := by
  by_cases h1 : 0 ≤ n
  · have d1 : decide (0 ≤ n) = true := by simpa using h1
    have e : inB n 0 5 = decide (n < 6) := by unfold inB; rw [decide_eq_decide]; omega
    rw [e]
    clear e
    go_enter Try.func91, Try.ntmps91
    go_wp2
    go_ret
    exact ⟨rfl, rfl⟩
  · have d1 : decide (0 ≤ n) = false := by simpa using h1
    have e : inB n 0 5 = false := by unfold inB; simp; omega
    rw [e]
    clear e
    go_enter Try.func91, Try.ntmps91
    go_wp2
    go_ret
    exact ⟨rfl, rfl⟩
theorem sKey_any (n : Int) (w : World) : Calls Try.prog 85 #[.int .i64 n] w fun e w' => e = .returned (.bool (inB n 0 5)) ∧ w' = w := by
  go_enter Try.func85, Try.ntmps85
  go_wp2_with (first | (go_at_call 102; refine (in_any _ _ _ _).mono ?_; rintro e w' ⟨rfl, rfl⟩))
  go_ret
  exact ⟨rfl, rfl⟩
theorem iSlot_any (n : Int) (w : World) : Calls Try.prog 42 #[.int .i64 n] w fun e w' => e = .returned (.int .i64 (if inB n 0 5 = true then n * 3 / 6 else -1)) ∧ w' = w := by
  rcases h : inB n 0 5 with _ | _
  · rw [if_neg Bool.false_ne_true]
    go_enter Try.func42, Try.ntmps42
    go_wp2_with (first | (go_at_call 91; refine (iKey_any _ _).mono ?_; rintro e w' ⟨rfl, rfl⟩))
    go_ret
    exact ⟨rfl, rfl⟩
  · rw [if_pos rfl]
    obtain ⟨h0, h5⟩ : 0 ≤ n ∧ n ≤ 5 := by simpa [inB] using h
    go_enter Try.func42, Try.ntmps42
    go_wp2_with (first | (go_at_call 91; refine (iKey_any _ _).mono ?_; rintro e w' ⟨rfl, rfl⟩))
    go_ret
    exact ⟨rfl, rfl⟩
theorem sSlot_any (n : Int) (w : World) : Calls Try.prog 87 #[.int .i64 n] w fun e w' => e = .returned (.int .i64 (if inB n 0 5 = true then n * 3 / 6 else -1)) ∧ w' = w := by
  rcases h : inB n 0 5 with _ | _
  · rw [if_neg Bool.false_ne_true]
    go_enter Try.func87, Try.ntmps87
    go_wp2_with (first | (go_at_call 85; refine (sKey_any _ _).mono ?_; rintro e w' ⟨rfl, rfl⟩))
    go_ret
    exact ⟨rfl, rfl⟩
  · rw [if_pos rfl]
    obtain ⟨h0, h5⟩ : 0 ≤ n ∧ n ≤ 5 := by simpa [inB] using h
    go_enter Try.func87, Try.ntmps87
    go_wp2_with (first | (go_at_call 85; refine (sKey_any _ _).mono ?_; rintro e w' ⟨rfl, rfl⟩))
    go_ret
    exact ⟨rfl, rfl⟩
end Go.Proofs.Ythlmodafadfnfaa
