/- Whether a stamp is ok. -/
import Derived.Test.YthlmodafadfnfaaSideI
namespace Go.Proofs.Ythlmodafadfnfaa
open Go.ChangeShapes Go.WideShapes Go.ChangeAt Go.RowKit

theorem iOk_any (t s : Int) (w : World) : Calls Try.prog 104 #[stampV t s] w fun e w' => e = .returned (.bool (okB t s)) ∧ Below w.heap.size w w' := by
  by_cases h1 : 1 ≤ t
  · by_cases h2 : t ≤ 9999
    · have e : okB t s = decide (0 ≤ sideOf s) := by rw [side_ok]; unfold okB; rw [decide_eq_decide]; omega
      have d1 : decide (1 ≤ t) = true := by simpa using h1
      have d2 : decide (t ≤ 9999) = true := by simpa using h2
      rw [e]
      clear e
      go_enter Try.func104, Try.ntmps104
      go_wp2_with (first | (go_at_call 118; refine (iSide_any _ _).mono ?_; rintro e w' ⟨rfl, rfl⟩))
      go_ret
      exact ⟨rfl, (Below.refl _ _).alloc (Nat.le_refl _) _⟩
    · have e : okB t s = false := by unfold okB; simp; omega
      have d1 : decide (1 ≤ t) = true := by simpa using h1
      have d2 : decide (t ≤ 9999) = false := by simpa using h2
      rw [e]
      clear e
      go_enter Try.func104, Try.ntmps104
      go_wp2
      go_ret
      exact ⟨rfl, (Below.refl _ _).alloc (Nat.le_refl _) _⟩
  · have e : okB t s = false := by unfold okB; simp; omega
    have d1 : decide (1 ≤ t) = false := by simpa using h1
    rw [e]
    clear e
    go_enter Try.func104, Try.ntmps104
    go_wp2
    go_ret
    exact ⟨rfl, (Below.refl _ _).alloc (Nat.le_refl _) _⟩

theorem in_any (n lo hi : Int) (w : World) : Calls Try.prog 102 #[.int .i64 n, .int .i64 lo, .int .i64 hi] w fun e w' => e = .returned (.bool (inB n lo hi)) ∧ w' = w := by
  by_cases h1 : lo ≤ n
  · have d1 : decide (lo ≤ n) = true := by simpa using h1
    have e : inB n lo hi = decide (n ≤ hi) := by unfold inB; rw [decide_eq_decide]; omega
    rw [e]
    clear e
    go_enter Try.func102, Try.ntmps102
    go_wp2
    go_ret
    exact ⟨rfl, rfl⟩
  · have d1 : decide (lo ≤ n) = false := by simpa using h1
    have e : inB n lo hi = false := by unfold inB; simp; omega
    rw [e]
    clear e
    go_enter Try.func102, Try.ntmps102
    go_wp2
    go_ret
    exact ⟨rfl, rfl⟩

theorem site_any (n : Int) (w : World) : Calls Try.prog 112 #[.int .i64 n] w fun e w' => e = .returned (.bool (inB n 0 3)) ∧ w' = w := by
  go_enter Try.func112, Try.ntmps112
  go_wp2_with (first | (go_at_call 102; refine (in_any _ _ _ _).mono ?_; rintro e w' ⟨rfl, rfl⟩))
  go_ret
  exact ⟨rfl, rfl⟩
theorem sOk_any (t s : Int) (w : World) : Calls Try.prog 86 #[stampV t s] w fun e w' => e = .returned (.bool (okB t s)) ∧ Below w.heap.size w w' := by
  by_cases h : 1 ≤ t ∧ t ≤ 9999
  · have d1 : inB t 1 9999 = true := by unfold inB; simpa using h
    have e : okB t s = inB s 0 3 := by unfold okB inB; rw [decide_eq_decide]; omega
    rw [e]
    clear e h
    go_enter Try.func86, Try.ntmps86
    go_wp2_with (first | (go_at_call 102; refine (in_any _ _ _ _).mono ?_; rintro e w' ⟨rfl, rfl⟩) | (go_at_call 112; refine (site_any _ _).mono ?_; rintro e w' ⟨rfl, rfl⟩))
    go_ret
    exact ⟨rfl, (Below.refl _ _).alloc (Nat.le_refl _) _⟩
  · have d1 : inB t 1 9999 = false := by unfold inB; simp; omega
    have e : okB t s = false := by unfold okB; simp; omega
    rw [e]
    clear e h
    go_enter Try.func86, Try.ntmps86
    go_wp2_with (first | (go_at_call 102; refine (in_any _ _ _ _).mono ?_; rintro e w' ⟨rfl, rfl⟩) | (go_at_call 112; refine (site_any _ _).mono ?_; rintro e w' ⟨rfl, rfl⟩))
    go_ret
    exact ⟨rfl, (Below.refl _ _).alloc (Nat.le_refl _) _⟩

end Go.Proofs.Ythlmodafadfnfaa
