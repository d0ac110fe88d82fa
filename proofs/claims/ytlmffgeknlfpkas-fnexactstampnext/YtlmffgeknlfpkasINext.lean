/- The program's StampNext: stamps are one number each. -/
import Derived.Test.YtlmffgeknlfpkasNextNum
import Derived.Test.YtlmffgeknlfpkasStampOk
namespace Go.Proofs.Ytlmffgeknlfpkas
open Go.ChangeShapes Go.WideShapes Go.ChangeAt Go.RowKit

theorem code_any (t s : Int) (w : World) (h : 0 ≤ t ∧ t ≤ 100000 ∧ -10 ≤ s ∧ s ≤ 100000) : Calls Try.prog 30 #[stampV t s] w fun e w' => e = .returned (.int .i64 (t * 4 + s)) ∧ Below w.heap.size w w' := by
  obtain ⟨h1, h2, h3, h4⟩ := h
  go_enter Try.func30, Try.ntmps30
  go_wp2
  go_ret
  exact ⟨rfl, (Below.refl _ _).alloc (Nat.le_refl _) _⟩
theorem time_any (c : Int) (w : World) (h1 : 0 ≤ c) (h2 : c ≤ 1000000) : Calls Try.prog 32 #[.int .i64 c] w fun e w' => e = .returned (.int .i64 (c / 4)) ∧ w' = w := by
  go_enter Try.func32, Try.ntmps32
  go_wp2
  go_ret
  exact ⟨rfl, rfl⟩
theorem csite_any (c : Int) (w : World) (h1 : 0 ≤ c) (h2 : c ≤ 1000000) : Calls Try.prog 33 #[.int .i64 c] w fun e w' => e = .returned (.int .i64 (c % 4)) ∧ w' = w := by
  go_enter Try.func33, Try.ntmps33
  go_wp2
  go_ret
  exact ⟨rfl, rfl⟩
theorem stamp_any (c : Int) (w : World) (h1 : 0 ≤ c) (h2 : c ≤ 1000000) : Calls Try.prog 26 #[.int .i64 c] w fun e w' => e = .returned (stampV (c / 4) (c % 4)) ∧ Below w.heap.size w w' := by
  go_enter Try.func26, Try.ntmps26
  go_wp2_with (first | (go_at_call 32; refine (time_any _ _ h1 h2).mono ?_; rintro e w' ⟨rfl, rfl⟩) | (go_at_call 33; refine (csite_any _ _ h1 h2).mono ?_; rintro e w' ⟨rfl, rfl⟩))
  refine bodyPost_ret (v := stampV (c / 4) (c % 4)) (by simp [results, Try.results26, go_sem]) rfl ⟨rfl, ?_⟩
  exact (Below.refl _ _).alloc (Nat.le_refl _) _
theorem cnext_any (c site : Int) (w : World) (h1 : 0 ≤ c) (h2 : c ≤ 100000) (h3 : 0 ≤ site) (h4 : site ≤ 3) : Calls Try.prog 25 #[.int .i64 c, .int .i64 site] w fun e w' => e = .returned (.int .i64 ((c / 4 + 1) * 4 + site)) ∧ Below w.heap.size w w' := by
  go_enter Try.func25, Try.ntmps25
  go_wp2_with (first | (go_at_call 32; refine (time_any _ _ h1 (by omega)).mono ?_; rintro e w' ⟨rfl, rfl⟩) | (go_at_call 30; refine (code_any _ _ _ (by omega)).mono ?_; rintro e w' ⟨rfl, hb⟩))
  go_ret
  exact ⟨rfl, hb⟩

theorem ccmp_any (x y : Int) (w : World) : Calls Try.prog 24 #[.int .i64 x, .int .i64 y] w fun e w' => e = .returned (.int .i64 (cmpV x y)) ∧ w' = w := by
  by_cases h : x < y
  · rw [cmp_lt h]
    go_enter Try.func24, Try.ntmps24
    go_wp2
    go_ret
    exact ⟨rfl, rfl⟩
  · by_cases h' : y < x
    · rw [cmp_gt h']
      go_enter Try.func24, Try.ntmps24
      go_wp2
      go_ret
      exact ⟨rfl, rfl⟩
    · obtain rfl : x = y := by omega
      rw [cmp_eq]
      go_enter Try.func24, Try.ntmps24
      go_wp2
      go_ret
      exact ⟨rfl, rfl⟩

/-- The greater one of two numbers. -/
def later (x y : Int) : Int := if x < y then y else x
theorem last_any (x y : Int) (w : World) : Calls Try.prog 29 #[.func (.func 24) #[] #[], .int .i64 x, .int .i64 y] w fun e w' => e = .returned (.int .i64 (later x y)) ∧ w' = w := by
  by_cases h : x < y
  · have e1 : later x y = y := by unfold later; rw [if_pos h]
    have e2 := cmp_lt h
    rw [e1]
    clear e1 h
    go_enter Try.func29, Try.ntmps29
    go_wp2_with (first | (go_at_call 24; refine (ccmp_any _ _ _).mono ?_; rintro e w' ⟨rfl, rfl⟩))
    go_ret
    exact ⟨rfl, rfl⟩
  · have e1 : later x y = x := by unfold later; rw [if_neg h]
    have e2 : (cmpV x y < 0) = False := by unfold cmpV; rw [if_neg h]; split <;> simp
    rw [e1]
    clear e1 h
    go_enter Try.func29, Try.ntmps29
    go_wp2_with (first | (go_at_call 24; refine (ccmp_any _ _ _).mono ?_; rintro e w' ⟨rfl, rfl⟩))
    go_ret
    exact ⟨rfl, rfl⟩
end Go.Proofs.Ytlmffgeknlfpkas
