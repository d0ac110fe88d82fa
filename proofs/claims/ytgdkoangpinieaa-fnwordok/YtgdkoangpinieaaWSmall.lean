/- The specification's words: small parts. -/
import Derived.Test.YtgdkoangpinieaaWPlace
import Derived.Test.YtgdkoangpinieaaWOwesS
namespace Go.Proofs.Ytgdkoangpinieaa
open Go.ChangeShapes Go.WideShapes Go.ChangeAt Go.RowKit

theorem sClient_any (n : Int) (w : World) : Calls Try.prog 131 #[.int .i64 n] w fun e w' => e = .returned (.bool (inB n 10 11)) ∧ w' = w := by
  go_enter Try.func131, Try.ntmps131
  go_wp2_with fail
  refine (in_any n 10 11 _).mono ?_
  rintro e w1 ⟨rfl, rfl⟩
  go_wp2_with fail
  go_ret
  exact ⟨rfl, rfl⟩
theorem sNone_any (t s : Int) (w : World) : Calls Try.prog 132 #[stampV t s] w fun e w' => e = .returned (.bool (stamp0 t s)) ∧ Below w.heap.size w w' := by
  by_cases h0 : t = 0 ∧ s = 0
  · obtain ⟨rfl, rfl⟩ := h0
    go_enter Try.func132, Try.ntmps132
    go_wp2
    go_ret
    exact ⟨rfl, (Below.refl _ _).alloc (Nat.le_refl _) _⟩
  · have HE : Hid (stamp0 t s = okB t s) := by show _ = _; unfold stamp0; simp [h0]
    by_cases ht : t = 0
    · subst ht
      have hs : ¬ s = 0 := fun e => h0 ⟨rfl, e⟩
      have d2 : (s == 0) = false := by simpa using hs
      go_enter Try.func132, Try.ntmps132
      go_wp2_with fail
      refine (sOk_any _ _ _).mono ?_
      rintro e w1 ⟨rfl, hb⟩
      go_wp2_with fail
      go_ret
      exact ⟨by rw [HE.out]; rfl, ((Below.refl _ _).alloc (Nat.le_refl _) _).trans (hb.mono (by simp))⟩
    · have d1 : (t == 0) = false := by simpa using ht
      go_enter Try.func132, Try.ntmps132
      go_wp2_with fail
      refine (sOk_any _ _ _).mono ?_
      rintro e w1 ⟨rfl, hb⟩
      go_wp2_with fail
      go_ret
      exact ⟨by rw [HE.out]; rfl, ((Below.refl _ _).alloc (Nat.le_refl _) _).trans (hb.mono (by simp))⟩
theorem no_undef {b : Bool} (h : some undef = some (Value.bool b)) : False := by simp [undef] at h
theorem site_is {n : Int} {r : Bool} (h : inB n 0 3 = r) (w : World) : Calls Try.prog 130 #[.int .i64 n] w fun e w' => e = .returned (.bool r) ∧ w' = w := by rw [← h]; exact site_any n w
theorem sClient_is {n : Int} {r : Bool} (h : inB n 10 11 = r) (w : World) : Calls Try.prog 131 #[.int .i64 n] w fun e w' => e = .returned (.bool r) ∧ w' = w := by rw [← h]; exact sClient_any n w
end Go.Proofs.Ytgdkoangpinieaa
