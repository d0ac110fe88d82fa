/- The specification's SiteSide. -/
import Derived.Test.YtgdkoangpinieaaGAF
namespace Go.Proofs.Ytgdkoangpinieaa
open Go.ChangeShapes Go.WideShapes Go.ChangeAt Go.RowKit

theorem sSide_any (n : Int) (w : World) : Calls Try.prog 150 #[.int .i64 n] w fun e w' => e = .returned (.int .i64 (sideOf n)) ∧ w' = w := by
  by_cases h0 : n < 0
  · rw [side_out n (.inl h0)]
    go_enter Try.func150, Try.ntmps150
    go_wp2
    go_ret
    exact ⟨rfl, rfl⟩
  · by_cases h1 : 4 ≤ n
    · rw [side_out n (.inr h1)]
      have hd : decide (n ≤ 3) = false := by simp; omega
      go_enter Try.func150, Try.ntmps150
      go_wp2
      go_ret
      exact ⟨rfl, rfl⟩
    · have h0' : 0 ≤ n := by omega
      have h1' : n < 4 := by omega
      rw [side_in n h0' h1']
      have hd : decide (n ≤ 3) = true := by simp; omega
      go_enter Try.func150, Try.ntmps150
      go_wp2
      go_ret
      exact ⟨rfl, rfl⟩
end Go.Proofs.Ytgdkoangpinieaa
