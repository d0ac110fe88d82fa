/- Contracts of SiteSide, program and specification. -/
import Derived.Test.YtlmffgeknlfpkaaRows
import Derived.WalkKit
import Derived.ProofKit
import Derived.OpenShut
import Derived.Below
import Derived.WalkLawsBesides
import Derived.Deep.QuietTactic
import Derived.BigQuiet
import Derived.WalkSpells
namespace Go.Proofs.Ytlmffgeknlfpkaa
open Go.ChangeShapes Go.WideShapes Go.ChangeAt Go.RowKit

/-- The side of a site as a number. -/
def sideOf (n : Int) : Int := if n < 0 ∨ 4 ≤ n then -1 else n / 2

theorem side_out (n : Int) (h : n < 0 ∨ 4 ≤ n) : sideOf n = -1 := by unfold sideOf; rw [if_pos h]
theorem side_in (n : Int) (h0 : 0 ≤ n) (h1 : n < 4) : sideOf n = n / 2 := by unfold sideOf; rw [if_neg (by omega)]

theorem iSide_any (n : Int) (w : World) : Calls Try.prog 17 #[.int .i64 n] w fun e w' => e = .returned (.int .i64 (sideOf n)) ∧ w' = w := by
  by_cases h0 : n < 0
  · rw [side_out n (.inl h0)]
    go_enter Try.func17, Try.ntmps17
    go_wp2
    go_ret
    exact ⟨rfl, rfl⟩
  · by_cases h1 : 4 ≤ n
    · rw [side_out n (.inr h1)]
      go_enter Try.func17, Try.ntmps17
      go_wp2
      go_ret
      exact ⟨rfl, rfl⟩
    · have h0' : 0 ≤ n := by omega
      have h1' : n < 4 := by omega
      rw [side_in n h0' h1']
      go_enter Try.func17, Try.ntmps17
      go_wp2
      go_ret
      exact ⟨rfl, rfl⟩

theorem sSide_any (n : Int) (w : World) : Calls Try.prog 18 #[.int .i64 n] w fun e w' => e = .returned (.int .i64 (sideOf n)) ∧ w' = w := by
  by_cases h0 : n < 0
  · rw [side_out n (.inl h0)]
    go_enter Try.func18, Try.ntmps18
    go_wp2
    go_ret
    exact ⟨rfl, rfl⟩
  · by_cases h1 : 4 ≤ n
    · rw [side_out n (.inr h1)]
      have hd : decide (n ≤ 3) = false := by simp; omega
      go_enter Try.func18, Try.ntmps18
      go_wp2
      go_ret
      exact ⟨rfl, rfl⟩
    · have h0' : 0 ≤ n := by omega
      have h1' : n < 4 := by omega
      rw [side_in n h0' h1']
      have hd : decide (n ≤ 3) = true := by simp; omega
      go_enter Try.func18, Try.ntmps18
      go_wp2
      go_ret
      exact ⟨rfl, rfl⟩
end Go.Proofs.Ytlmffgeknlfpkaa
