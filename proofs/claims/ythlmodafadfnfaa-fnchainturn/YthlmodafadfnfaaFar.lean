/- The contract of the reader's 'pick', far. -/
import Derived.Test.YthlmodafadfnfaaPick
import Derived.Test.YthlmodafadfnfaaBits
namespace Go.Proofs.Ythlmodafadfnfaa
open Go.ChangeShapes Go.WideShapes Go.ChangeAt Go.RowKit

theorem pick_far (B b off : Nat) (len cap : Nat) (p n z y : Int) (w : World)
    (hc0 : w.cell? ⟨B, 0, none⟩ = some (.slice (some ⟨b, off, none⟩) len cap)) (hc1 : w.cell? ⟨B, 1, none⟩ = some (.int .i64 p))
    (hf : w.frozen? ⟨B, 1, none⟩ = false) (hp0 : 0 ≤ p) (hp1 : p ≤ 1000000) (hn : 1 ≤ n) (hl : (len : Int) ≤ p) (hl0 : 0 < (len : Int)) (hb : b ≠ B)
    (hz0 : 0 ≤ z) (hz1 : z ≤ 255) (hy0 : 0 ≤ y) (hy1 : y ≤ 255)
    (hc : w.cell? ⟨b, off + (p % len).toNat, none⟩ = some (.int .u8 z))
    (hd : w.cell? ⟨b, off + ((p * 7 + 3) % len).toNat, none⟩ = some (.int .u8 y)) :
    Calls Try.prog 61 #[.pointer (some ⟨B, 0, none⟩), .int .i64 n] w fun e w' => ∃ (v : Int) (m : Nat), e = .returned (.int .i64 v) ∧ 0 ≤ v ∧ v < n ∧ w' = (w.setCell ⟨B, 1, none⟩ (.int .i64 (p + 1))).drewN m := by
  have hne : ((len : Int) == 0) = false := by simp; omega
  have hnn : (n == 0) = false := by simp; omega
  have m1 : 0 ≤ p % len := Int.emod_nonneg _ (by omega)
  have m2 : p % len < len := Int.emod_lt_of_pos _ (by omega)
  have m3 : 0 ≤ (p * 7 + 3) % len := Int.emod_nonneg _ (by omega)
  have m4 : (p * 7 + 3) % len < len := Int.emod_lt_of_pos _ (by omega)
  have m5 : 0 ≤ p / len := Int.ediv_nonneg (by omega) (by omega)
  have m6 : p / len ≤ 1000000 := Int.le_trans (Int.ediv_le_self _ hp0) hp1
  go_enter Try.func61, Try.ntmps61
  go_wp2
  go_quiet ((fail))
  go_wp2
  go_ret
  have hm := mixed (z * 131 + y * 1117 + p * 29 + p / len * 53) n (by omega) (by omega) hn
  exact ⟨_, nq, rfl, hm.1, hm.2, rfl⟩
end Go.Proofs.Ythlmodafadfnfaa
