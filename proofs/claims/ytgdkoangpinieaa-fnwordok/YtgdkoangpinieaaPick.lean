/- The contract of the reader's 'pick'. -/
import Derived.Test.YtgdkoangpinieaaGAF
namespace Go.Proofs.Ytgdkoangpinieaa
open Go.ChangeShapes Go.WideShapes Go.ChangeAt Go.RowKit

theorem pick_none (B : Nat) (a : Option Addr) (cap : Nat) (p n : Int) (w : World)
    (hc0 : w.cell? ⟨B, 0, none⟩ = some (.slice a 0 cap)) (hc1 : w.cell? ⟨B, 1, none⟩ = some (.int .i64 p))
    (hf : w.frozen? ⟨B, 1, none⟩ = false) (hp0 : 0 ≤ p) (hp1 : p ≤ 1000000) (hn : 1 ≤ n) :
    Calls Try.prog 92 #[.pointer (some ⟨B, 0, none⟩), .int .i64 n] w fun e w' => e = .returned (.int .i64 0) ∧ w' = w.setCell ⟨B, 1, none⟩ (.int .i64 (p + 1)) := by
  go_enter Try.func92, Try.ntmps92
  go_wp2
  go_ret
  exact ⟨rfl, rfl⟩

theorem pick_near (B b off : Nat) (len cap : Nat) (p n z : Int) (w : World)
    (hc0 : w.cell? ⟨B, 0, none⟩ = some (.slice (some ⟨b, off, none⟩) len cap)) (hc1 : w.cell? ⟨B, 1, none⟩ = some (.int .i64 p))
    (hf : w.frozen? ⟨B, 1, none⟩ = false) (hp0 : 0 ≤ p) (hp1 : p ≤ 1000000) (hn : 1 ≤ n) (hl : p < len) (hb : b ≠ B)
    (hz0 : 0 ≤ z) (hz1 : z ≤ 255)
    (hc : w.cell? ⟨b, off + p.toNat, none⟩ = some (.int .u8 z)) :
    Calls Try.prog 92 #[.pointer (some ⟨B, 0, none⟩), .int .i64 n] w fun e w' => e = .returned (.int .i64 (z % n)) ∧ w' = w.setCell ⟨B, 1, none⟩ (.int .i64 (p + 1)) := by
  have hne : ((len : Int) == 0) = false := by simp; omega
  have hnn : (n == 0) = false := by simp; omega
  go_enter Try.func92, Try.ntmps92
  go_wp2
  go_outline
  go_ret
  exact ⟨rfl, rfl⟩
end Go.Proofs.Ytgdkoangpinieaa
