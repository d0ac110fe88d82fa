/- 2 texts in one: Bits, Far. -/
import Derived.Laws.Bits64
import Derived.WalkKit
import Derived.Test.YtgdkoangpinieaaPick
/- Plain facts on numbers: a mixture of two numbers that are not negative is not negative. -/
namespace Go.Proofs.Ytgdkoangpinieaa

theorem xor_i64_nat (a b : Nat) (ha : a < 4294967296) (hb : b < 4294967296) : 0 ≤ bits .xor .i64 (a : Int) (b : Int) := by
  have hx : a ^^^ b < 2 ^ 32 := Nat.xor_lt_two_pow (by omega) (by omega)
  have h1 : (BitVec.ofInt 64 (a : Int)).toNat = a := by
    rw [BitVec.ofInt_natCast, BitVec.toNat_ofNat]; exact Nat.mod_eq_of_lt (by omega)
  have h2 : (BitVec.ofInt 64 (b : Int)).toNat = b := by
    rw [BitVec.ofInt_natCast, BitVec.toNat_ofNat]; exact Nat.mod_eq_of_lt (by omega)
  have e : bits .xor .i64 (a : Int) (b : Int) = IntKind.i64.wrap ((BitVec.ofInt 64 (a : Int) ^^^ BitVec.ofInt 64 (b : Int)).toNat : Int) := rfl
  rw [e, BitVec.toNat_xor, h1, h2]
  generalize a ^^^ b = c at hx
  simp [IntKind.wrap, IntKind.bits, IntKind.signed]
  omega

theorem xor_i64 (x y : Int) (hx0 : 0 ≤ x) (hx1 : x < 4294967296) (hy0 : 0 ≤ y) (hy1 : y < 4294967296) : 0 ≤ bits .xor .i64 x y := by
  obtain ⟨a, rfl⟩ := Int.eq_ofNat_of_zero_le hx0
  obtain ⟨b, rfl⟩ := Int.eq_ofNat_of_zero_le hy0
  exact xor_i64_nat a b (by omega) (by omega)

theorem mixed (X n : Int) (h0 : 0 ≤ X) (h1 : X < 4294967296) (hn : 1 ≤ n) :
    0 ≤ (bits .xor .i64 X (X / 64)).tmod n ∧ (bits .xor .i64 X (X / 64)).tmod n < n := by
  have h := xor_i64 X (X / 64) h0 h1 (by omega) (by omega)
  generalize bits .xor .i64 X (X / 64) = Y at h
  rw [Int.tmod_eq_emod_of_nonneg h]
  exact ⟨Int.emod_nonneg _ (by omega), Int.emod_lt_of_pos _ (by omega)⟩
end Go.Proofs.Ytgdkoangpinieaa

/- The contract of the reader's 'pick', far. -/
namespace Go.Proofs.Ytgdkoangpinieaa
open Go.ChangeShapes Go.WideShapes Go.ChangeAt Go.RowKit

theorem pick_far (B b off : Nat) (len cap : Nat) (p n z y : Int) (w : World)
    (hc0 : w.cell? ⟨B, 0, none⟩ = some (.slice (some ⟨b, off, none⟩) len cap)) (hc1 : w.cell? ⟨B, 1, none⟩ = some (.int .i64 p))
    (hf : w.frozen? ⟨B, 1, none⟩ = false) (hp0 : 0 ≤ p) (hp1 : p ≤ 1000000) (hn : 1 ≤ n) (hl : (len : Int) ≤ p) (hl0 : 0 < (len : Int)) (hb : b ≠ B)
    (hz0 : 0 ≤ z) (hz1 : z ≤ 255) (hy0 : 0 ≤ y) (hy1 : y ≤ 255)
    (hc : w.cell? ⟨b, off + (p % len).toNat, none⟩ = some (.int .u8 z))
    (hd : w.cell? ⟨b, off + ((p * 7 + 3) % len).toNat, none⟩ = some (.int .u8 y)) :
    Calls Try.prog 92 #[.pointer (some ⟨B, 0, none⟩), .int .i64 n] w fun e w' => ∃ (v : Int) (m : Nat), e = .returned (.int .i64 v) ∧ 0 ≤ v ∧ v < n ∧ w' = (w.setCell ⟨B, 1, none⟩ (.int .i64 (p + 1))).drewN m := by
  have hne : ((len : Int) == 0) = false := by simp; omega
  have hnn : (n == 0) = false := by simp; omega
  have m1 : 0 ≤ p % len := Int.emod_nonneg _ (by omega)
  have m2 : p % len < len := Int.emod_lt_of_pos _ (by omega)
  have m3 : 0 ≤ (p * 7 + 3) % len := Int.emod_nonneg _ (by omega)
  have m4 : (p * 7 + 3) % len < len := Int.emod_lt_of_pos _ (by omega)
  have m5 : 0 ≤ p / len := Int.ediv_nonneg (by omega) (by omega)
  have m6 : p / len ≤ 1000000 := Int.le_trans (Int.ediv_le_self _ hp0) hp1
  go_enter Try.func92, Try.ntmps92
  go_wp2
  go_quiet ((fail))
  go_wp2
  go_ret
  have hm := mixed (z * 131 + y * 1117 + p * 29 + p / len * 53) n (by omega) (by omega) hn
  exact ⟨_, nq, rfl, hm.1, hm.2, rfl⟩
end Go.Proofs.Ytgdkoangpinieaa

