/- Draws for the laws of chains. -/
import Derived.Test.YthlmodafadfnfaaDrawC
import Derived.Test.YthlmodafadfnfaaOpen
namespace Go.Proofs.Ythlmodafadfnfaa
open Go.ChangeShapes Go.WideShapes Go.ChangeAt Go.RowKit

theorem drawCOk (w : World) (a : Option Addr) (len cap : Nat) (h : Code w a len cap) :
    Calls Try.prog 43 #[.slice a len cap] w fun e w' => ∃ (v : Value) (ys : List XV) (vs : List V), e = .returned v ∧ OwnV w' w.heap.size v ys ∧ ys.map XV.v = vs ∧ Few 81 vs ∧ Below w.heap.size w w' := by
  go_enter Try.func43, Try.ntmps43
  go_wp2_with fail
  refine (open_any w a len cap h).mono ?_
  rintro e w1 ⟨rfl, hr, hb, hs⟩
  go_wp2_with fail
  refine (drawChain _ 0 9 w1 hr (by omega) (by omega) (by omega)).mono ?_
  rintro e w2 ⟨v, ys, vs, p', rfl, hO, hy, hF, _, hr2, hs2⟩
  have hB : Below w.heap.size w w2 := hs2.below hb (Nat.le_refl _)
  have hO2 := hO.mono (base' := w.heap.size) (by omega)
  clear hs2 hr2 hr hb hO
  go_wp2_with fail
  go_ret
  exact ⟨_, ys, vs, rfl, hO2, hy, hF, hB⟩

theorem drawCTop (w : World) (a : Option Addr) (len cap : Nat) (h : Code w a len cap) :
    Calls Try.prog 27 #[.slice a len cap] w fun e w' => ∃ (v : Value) (ys : List XV) (vs : List V) (k : Int), e = .returned (.tuple #[v, .int .i64 k]) ∧ OwnV w' w.heap.size v ys ∧ ys.map XV.v = vs ∧ Few 81 vs ∧ -1 ≤ k ∧ k ≤ 6 ∧ Below w.heap.size w w' := by
  go_enter Try.func27, Try.ntmps27
  go_wp2_with fail
  refine (open_any w a len cap h).mono ?_
  rintro e w1 ⟨rfl, hr, hb, hs⟩
  go_wp2_with fail
  refine (drawChain _ 0 12 w1 hr (by omega) (by omega) (by omega)).mono ?_
  rintro e w2 ⟨v, ys, vs, p', rfl, hO, hy, hF, hp', hr2, hs2⟩
  have hB : Below w.heap.size w w2 := hs2.below hb (Nat.le_refl _)
  have hz1 : w.heap.size < w1.heap.size := by omega
  clear hs2 hr hb
  go_wp2_with fail
  refine (pick_any _ p' 8 _ hr2 (by omega) (by omega)).mono ?_
  rintro e w3 ⟨k, rfl, k0, k1, hr3, hs3, hz3⟩
  have hB3 : Below w.heap.size w w3 := hs3.below hB (Nat.le_refl _)
  have hO3 := (hO.step hs3 hz1).mono (base' := w.heap.size) (by omega)
  clear hs3 hr3 hr2 hB hO hz3
  go_wp2_with fail
  go_ret2
  exact ⟨_, ys, vs, _, rfl, hO3, hy, hF, by omega, by omega, hB3⟩

theorem drawCSlot (w : World) (a : Option Addr) (len cap : Nat) (h : Code w a len cap) :
    Calls Try.prog 39 #[.slice a len cap] w fun e w' => ∃ (v : Value) (ys : List XV) (vs : List V) (k : Int), e = .returned (.tuple #[v, .int .i64 k]) ∧ OwnV w' w.heap.size v ys ∧ ys.map XV.v = vs ∧ Few 81 vs ∧ -1 ≤ k ∧ k ≤ 20 ∧ Below w.heap.size w w' := by
  go_enter Try.func39, Try.ntmps39
  go_wp2_with fail
  refine (open_any w a len cap h).mono ?_
  rintro e w1 ⟨rfl, hr, hb, hs⟩
  go_wp2_with fail
  refine (drawChain _ 0 12 w1 hr (by omega) (by omega) (by omega)).mono ?_
  rintro e w2 ⟨v, ys, vs, p', rfl, hO, hy, hF, hp', hr2, hs2⟩
  have hB : Below w.heap.size w w2 := hs2.below hb (Nat.le_refl _)
  have hz1 : w.heap.size < w1.heap.size := by omega
  clear hs2 hr hb
  go_wp2_with fail
  refine (pick_any _ p' _ _ hr2 (by omega) (by omega)).mono ?_
  rintro e w3 ⟨k, rfl, k0, k1, hr3, hs3, hz3⟩
  have hB3 : Below w.heap.size w w3 := hs3.below hB (Nat.le_refl _)
  have hO3 := (hO.step hs3 hz1).mono (base' := w.heap.size) (by omega)
  clear hs3 hr3 hr2 hB hO hz3
  go_wp2_with fail
  go_ret2
  exact ⟨_, ys, vs, _, rfl, hO3, hy, hF, by omega, by omega, hB3⟩
end Go.Proofs.Ythlmodafadfnfaa
