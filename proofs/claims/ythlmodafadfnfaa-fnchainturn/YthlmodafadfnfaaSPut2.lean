/- The specification's DepsPut, at all deps. -/
import Derived.Test.YthlmodafadfnfaaSPut
namespace Go.Proofs.Ythlmodafadfnfaa
open Go.ChangeShapes Go.WideShapes Go.ChangeAt Go.RowKit

set_option maxHeartbeats 1000000 in
set_option maxRecDepth 100000 in
theorem sPut_no (a : Option Addr) (cap : Nat) (xs : List D) (d : D) (w : World) (hn : xs.length ≤ 1099511627776) (h : Deps w a xs) (hno : depsOk xs = false ∨ okD d = false) :
    Calls Try.prog 81 #[.slice a xs.length cap, depV d.k d.t d.s] w fun e w' => ∃ v, e = .returned v ∧ w'.ownsRow w.heap.size 51 3 v (putL xs d).length (flat3 (putL xs d)) ∧ Below w.heap.size w w' := by
  have HP : Hid (putL xs d = []) := putL_no hno
  have B0 : Below w.heap.size w (w.alloc (.cells #[.int .i64 d.k, .int .i64 d.t, .int .i64 d.s] 51)) := (Below.refl _ _).alloc (Nat.le_refl _) _
  have hS := sDepsOk_any a cap xs _ hn (h.below B0)
  rcases hok : depsOk xs with _ | _
  · rw [hok] at hS
    clear h
    go_enter Try.func81, Try.ntmps81
    go_wp2_with fail
    refine hS.mono ?_
    rintro e w1 ⟨rfl, hb1⟩
    have hB1 : Below w.heap.size w w1 := B0.trans (hb1.mono (by simp))
    clear hb1 hS B0
    have hown0 : (w1.alloc (.cells #[] 51)).ownsRow w.heap.size 51 3 (.slice (some ⟨w1.heap.size, 0, none⟩) 0 0) 0 [] := World.ownsRow_made w1 #[] 0 hB1.size (by unfold maxLen; omega) rfl
    go_wp2_with fail
    go_ret
    exact ⟨_, rfl, by rw [HP.out]; exact hown0, hB1.alloc hB1.size _⟩
  · have hd : okD d = false := by rcases hno with h | h; rw [hok] at h; cases h; exact h
    rw [hok] at hS
    have hS1 := fun (w : World) h => sDepsOk_any (some ⟨w.heap.size, 0, none⟩) 1 [d] (w.alloc (.cells #[.int .i64 d.k, .int .i64 d.t, .int .i64 d.s] 51)) (by simp) h
    rw [depsOk_one, hd] at hS1
    simp only [List.length_cons, List.length_nil, Nat.zero_add] at hS1
    clear h
    go_enter Try.func81, Try.ntmps81
    go_wp2_with fail
    refine hS.mono ?_
    rintro e w1 ⟨rfl, hb1⟩
    have D1 := (Blk.new w _ _).below hb1 (by simp)
    have hB1 : Below w.heap.size w w1 := B0.trans (hb1.mono (by simp))
    obtain ⟨q1, g1⟩ := D1.rules
    clear hb1 hS B0
    go_wp2_with fail
    refine (hS1 _ (deps_one (Blk.new w1 _ _))).mono ?_
    rintro e w2 ⟨rfl, hb2⟩
    have hB2 : Below w.heap.size w w2 := (hB1.alloc hB1.size _).trans (hb2.mono (by have := hB1.size; simp; omega))
    have hown0 : (w2.alloc (.cells #[] 51)).ownsRow w.heap.size 51 3 (.slice (some ⟨w2.heap.size, 0, none⟩) 0 0) 0 [] := World.ownsRow_made w2 #[] 0 hB2.size (by unfold maxLen; omega) rfl
    clear hb2 q1 g1 D1 hB1 hS1
    go_wp2_with fail
    go_ret
    exact ⟨_, rfl, by rw [HP.out]; exact hown0, hB2.alloc hB2.size _⟩

theorem sPut_any (a : Option Addr) (cap : Nat) (xs : List D) (d : D) (w : World) (hn : xs.length ≤ 1099511627776) (h : Deps w a xs) :
    Calls Try.prog 81 #[.slice a xs.length cap, depV d.k d.t d.s] w fun e w' => ∃ v, e = .returned v ∧ w'.ownsRow w.heap.size 51 3 v (putL xs d).length (flat3 (putL xs d)) ∧ Below w.heap.size w w' := by
  by_cases hb : depsOk xs = true ∧ okD d = true
  · exact sPut_yes a cap xs d w hn h hb.1 hb.2
  · refine sPut_no a cap xs d w hn h ?_
    rcases h1 : depsOk xs with _ | _
    · exact .inl rfl
    · rcases h2 : okD d with _ | _
      · exact .inr rfl
      · exact absurd ⟨h1, h2⟩ hb
end Go.Proofs.Ythlmodafadfnfaa
