/- The program's functions on deps. -/
import Derived.Test.YthlmodafadfnfaaTList
namespace Go.Proofs.Ythlmodafadfnfaa
open Go.ChangeShapes Go.WideShapes Go.ChangeAt Go.RowKit

theorem iDepsOk_any (a : Option Addr) (cap : Nat) (xs : List D) (w : World) (hn : xs.length ≤ 1099511627776) (h : Deps w a xs) :
    Calls Try.prog 84 #[.slice a xs.length cap] w fun e w' => e = .returned (.bool (depsOk xs)) ∧ Below w.heap.size w w' := by
  have hT := tableOf_any a cap xs w hn h
  obtain ⟨b0, b1, b2, b3, b4, b5, c0, c1, c2, c3, c4, c5, hL⟩ := tabA_lit (tabOf xs)
  rw [hL] at hT
  clear hL
  go_enter Try.func84, Try.ntmps84
  go_wp2_with fail
  refine hT.mono ?_
  rintro e w1 ⟨rfl, hb1⟩
  go_wp2_with fail
  go_ret
  exact ⟨rfl, hb1.alloc hb1.size _⟩

/-- A call's own row of deps. -/
abbrev RowD (w : World) (base : Nat) (v : Value) (xs : List D) : Prop := w.ownsRow base 51 3 v xs.length (flat3 xs)

set_option maxHeartbeats 1000000 in
theorem iPut_any (a : Option Addr) (cap : Nat) (xs : List D) (d : D) (w : World) (hn : xs.length ≤ 1099511627776) (h : Deps w a xs) :
    Calls Try.prog 44 #[.slice a xs.length cap, depV d.k d.t d.s] w fun e w' => ∃ v, e = .returned v ∧ RowD w' w.heap.size v (putL xs d) ∧ Below w.heap.size w w' := by
  have B0 : Below w.heap.size w (w.alloc (.cells #[.int .i64 d.k, .int .i64 d.t, .int .i64 d.s] 51)) := (Below.refl _ _).alloc (Nat.le_refl _) _
  have hT := tableOf_any a cap xs _ hn (h.below B0)
  obtain ⟨b0, b1, b2, b3, b4, b5, c0, c1, c2, c3, c4, c5, hL⟩ := tabA_lit (tabOf xs)
  rw [hL] at hT
  rcases hok : depsOk xs with _ | _
  · have HP : Hid (putL xs d = []) := putL_no (.inl hok)
    rw [hok] at hT
    clear hL h
    go_enter Try.func44, Try.ntmps44
    go_wp2_with fail
    refine hT.mono ?_
    rintro e w1 ⟨rfl, hb1⟩
    have hB1 : Below w.heap.size w w1 := B0.trans (hb1.mono (by simp))
    clear hb1 hT B0
    go_wp2_with fail
    go_ret
    exact ⟨_, rfl, by rw [HP.out]; exact World.ownsRow_nil _ _ _ _, hB1.alloc hB1.size _⟩
  · rw [hok] at hT
    rcases hd : okD d with _ | _
    · have HP : Hid (putL xs d = []) := putL_no (.inr hd)
      clear hL h
      go_enter Try.func44, Try.ntmps44
      go_wp2_with fail
      refine hT.mono ?_
      rintro e w1 ⟨rfl, hb1⟩
      have hB1 : Below w.heap.size w w1 := B0.trans (hb1.mono (by simp))
      have D1 := (Blk.new w _ _).below hb1 (by simp)
      obtain ⟨r1, f1⟩ := D1.rules
      have hz := D1.lt
      clear hb1 hT B0
      go_wp2_with fail
      refine (iDep_any d _).mono ?_
      rw [hd]
      rintro e w2 ⟨rfl, hb2⟩
      have hB2 : Below w.heap.size w w2 := (hB1.alloc hB1.size _).trans (hb2.mono (by have := hB1.size; simp; omega))
      clear hb2 hB1 r1 f1 D1
      go_wp2_with fail
      go_ret
      exact ⟨_, rfl, by rw [HP.out]; exact World.ownsRow_nil _ _ _ _, hB2⟩
    · have HP : Hid (putL xs d = lst (withT (tab xs) d)) := putL_yes hok hd
      have hW := with_any (tab xs) d
      rw [← tabOf_ok hok, hL, tabOf_ok hok] at hW
      have hG : Good (withT (tab xs) d) := good_with (good_tab (ok_iff.1 hok)) hd
      clear h
      obtain ⟨q0, q1, q2, q3, q4, q5, m0, m1, m2, m3, m4, m5, hM⟩ := tabA_lit (withT (tab xs) d)
      have hLi := list_any (withT (tab xs) d) hG
      rw [hM] at hW hLi
      clear hL hM
      go_enter Try.func44, Try.ntmps44
      go_wp2_with fail
      refine hT.mono ?_
      rintro e w1 ⟨rfl, hb1⟩
      have hB1 : Below w.heap.size w w1 := B0.trans (hb1.mono (by simp))
      have D1 := (Blk.new w _ _).below hb1 (by simp)
      obtain ⟨r1, f1⟩ := D1.rules
      have hz := D1.lt
      clear hb1 hT B0
      go_wp2_with fail
      refine (iDep_any d _).mono ?_
      rw [hd]
      rintro e w2 ⟨rfl, hb2⟩
      have D2 := (D1.alloc _).below hb2 (by simp; omega)
      have T2 := (Blk.new w1 _ _).below hb2 (by simp)
      have hB2 : Below w.heap.size w w2 := (hB1.alloc hB1.size _).trans (hb2.mono (by have := hB1.size; simp; omega))
      clear hb2 r1 f1
      obtain ⟨r1, f1⟩ := D2.rules
      obtain ⟨r2, f2⟩ := T2.rules
      go_wp2_with fail
      refine (hW _ hd).mono ?_
      rintro e w3 ⟨rfl, hb3⟩
      have hB3 : Below w.heap.size w w3 := hB2.trans (hb3.mono hB2.size)
      clear r1 f1 r2 f2 hb3
      go_wp2_with fail
      refine (hLi _).mono ?_
      rintro e w4 ⟨v, rfl, hrow, hb4⟩
      have hB4 : Below w.heap.size w w4 := hB3.trans (hb4.mono hB3.size)
      obtain ⟨va, vc, rfl, _⟩ := row_slice hrow
      have hrow2 := row_mono hrow hB3.size
      clear hb4 hrow
      go_wp2_with fail
      go_ret
      exact ⟨_, rfl, by rw [HP.out]; exact hrow2, hB4⟩

end Go.Proofs.Ythlmodafadfnfaa
