/- The specification's DepsJoin and DepsAt. -/
import Derived.Test.YtldhfoledldhbaaGAB
import Derived.Test.YtldhfoledldhbaaGAG
namespace Go.Proofs.Ytldhfoledldhbaa
open Go.ChangeShapes Go.WideShapes Go.ChangeAt Go.RowKit

/-- Deps joined with the first k of others. -/
def joinK (xs ys : List D) (k : Nat) : List D := lst (joinT (tab xs) (tab (ys.take k)))
theorem joinK_zero {xs : List D} (ys : List D) (h : Ok xs) : joinK xs ys 0 = xs := by
  unfold joinK
  exact lst_of h (fun k _ _ => by simp [joinT, tab_nil, omax_none])
theorem joinK_len (xs ys : List D) (k : Nat) : (joinK xs ys k).length ≤ 6 := lst_len _
theorem joinK_all {xs ys : List D} (hx : depsOk xs = true) (hy : depsOk ys = true) : joinK xs ys ys.length = joinL xs ys := by
  unfold joinK; rw [List.take_length, joinL_yes hx hy]
theorem joinK_step {xs ys : List D} (hx : Ok xs) (hy : Ok ys) {k : Nat} (hk : k < ys.length) : putL (joinK xs ys k) ys[k] = joinK xs ys (k + 1) := by
  have ho : depsOk (joinK xs ys k) = true := ok_iff.2 (lst_ok (good_join (good_tab hx) (good_tab (hy.take k))))
  rw [putL_yes ho (hy.2 _ (List.getElem_mem hk))]
  refine lst_congr fun i h0 h5 => ?_
  have ha := hy.ahead hk
  unfold withT joinT
  rw [takeD ys k hk, tab_snoc ha]
  unfold joinK
  rw [lst_tab _ _ h0 h5]
  unfold joinT
  by_cases hi : ys[k].k = i
  · have hno : tab (ys.take k) i = none := tab_none fun e he => by have := ha e he; omega
    rw [if_pos hi, if_pos hi, hno, omax_none]
  · rw [if_neg hi, if_neg hi]

set_option maxHeartbeats 1000000 in
set_option maxRecDepth 100000 in
theorem sJoin_yes (ab ao : Nat) (b : Option Addr) (cap cap' : Nat) (xs ys : List D) (w : World) (hm : ys.length ≤ 1099511627776) (h : Deps w (some ⟨ab, ao, none⟩) xs) (h' : Deps w b ys) (hx : depsOk xs = true) (hy : depsOk ys = true) :
    Calls Try.prog 91 #[.slice (some ⟨ab, ao, none⟩) xs.length cap, .slice b ys.length cap'] w fun e w' => ∃ v, e = .returned v ∧ w'.ownsRow w.heap.size 51 3 v (joinL xs ys).length (flat3 (joinL xs ys)) ∧ Below w.heap.size w w' := by
  obtain ⟨i0, hi, hz0, hz1, hz2⟩ := info_parts infoDep
  have hlx : xs.length ≤ 6 := (ok_iff.1 hx).len
  have HA : Hid _ := joinK_all hx hy
  have H0 : Hid _ := joinK_zero ys (ok_iff.1 hx)
  have hOx : Hid _ := ok_iff.1 hx
  have hOy : Hid _ := ok_iff.1 hy
  have hS := sDepsOk_any (some ⟨ab, ao, none⟩) cap xs w (by omega) h
  have hT := fun w h => sDepsOk_any b cap' ys w hm h
  rw [hx] at hS
  rw [hy] at hT
  clear hx hy
  go_enter Try.func91, Try.ntmps91
  go_wp2_with fail
  refine hS.mono ?_
  rintro e w1 ⟨rfl, hb1⟩
  clear hS
  go_wp2_with fail
  refine (hT _ (h'.below hb1)).mono ?_
  rintro e w2 ⟨rfl, hb2⟩
  have hB2 : Below w.heap.size w w2 := hb1.trans (hb2.mono hb1.size)
  have hown0 : (w2.alloc (.cells #[] 51)).ownsRow w.heap.size 51 3 (.slice (some ⟨w2.heap.size, 0, none⟩) 0 0) 0 [] := World.ownsRow_made w2 #[] 0 hB2.size (by unfold maxLen; omega) rfl
  have hB3 : Below w.heap.size w (w2.alloc (.cells #[] 51)) := hB2.alloc hB2.size _
  have hA3 := h.below hB3
  clear hb1 hb2 hT
  go_wp2_with (first | (at_builtin; refine wpList_append_own _ rfl _ _ 26 rfl w.heap.size 51 i0 (.agg #[.int .i64 0, .int .i64 0, .int .i64 0]) 3 24 Try.underlying26 hi hz0 hz1 hz2 rfl (by decide) _ _ _ rfl hown0 ⟨ab, ao, none⟩ xs.length cap (flat3 xs) rfl (flat3_len xs) (deps_cells hA3) (flat3_one xs) (by unfold maxLen; omega) (by omega) hB3.size ?_))
  intro v' w4 hown4 hg4 _
  have hB4 : Below w.heap.size w w4 := hB3.grown hg4 hB3.size (fun j hj => (hown0.lt j hj).1)
  have hrow4 : w4.ownsRow w.heap.size 51 3 v' (joinK xs ys 0).length (flat3 (joinK xs ys 0)) := by rw [H0.out]; simpa using hown4
  clear hown4 hg4 hown0 hB3 hB2 hA3 h
  go_wp2_with fail
  go_loopw [5, 6] (fun v i wr => ∃ k : Nat, k ≤ ys.length ∧ i = .int .i64 k ∧ wr.ownsRow w.heap.size 51 3 v (joinK xs ys k).length (flat3 (joinK xs ys k)) ∧ Below w.heap.size w wr) (fun _ i _ => ys.length - (intOf i).toNat)
  case atStart => exact ⟨0, Nat.zero_le _, rfl, hrow4, hB4⟩
  case round =>
    obtain ⟨k, hk, rfl, hrow, hB⟩ := hrel
    clear hrow4 hB4
    by_cases hlt : k < ys.length
    · obtain ⟨va, vc, rfl, hD, _⟩ := deps_of_row hrow
      obtain ⟨bb, f, rfl, hbb, e0, e1, e2⟩ := (h'.below hB).at hlt
      have HS : Hid _ := joinK_step hOx.out hOy.out hlt
      have hlen := joinK_len xs ys k
      generalize ys[k] = y at *
      generalize joinK xs ys k = o at *
      clear hrow
      go_wp2_with fail
      refine (sPut_any va vc o y _ (by omega) hD).mono ?_
      rintro e w5 ⟨v, rfl, hrow5, hb5⟩
      rw [HS.out] at hrow5
      have hrow6 := row_mono hrow5 hB.size
      have hB5 : Below w.heap.size w w5 := hB.trans (hb5.mono hB.size)
      obtain ⟨va2, vc2, rfl, _⟩ := row_slice hrow6
      clear hrow5 hb5 hD e0 e1 e2
      go_wp2_with fail
      go_roundw
      case rel => exact ⟨k + 1, by omega, by go_num, hrow6, hB5⟩
      case measure => simp [intOf]; omega
    · have hk2 : k = ys.length := by omega
      subst hk2
      rw [HA.out] at hrow
      have HR : Hid _ := hrow
      clear hrow
      go_wp2_with fail
      go_ret
      exact ⟨_, rfl, HR.out, hB⟩

set_option maxHeartbeats 1000000 in
theorem sJoin_no (a b : Option Addr) (cap cap' : Nat) (xs ys : List D) (w : World) (hn : xs.length ≤ 1099511627776) (hm : ys.length ≤ 1099511627776) (h : Deps w a xs) (h' : Deps w b ys) (hno : ¬ (depsOk xs = true ∧ depsOk ys = true)) :
    Calls Try.prog 91 #[.slice a xs.length cap, .slice b ys.length cap'] w fun e w' => ∃ v, e = .returned v ∧ w'.ownsRow w.heap.size 51 3 v (joinL xs ys).length (flat3 (joinL xs ys)) ∧ Below w.heap.size w w' := by
  have HP : Hid (joinL xs ys = []) := if_neg hno
  have hS := sDepsOk_any a cap xs w hn h
  have hT := fun w h => sDepsOk_any b cap' ys w hm h
  rcases hx : depsOk xs with _ | _
  · rw [hx] at hS
    clear h hT hno
    go_enter Try.func91, Try.ntmps91
    go_wp2_with fail
    refine hS.mono ?_
    rintro e w1 ⟨rfl, hb1⟩
    have hown0 : (w1.alloc (.cells #[] 51)).ownsRow w.heap.size 51 3 (.slice (some ⟨w1.heap.size, 0, none⟩) 0 0) 0 [] := World.ownsRow_made w1 #[] 0 hb1.size (by unfold maxLen; omega) rfl
    clear hS
    go_wp2_with fail
    go_ret
    exact ⟨_, rfl, by rw [HP.out]; exact hown0, hb1.alloc hb1.size _⟩
  · rcases hy : depsOk ys with _ | _
    · rw [hx] at hS
      rw [hy] at hT
      clear h hno
      go_enter Try.func91, Try.ntmps91
      go_wp2_with fail
      refine hS.mono ?_
      rintro e w1 ⟨rfl, hb1⟩
      clear hS
      go_wp2_with fail
      refine (hT _ (h'.below hb1)).mono ?_
      rintro e w2 ⟨rfl, hb2⟩
      have hB2 : Below w.heap.size w w2 := hb1.trans (hb2.mono hb1.size)
      have hown0 : (w2.alloc (.cells #[] 51)).ownsRow w.heap.size 51 3 (.slice (some ⟨w2.heap.size, 0, none⟩) 0 0) 0 [] := World.ownsRow_made w2 #[] 0 hB2.size (by unfold maxLen; omega) rfl
      clear hT hb1 hb2
      go_wp2_with fail
      go_ret
      exact ⟨_, rfl, by rw [HP.out]; exact hown0, hB2.alloc hB2.size _⟩
    · exact absurd ⟨hx, hy⟩ hno

theorem sJoin_any (ab ao : Nat) (b : Option Addr) (cap cap' : Nat) (xs ys : List D) (w : World) (hn : xs.length ≤ 1099511627776) (hm : ys.length ≤ 1099511627776) (h : Deps w (some ⟨ab, ao, none⟩) xs) (h' : Deps w b ys) :
    Calls Try.prog 91 #[.slice (some ⟨ab, ao, none⟩) xs.length cap, .slice b ys.length cap'] w fun e w' => ∃ v, e = .returned v ∧ w'.ownsRow w.heap.size 51 3 v (joinL xs ys).length (flat3 (joinL xs ys)) ∧ Below w.heap.size w w' := by
  by_cases hb : depsOk xs = true ∧ depsOk ys = true
  · exact sJoin_yes ab ao b cap cap' xs ys w hm h h' hb.1 hb.2
  · exact sJoin_no _ b cap cap' xs ys w hn hm h h' hb
end Go.Proofs.Ytldhfoledldhbaa
