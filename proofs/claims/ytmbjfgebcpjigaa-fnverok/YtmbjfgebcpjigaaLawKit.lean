/- Contracts over rows, and plain facts on deps that are put and joined. -/
import Derived.Test.YtmbjfgebcpjigaaDrawP
import Derived.Test.YtmbjfgebcpjigaaSJoin
import Derived.Test.YtmbjfgebcpjigaaSAt
import Derived.Test.YtmbjfgebcpjigaaXPut
import Derived.Laws.AppendOwnNone
namespace Go.Proofs.Ytmbjfgebcpjigaa
open Go.ChangeShapes Go.WideShapes Go.ChangeAt Go.RowKit

set_option maxHeartbeats 1000000 in
set_option maxRecDepth 100000 in
theorem sJoin_nil (b : Option Addr) (cap' : Nat) (ys : List D) (w : World) (hm : ys.length ≤ 1099511627776) (h' : Deps w b ys) :
    Calls Try.prog 34 #[.slice none 0 0, .slice b ys.length cap'] w fun e w' => ∃ v, e = .returned v ∧ w'.ownsRow w.heap.size 32 3 v (joinL [] ys).length (flat3 (joinL [] ys)) ∧ Below w.heap.size w w' := by
  rcases hy : depsOk ys with _ | _
  · exact sJoin_no none b 0 cap' [] ys w (by simp) hm (.inl rfl) h' (by rw [hy]; rintro ⟨_, h⟩; cases h)
  obtain ⟨i0, hi, hz0, hz1, hz2⟩ := info_parts infoDep
  have HA : Hid _ := joinK_all ok_nil hy
  have H0 : Hid _ := joinK_zero ys Ok.nil
  have hOy : Hid _ := ok_iff.1 hy
  have hS := sDepsOk_any none 0 [] w (by simp) (.inl rfl)
  have hT := fun w h => sDepsOk_any b cap' ys w hm h
  rw [ok_nil] at hS
  simp only [List.length_nil] at hS
  rw [hy] at hT
  clear hy
  go_enter Try.func34, Try.ntmps34
  go_wp2_with fail
  refine hS.mono ?_
  rintro e w1 ⟨rfl, hb1⟩
  clear hS
  go_wp2_with fail
  refine (hT _ (h'.below hb1)).mono ?_
  rintro e w2 ⟨rfl, hb2⟩
  have hB2 : Below w.heap.size w w2 := hb1.trans (hb2.mono hb1.size)
  have hown0 : (w2.alloc (.cells #[] 32)).ownsRow w.heap.size 32 3 (.slice (some ⟨w2.heap.size, 0, none⟩) 0 0) 0 [] := World.ownsRow_made w2 #[] 0 hB2.size (by unfold maxLen; omega) rfl
  have hB4 : Below w.heap.size w (w2.alloc (.cells #[] 32)) := hB2.alloc hB2.size _
  have hrow4 : (w2.alloc (.cells #[] 32)).ownsRow w.heap.size 32 3 (.slice (some ⟨w2.heap.size, 0, none⟩) 0 0) (joinK [] ys 0).length (flat3 (joinK [] ys 0)) := by rw [H0.out]; exact hown0
  clear hb1 hb2 hT
  go_wp2_with (first | (at_builtin; refine wpList_append_own_none rfl _ _ 25 rfl w.heap.size 32 i0 3 Try.underlying25 hi _ _ _ rfl hown0 rfl ?_))
  clear hown0 hB2
  generalize (w2.alloc (.cells #[] 32)) = w4 at *
  go_loopw [5, 6] (fun v i wr => ∃ k : Nat, k ≤ ys.length ∧ i = .int .i64 k ∧ wr.ownsRow w.heap.size 32 3 v (joinK [] ys k).length (flat3 (joinK [] ys k)) ∧ Below w.heap.size w wr) (fun _ i _ => ys.length - (intOf i).toNat)
  case atStart => exact ⟨0, Nat.zero_le _, rfl, hrow4, hB4⟩
  case round =>
    obtain ⟨k, hk, rfl, hrow, hB⟩ := hrel
    clear hrow4 hB4
    by_cases hlt : k < ys.length
    · obtain ⟨va, vc, rfl, hD, _⟩ := deps_of_row hrow
      obtain ⟨bb, f, rfl, hbb, e0, e1, e2⟩ := (h'.below hB).at hlt
      have HS : Hid _ := joinK_step Ok.nil hOy.out hlt
      have hlen := joinK_len [] ys k
      generalize ys[k] = y at *
      generalize joinK [] ys k = o at *
      clear hrow
      go_wp2_with fail
      refine (sPut_any va vc o y _ (by omega) hD).mono ?_
      rintro e w5 ⟨v, rfl, hrow5, hb5⟩
      rw [HS.out] at hrow5
      have hrow6 := row_mono hrow5 hB.size
      have hB5 : Below w.heap.size w w5 := hB.trans (hb5.mono hB.size)
      obtain ⟨va2, vc2, rfl, _⟩ := row_slice hrow6
      clear hrow5 hb5 hD e0 e1 e2
      go_wp2_with fail
      go_roundw
      case rel => exact ⟨k + 1, by omega, by go_num, hrow6, hB5⟩
      case measure => simp [intOf]; omega
    · have hk2 : k = ys.length := by omega
      subst hk2
      rw [HA.out] at hrow
      have HR : Hid _ := hrow
      clear hrow
      go_wp2_with fail
      go_ret
      exact ⟨_, rfl, HR.out, hB⟩

section
variable {w : World} {base base' : Nat} {u v : Value} {xs ys : List D}
theorem iOk_row (hl : xs.length ≤ 1000) (h : RowD w base v xs) : Calls Try.prog 30 #[v] w fun e w' => e = .returned (.bool (depsOk xs)) ∧ Below w.heap.size w w' := by
  obtain ⟨a, c, rfl, hD, _⟩ := deps_of_row h
  exact iDepsOk_any a c xs w (by omega) hD
theorem sOk_row (hl : xs.length ≤ 1000) (h : RowD w base v xs) : Calls Try.prog 31 #[v] w fun e w' => e = .returned (.bool (depsOk xs)) ∧ Below w.heap.size w w' := by
  obtain ⟨a, c, rfl, hD, _⟩ := deps_of_row h
  exact sDepsOk_any a c xs w (by omega) hD
theorem iPut_row (d : D) (hl : xs.length ≤ 1000) (h : RowD w base v xs) : Calls Try.prog 28 #[v, depV d.k d.t d.s] w fun e w' => ∃ v', e = .returned v' ∧ RowD w' w.heap.size v' (putL xs d) ∧ Below w.heap.size w w' := by
  obtain ⟨a, c, rfl, hD, _⟩ := deps_of_row h
  exact iPut_any a c xs d w (by omega) hD
theorem sPut_row (d : D) (hl : xs.length ≤ 1000) (h : RowD w base v xs) : Calls Try.prog 27 #[v, depV d.k d.t d.s] w fun e w' => ∃ v', e = .returned v' ∧ RowD w' w.heap.size v' (putL xs d) ∧ Below w.heap.size w w' := by
  obtain ⟨a, c, rfl, hD, _⟩ := deps_of_row h
  exact sPut_any a c xs d w (by omega) hD
theorem iJoin_row (hl : xs.length ≤ 1000) (hm : ys.length ≤ 1000) (h : RowD w base u xs) (h' : RowD w base' v ys) : Calls Try.prog 35 #[u, v] w fun e w' => ∃ v', e = .returned v' ∧ RowD w' w.heap.size v' (joinL xs ys) ∧ Below w.heap.size w w' := by
  obtain ⟨a, c, rfl, hD, _⟩ := deps_of_row h
  obtain ⟨b, c', rfl, hD', _⟩ := deps_of_row h'
  exact iJoin_any a b c c' xs ys w (by omega) (by omega) hD hD'
theorem sJoin_row (hl : xs.length ≤ 1000) (hm : ys.length ≤ 1000) (h : RowD w base u xs) (h' : RowD w base' v ys) : Calls Try.prog 34 #[u, v] w fun e w' => ∃ v', e = .returned v' ∧ RowD w' w.heap.size v' (joinL xs ys) ∧ Below w.heap.size w w' := by
  obtain ⟨b, c', rfl, hD', _⟩ := deps_of_row h'
  obtain ⟨a, c, he, hD, _⟩ := deps_of_row h
  rcases h.2 with ⟨rfl, hn⟩ | ⟨g, cap, cur, rfl, _⟩
  · obtain rfl : xs = [] := List.length_eq_zero_iff.1 hn
    exact sJoin_nil b c' ys w (by omega) hD'
  · simp at he
    obtain ⟨rfl, rfl⟩ := he
    exact sJoin_any g 0 b cap c' xs ys w (by omega) (by omega) hD hD'
theorem iAt_row (key : Int) (hl : xs.length ≤ 1000) (h : RowD w base v xs) : Calls Try.prog 32 #[v, .int .i64 key] w fun e w' => e = .returned (atV xs key) ∧ Below w.heap.size w w' := by
  obtain ⟨a, c, rfl, hD, _⟩ := deps_of_row h
  exact iAt_any a c xs key w (by omega) hD
theorem sAt_row (key : Int) (hl : xs.length ≤ 1000) (h : RowD w base v xs) : Calls Try.prog 38 #[v, .int .i64 key] w fun e w' => e = .returned (atV xs key) ∧ Below w.heap.size w w' := by
  obtain ⟨a, c, rfl, hD, _⟩ := deps_of_row h
  exact sAt_any a c xs key w (by omega) hD
theorem li_row (hl : xs.length ≤ 1000) (e : ys = xs) (h : RowD w base u ys) (h' : RowD w base' v xs) : Calls Try.prog 29 #[u, v] w fun e w' => e = .returned (.bool true) ∧ Below w.heap.size w w' := by
  subst e
  obtain ⟨a, c, rfl, hD, _⟩ := deps_of_row h
  obtain ⟨b, c', rfl, hD', _⟩ := deps_of_row h'
  exact liDeps_any a b ys c c' w (by omega) hD hD'
end

theorem tab_put {xs : List D} {d : D} (h : depsOk xs = true) (hd : okD d = true) {k : Int} (h0 : 0 ≤ k) (h5 : k ≤ 5) : tab (putL xs d) k = withT (tab xs) d k := by
  rw [putL_yes h hd, lst_tab _ _ h0 h5]
theorem tab_join {xs ys : List D} (h : depsOk xs = true) (hd : depsOk ys = true) {k : Int} (h0 : 0 ≤ k) (h5 : k ≤ 5) : tab (joinL xs ys) k = omax (tab xs k) (tab ys k) := by
  rw [joinL_yes h hd, lst_tab _ _ h0 h5]; rfl
theorem put_twice {xs : List D} {d : D} (h : depsOk xs = true) (hd : okD d = true) : putL (putL xs d) d = putL xs d := by
  rw [putL_yes (putL_ok xs d) hd]
  conv => rhs; rw [putL_yes h hd]
  refine lst_congr fun k h0 h5 => ?_
  unfold withT
  rw [tab_put h hd h0 h5]
  unfold withT
  split
  · rw [omax_assoc, omax_self]
  · rfl
theorem put_comm {xs : List D} {d e : D} (h : depsOk xs = true) (hd : okD d = true) (he : okD e = true) : putL (putL xs d) e = putL (putL xs e) d := by
  rw [putL_yes (putL_ok xs d) he, putL_yes (putL_ok xs e) hd]
  refine lst_congr fun k h0 h5 => ?_
  unfold withT
  rw [tab_put h hd h0 h5, tab_put h he h0 h5]
  unfold withT
  by_cases h1 : d.k = k <;> by_cases h2 : e.k = k
  · rw [if_pos h1, if_pos h2, if_pos h1, if_pos h2, omax_assoc, omax_comm (some (codeD d)), ← omax_assoc]
  · simp [h1, h2]
  · simp [h1, h2]
  · simp [h1, h2]
theorem join_comm (xs ys : List D) : joinL xs ys = joinL ys xs := by
  by_cases hb : depsOk xs = true ∧ depsOk ys = true
  · rw [joinL_yes hb.1 hb.2, joinL_yes hb.2 hb.1]
    exact lst_congr fun k _ _ => omax_comm _ _
  · rw [show joinL xs ys = [] from if_neg hb, show joinL ys xs = [] from if_neg (fun h => hb ⟨h.2, h.1⟩)]
theorem join_three {xs ys zs : List D} (hx : depsOk xs = true) (hy : depsOk ys = true) (hz : depsOk zs = true) : joinL (joinL xs ys) zs = joinL xs (joinL ys zs) := by
  rw [joinL_yes (joinL_ok xs ys) hz, joinL_yes hx (joinL_ok ys zs)]
  refine lst_congr fun k h0 h5 => ?_
  unfold joinT
  rw [tab_join hx hy h0 h5, tab_join hy hz h0 h5, omax_assoc]
theorem join_self {xs : List D} (hx : depsOk xs = true) : joinL xs xs = xs := by
  rw [joinL_yes hx hx]
  exact lst_of (ok_iff.1 hx) fun k _ _ => by unfold joinT; rw [omax_self]
theorem join_none {xs : List D} (hx : depsOk xs = true) : joinL xs [] = xs := by
  rw [joinL_yes hx ok_nil]
  exact lst_of (ok_iff.1 hx) fun k _ _ => by unfold joinT; rw [tab_nil, omax_none]
theorem join_left {xs ys : List D} (hx : depsOk xs = true) (hy : depsOk ys = true) : joinL (joinL xs ys) xs = joinL xs ys := by
  rw [joinL_yes (joinL_ok xs ys) hx]
  conv => rhs; rw [joinL_yes hx hy]
  refine lst_congr fun k h0 h5 => ?_
  unfold joinT
  rw [tab_join hx hy h0 h5, omax_absorb]
theorem join_right {xs ys : List D} (hx : depsOk xs = true) (hy : depsOk ys = true) : joinL (joinL xs ys) ys = joinL xs ys := by
  rw [joinL_yes (joinL_ok xs ys) hy]
  conv => rhs; rw [joinL_yes hx hy]
  refine lst_congr fun k h0 h5 => ?_
  unfold joinT
  rw [tab_join hx hy h0 h5, omax_absorb']
/-- With one more there is something. -/
theorem put_some {xs : List D} {d : D} (h : depsOk xs = true) (hd : okD d = true) : 0 < (putL xs d).length := by
  have hb := okD_bounds hd
  have ht := tab_put h hd hb.1 hb.2.1
  unfold withT at ht
  rw [if_pos rfl] at ht
  rcases hp : putL xs d with _ | ⟨x, l⟩
  · rw [hp, tab_nil] at ht
    cases hx : tab xs d.k <;> rw [hx] at ht <;> simp [omax] at ht
  · simp
end Go.Proofs.Ytmbjfgebcpjigaa
