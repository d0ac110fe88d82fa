/- 7 texts in one. -/
import Derived.Test.YtgdkoangpinieaaGAB
import Derived.Test.YtgdkoangpinieaaGAG
import Derived.Test.YtgdkoangpinieaaGAE
import Derived.Test.YtgdkoangpinieaaGAH
import Derived.Test.YtgdkoangpinieaaGAK
import Derived.Test.YtgdkoangpinieaaDrawP
import Derived.Laws.AppendOwnNone
import Derived.Test.YtgdkoangpinieaaDrawCP
import Derived.Test.YtgdkoangpinieaaEndT
import Derived.Test.YtgdkoangpinieaaIHasC

/- The specification's DepsJoin and DepsAt. -/
namespace Go.Proofs.Ytgdkoangpinieaa
open Go.ChangeShapes Go.WideShapes Go.ChangeAt Go.RowKit

/-- Deps joined with the first k of others. -/
def joinK (xs ys : List D) (k : Nat) : List D := lst (joinT (tab xs) (tab (ys.take k)))
theorem joinK_zero {xs : List D} (ys : List D) (h : Ok xs) : joinK xs ys 0 = xs := by
  unfold joinK
  exact lst_of h (fun k _ _ => by simp [joinT, tab_nil, omax_none])
theorem joinK_len (xs ys : List D) (k : Nat) : (joinK xs ys k).length ≤ 6 := lst_len _
theorem joinK_all {xs ys : List D} (hx : depsOk xs = true) (hy : depsOk ys = true) : joinK xs ys ys.length = joinL xs ys := by
  unfold joinK; rw [List.take_length, joinL_yes hx hy]
theorem joinK_step {xs ys : List D} (hx : Ok xs) (hy : Ok ys) {k : Nat} (hk : k < ys.length) : putL (joinK xs ys k) ys[k] = joinK xs ys (k + 1) := by
  have ho : depsOk (joinK xs ys k) = true := ok_iff.2 (lst_ok (good_join (good_tab hx) (good_tab (hy.take k))))
  rw [putL_yes ho (hy.2 _ (List.getElem_mem hk))]
  refine lst_congr fun i h0 h5 => ?_
  have ha := hy.ahead hk
  unfold withT joinT
  rw [takeD ys k hk, tab_snoc ha]
  unfold joinK
  rw [lst_tab _ _ h0 h5]
  unfold joinT
  by_cases hi : ys[k].k = i
  · have hno : tab (ys.take k) i = none := tab_none fun e he => by have := ha e he; omega
    rw [if_pos hi, if_pos hi, hno, omax_none]
  · rw [if_neg hi, if_neg hi]

set_option maxHeartbeats 1000000 in
set_option maxRecDepth 100000 in
theorem sJoin_yes (ab ao : Nat) (b : Option Addr) (cap cap' : Nat) (xs ys : List D) (w : World) (hm : ys.length ≤ 1099511627776) (h : Deps w (some ⟨ab, ao, none⟩) xs) (h' : Deps w b ys) (hx : depsOk xs = true) (hy : depsOk ys = true) :
    Calls Try.prog 114 #[.slice (some ⟨ab, ao, none⟩) xs.length cap, .slice b ys.length cap'] w fun e w' => ∃ v, e = .returned v ∧ w'.ownsRow w.heap.size 51 3 v (joinL xs ys).length (flat3 (joinL xs ys)) ∧ Below w.heap.size w w' := by
  obtain ⟨i0, hi, hz0, hz1, hz2⟩ := info_parts infoDep
  have hlx : xs.length ≤ 6 := (ok_iff.1 hx).len
  have HA : Hid _ := joinK_all hx hy
  have H0 : Hid _ := joinK_zero ys (ok_iff.1 hx)
  have hOx : Hid _ := ok_iff.1 hx
  have hOy : Hid _ := ok_iff.1 hy
  have hS := sDepsOk_any (some ⟨ab, ao, none⟩) cap xs w (by omega) h
  have hT := fun w h => sDepsOk_any b cap' ys w hm h
  rw [hx] at hS
  rw [hy] at hT
  clear hx hy
  go_enter Try.func114, Try.ntmps114
  go_wp2_with fail
  refine hS.mono ?_
  rintro e w1 ⟨rfl, hb1⟩
  clear hS
  go_wp2_with fail
  refine (hT _ (h'.below hb1)).mono ?_
  rintro e w2 ⟨rfl, hb2⟩
  have hB2 : Below w.heap.size w w2 := hb1.trans (hb2.mono hb1.size)
  have hown0 : (w2.alloc (.cells #[] 51)).ownsRow w.heap.size 51 3 (.slice (some ⟨w2.heap.size, 0, none⟩) 0 0) 0 [] := World.ownsRow_made w2 #[] 0 hB2.size (by unfold maxLen; omega) rfl
  have hB3 : Below w.heap.size w (w2.alloc (.cells #[] 51)) := hB2.alloc hB2.size _
  have hA3 := h.below hB3
  clear hb1 hb2 hT
  go_wp2_with (first | (at_builtin; refine wpList_append_own _ rfl _ _ 26 rfl w.heap.size 51 i0 (.agg #[.int .i64 0, .int .i64 0, .int .i64 0]) 3 24 Try.underlying26 hi hz0 hz1 hz2 rfl (by decide) _ _ _ rfl hown0 ⟨ab, ao, none⟩ xs.length cap (flat3 xs) rfl (flat3_len xs) (deps_cells hA3) (flat3_one xs) (by unfold maxLen; omega) (by omega) hB3.size ?_))
  intro v' w4 hown4 hg4 _
  have hB4 : Below w.heap.size w w4 := hB3.grown hg4 hB3.size (fun j hj => (hown0.lt j hj).1)
  have hrow4 : w4.ownsRow w.heap.size 51 3 v' (joinK xs ys 0).length (flat3 (joinK xs ys 0)) := by rw [H0.out]; simpa using hown4
  clear hown4 hg4 hown0 hB3 hB2 hA3 h
  go_wp2_with fail
  go_loopw [5, 6] (fun v i wr => ∃ k : Nat, k ≤ ys.length ∧ i = .int .i64 k ∧ wr.ownsRow w.heap.size 51 3 v (joinK xs ys k).length (flat3 (joinK xs ys k)) ∧ Below w.heap.size w wr) (fun _ i _ => ys.length - (intOf i).toNat)
  case atStart => exact ⟨0, Nat.zero_le _, rfl, hrow4, hB4⟩
  case round =>
    obtain ⟨k, hk, rfl, hrow, hB⟩ := hrel
    clear hrow4 hB4
    by_cases hlt : k < ys.length
    · obtain ⟨va, vc, rfl, hD, _⟩ := deps_of_row hrow
      obtain ⟨bb, f, rfl, hbb, e0, e1, e2⟩ := (h'.below hB).at hlt
      have HS : Hid _ := joinK_step hOx.out hOy.out hlt
      have hlen := joinK_len xs ys k
      generalize ys[k] = y at *
      generalize joinK xs ys k = o at *
      clear hrow
      go_wp2_with fail
      refine (sPut_any va vc o y _ (by omega) hD).mono ?_
      rintro e w5 ⟨v, rfl, hrow5, hb5⟩
      rw [HS.out] at hrow5
      have hrow6 := row_mono hrow5 hB.size
      have hB5 : Below w.heap.size w w5 := hB.trans (hb5.mono hB.size)
      obtain ⟨va2, vc2, rfl, _⟩ := row_slice hrow6
      clear hrow5 hb5 hD e0 e1 e2
      go_wp2_with fail
      go_roundw
      case rel => exact ⟨k + 1, by omega, by go_num, hrow6, hB5⟩
      case measure => simp [intOf]; omega
    · have hk2 : k = ys.length := by omega
      subst hk2
      rw [HA.out] at hrow
      have HR : Hid _ := hrow
      clear hrow
      go_wp2_with fail
      go_ret
      exact ⟨_, rfl, HR.out, hB⟩

set_option maxHeartbeats 1000000 in
theorem sJoin_no (a b : Option Addr) (cap cap' : Nat) (xs ys : List D) (w : World) (hn : xs.length ≤ 1099511627776) (hm : ys.length ≤ 1099511627776) (h : Deps w a xs) (h' : Deps w b ys) (hno : ¬ (depsOk xs = true ∧ depsOk ys = true)) :
    Calls Try.prog 114 #[.slice a xs.length cap, .slice b ys.length cap'] w fun e w' => ∃ v, e = .returned v ∧ w'.ownsRow w.heap.size 51 3 v (joinL xs ys).length (flat3 (joinL xs ys)) ∧ Below w.heap.size w w' := by
  have HP : Hid (joinL xs ys = []) := if_neg hno
  have hS := sDepsOk_any a cap xs w hn h
  have hT := fun w h => sDepsOk_any b cap' ys w hm h
  rcases hx : depsOk xs with _ | _
  · rw [hx] at hS
    clear h hT hno
    go_enter Try.func114, Try.ntmps114
    go_wp2_with fail
    refine hS.mono ?_
    rintro e w1 ⟨rfl, hb1⟩
    have hown0 : (w1.alloc (.cells #[] 51)).ownsRow w.heap.size 51 3 (.slice (some ⟨w1.heap.size, 0, none⟩) 0 0) 0 [] := World.ownsRow_made w1 #[] 0 hb1.size (by unfold maxLen; omega) rfl
    clear hS
    go_wp2_with fail
    go_ret
    exact ⟨_, rfl, by rw [HP.out]; exact hown0, hb1.alloc hb1.size _⟩
  · rcases hy : depsOk ys with _ | _
    · rw [hx] at hS
      rw [hy] at hT
      clear h hno
      go_enter Try.func114, Try.ntmps114
      go_wp2_with fail
      refine hS.mono ?_
      rintro e w1 ⟨rfl, hb1⟩
      clear hS
      go_wp2_with fail
      refine (hT _ (h'.below hb1)).mono ?_
      rintro e w2 ⟨rfl, hb2⟩
      have hB2 : Below w.heap.size w w2 := hb1.trans (hb2.mono hb1.size)
      have hown0 : (w2.alloc (.cells #[] 51)).ownsRow w.heap.size 51 3 (.slice (some ⟨w2.heap.size, 0, none⟩) 0 0) 0 [] := World.ownsRow_made w2 #[] 0 hB2.size (by unfold maxLen; omega) rfl
      clear hT hb1 hb2
      go_wp2_with fail
      go_ret
      exact ⟨_, rfl, by rw [HP.out]; exact hown0, hB2.alloc hB2.size _⟩
    · exact absurd ⟨hx, hy⟩ hno

theorem sJoin_any (ab ao : Nat) (b : Option Addr) (cap cap' : Nat) (xs ys : List D) (w : World) (hn : xs.length ≤ 1099511627776) (hm : ys.length ≤ 1099511627776) (h : Deps w (some ⟨ab, ao, none⟩) xs) (h' : Deps w b ys) :
    Calls Try.prog 114 #[.slice (some ⟨ab, ao, none⟩) xs.length cap, .slice b ys.length cap'] w fun e w' => ∃ v, e = .returned v ∧ w'.ownsRow w.heap.size 51 3 v (joinL xs ys).length (flat3 (joinL xs ys)) ∧ Below w.heap.size w w' := by
  by_cases hb : depsOk xs = true ∧ depsOk ys = true
  · exact sJoin_yes ab ao b cap cap' xs ys w hm h h' hb.1 hb.2
  · exact sJoin_no _ b cap cap' xs ys w hn hm h h' hb
end Go.Proofs.Ytgdkoangpinieaa

/- The specification's DepsAt. -/
namespace Go.Proofs.Ytgdkoangpinieaa
open Go.ChangeShapes Go.WideShapes Go.ChangeAt Go.RowKit

theorem tab_first {xs : List D} {k : Nat} (hk : k < xs.length) {key : Int} (h : ∀ e ∈ xs.take k, e.k ≠ key) (he : xs[k].k = key) : tab xs key = some (codeD xs[k]) := by
  unfold tab
  have hx : xs = xs.take k ++ xs[k] :: xs.drop (k + 1) := by rw [List.getElem_cons_drop, List.take_append_drop]
  have hn : (xs.take k).find? (fun d => d.k == key) = none := by rw [List.find?_eq_none]; intro e h'; simpa using h e h'
  have hf : xs.find? (fun d => d.k == key) = some xs[k] := by
    conv => lhs; rw [hx]
    rw [List.find?_append, hn, List.find?_cons]
    simp [he]
  rw [hf]; rfl

end Go.Proofs.Ytgdkoangpinieaa

/- The exact laws of DepsOk and DepsAt. -/
namespace Go.Proofs.Ytgdkoangpinieaa
open Go.ChangeShapes Go.WideShapes Go.ChangeAt Go.RowKit


end Go.Proofs.Ytgdkoangpinieaa

/- The exact law of DepsPut. -/
namespace Go.Proofs.Ytgdkoangpinieaa
open Go.ChangeShapes Go.WideShapes Go.ChangeAt Go.RowKit


/-- What is known in a region of the law: nothing old has turned, and the dep that came in. -/
def InX (w0 : World) (B : Nat) (dk dt ds : Int) (W : World) : Prop := Below w0.heap.size w0 W ∧ B < W.heap.size ∧ W.cell? ⟨B, 0, none⟩ = some (.int .i64 dk) ∧ W.cell? ⟨B, 1, none⟩ = some (.int .i64 dt) ∧ W.cell? ⟨B, 2, none⟩ = some (.int .i64 ds)
theorem InX.below {w0 w w' : World} {B : Nat} {dk dt ds : Int} (h : InX w0 B dk dt ds w) (k : Below w.heap.size w w') : InX w0 B dk dt ds w' := by
  obtain ⟨h1, h2, h3, h4, h5⟩ := h
  exact ⟨h1.trans (k.mono h1.size), Nat.lt_of_lt_of_le h2 k.size, (k.cell (p := ⟨B, _, none⟩) h2).trans h3, (k.cell (p := ⟨B, _, none⟩) h2).trans h4, (k.cell (p := ⟨B, _, none⟩) h2).trans h5⟩
theorem InX.drew {w0 w : World} {B : Nat} {dk dt ds : Int} (h : InX w0 B dk dt ds w) : InX w0 B dk dt ds w.drew := h.below (Below.refl _ _).drew
theorem InX.grown {w0 w w' : World} {B : Nat} {dk dt ds : Int} (h : InX w0 B dk dt ds w) {row : Option Nat} (hg : w.grownBy w' row) (hr : ∀ j, row = some j → w0.heap.size ≤ j ∧ j ≠ B) : InX w0 B dk dt ds w' := by
  obtain ⟨h1, h2, h3, h4, h5⟩ := h
  have hk : w'.heap[B]? = w.heap[B]? := hg.block B h2 (fun e => (hr B e.symm).2 rfl)
  have hc : ∀ j, w'.cell? ⟨B, j, none⟩ = w.cell? ⟨B, j, none⟩ := fun j => World.cell?_of_block (w := w) hk
  exact ⟨h1.grown hg h1.size (fun j hj => (hr j hj).1), Nat.lt_of_lt_of_le h2 hg.size, (hc _).trans h3, (hc _).trans h4, (hc _).trans h5⟩

end Go.Proofs.Ytgdkoangpinieaa

/- Contracts over rows, and plain facts on deps that are put and joined. -/
namespace Go.Proofs.Ytgdkoangpinieaa
open Go.ChangeShapes Go.WideShapes Go.ChangeAt Go.RowKit

set_option maxHeartbeats 1000000 in
set_option maxRecDepth 100000 in
theorem sJoin_nil (b : Option Addr) (cap' : Nat) (ys : List D) (w : World) (hm : ys.length ≤ 1099511627776) (h' : Deps w b ys) :
    Calls Try.prog 114 #[.slice none 0 0, .slice b ys.length cap'] w fun e w' => ∃ v, e = .returned v ∧ w'.ownsRow w.heap.size 51 3 v (joinL [] ys).length (flat3 (joinL [] ys)) ∧ Below w.heap.size w w' := by
  rcases hy : depsOk ys with _ | _
  · exact sJoin_no none b 0 cap' [] ys w (by simp) hm (.inl rfl) h' (by rw [hy]; rintro ⟨_, h⟩; cases h)
  obtain ⟨i0, hi, hz0, hz1, hz2⟩ := info_parts infoDep
  have HA : Hid _ := joinK_all ok_nil hy
  have H0 : Hid _ := joinK_zero ys Ok.nil
  have hOy : Hid _ := ok_iff.1 hy
  have hS := sDepsOk_any none 0 [] w (by simp) (.inl rfl)
  have hT := fun w h => sDepsOk_any b cap' ys w hm h
  rw [ok_nil] at hS
  simp only [List.length_nil] at hS
  rw [hy] at hT
  clear hy
  go_enter Try.func114, Try.ntmps114
  go_wp2_with fail
  refine hS.mono ?_
  rintro e w1 ⟨rfl, hb1⟩
  clear hS
  go_wp2_with fail
  refine (hT _ (h'.below hb1)).mono ?_
  rintro e w2 ⟨rfl, hb2⟩
  have hB2 : Below w.heap.size w w2 := hb1.trans (hb2.mono hb1.size)
  have hown0 : (w2.alloc (.cells #[] 51)).ownsRow w.heap.size 51 3 (.slice (some ⟨w2.heap.size, 0, none⟩) 0 0) 0 [] := World.ownsRow_made w2 #[] 0 hB2.size (by unfold maxLen; omega) rfl
  have hB4 : Below w.heap.size w (w2.alloc (.cells #[] 51)) := hB2.alloc hB2.size _
  have hrow4 : (w2.alloc (.cells #[] 51)).ownsRow w.heap.size 51 3 (.slice (some ⟨w2.heap.size, 0, none⟩) 0 0) (joinK [] ys 0).length (flat3 (joinK [] ys 0)) := by rw [H0.out]; exact hown0
  clear hb1 hb2 hT
  go_wp2_with (first | (at_builtin; refine wpList_append_own_none rfl _ _ 26 rfl w.heap.size 51 i0 3 Try.underlying26 hi _ _ _ rfl hown0 rfl ?_))
  clear hown0 hB2
  generalize (w2.alloc (.cells #[] 51)) = w4 at *
  go_loopw [5, 6] (fun v i wr => ∃ k : Nat, k ≤ ys.length ∧ i = .int .i64 k ∧ wr.ownsRow w.heap.size 51 3 v (joinK [] ys k).length (flat3 (joinK [] ys k)) ∧ Below w.heap.size w wr) (fun _ i _ => ys.length - (intOf i).toNat)
  case atStart => exact ⟨0, Nat.zero_le _, rfl, hrow4, hB4⟩
  case round =>
    obtain ⟨k, hk, rfl, hrow, hB⟩ := hrel
    clear hrow4 hB4
    by_cases hlt : k < ys.length
    · obtain ⟨va, vc, rfl, hD, _⟩ := deps_of_row hrow
      obtain ⟨bb, f, rfl, hbb, e0, e1, e2⟩ := (h'.below hB).at hlt
      have HS : Hid _ := joinK_step Ok.nil hOy.out hlt
      have hlen := joinK_len [] ys k
      generalize ys[k] = y at *
      generalize joinK [] ys k = o at *
      clear hrow
      go_wp2_with fail
      refine (sPut_any va vc o y _ (by omega) hD).mono ?_
      rintro e w5 ⟨v, rfl, hrow5, hb5⟩
      rw [HS.out] at hrow5
      have hrow6 := row_mono hrow5 hB.size
      have hB5 : Below w.heap.size w w5 := hB.trans (hb5.mono hB.size)
      obtain ⟨va2, vc2, rfl, _⟩ := row_slice hrow6
      clear hrow5 hb5 hD e0 e1 e2
      go_wp2_with fail
      go_roundw
      case rel => exact ⟨k + 1, by omega, by go_num, hrow6, hB5⟩
      case measure => simp [intOf]; omega
    · have hk2 : k = ys.length := by omega
      subst hk2
      rw [HA.out] at hrow
      have HR : Hid _ := hrow
      clear hrow
      go_wp2_with fail
      go_ret
      exact ⟨_, rfl, HR.out, hB⟩

section
variable {w : World} {base base' : Nat} {u v : Value} {xs ys : List D}
theorem iOk_row (hl : xs.length ≤ 1000) (h : RowD w base v xs) : Calls Try.prog 116 #[v] w fun e w' => e = .returned (.bool (depsOk xs)) ∧ Below w.heap.size w w' := by
  obtain ⟨a, c, rfl, hD, _⟩ := deps_of_row h
  exact iDepsOk_any a c xs w (by omega) hD
theorem sOk_row (hl : xs.length ≤ 1000) (h : RowD w base v xs) : Calls Try.prog 46 #[v] w fun e w' => e = .returned (.bool (depsOk xs)) ∧ Below w.heap.size w w' := by
  obtain ⟨a, c, rfl, hD, _⟩ := deps_of_row h
  exact sDepsOk_any a c xs w (by omega) hD
theorem iPut_row (d : D) (hl : xs.length ≤ 1000) (h : RowD w base v xs) : Calls Try.prog 60 #[v, depV d.k d.t d.s] w fun e w' => ∃ v', e = .returned v' ∧ RowD w' w.heap.size v' (putL xs d) ∧ Below w.heap.size w w' := by
  obtain ⟨a, c, rfl, hD, _⟩ := deps_of_row h
  exact iPut_any a c xs d w (by omega) hD
theorem sPut_row (d : D) (hl : xs.length ≤ 1000) (h : RowD w base v xs) : Calls Try.prog 113 #[v, depV d.k d.t d.s] w fun e w' => ∃ v', e = .returned v' ∧ RowD w' w.heap.size v' (putL xs d) ∧ Below w.heap.size w w' := by
  obtain ⟨a, c, rfl, hD, _⟩ := deps_of_row h
  exact sPut_any a c xs d w (by omega) hD
theorem sJoin_row (hl : xs.length ≤ 1000) (hm : ys.length ≤ 1000) (h : RowD w base u xs) (h' : RowD w base' v ys) : Calls Try.prog 114 #[u, v] w fun e w' => ∃ v', e = .returned v' ∧ RowD w' w.heap.size v' (joinL xs ys) ∧ Below w.heap.size w w' := by
  obtain ⟨b, c', rfl, hD', _⟩ := deps_of_row h'
  obtain ⟨a, c, he, hD, _⟩ := deps_of_row h
  rcases h.2 with ⟨rfl, hn⟩ | ⟨g, cap, cur, rfl, _⟩
  · obtain rfl : xs = [] := List.length_eq_zero_iff.1 hn
    exact sJoin_nil b c' ys w (by omega) hD'
  · simp at he
    obtain ⟨rfl, rfl⟩ := he
    exact sJoin_any g 0 b cap c' xs ys w (by omega) (by omega) hD hD'
theorem li_row (hl : xs.length ≤ 1000) (e : ys = xs) (h : RowD w base u ys) (h' : RowD w base' v xs) : Calls Try.prog 107 #[u, v] w fun e w' => e = .returned (.bool true) ∧ Below w.heap.size w w' := by
  subst e
  obtain ⟨a, c, rfl, hD, _⟩ := deps_of_row h
  obtain ⟨b, c', rfl, hD', _⟩ := deps_of_row h'
  exact liDeps_any a b ys c c' w (by omega) hD hD'
end

theorem tab_put {xs : List D} {d : D} (h : depsOk xs = true) (hd : okD d = true) {k : Int} (h0 : 0 ≤ k) (h5 : k ≤ 5) : tab (putL xs d) k = withT (tab xs) d k := by
  rw [putL_yes h hd, lst_tab _ _ h0 h5]
theorem tab_join {xs ys : List D} (h : depsOk xs = true) (hd : depsOk ys = true) {k : Int} (h0 : 0 ≤ k) (h5 : k ≤ 5) : tab (joinL xs ys) k = omax (tab xs k) (tab ys k) := by
  rw [joinL_yes h hd, lst_tab _ _ h0 h5]; rfl
theorem put_twice {xs : List D} {d : D} (h : depsOk xs = true) (hd : okD d = true) : putL (putL xs d) d = putL xs d := by
  rw [putL_yes (putL_ok xs d) hd]
  conv => rhs; rw [putL_yes h hd]
  refine lst_congr fun k h0 h5 => ?_
  unfold withT
  rw [tab_put h hd h0 h5]
  unfold withT
  split
  · rw [omax_assoc, omax_self]
  · rfl
theorem put_comm {xs : List D} {d e : D} (h : depsOk xs = true) (hd : okD d = true) (he : okD e = true) : putL (putL xs d) e = putL (putL xs e) d := by
  rw [putL_yes (putL_ok xs d) he, putL_yes (putL_ok xs e) hd]
  refine lst_congr fun k h0 h5 => ?_
  unfold withT
  rw [tab_put h hd h0 h5, tab_put h he h0 h5]
  unfold withT
  by_cases h1 : d.k = k <;> by_cases h2 : e.k = k
  · rw [if_pos h1, if_pos h2, if_pos h1, if_pos h2, omax_assoc, omax_comm (some (codeD d)), ← omax_assoc]
  · simp [h1, h2]
  · simp [h1, h2]
  · simp [h1, h2]
theorem join_comm (xs ys : List D) : joinL xs ys = joinL ys xs := by
  by_cases hb : depsOk xs = true ∧ depsOk ys = true
  · rw [joinL_yes hb.1 hb.2, joinL_yes hb.2 hb.1]
    exact lst_congr fun k _ _ => omax_comm _ _
  · rw [show joinL xs ys = [] from if_neg hb, show joinL ys xs = [] from if_neg (fun h => hb ⟨h.2, h.1⟩)]
theorem join_three {xs ys zs : List D} (hx : depsOk xs = true) (hy : depsOk ys = true) (hz : depsOk zs = true) : joinL (joinL xs ys) zs = joinL xs (joinL ys zs) := by
  rw [joinL_yes (joinL_ok xs ys) hz, joinL_yes hx (joinL_ok ys zs)]
  refine lst_congr fun k h0 h5 => ?_
  unfold joinT
  rw [tab_join hx hy h0 h5, tab_join hy hz h0 h5, omax_assoc]
theorem join_self {xs : List D} (hx : depsOk xs = true) : joinL xs xs = xs := by
  rw [joinL_yes hx hx]
  exact lst_of (ok_iff.1 hx) fun k _ _ => by unfold joinT; rw [omax_self]
theorem join_none {xs : List D} (hx : depsOk xs = true) : joinL xs [] = xs := by
  rw [joinL_yes hx ok_nil]
  exact lst_of (ok_iff.1 hx) fun k _ _ => by unfold joinT; rw [tab_nil, omax_none]
theorem join_left {xs ys : List D} (hx : depsOk xs = true) (hy : depsOk ys = true) : joinL (joinL xs ys) xs = joinL xs ys := by
  rw [joinL_yes (joinL_ok xs ys) hx]
  conv => rhs; rw [joinL_yes hx hy]
  refine lst_congr fun k h0 h5 => ?_
  unfold joinT
  rw [tab_join hx hy h0 h5, omax_absorb]
theorem join_right {xs ys : List D} (hx : depsOk xs = true) (hy : depsOk ys = true) : joinL (joinL xs ys) ys = joinL xs ys := by
  rw [joinL_yes (joinL_ok xs ys) hy]
  conv => rhs; rw [joinL_yes hx hy]
  refine lst_congr fun k h0 h5 => ?_
  unfold joinT
  rw [tab_join hx hy h0 h5, omax_absorb']
/-- With one more there is something. -/
theorem put_some {xs : List D} {d : D} (h : depsOk xs = true) (hd : okD d = true) : 0 < (putL xs d).length := by
  have hb := okD_bounds hd
  have ht := tab_put h hd hb.1 hb.2.1
  unfold withT at ht
  rw [if_pos rfl] at ht
  rcases hp : putL xs d with _ | ⟨x, l⟩
  · rw [hp, tab_nil] at ht
    cases hx : tab xs d.k <;> rw [hx] at ht <;> simp [omax] at ht
  · simp
end Go.Proofs.Ytgdkoangpinieaa

/- Draws of versions and deps. -/
namespace Go.Proofs.Ytgdkoangpinieaa
open Go.ChangeShapes Go.WideShapes Go.ChangeAt Go.RowKit

theorem Rd.belowW {w w' : World} {B : Nat} {p : Int} (h : Rd w B p) (k : Below w.heap.size w w') : Rd w' B p := h.of_block k.size fun j hj => k.block j (by have := h.1; omega)

set_option maxHeartbeats 4000000 in
theorem drawCHas (w : World) (a : Option Addr) (len cap : Nat) (h : Code w a len cap) :
    Calls Try.prog 43 #[.slice a len cap] w fun e w' => ∃ (u : Value) (ys : List XV) (vs : List V) (v : Value) (ds : List D), e = .returned (.tuple #[u, v]) ∧ OwnV w' w.heap.size u ys ∧ ys.map XV.v = vs ∧ Few 81 vs ∧ RowD w' w.heap.size v ds ∧ ds.length ≤ 7 ∧ Below w.heap.size w w' := by
  go_enter Try.func43, Try.ntmps43
  go_wp2_with fail
  refine (open_any w a len cap h).mono ?_
  rintro e w1 ⟨rfl, hr, hb, hs⟩
  have hz1 : w.heap.size < w1.heap.size := hr.1
  go_wp2_with fail
  refine (drawChain _ 0 12 w1 hr (by omega) (by omega) (by omega)).mono ?_
  rintro e w2 ⟨v, ys, vs, p2, rfl, hO, hy, hF, hp2, hr2, hs2⟩
  obtain ⟨va, vc, rfl, _⟩ := hO.asD hy
  have B2 : Below w.heap.size w w2 := hs2.below hb (Nat.le_refl _)
  have hz2 := hr2.1
  have O2 := (hO.mono (base' := w.heap.size + 1) (by omega)).alloc (.cells #[] 51)
  have R2 : RowD (w2.alloc (.cells #[] 51)) (w.heap.size + 1) (.slice (some ⟨w2.heap.size, 0, none⟩) ([] : List D).length 0) [] := World.ownsRow_made w2 #[] 0 (by omega) (by unfold maxLen; omega) rfl
  have B2' := B2.alloc B2.size (.cells #[] 51)
  have hr2' := hr2.alloc (.cells #[] 51)
  have hvl : vs.length ≤ 81 := hF.1
  clear hs2 hr hb hO hr2 B2
  go_wp2_with fail
  generalize w2.alloc (.cells #[] 51) = w2' at *
  refine (pick_any _ p2 4 _ hr2' (by omega) (by omega)).mono ?_
  rintro e w3 ⟨n, rfl, n0, n1, hr3, hs3, hz3⟩
  have B3 : Below w.heap.size w w3 := hs3.below B2' (Nat.le_refl _)
  have O3 := O2.step hs3 (by omega)
  have R3 := row_step R2 hs3 (by omega)
  obtain ⟨m, rfl⟩ := Int.eq_ofNat_of_zero_le n0
  have hm : m ≤ 3 := by omega
  clear hs3 hz3 O2 R2 B2' hr2' n0 n1
  go_wp2_with fail
  go_loopw [6, 7] (fun v n wr => ∃ (k : Nat) (p : Int) (ds : List D), k ≤ 3 ∧ n = .int .i64 k ∧ RowD wr (w.heap.size + 1) v ds ∧ ds.length ≤ 6 ∧ OwnV wr (w.heap.size + 1) (.slice va vs.length vc) ys ∧ p ≤ 2100 + 4 * (3 - k) ∧ Rd wr w.heap.size p ∧ Below w.heap.size w wr) (fun _ n _ => (intOf n).toNat)
  case atStart => exact ⟨m, p2 + 1, [], hm, rfl, R3, by simp, O3, by omega, hr3, B3⟩
  case round =>
    clear R3 O3 hr3 B3 hm
    obtain ⟨k, p, ds, hk, rfl, RQ, hdl, OQ, hp, hrQ, BQ⟩ := hrel
    obtain ⟨ea, ec, rfl, _⟩ := deps_of_row RQ
    have T : ∀ (_ : (k : Int) ≤ 0 ∨ vs.length = 0), Calls Try.prog 92 #[.pointer (some ⟨w.heap.size, 0, none⟩), .int .i64 3] wr fun e w4 => ∃ c : Int, e = .returned (.int .i64 c) ∧ RowD w4 (w.heap.size + 1) (.slice ea ds.length ec) ds ∧ OwnV w4 (w.heap.size + 1) (.slice va vs.length vc) ys ∧ Rd w4 w.heap.size (p + 1) ∧ Below w.heap.size w w4 := fun _ =>
      (pick_any _ p 3 _ hrQ (by omega) (by omega)).mono fun e w4 ⟨c, he, _, _, h4, s4, _⟩ => ⟨c, he, row_step RQ s4 (by omega), OQ.step s4 (by omega), h4, s4.below BQ (Nat.le_refl _)⟩
    have F : ∀ (c : Int) (w4 : World), RowD w4 (w.heap.size + 1) (.slice ea ds.length ec) ds → OwnV w4 (w.heap.size + 1) (.slice va vs.length vc) ys → Rd w4 w.heap.size (p + 1) → Below w.heap.size w w4 → Calls Try.prog 115 #[.pointer (some ⟨w.heap.size, 0, none⟩)] w4 fun e w5 => ∃ (v5 : Value) (xs : List D), e = .returned v5 ∧ xs.length ≤ 7 ∧ RowD w5 (w.heap.size + 1) v5 xs ∧ RowD w5 (w.heap.size + 1) (.slice ea ds.length ec) ds ∧ OwnV w5 (w.heap.size + 1) (.slice va vs.length vc) ys ∧ Below w.heap.size w w5 := fun c w4 R4 O4 r4 b4 =>
      (drawDeps _ (p + 1) _ r4 (by omega)).mono fun e w5 ⟨v5, xs, p5, he, hx, hrow, _, _, s5⟩ => ⟨v5, xs, he, hx, row_mono hrow (by have := r4.1; omega), row_step R4 s5 (by omega), O4.step s5 (by omega), s5.below b4 (Nat.le_refl _)⟩
    by_cases hk0 : (0 : Int) < k
    · by_cases hv0 : (0 : Int) < vs.length
      · clear T F
        go_wp2_with fail
        refine (pick_any _ p vs.length _ hrQ (by omega) (by omega)).mono ?_
        rintro e w4 ⟨i, rfl, i0, i1, hr4, hs4, hz4⟩
        obtain ⟨j, rfl⟩ := Int.eq_ofNat_of_zero_le i0
        have hj : j < vs.length := by omega
        have O4 := OQ.step hs4 (by omega)
        have R4 := row_step RQ hs4 (by omega)
        have B4 : Below w.heap.size w w4 := hs4.below BQ (Nat.le_refl _)
        obtain ⟨b, cp, da, dc, e', hv, _⟩ := O4.one hy hj
        injection e' with e1 e2 e3
        subst e1 e3
        have c0 := hv.c0
        have c1 := hv.c1
        have c2 := hv.c2
        have c3 := hv.c3
        have c4 := hv.c4
        have c5 := hv.c5
        have c6 := hv.c6
        simp only [Nat.zero_add] at c0 c1 c2 c3 c4 c5 c6
        clear hv e2 hs4 hz4 hrQ RQ OQ BQ
        generalize vs[j] = x at *
        have hp2 := putL_len ds ⟨x.k, x.t, x.s⟩
        have b5 := (Below.refl _ w4).alloc (Nat.le_refl _) (.cells #[.int .i64 x.k, .int .i64 x.t, .int .i64 x.s, .int .i64 x.val, .int .i64 x.cl, .int .i64 x.ca, .slice da x.ds.length dc] 28)
        have A5 := Blk.new w4 #[.int .i64 x.k, .int .i64 x.t, .int .i64 x.s, .int .i64 x.val, .int .i64 x.cl, .int .i64 x.ca, .slice da x.ds.length dc] 28
        have O5 := O4.below b5 (Nat.le_refl _)
        have R5 := row_below R4 b5 (Nat.le_refl _)
        have r5 := hr4.belowW b5
        have B5 := B4.trans (b5.mono B4.size)
        have s5 := b5.size
        have hz4 := hr4.1
        obtain ⟨q1, g1⟩ := A5.rules
        go_wp2_with fail
        clear q1 g1 c0 c1 c2 c3 c4 c5 c6 O4 R4 B4 hr4 b5
        generalize w4.alloc (.cells #[.int .i64 x.k, .int .i64 x.t, .int .i64 x.s, .int .i64 x.val, .int .i64 x.cl, .int .i64 x.ca, .slice da x.ds.length dc] 28) = w5 at *
        refine (sPut_any ea ec ds ⟨x.k, x.t, x.s⟩ _ (by omega) (row_deps' R5)).mono ?_
        rintro e w6 ⟨v6, rfl, R6, hb6⟩
        have O6 := O5.below hb6 (Nat.le_refl _)
        have R6' := row_mono R6 (base' := w.heap.size + 1) (by omega)
        have r6 := r5.belowW hb6
        have B6 := B5.trans (hb6.mono B5.size)
        obtain ⟨ea6, ec6, rfl, _⟩ := deps_of_row R6'
        clear R6 hb6 O5 R5 r5 B5 A5
        go_wp2_with fail
        go_roundw
        case rel => exact ⟨k - 1, p + 1, _, by omega, by go_num, R6', hp2, O6, by omega, r6, B6⟩
        case measure => simp [intOf]; omega
      · have T1 := T (.inr (by omega))
        clear T
        go_wp2_with fail
        refine T1.mono ?_
        rintro e w4 ⟨c, rfl, R4, O4, r4, B4⟩
        clear T1 RQ OQ hrQ BQ
        by_cases hc : c = 0
        · subst hc
          have F1 := F 0 w4 R4 O4 r4 B4
          clear F R4 O4 r4 B4
          go_wp2_with fail
          refine F1.mono ?_
          rintro e w5 ⟨v5, xs, rfl, hx, X5, R5, O5, B5⟩
          have J := sJoin_row (by omega) (by omega) R5 X5
          obtain ⟨ea5, ec5, rfl, _⟩ := deps_of_row X5
          have hjl := joinL_len ds xs
          clear F1
          go_wp2_with fail
          refine J.mono ?_
          rintro e w6 ⟨v6, rfl, R6, hb6⟩
          have O6 := (O5.below hb6 (Nat.le_refl _)).mono (base' := w.heap.size) (by omega)
          have R6' := row_mono R6 (base' := w.heap.size) B5.size
          have B6 := B5.trans (hb6.mono B5.size)
          clear J R6 hb6 O5 R5 X5 B5
          go_wp2_with fail
          go_ret2
          exact ⟨_, ys, vs, _, _, rfl, O6, hy, hF, R6', by omega, B6⟩
        · have hc' : (c == 0) = false := by simpa using hc
          clear F
          have O6 := O4.mono (base' := w.heap.size) (by omega)
          have R6 := row_mono R4 (base' := w.heap.size) (by omega)
          clear O4 R4 r4
          go_wp2_with fail
          go_ret2
          exact ⟨_, ys, vs, _, _, rfl, O6, hy, hF, R6, by omega, B4⟩
    · have T1 := T (.inl (by omega))
      clear T
      go_wp2_with fail
      refine T1.mono ?_
      rintro e w4 ⟨c, rfl, R4, O4, r4, B4⟩
      clear T1 RQ OQ hrQ BQ
      by_cases hc : c = 0
      · subst hc
        have F1 := F 0 w4 R4 O4 r4 B4
        clear F R4 O4 r4 B4
        go_wp2_with fail
        refine F1.mono ?_
        rintro e w5 ⟨v5, xs, rfl, hx, X5, R5, O5, B5⟩
        have J := sJoin_row (by omega) (by omega) R5 X5
        obtain ⟨ea5, ec5, rfl, _⟩ := deps_of_row X5
        have hjl := joinL_len ds xs
        clear F1
        go_wp2_with fail
        refine J.mono ?_
        rintro e w6 ⟨v6, rfl, R6, hb6⟩
        have O6 := (O5.below hb6 (Nat.le_refl _)).mono (base' := w.heap.size) (by omega)
        have R6' := row_mono R6 (base' := w.heap.size) B5.size
        have B6 := B5.trans (hb6.mono B5.size)
        clear J R6 hb6 O5 R5 X5 B5
        go_wp2_with fail
        go_ret2
        exact ⟨_, ys, vs, _, _, rfl, O6, hy, hF, R6', by omega, B6⟩
      · have hc' : (c == 0) = false := by simpa using hc
        clear F
        have O6 := O4.mono (base' := w.heap.size) (by omega)
        have R6 := row_mono R4 (base' := w.heap.size) (by omega)
        clear O4 R4 r4
        go_wp2_with fail
        go_ret2
        exact ⟨_, ys, vs, _, _, rfl, O6, hy, hF, R6, by omega, B4⟩
end Go.Proofs.Ytgdkoangpinieaa

/- The law: deps are there just if each of them is. -/
namespace Go.Proofs.Ytgdkoangpinieaa
open Go.ChangeShapes Go.WideShapes Go.ChangeAt Go.RowKit

theorem allIn_next {vs : List V} {ds : List D} {k : Nat} (hk : k < ds.length) : allIn vs (ds.take (k + 1)) = (allIn vs (ds.take k) && (cAt vs ds[k].k ds[k].t ds[k].s).isSome) := by
  unfold allIn; rw [takeD ds k hk, List.all_append]; simp

set_option maxHeartbeats 8000000 in
set_option maxRecDepth 20000 in
theorem lawCHas (w : World) (a : Option Addr) (len cap : Nat) (c : Option Addr) (len' cap' : Nat) (h : Code w a len cap) (h' : Code w c len' cap') :
    Calls Try.prog 7 #[.slice a len cap, .slice c len' cap'] w fun e w' => e = .returned (.bool true) ∧ Below w.heap.size w w' := by
  have hm := h.2.1
  have hl := h.1
  have hm' := h'.2.1
  have hl' := h'.1
  unfold maxLen at hm hm'
  by_cases hc : 1048576 < (len : Int)
  · go_enter Try.func7, Try.ntmps7
    go_wp2
    go_ret
    exact ⟨rfl, Below.refl _ _⟩
  by_cases hc' : 1048576 < (len' : Int)
  · go_enter Try.func7, Try.ntmps7
    go_wp2
    go_ret
    exact ⟨rfl, Below.refl _ _⟩
  go_enter Try.func7, Try.ntmps7
  go_wp2_with fail
  refine (drawCHas w a len cap h).mono ?_
  rintro e w1 ⟨v1, ys, vs, v1', ds, rfl, O1, hy, hF, R1, hdl, B1⟩
  obtain ⟨va, vc, rfl, V1⟩ := O1.asD hy
  obtain ⟨ea, ec, rfl, E1, _⟩ := deps_of_row R1
  clear h hm hl O1 hy hc R1
  go_wp2_with fail
  refine (drawCPut w1 c len' cap' (h'.below B1)).mono ?_
  rintro e w2 ⟨v2, ys2, vs2, x, da, dc, rfl, O2, hy2, _, hxl, D2, hb2⟩
  obtain ⟨va2, vc2, rfl, _⟩ := O2.asD hy2
  have b2 := (Below.refl _ w2).alloc (Nat.le_refl _) (.cells #[.int .i64 x.k, .int .i64 x.t, .int .i64 x.s, .int .i64 x.val, .int .i64 x.cl, .int .i64 x.ca, .slice da x.ds.length dc] 28)
  have bb := hb2.trans (b2.mono hb2.size)
  have A3 := Blk.new w2 #[.int .i64 x.k, .int .i64 x.t, .int .i64 x.s, .int .i64 x.val, .int .i64 x.cl, .int .i64 x.ca, .slice da x.ds.length dc] 28
  have V3 := V1.below bb
  have E3 := E1.below bb
  have D3 := D2.below b2
  have B3 := B1.trans (bb.mono B1.size)
  clear h' hm' hl' hc' O2 hy2 D2 hb2 b2 bb V1 E1 B1
  have hvl : vs.length ≤ 81 := hF.1
  have Fp := hF.put81 hxl
  have lp := Fp.1
  have hH := fun W h h' => iHasC_any va vc vs ea ec ds W (by omega) h (by omega) h'
  have hT := fun W h h' => sHasC_any va vc vs ea ec ds W (by omega) h (by omega) h'
  have hH2 := fun b cc W h h' => iHasC_any b cc (cPut vs x) ea ec ds W (by omega) h (by omega) h'
  have hI := fun W va' vc' h h' => iPutV_any va vc vs x va' vc' W (by omega) h (by omega) h'
  have hC := fun W h => sChainOk_any va vc vs W (by omega) h
  have hK := fun W h => sDepsOk_any ea ec ds W (by omega) h
  have H1 : Hid (chainB vs = true → depsOk ds = true → cHas vs ds = allIn vs ds) := fun hb hd => has_yes hb hd
  have H2 : Hid (cDid vs x = true → cHas vs ds = true → cHas (cPut vs x) ds = true) := fun hb hd => put_all hb hd
  generalize cHas (cPut vs x) ds = r2 at *
  generalize cPut vs x = pl at *
  generalize cDid vs x = did at *
  generalize cHas vs ds = r at *
  clear hF Fp
  go_wp2_with fail
  generalize w2.alloc (.cells #[.int .i64 x.k, .int .i64 x.t, .int .i64 x.s, .int .i64 x.val, .int .i64 x.cl, .int .i64 x.ca, .slice da x.ds.length dc] 28) = w3 at *
  refine (hH _ V3 E3).mono ?_
  rintro e w4 ⟨rfl, hb4⟩
  have V4 := V3.below hb4
  have E4 := E3.below hb4
  have D4 := D3.below hb4
  have A4 := A3.below hb4 A3.lt
  have B4 : Below w.heap.size w w4 := B3.trans (hb4.mono B3.size)
  clear V3 E3 D3 A3 B3 hb4 hH
  go_wp2_with fail
  refine (hT _ V4 E4).mono ?_
  rintro e w5 ⟨rfl, hb5⟩
  have V5 := V4.below hb5
  have E5 := E4.below hb5
  have D5 := D4.below hb5
  have A5 := A4.below hb5 A4.lt
  have B5 : Below w.heap.size w w5 := B4.trans (hb5.mono B4.size)
  clear V4 E4 D4 A4 B4 hb5
  go_wp2_with fail
  refine (hC _ V5).mono ?_
  rintro e w6 ⟨rfl, hb6⟩
  have V6 := V5.below hb6
  have E6 := E5.below hb6
  have D6 := D5.below hb6
  have A6 := A5.below hb6 A5.lt
  have B6 : Below w.heap.size w w6 := B5.trans (hb6.mono B5.size)
  clear V5 E5 D5 A5 B5 hb6 hC
  rcases hcb : chainB vs with _ | _
  · clear H1 H2 hK hI hH2 D6 A6
    go_wp2_with fail
    refine (hT _ V6 E6).mono ?_
    rintro e w7 ⟨rfl, hb7⟩
    have B7 : Below w.heap.size w w7 := B6.trans (hb7.mono B6.size)
    clear V6 E6 B6 hb7 hT
    go_wp2_with fail
    go_ret
    exact ⟨by simp, B7⟩
  go_wp2_with fail
  refine (hK _ E6).mono ?_
  rintro e w7 ⟨rfl, hb7⟩
  have V7 := V6.below hb7
  have E7 := E6.below hb7
  have D7 := D6.below hb7
  have A7 := A6.below hb7 A6.lt
  have B7 : Below w.heap.size w w7 := B6.trans (hb7.mono B6.size)
  clear V6 E6 D6 A6 B6 hb7 hK
  rcases hdb : depsOk ds with _ | _
  · clear H1 H2 hI hH2 D7 A7
    go_wp2_with fail
    refine (hT _ V7 E7).mono ?_
    rintro e w8 ⟨rfl, hb8⟩
    have B8 : Below w.heap.size w w8 := B7.trans (hb8.mono B7.size)
    clear V7 E7 B7 hb8 hT
    go_wp2_with fail
    go_ret
    exact ⟨by simp, B8⟩
  have HR : Hid (r = allIn vs ds) := H1.out hcb hdb
  have HC : Hid (chainB vs = true) := hcb
  have HO : Hid (∀ d ∈ ds, 0 ≤ d.k ∧ d.k ≤ 5) := fun d hd => by
    have := (ok_iff.1 hdb).2 d hd
    unfold okD inB at this
    simp at this
    omega
  clear H1 hcb hdb hT
  go_wp2_with fail
  go_loopw [10, 11] (fun v i wr => ∃ (k : Nat) (m : Bool), k ≤ ds.length ∧ i = .int .i64 k ∧ v = .bool m ∧ Hid (m = allIn vs (ds.take k)) ∧ Vers wr va vs ∧ Deps wr ea ds ∧ Deps wr da x.ds ∧ Blk wr w2.heap.size #[.int .i64 x.k, .int .i64 x.t, .int .i64 x.s, .int .i64 x.val, .int .i64 x.cl, .int .i64 x.ca, .slice da x.ds.length dc] 28 ∧ Below w.heap.size w wr) (fun _ i _ => ds.length - (intOf i).toNat)
  case atStart => exact ⟨0, true, Nat.zero_le _, rfl, rfl, rfl, V7, E7, D7, A7, B7⟩
  case round =>
    clear V7 E7 D7 A7 B7
    obtain ⟨k, m, hk, rfl, rfl, HM, VQ, EQ, DQ, AQ, BQ⟩ := hrel
    by_cases hlt : k < ds.length
    · have hnext := allIn_next (vs := vs) hlt
      rw [← HM.out] at hnext
      obtain ⟨b, o, rfl, hbb, e0, e1, e2⟩ := EQ.at hlt
      have hok := HO.out ds[k] (List.getElem_mem hlt)
      have hL := fun W h => iAtV_any va vc vs ds[k].k ds[k].t ds[k].s W (by omega) h (key5_wf hok.1 hok.2)
      rw [atA_yes HC.out] at hL
      have hlt2 : (k : Int) < ds.length := by omega
      have hk0 : (0 : Int) ≤ k := by omega
      clear HM hok HO HC
      generalize (cAt vs ds[k].k ds[k].t ds[k].s).isSome = q at *
      generalize (cAt vs ds[k].k ds[k].t ds[k].s).getD zeroV = u at *
      generalize ds[k] = d at *
      have HN : Hid ((m && q) = allIn vs (ds.take (k + 1))) := hnext.symm
      clear hnext
      have R : InT wr b (o + k * 3) d.k d.t d.s wr := ⟨Below.refl _ _, hbb, e0, e1, e2⟩
      clear e0 e1 e2
      go_upto_region 12 with fail
      go_cut [12, 13] (fun s6 s7 wx => ∃ D pa pc, s6 = .pointer (some ⟨D, 0, none⟩) ∧ s7 = .bool q ∧ EndT wr b (o + k * 3) d.k d.t d.s u D pa pc wx)
      case first =>
        clear EQ DQ AQ BQ hI hH2
        go_region_held3 (fun W => Below wr.heap.size wr W ∧ b < W.heap.size ∧ W.cell? ⟨b, o + k * 3, none⟩ = some (.int .i64 d.k) ∧ W.cell? ⟨b, o + k * 3 + 1, none⟩ = some (.int .i64 d.t) ∧ W.cell? ⟨b, o + k * 3 + 2, none⟩ = some (.int .i64 d.s)) (with_reducible (first | assumption | exact InT.drew (by assumption) | exact InT.below (by assumption) (by assumption) | exact InT.alloc (by assumption) _ | exact InT.drew (InT.alloc (by assumption) _) | exact EndQ.i (EndT.q (by assumption))))
          (first
            | (go_at_call 42
               refine (hL _ ?hv).mono ?_
               (case hv => exact VQ.below (InT.fst (b := b) (x := o + k * 3) (k := d.k) (t := d.t) (s := d.s) (by with_reducible assumption)))
               rintro e w3 ⟨u3, pa3, pc3, hu3, rfl, R3, hb3⟩
               have e3 : u3 = u := hu3.out
               subst u3
               (first
                 | (with_reducible (have I3 := ((R.alloc _).drew.below hb3)
                                    have Z3 := ((Blk.new wr #[.int .i64 0, .int .i64 0, .int .i64 0, .int .i64 0, .int .i64 0, .int .i64 0, .slice none 0 0] 28).drwW).upW hb3
                                    have EF := EndT.fill (u := u) I3 hbb Z3 (Nat.le_refl _) R3 (by simp)
                                    obtain ⟨qz, gz⟩ := Z3.rules))
                 | (with_reducible (have I3 := R.drew.below hb3
                                    have EF := EndT.new (u := u) I3 R3)))))
        all_goals (clear R VQ; go_wp2_with fail; go_meet; case rel => exact ⟨_, _, _, rfl, rfl, EF⟩)
      case rest =>
        obtain ⟨D, pa, pc, rfl, rfl, N3⟩ := hcut
        generalize wc = w3 at *
        have hb3 := N3.q.i.1
        have V8 := VQ.below hb3
        have E8 := EQ.below hb3
        have D8 := DQ.below hb3
        have A8 := AQ.below hb3 AQ.lt
        have B8 : Below w.heap.size w w3 := BQ.trans (hb3.mono BQ.size)
        clear R hb3 N3 hL VQ EQ DQ AQ BQ
        rcases m with _ | _
        · go_wp2_with fail
          go_roundw
          case rel => exact ⟨k + 1, false, by omega, by go_num, rfl, HN, V8, E8, D8, A8, B8⟩
          case measure => simp [intOf]; omega
        · go_wp2_with fail
          go_roundw
          case rel => exact ⟨k + 1, q, by omega, by go_num, rfl, HN, V8, E8, D8, A8, B8⟩
          case measure => simp [intOf]; omega
    · have hk2 : k = ds.length := by omega
      subst hk2
      rw [List.take_length] at HM
      obtain rfl : r = m := by rw [HR.out, HM.out]
      clear HM HR HO HC
      obtain ⟨q1, g1⟩ := AQ.rules
      go_wp2_with fail
      clear q1 g1
      refine (hI _ _ _ VQ DQ).mono ?_
      rintro e w8 ⟨u8, ys8, rfl, G8, hy8, hb8⟩
      obtain ⟨aG, cG, rfl, VG8⟩ := G8.asD hy8
      have E8 := EQ.below hb8
      have B8 : Below w.heap.size w w8 := BQ.trans (hb8.mono BQ.size)
      clear G8 hI VQ EQ DQ AQ BQ hb8
      rcases did with _ | _
      · clear H2 hH2 VG8 E8
        go_wp2_with fail
        go_ret
        exact ⟨by simp, B8⟩
      rcases r with _ | _
      · clear H2 hH2 VG8 E8
        go_wp2_with fail
        go_ret
        exact ⟨by simp, B8⟩
      have e2 := H2.out rfl rfl
      subst e2
      clear H2
      go_wp2_with fail
      refine (hH2 aG cG _ VG8 E8).mono ?_
      rintro e w9 ⟨rfl, hb9⟩
      have B9 : Below w.heap.size w w9 := B8.trans (hb9.mono B8.size)
      clear hH2 VG8 E8 B8 hb9
      go_wp2_with fail
      go_ret
      exact ⟨by simp, B9⟩
end Go.Proofs.Ytgdkoangpinieaa

