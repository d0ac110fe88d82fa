/- The program's map of versions by key. -/
import Derived.Test.YthlmodafadfnfaaChm
namespace Go.Proofs.Ythlmodafadfnfaa
open Go.ChangeShapes Go.WideShapes Go.ChangeAt Go.RowKit

theorem okV_key {v : V} (h : okV v = true) : 0 ≤ v.k ∧ v.k ≤ 5 := by
  unfold okV verB numsB inB at h; simp at h; omega
theorem grp_snoc (l : List V) (v : V) (j : Int) : grp (l ++ [v]) j = if j = v.k then grp l j ++ [v] else grp l j := by
  unfold grp; rw [List.filter_append]
  by_cases e : j = v.k
  · subst e; rw [if_pos rfl]; simp
  · have e2 : ¬ v.k = j := fun h => e h.symm
    rw [if_neg e]; simp [e2]
theorem grp_le (l : List V) (j : Int) : (grp l j).length ≤ l.length := List.length_filter_le _ _

/-- An append at a step of a region that draws its order, with the place where the new slice lies. -/
theorem step_append_at {P : Program} (w : World) {ops : Array Oper} {o : Oper} {a : Act} {K : Act → World → Prop} {Q : Exit → Act → World → Prop} {E : Prop} (hgd : o.guard = none) (s x : Operand) (t : TypeId)
    (ho : o.op = .call { callee := .builtin .append, args := #[s, x], argTypes := #[t, t] })
    (base : Nat) (e : TypeId) (i : TypeInfo) (z : Value) (size bytes : Nat) (ht : P.underlying t = some (.slice e)) (hi : P.info? e = some i) (hz : i.zero = some z)
    (hsize : i.size = size) (hby : i.bytes = bytes) (hzs : z.cells.size = size) (hsz : 0 < size)
    (v : Value) (n : Nat) (xs : List Value) (hs : a.eval s = v) (hown : w.ownsRow base e size v n xs)
    (ad : Addr) (m c : Nat) (news : List Value) (hx : a.eval x = .slice (some ad) m c) (hl : news.length = m * size) (hnews : ∀ j u, news[j]? = some u → w.cell? (ad.add j) = some u) (h1 : ∀ u ∈ news, u.oneCell' = true)
    (h63 : n + m ≤ maxLen) (hbytes : (n + m) * bytes ≤ 140737488355328) (hbase : base ≤ w.heap.size)
    (h : ∀ v' w', w'.ownsRow base e size v' (n + m) (xs ++ news) → w.grownBy w' v.ownBlock → (v'.ownBlock = v.ownBlock ∨ v'.ownBlock = some w.heap.size) → K (a.put o.dst v') w') :
    if Region.wanted o (yielded ops a.tmps) = true then Oper.wp P o a w K Q else E := by
  have hw : Region.wanted o (yielded ops a.tmps) = true := by simp [Region.wanted, hgd]
  rw [if_pos hw]
  obtain ⟨v', w', hr, h2, h3, _, h5⟩ := run_append_own_at (P := P) w base t o.type e i z size bytes ht hi hz hsize hby hzs hsz v n xs hown ad m c news hl hnews h1 h63 hbytes hbase
  unfold Oper.wp execOp
  simp only [ho, resolve, invoke, builtin, Sem.run_bind, Sem.run_pure, Result.andThen_ok, List.map_toArray, List.map_cons, List.map_nil, hs, hx, hr]
  exact h v' w' h2 h3 h5
/-- A store into a map at such a step. -/
theorem step_update {P : Program} (w : World) {ops : Array Oper} {o : Oper} {a : Act} {K : Act → World → Prop} {Q : Exit → Act → World → Prop} {E : Prop} (hgd : o.guard = none) (m x v : Operand) (t : TypeId)
    (hop : o.op = Op.mapUpdate t m x v) (mv kv vv : Value) (hm : a.eval m = mv) (hx : a.eval x = kv) (hv : a.eval v = vv) (w' : World) (hr : (Instr.mapUpdate t mv kv vv).run P w = .ok () w')
    (h : K (a.put o.dst undef) w') : if Region.wanted o (yielded ops a.tmps) = true then Oper.wp P o a w K Q else E := by
  have hw : Region.wanted o (yielded ops a.tmps) = true := by simp [Region.wanted, hgd]
  rw [if_pos hw]
  unfold Oper.wp
  simp [execOp, hop, hm, hx, hv, hr, Result.andThen]
  exact h

theorem iChainOf_no (a : Option Addr) (cap : Nat) (vs : List V) (w : World) (hn : vs.length ≤ 1099511627776) (h : Vers w a vs) (hc : chainB vs = false) :
    Calls Try.prog 67 #[.slice a vs.length cap] w fun e w' => e = .returned (.tuple #[.map none, .bool false]) ∧ Below w.heap.size w w' := by
  have hC := iChainOk_any a cap vs w hn h
  rw [hc] at hC
  go_enter Try.func67, Try.ntmps67
  go_wp2_with fail
  refine hC.mono ?_
  rintro e w1 ⟨rfl, hb1⟩
  clear hC
  go_wp2_with fail
  go_ret2
  exact ⟨rfl, hb1⟩

set_option maxHeartbeats 4000000 in
set_option maxRecDepth 100000 in
theorem iChainOf_yes (a : Option Addr) (cap : Nat) (vs : List V) (w : World) (hn : vs.length ≤ 1099511627776) (h : Vers w a vs) (hc : chainB vs = true) :
    Calls Try.prog 67 #[.slice a vs.length cap] w fun e w' => ∃ b f g, e = .returned (.tuple #[.map (some b), .bool true]) ∧ w.heap.size ≤ b ∧ Chm w' w.heap.size b vs.length f g ∧ (∀ j, (f j).map XV.v = grp vs j) ∧ (∀ j, ∀ x ∈ f j, GoodX w x) ∧ Below w.heap.size w w' := by
  have hC := iChainOk_any a cap vs w hn h
  obtain ⟨hl80, hP⟩ := chainB_iff.1 hc
  rw [hc] at hC
  obtain ⟨i0, hi, hz0, hz1, hz2⟩ := info_parts infoVer
  clear hc hn
  go_enter Try.func67, Try.ntmps67
  go_wp2_with fail
  refine hC.mono ?_
  rintro e w1 ⟨rfl, hb1⟩
  clear hC
  have hmm := @run_makeMap Try.prog
  have C0 := Chm.made w1 w.heap.size
  have B0 := hb1.alloc hb1.size (.map #[] 0)
  have hbb := hb1.size
  go_wp2_with fail
  clear hmm hb1
  generalize w1.heap.size = b at *
  go_loopw [13] (fun i wr => ∃ (k : Nat) (f : Int → List XV) (g : Int → Value), k ≤ vs.length ∧ i = .int .i64 k ∧ Chm wr w.heap.size b k f g ∧ Hid ((∀ j, (f j).map XV.v = grp (vs.take k) j) ∧ ∀ j, ∀ x ∈ f j, GoodX w x) ∧ Below w.heap.size w wr) (fun i _ => vs.length - (intOf i).toNat)
  case atStart => exact ⟨0, _, _, Nat.zero_le _, rfl, C0, ⟨fun j => rfl, fun j x hx => (by cases hx)⟩, B0⟩
  case round =>
    obtain ⟨k, f, g, hk, rfl, hM, HF, hB⟩ := hrel
    clear C0 B0
    by_cases hlt : k < vs.length
    · obtain ⟨bb, o, da, dc, rfl, hbx, hv0⟩ := h.at hlt
      have hv := hv0.below hB
      have HS : Hid (vs.take (k + 1) = vs.take k ++ [vs[k]]) := takeV vs k hlt
      obtain ⟨k0, k5⟩ := okV_key (hP.1 vs[k] (List.getElem_mem hlt))
      have hfl : (f vs[k].k).length ≤ 80 := by
        have := congrArg List.length (HF.out.1 vs[k].k)
        have h2 := grp_le (vs.take k) vs[k].k
        simp at this h2; omega
      obtain ⟨c0, c1, c2, c3, c4, c5, c6, hd, hdl⟩ := hv
      generalize vs[k] = v at *
      have hG : GoodX w ⟨v, .slice da v.ds.length dc⟩ := ⟨da, dc, rfl, hv0.ds, hdl⟩
      have hgb : ∀ j, (g v.k).ownBlock = some j → j < wr.heap.size := fun j hj => ((hM.row v.k).lt j hj).2
      have bW := (Below.refl wr.heap.size wr).alloc (Nat.le_refl _) (.cells #[.int .i64 v.k, .int .i64 v.t, .int .i64 v.s, .int .i64 v.val, .int .i64 v.cl, .int .i64 v.ca, .slice da v.ds.length dc] 28)
      have N0 := Blk.new wr #[.int .i64 v.k, .int .i64 v.t, .int .i64 v.s, .int .i64 v.val, .int .i64 v.cl, .int .i64 v.ca, .slice da v.ds.length dc] 28
      have M0 := hM.below bW
      have B1 := hB.alloc hB.size (.cells #[.int .i64 v.k, .int .i64 v.t, .int .i64 v.s, .int .i64 v.val, .int .i64 v.cl, .int .i64 v.ca, .slice da v.ds.length dc] 28)
      have lL := N0.lt
      have lw := hB.size
      go_wp2_with fail
      clear c0 c1 c2 c3 c4 c5 c6 hd hv0 hM bW hB
      generalize wr.alloc (.cells #[.int .i64 v.k, .int .i64 v.t, .int .i64 v.s, .int .i64 v.val, .int .i64 v.cl, .int .i64 v.ca, .slice da v.ds.length dc] 28) = W0 at *
      generalize wr.heap.size = LB at *
      have wf := wf_key k0 k5
      have M1 := M0.below ((Below.refl _ W0).alloc (Nat.le_refl _) (.cells #[.int .i64 v.k, .int .i64 v.t, .int .i64 v.s, .int .i64 v.val, .int .i64 v.cl, .int .i64 v.ca, .slice da v.ds.length dc] 28))
      have g1 := M0.look wf
      have g2 : (Instr.lookup 85 (.map (some b)) (.int .i64 v.k) false).run Try.prog W0.drew = .ok (g v.k) W0.drew := (M0.below (Below.refl _ W0).drew).look wf
      have g3 : (Instr.lookup 85 (.map (some b)) (.int .i64 v.k) false).run Try.prog (W0.drew.alloc (.cells #[.int .i64 v.k, .int .i64 v.t, .int .i64 v.s, .int .i64 v.val, .int .i64 v.cl, .int .i64 v.ca, .slice da v.ds.length dc] 28)) = .ok (g v.k) (W0.drew.alloc (.cells #[.int .i64 v.k, .int .i64 v.t, .int .i64 v.s, .int .i64 v.val, .int .i64 v.cl, .int .i64 v.ca, .slice da v.ds.length dc] 28)) := (M0.below ((Below.refl _ W0).drew.alloc (Nat.le_refl _) (.cells #[.int .i64 v.k, .int .i64 v.t, .int .i64 v.s, .int .i64 v.val, .int .i64 v.cl, .int .i64 v.ca, .slice da v.ds.length dc] 28))).look wf
      have g4 : (Instr.lookup 85 (.map (some b)) (.int .i64 v.k) false).run Try.prog (W0.alloc (.cells #[.int .i64 v.k, .int .i64 v.t, .int .i64 v.s, .int .i64 v.val, .int .i64 v.cl, .int .i64 v.ca, .slice da v.ds.length dc] 28)).drew = .ok (g v.k) (W0.alloc (.cells #[.int .i64 v.k, .int .i64 v.t, .int .i64 v.s, .int .i64 v.val, .int .i64 v.cl, .int .i64 v.ca, .slice da v.ds.length dc] 28)).drew := (M0.below ((Below.refl _ W0).alloc (Nat.le_refl _) (.cells #[.int .i64 v.k, .int .i64 v.t, .int .i64 v.s, .int .i64 v.val, .int .i64 v.cl, .int .i64 v.ca, .slice da v.ds.length dc] 28)).drew).look wf
      have g5 : (Instr.lookup 85 (.map (some b)) (.int .i64 v.k) false).run Try.prog (W0.alloc (.cells #[.int .i64 v.k, .int .i64 v.t, .int .i64 v.s, .int .i64 v.val, .int .i64 v.cl, .int .i64 v.ca, .slice da v.ds.length dc] 28)) = .ok (g v.k) (W0.alloc (.cells #[.int .i64 v.k, .int .i64 v.t, .int .i64 v.s, .int .i64 v.val, .int .i64 v.cl, .int .i64 v.ca, .slice da v.ds.length dc] 28)) := (M0.below ((Below.refl _ W0).alloc (Nat.le_refl _) (.cells #[.int .i64 v.k, .int .i64 v.t, .int .i64 v.s, .int .i64 v.val, .int .i64 v.cl, .int .i64 v.ca, .slice da v.ds.length dc] 28))).look wf
      have rA : (W0.drew.alloc (.cells #[.int .i64 v.k, .int .i64 v.t, .int .i64 v.s, .int .i64 v.val, .int .i64 v.cl, .int .i64 v.ca, .slice da v.ds.length dc] 28)).ownsRow w.heap.size 28 7 (g v.k) (f v.k).length (flat7 (f v.k)) := (M0.below ((Below.refl _ W0).drew.alloc (Nat.le_refl _) (.cells #[.int .i64 v.k, .int .i64 v.t, .int .i64 v.s, .int .i64 v.val, .int .i64 v.cl, .int .i64 v.ca, .slice da v.ds.length dc] 28))).row v.k
      have nA : ∀ (j : Nat) (u : Value), (flat7 [⟨v, .slice da v.ds.length dc⟩])[j]? = some u → (W0.drew.alloc (.cells #[.int .i64 v.k, .int .i64 v.t, .int .i64 v.s, .int .i64 v.val, .int .i64 v.cl, .int .i64 v.ca, .slice da v.ds.length dc] 28)).cell? ((Addr.mk W0.heap.size 0 none).add j) = some u := cells7 (x := ⟨v, .slice da v.ds.length dc⟩) (Blk.new W0.drew #[.int .i64 v.k, .int .i64 v.t, .int .i64 v.s, .int .i64 v.val, .int .i64 v.cl, .int .i64 v.ca, .slice da v.ds.length dc] 28)
      have oA : ∀ u ∈ flat7 [⟨v, .slice da v.ds.length dc⟩], u.oneCell' = true := flat7_one (fun z hz => by simp at hz; subst hz; rfl)
      have s0 : Hid (W0.cell? ⟨LB, 0, none⟩ = some (.int .i64 v.k) ∧ W0.cell? ⟨LB, 1, none⟩ = some (.int .i64 v.t) ∧ W0.cell? ⟨LB, 2, none⟩ = some (.int .i64 v.s) ∧ W0.cell? ⟨LB, 3, none⟩ = some (.int .i64 v.val) ∧ W0.cell? ⟨LB, 4, none⟩ = some (.int .i64 v.cl) ∧ W0.cell? ⟨LB, 5, none⟩ = some (.int .i64 v.ca) ∧ W0.cell? ⟨LB, 6, none⟩ = some (.slice da v.ds.length dc)) := by
        obtain ⟨q, _⟩ := N0.rules
        exact ⟨q 0, q 1, q 2, q 3, q 4, q 5, q 6⟩
      have N1 := N0.below ((Below.refl _ W0).drew.alloc (Nat.le_refl _) (.cells #[.int .i64 v.k, .int .i64 v.t, .int .i64 v.s, .int .i64 v.val, .int .i64 v.cl, .int .i64 v.ca, .slice da v.ds.length dc] 28)) lL
      have sA : Hid ((W0.alloc (.cells #[.int .i64 v.k, .int .i64 v.t, .int .i64 v.s, .int .i64 v.val, .int .i64 v.cl, .int .i64 v.ca, .slice da v.ds.length dc] 28)).cell? ⟨LB, 0, none⟩ = some (.int .i64 v.k) ∧ (W0.alloc (.cells #[.int .i64 v.k, .int .i64 v.t, .int .i64 v.s, .int .i64 v.val, .int .i64 v.cl, .int .i64 v.ca, .slice da v.ds.length dc] 28)).cell? ⟨LB, 1, none⟩ = some (.int .i64 v.t) ∧ (W0.alloc (.cells #[.int .i64 v.k, .int .i64 v.t, .int .i64 v.s, .int .i64 v.val, .int .i64 v.cl, .int .i64 v.ca, .slice da v.ds.length dc] 28)).cell? ⟨LB, 2, none⟩ = some (.int .i64 v.s) ∧ (W0.alloc (.cells #[.int .i64 v.k, .int .i64 v.t, .int .i64 v.s, .int .i64 v.val, .int .i64 v.cl, .int .i64 v.ca, .slice da v.ds.length dc] 28)).cell? ⟨LB, 3, none⟩ = some (.int .i64 v.val) ∧ (W0.alloc (.cells #[.int .i64 v.k, .int .i64 v.t, .int .i64 v.s, .int .i64 v.val, .int .i64 v.cl, .int .i64 v.ca, .slice da v.ds.length dc] 28)).cell? ⟨LB, 4, none⟩ = some (.int .i64 v.cl) ∧ (W0.alloc (.cells #[.int .i64 v.k, .int .i64 v.t, .int .i64 v.s, .int .i64 v.val, .int .i64 v.cl, .int .i64 v.ca, .slice da v.ds.length dc] 28)).cell? ⟨LB, 5, none⟩ = some (.int .i64 v.ca) ∧ (W0.alloc (.cells #[.int .i64 v.k, .int .i64 v.t, .int .i64 v.s, .int .i64 v.val, .int .i64 v.cl, .int .i64 v.ca, .slice da v.ds.length dc] 28)).cell? ⟨LB, 6, none⟩ = some (.slice da v.ds.length dc)) := by
        obtain ⟨q, _⟩ := N1.rules
        exact ⟨q 0, q 1, q 2, q 3, q 4, q 5, q 6⟩
      have sB : w.heap.size ≤ (W0.drew.alloc (.cells #[.int .i64 v.k, .int .i64 v.t, .int .i64 v.s, .int .i64 v.val, .int .i64 v.cl, .int .i64 v.ca, .slice da v.ds.length dc] 28)).heap.size := Nat.le_trans B1.size (by simp)
      have h63 : (f v.k).length + 1 ≤ maxLen := by unfold maxLen; omega
      have hby : ((f v.k).length + 1) * 72 ≤ 140737488355328 := by omega
      go_region_held3 (fun W => W.cell? ⟨LB, 0, none⟩ = some (.int .i64 v.k) ∧ W.cell? ⟨LB, 1, none⟩ = some (.int .i64 v.t) ∧ W.cell? ⟨LB, 2, none⟩ = some (.int .i64 v.s) ∧ W.cell? ⟨LB, 3, none⟩ = some (.int .i64 v.val) ∧ W.cell? ⟨LB, 4, none⟩ = some (.int .i64 v.cl) ∧ W.cell? ⟨LB, 5, none⟩ = some (.int .i64 v.ca) ∧ W.cell? ⟨LB, 6, none⟩ = some (.slice da v.ds.length dc)) (first | (rw [s3.out.1, s3.out.2.1, s3.out.2.2.1, s3.out.2.2.2.1, s3.out.2.2.2.2.1, s3.out.2.2.2.2.2.1, s3.out.2.2.2.2.2.2]; exact ⟨rfl, rfl, rfl, rfl, rfl, rfl, rfl⟩) | (rw [s2.out.1, s2.out.2.1, s2.out.2.2.1, s2.out.2.2.2.1, s2.out.2.2.2.2.1, s2.out.2.2.2.2.2.1, s2.out.2.2.2.2.2.2]; exact ⟨rfl, rfl, rfl, rfl, rfl, rfl, rfl⟩) | exact sA.out | exact s0.out)
        (first
          | (refine step_append_at _ (by rfl) _ _ 23 (by rfl) w.heap.size 28 i0 (.agg #[.int .i64 0, .int .i64 0, .int .i64 0, .int .i64 0, .int .i64 0, .int .i64 0, .slice none 0 0]) 7 72 Try.underlying23 hi hz0 hz1 hz2 rfl (by decide) (g v.k) (f v.k).length (flat7 (f v.k)) (by rfl) rA ⟨W0.heap.size, 0, none⟩ 1 1 (flat7 [⟨v, .slice da v.ds.length dc⟩]) (by rfl) rfl nA oA h63 hby sB ?_
             intro v1 W2 own1 grow1 loc1
             have gAll : W0.grownBy W2 (g v.k).ownBlock := (World.grownBy.mk (w := W0) (w' := W0.drew.alloc (.cells #[.int .i64 v.k, .int .i64 v.t, .int .i64 v.s, .int .i64 v.val, .int .i64 v.cl, .int .i64 v.ca, .slice da v.ds.length dc] 28)) rfl rfl rfl (by simp) (fun j hj _ => Below.heap_alloc W0.drew _ j hj)).trans grow1
             have N2 := N0.grown gAll (fun e => by have := hgb LB e.symm; omega)
             have s2 : Hid (W2.cell? ⟨LB, 0, none⟩ = some (.int .i64 v.k) ∧ W2.cell? ⟨LB, 1, none⟩ = some (.int .i64 v.t) ∧ W2.cell? ⟨LB, 2, none⟩ = some (.int .i64 v.s) ∧ W2.cell? ⟨LB, 3, none⟩ = some (.int .i64 v.val) ∧ W2.cell? ⟨LB, 4, none⟩ = some (.int .i64 v.cl) ∧ W2.cell? ⟨LB, 5, none⟩ = some (.int .i64 v.ca) ∧ W2.cell? ⟨LB, 6, none⟩ = some (.slice da v.ds.length dc)) := by
               obtain ⟨q, _⟩ := N2.rules
               exact ⟨q 0, q 1, q 2, q 3, q 4, q 5, q 6⟩
             have hrow2 : W2.ownsRow w.heap.size 28 7 v1 (f v.k ++ [XV.mk v (.slice da v.ds.length dc)]).length (flat7 (f v.k ++ [XV.mk v (.slice da v.ds.length dc)])) := by rw [flat7_append, List.length_append]; exact own1
             obtain ⟨W3, hup, M3, grow3⟩ := M0.store wf (by omega) (by simp) gAll hrow2 (loc1.imp id fun e => ⟨_, e, by simp⟩)
             have N3 := N2.grown grow3 (fun e => by simp at e; subst e; obtain ⟨D, hD, _⟩ := M0.own; obtain ⟨es, cl, hb, _⟩ := hD; have := N0; unfold Blk at this; rw [hb] at this; cases this)
             have s3 : Hid (W3.cell? ⟨LB, 0, none⟩ = some (.int .i64 v.k) ∧ W3.cell? ⟨LB, 1, none⟩ = some (.int .i64 v.t) ∧ W3.cell? ⟨LB, 2, none⟩ = some (.int .i64 v.s) ∧ W3.cell? ⟨LB, 3, none⟩ = some (.int .i64 v.val) ∧ W3.cell? ⟨LB, 4, none⟩ = some (.int .i64 v.cl) ∧ W3.cell? ⟨LB, 5, none⟩ = some (.int .i64 v.ca) ∧ W3.cell? ⟨LB, 6, none⟩ = some (.slice da v.ds.length dc)) := by
               obtain ⟨q, _⟩ := N3.rules
               exact ⟨q 0, q 1, q 2, q 3, q 4, q 5, q 6⟩
             have B3 : Below w.heap.size w W3 := (B1.grown gAll B1.size (fun j hj => ((M0.row v.k).lt j hj).1)).grown grow3 (Nat.le_trans B1.size gAll.size) (fun j hj => by simp at hj; omega)
             clear own1 grow1 loc1 gAll N2 N3 hrow2 grow3 g1 g2 g3 g4 g5 rA nA oA N1 N0 M1 sB)
          | (refine step_update _ (by rfl) _ _ _ 85 (by rfl) (.map (some b)) (.int .i64 v.k) v1 (by rfl) (by rfl) (by rfl) W3 hup ?_))
      all_goals
        clear s0 sA s2 s3
        go_wp2_with fail
        go_roundw
        case rel =>
          refine ⟨k + 1, _, _, by omega, by go_num, M3, ⟨fun j => ?_, fun j x hx => ?_⟩, B3⟩
          · rw [HS.out, grp_snoc]
            by_cases e : j = v.k
            · subst e; rw [upd_same, if_pos rfl, List.map_append, HF.out.1]; rfl
            · rw [upd_other _ _ e, if_neg e, HF.out.1]
          · by_cases e : j = v.k
            · subst e
              rw [upd_same] at hx
              rcases List.mem_append.1 hx with hx | hx
              · exact HF.out.2 _ x hx
              · simp at hx; subst hx; exact hG
            · rw [upd_other _ _ e] at hx; exact HF.out.2 j x hx
        case measure => simp [intOf]; omega
    · have hk2 : k = vs.length := by omega
      subst hk2
      rw [List.take_length] at HF
      go_wp2_with fail
      go_ret2
      exact ⟨b, f, g, rfl, hbb, hM, HF.out.1, HF.out.2, hB⟩
end Go.Proofs.Ythlmodafadfnfaa
