/- 8 texts in one. -/
import Derived.Test.YthlmodafadfnfaaKeys
import Derived.Test.YthlmodafadfnfaaVersW2
import Derived.Maps.OwnSet
import Derived.Test.YthlmodafadfnfaaSAtV
import Derived.Test.YthlmodafadfnfaaDrawCT
import Derived.Test.YthlmodafadfnfaaSTopV

/- Versions by key in a map. -/
namespace Go.Proofs.Ythlmodafadfnfaa
open Go.ChangeShapes Go.WideShapes Go.ChangeAt Go.RowKit Go.Maps

/-- A map's elements, held as they are. -/
def heldR : Value → Option (DataW Value × List MemPlace) := fun v => some (.held v, [])
theorem keyedI : Keyed Try.prog 3 := int_keyed Try.underlying3
theorem zeroVers (w : World) : (zeroValue 23).run Try.prog w = .ok (.slice none 0 0) w := Try.zeroValue23 w
/-- Another value at one key. -/
def upd {α : Type} (f : Int → α) (k : Int) (l : α) : Int → α := fun j => if j = k then l else f j
theorem upd_same {α : Type} (f : Int → α) (k : Int) (l : α) : upd f k l k = l := if_pos rfl
theorem upd_other {α : Type} (f : Int → α) {k j : Int} (l : α) (h : j ≠ k) : upd f k l j = f j := if_neg h
/-- Versions by key: the map in block b holds at each key the slice g, a row of the call's own that holds the versions f. -/
structure Chm (w : World) (base b n : Nat) (f : Int → List XV) (g : Int → Value) : Prop where
  own : ∃ D : DataW Value, w.ownsMap Try.prog 3 heldR b n D ∧ (∀ k, D.atKey (.int .i64 k) (.held (.slice none 0 0)) = .held (g k)) ∧ (∀ k, Maps.has D (.int .i64 k) = true ↔ f k ≠ [])
  row : ∀ k, w.ownsRow base 28 7 (g k) (f k).length (flat7 (f k))
  apart : ∀ k j, k ≠ j → ApartV (g k) (g j)
theorem Chm.lt {w : World} {base b n : Nat} {f : Int → List XV} {g : Int → Value} (h : Chm w base b n f g) : b < w.heap.size := by obtain ⟨D, hD, _⟩ := h.own; exact hD.lt
theorem Chm.below {w w' : World} {base b n : Nat} {f : Int → List XV} {g : Int → Value} (h : Chm w base b n f g) (k : Below w.heap.size w w') : Chm w' base b n f g := by
  obtain ⟨D, hD, h1, h2⟩ := h.own
  exact ⟨⟨D, hD.kept (row := none) (grown_of_below k) (by simp), h1, h2⟩, fun j => row_below (h.row j) k (Nat.le_refl _), h.apart⟩
theorem Chm.made (w : World) (base : Nat) : Chm (w.alloc (.map #[] 0)) base w.heap.size 0 (fun _ => []) (fun _ => .slice none 0 0) :=
  ⟨⟨_, World.ownsMap_made w _ _ _, fun _ => rfl, fun _ => by simp [Maps.has]⟩, fun _ => World.ownsRow_nil _ _ _ _, fun _ _ _ j hj => (by simp [Value.ownBlock] at hj)⟩
/-- What a look-up finds. -/
theorem Chm.look {w : World} {base b n : Nat} {f : Int → List XV} {g : Int → Value} (h : Chm w base b n f g) {k : Int} (hk : (Lit.int .i64 k).wf = true) : (Instr.lookup 85 (.map (some b)) (.int .i64 k) false).run Try.prog w = .ok (g k) w := by
  obtain ⟨D, hD, h1, _⟩ := h.own
  obtain ⟨v, ps, hr, hv⟩ := hD.lookup keyedI Try.underlying85 (zeroVers w) (zd := .held (.slice none 0 0)) (zp := []) rfl (keyOf_int_mk Try.underlying3 hk)
  rw [h1 k] at hv
  simp [heldR] at hv
  rw [hr, hv.1]
theorem wf_key {k : Int} (h0 : 0 ≤ k) (h1 : k ≤ 5) : (Lit.int .i64 k).wf = true := by simp [Lit.wf, IntKind.min, IntKind.max, IntKind.bits, IntKind.signed]; omega
/-- A map that is another at one key: what lay at that key, and new blocks, may have turned ahead. -/
theorem Chm.store {w w1 : World} {base b n : Nat} {f : Int → List XV} {g : Int → Value} (h : Chm w base b n f g) {k : Int} (hk : (Lit.int .i64 k).wf = true) {l : List XV} {v : Value} (hn : n < 1000) (hl : l ≠ [])
    (hg : w.grownBy w1 (g k).ownBlock) (hrow : w1.ownsRow base 28 7 v l.length (flat7 l)) (hloc : v.ownBlock = (g k).ownBlock ∨ ∃ j, v.ownBlock = some j ∧ w.heap.size ≤ j) :
    ∃ w2, (Instr.mapUpdate 85 (.map (some b)) (.int .i64 k) v).run Try.prog w1 = .ok () w2 ∧ Chm w2 base b (n + 1) (upd f k l) (upd g k v) ∧ w1.grownBy w2 (some b) := by
  obtain ⟨D, hD, h1, h2⟩ := h.own
  have hbk : some b ≠ (g k).ownBlock := fun e => by
    obtain ⟨es, clock, hb, _⟩ := hD
    rcases (h.row k).2 with ⟨e0, _⟩ | ⟨x, cap, cur, e0, _, hx, _⟩
    · rw [e0] at e; simp [Value.ownBlock] at e
    · rw [e0] at e; simp [Value.ownBlock] at e; subst e; rw [hb] at hx; cases hx
  have hD1 := hD.kept hg hbk
  obtain ⟨w2, hr, hD2, hg2⟩ := hD1.update keyedI Try.underlying85 (by unfold maxLen; omega) (keyOf_int_mk Try.underlying3 hk) (val := v) (d := .held v) (ps := []) rfl
  have hrows : ∀ (u : Value) (m : Nat) (cs : List Value), w1.ownsRow base 28 7 u m cs → w2.ownsRow base 28 7 u m cs := fun u m cs hu => hu.kept hg2 (by
    rcases hu.2 with ⟨e0, _⟩ | ⟨x, cap, cur, e0, _, hx, _⟩
    · exact .inl (by rw [e0]; rfl)
    · refine .inr fun e => ?_
      rw [e0] at e; simp [Value.ownBlock] at e; subst e
      obtain ⟨es, clock, hb, _⟩ := hD1
      rw [hb] at hx; cases hx)
  refine ⟨w2, hr, ⟨⟨_, hD2, fun j => ?_, fun j => ?_⟩, fun j => ?_, fun i j hij => ?_⟩, hg2⟩
  · by_cases e : j = k
    · subst e; rw [upd_same]; exact atKey_put_same (k := .int .i64 j) hD1.isMap trivial _ _
    · rw [upd_other _ _ e, atKey_put_other (fun h => e (by simpa using h))]; exact h1 j
  · by_cases e : j = k
    · subst e; rw [upd_same, has_put_same (k := .int .i64 j) hD1.isMap trivial]; simp [hl]
    · rw [upd_other _ _ e, has_put_other (fun h => e (by simpa using h))]; exact h2 j
  · by_cases e : j = k
    · subst e; rw [upd_same, upd_same]; exact hrows _ _ _ hrow
    · rw [upd_other _ _ e, upd_other _ _ e]
      refine hrows _ _ _ ((h.row j).kept hg ?_)
      rcases hj : (g j).ownBlock with _ | q
      · exact .inl rfl
      · exact .inr fun e2 => h.apart j k e q hj e2.symm
  · by_cases ei : i = k
    · subst ei
      have ej : j ≠ i := fun e => hij e.symm
      rw [upd_same, upd_other _ _ ej]
      intro q hq hq2
      rcases hloc with e2 | ⟨r, e2, e3⟩
      · rw [e2] at hq; exact h.apart i j hij q hq hq2
      · rw [e2] at hq; simp at hq; subst hq; have := ((h.row j).lt r hq2).2; omega
    · by_cases ej : j = k
      · subst ej
        rw [upd_same, upd_other _ _ ei]
        intro q hq hq2
        rcases hloc with e2 | ⟨r, e2, e3⟩
        · rw [e2] at hq2; exact h.apart i j hij q hq hq2
        · rw [e2] at hq2; simp at hq2; subst hq2; have := ((h.row i).lt r hq).2; omega
      · rw [upd_other _ _ ei, upd_other _ _ ej]; exact h.apart i j hij
/-- The keys of such a map, sorted. -/
theorem Chm.keys {w : World} {base b n : Nat} {f : Int → List XV} {g : Int → Value} (h : Chm w base b n f g) : ∃ D : DataW Value, w.ownsMap Try.prog 3 heldR b n D ∧ ∀ ss : List Int, ss.Perm (intKeys D) → (ss.mergeSort (fun x y => decide (x ≤ y))).Pairwise (· < ·) ∧ ∀ k, k ∈ ss.mergeSort (fun x y => decide (x ≤ y)) ↔ f k ≠ [] := by
  obtain ⟨D, hD, _, h2⟩ := h.own
  refine ⟨D, hD, fun ss hp => ?_⟩
  obtain ⟨es, hDe, hpw, _⟩ := hD.entries keyedI
  obtain ⟨es', hD', hko⟩ := hD.keysOf
  obtain rfl : es = es' := by rw [hDe] at hD'; simpa using hD'
  subst hDe
  have hk : ∀ p ∈ es, ∃ x, p.1 = .int .i64 x := fun p hp => by obtain ⟨v, hv⟩ := hko p hp; obtain ⟨x, _, hx, _⟩ := Maps.keyOf_i64 Try.underlying3 hv; exact ⟨x, hx⟩
  have hnd : (intKeys (DataW.map es)).Nodup := by
    show (es.map fun p => Go.intOf p.1).Nodup
    refine List.pairwise_map.2 (hpw.imp_of_mem fun {p q} hp' hq' hne e => hne ?_)
    obtain ⟨a, ha⟩ := hk p hp'
    obtain ⟨b, hb⟩ := hk q hq'
    rw [ha, hb] at e ⊢
    exact congrArg _ e
  have hmem : ∀ x, x ∈ intKeys (DataW.map es) ↔ Maps.has (DataW.map es) (.int .i64 x) = true := fun x => by
    rw [has_eq, List.any_eq_true]
    show x ∈ (es.map fun p => Go.intOf p.1) ↔ _
    rw [List.mem_map]
    constructor
    · rintro ⟨p, hp', rfl⟩
      obtain ⟨a, ha⟩ := hk p hp'
      exact ⟨p, hp', by rw [ha]; simp [Lit.sameKey, Go.intOf]⟩
    · rintro ⟨p, hp', hs⟩
      obtain ⟨a, ha⟩ := hk p hp'
      rw [ha] at hs
      exact ⟨p, hp', by rw [ha]; simpa [Lit.sameKey, Go.intOf] using hs⟩
  have hps := (List.mergeSort_perm ss (fun x y => decide (x ≤ y))).trans hp
  refine ⟨?_, fun k => by rw [hps.mem_iff, hmem, h2]⟩
  have tr : ∀ a b c : Int, decide (a ≤ b) = true → decide (b ≤ c) = true → decide (a ≤ c) = true := fun a b c h1 h2 => by simp only [decide_eq_true_eq] at *; omega
  have to : ∀ a b : Int, (decide (a ≤ b) || decide (b ≤ a)) = true := fun a b => by simp only [Bool.or_eq_true, decide_eq_true_eq]; omega
  have h3 := List.pairwise_mergeSort tr to ss
  have h4 : (ss.mergeSort (fun x y => decide (x ≤ y))).Nodup := hps.nodup_iff.2 hnd
  refine (List.Pairwise.and h3 h4).imp fun {a b} hab => ?_
  have h5 := hab.1
  simp only [decide_eq_true_eq] at h5
  have := hab.2
  omega
end Go.Proofs.Ythlmodafadfnfaa

/- The program's map of versions by key. -/
namespace Go.Proofs.Ythlmodafadfnfaa
open Go.ChangeShapes Go.WideShapes Go.ChangeAt Go.RowKit

theorem okV_key {v : V} (h : okV v = true) : 0 ≤ v.k ∧ v.k ≤ 5 := by
  unfold okV verB numsB inB at h; simp at h; omega
theorem grp_snoc (l : List V) (v : V) (j : Int) : grp (l ++ [v]) j = if j = v.k then grp l j ++ [v] else grp l j := by
  unfold grp; rw [List.filter_append]
  by_cases e : j = v.k
  · subst e; rw [if_pos rfl]; simp
  · have e2 : ¬ v.k = j := fun h => e h.symm
    rw [if_neg e]; simp [e2]
theorem grp_le (l : List V) (j : Int) : (grp l j).length ≤ l.length := List.length_filter_le _ _

/-- An append at a step of a region that draws its order, with the place where the new slice lies. -/
theorem step_append_at {P : Program} (w : World) {ops : Array Oper} {o : Oper} {a : Act} {K : Act → World → Prop} {Q : Exit → Act → World → Prop} {E : Prop} (hgd : o.guard = none) (s x : Operand) (t : TypeId)
    (ho : o.op = .call { callee := .builtin .append, args := #[s, x], argTypes := #[t, t] })
    (base : Nat) (e : TypeId) (i : TypeInfo) (z : Value) (size bytes : Nat) (ht : P.underlying t = some (.slice e)) (hi : P.info? e = some i) (hz : i.zero = some z)
    (hsize : i.size = size) (hby : i.bytes = bytes) (hzs : z.cells.size = size) (hsz : 0 < size)
    (v : Value) (n : Nat) (xs : List Value) (hs : a.eval s = v) (hown : w.ownsRow base e size v n xs)
    (ad : Addr) (m c : Nat) (news : List Value) (hx : a.eval x = .slice (some ad) m c) (hl : news.length = m * size) (hnews : ∀ j u, news[j]? = some u → w.cell? (ad.add j) = some u) (h1 : ∀ u ∈ news, u.oneCell' = true)
    (h63 : n + m ≤ maxLen) (hbytes : (n + m) * bytes ≤ 140737488355328) (hbase : base ≤ w.heap.size)
    (h : ∀ v' w', w'.ownsRow base e size v' (n + m) (xs ++ news) → w.grownBy w' v.ownBlock → (v'.ownBlock = v.ownBlock ∨ v'.ownBlock = some w.heap.size) → K (a.put o.dst v') w') :
    if Region.wanted o (yielded ops a.tmps) = true then Oper.wp P o a w K Q else E := by
  have hw : Region.wanted o (yielded ops a.tmps) = true := by simp [Region.wanted, hgd]
  rw [if_pos hw]
  obtain ⟨v', w', hr, h2, h3, _, h5⟩ := run_append_own_at (P := P) w base t o.type e i z size bytes ht hi hz hsize hby hzs hsz v n xs hown ad m c news hl hnews h1 h63 hbytes hbase
  unfold Oper.wp execOp
  simp only [ho, resolve, invoke, builtin, Sem.run_bind, Sem.run_pure, Result.andThen_ok, List.map_toArray, List.map_cons, List.map_nil, hs, hx, hr]
  exact h v' w' h2 h3 h5
/-- A store into a map at such a step. -/
theorem step_update {P : Program} (w : World) {ops : Array Oper} {o : Oper} {a : Act} {K : Act → World → Prop} {Q : Exit → Act → World → Prop} {E : Prop} (hgd : o.guard = none) (m x v : Operand) (t : TypeId)
    (hop : o.op = Op.mapUpdate t m x v) (mv kv vv : Value) (hm : a.eval m = mv) (hx : a.eval x = kv) (hv : a.eval v = vv) (w' : World) (hr : (Instr.mapUpdate t mv kv vv).run P w = .ok () w')
    (h : K (a.put o.dst undef) w') : if Region.wanted o (yielded ops a.tmps) = true then Oper.wp P o a w K Q else E := by
  have hw : Region.wanted o (yielded ops a.tmps) = true := by simp [Region.wanted, hgd]
  rw [if_pos hw]
  unfold Oper.wp
  simp [execOp, hop, hm, hx, hv, hr, Result.andThen]
  exact h

theorem iChainOf_no (a : Option Addr) (cap : Nat) (vs : List V) (w : World) (hn : vs.length ≤ 1099511627776) (h : Vers w a vs) (hc : chainB vs = false) :
    Calls Try.prog 67 #[.slice a vs.length cap] w fun e w' => e = .returned (.tuple #[.map none, .bool false]) ∧ Below w.heap.size w w' := by
  have hC := iChainOk_any a cap vs w hn h
  rw [hc] at hC
  go_enter Try.func67, Try.ntmps67
  go_wp2_with fail
  refine hC.mono ?_
  rintro e w1 ⟨rfl, hb1⟩
  clear hC
  go_wp2_with fail
  go_ret2
  exact ⟨rfl, hb1⟩

set_option maxHeartbeats 4000000 in
set_option maxRecDepth 100000 in
theorem iChainOf_yes (a : Option Addr) (cap : Nat) (vs : List V) (w : World) (hn : vs.length ≤ 1099511627776) (h : Vers w a vs) (hc : chainB vs = true) :
    Calls Try.prog 67 #[.slice a vs.length cap] w fun e w' => ∃ b f g, e = .returned (.tuple #[.map (some b), .bool true]) ∧ w.heap.size ≤ b ∧ Chm w' w.heap.size b vs.length f g ∧ (∀ j, (f j).map XV.v = grp vs j) ∧ (∀ j, ∀ x ∈ f j, GoodX w x) ∧ Below w.heap.size w w' := by
  have hC := iChainOk_any a cap vs w hn h
  obtain ⟨hl80, hP⟩ := chainB_iff.1 hc
  rw [hc] at hC
  obtain ⟨i0, hi, hz0, hz1, hz2⟩ := info_parts infoVer
  clear hc hn
  go_enter Try.func67, Try.ntmps67
  go_wp2_with fail
  refine hC.mono ?_
  rintro e w1 ⟨rfl, hb1⟩
  clear hC
  have hmm := @run_makeMap Try.prog
  have C0 := Chm.made w1 w.heap.size
  have B0 := hb1.alloc hb1.size (.map #[] 0)
  have hbb := hb1.size
  go_wp2_with fail
  clear hmm hb1
  generalize w1.heap.size = b at *
  go_loopw [13] (fun i wr => ∃ (k : Nat) (f : Int → List XV) (g : Int → Value), k ≤ vs.length ∧ i = .int .i64 k ∧ Chm wr w.heap.size b k f g ∧ Hid ((∀ j, (f j).map XV.v = grp (vs.take k) j) ∧ ∀ j, ∀ x ∈ f j, GoodX w x) ∧ Below w.heap.size w wr) (fun i _ => vs.length - (intOf i).toNat)
  case atStart => exact ⟨0, _, _, Nat.zero_le _, rfl, C0, ⟨fun j => rfl, fun j x hx => (by cases hx)⟩, B0⟩
  case round =>
    obtain ⟨k, f, g, hk, rfl, hM, HF, hB⟩ := hrel
    clear C0 B0
    by_cases hlt : k < vs.length
    · obtain ⟨bb, o, da, dc, rfl, hbx, hv0⟩ := h.at hlt
      have hv := hv0.below hB
      have HS : Hid (vs.take (k + 1) = vs.take k ++ [vs[k]]) := takeV vs k hlt
      obtain ⟨k0, k5⟩ := okV_key (hP.1 vs[k] (List.getElem_mem hlt))
      have hfl : (f vs[k].k).length ≤ 80 := by
        have := congrArg List.length (HF.out.1 vs[k].k)
        have h2 := grp_le (vs.take k) vs[k].k
        simp at this h2; omega
      obtain ⟨c0, c1, c2, c3, c4, c5, c6, hd, hdl⟩ := hv
      generalize vs[k] = v at *
      have hG : GoodX w ⟨v, .slice da v.ds.length dc⟩ := ⟨da, dc, rfl, hv0.ds, hdl⟩
      have hgb : ∀ j, (g v.k).ownBlock = some j → j < wr.heap.size := fun j hj => ((hM.row v.k).lt j hj).2
      have bW := (Below.refl wr.heap.size wr).alloc (Nat.le_refl _) (.cells #[.int .i64 v.k, .int .i64 v.t, .int .i64 v.s, .int .i64 v.val, .int .i64 v.cl, .int .i64 v.ca, .slice da v.ds.length dc] 28)
      have N0 := Blk.new wr #[.int .i64 v.k, .int .i64 v.t, .int .i64 v.s, .int .i64 v.val, .int .i64 v.cl, .int .i64 v.ca, .slice da v.ds.length dc] 28
      have M0 := hM.below bW
      have B1 := hB.alloc hB.size (.cells #[.int .i64 v.k, .int .i64 v.t, .int .i64 v.s, .int .i64 v.val, .int .i64 v.cl, .int .i64 v.ca, .slice da v.ds.length dc] 28)
      have lL := N0.lt
      have lw := hB.size
      go_wp2_with fail
      clear c0 c1 c2 c3 c4 c5 c6 hd hv0 hM bW hB
      generalize wr.alloc (.cells #[.int .i64 v.k, .int .i64 v.t, .int .i64 v.s, .int .i64 v.val, .int .i64 v.cl, .int .i64 v.ca, .slice da v.ds.length dc] 28) = W0 at *
      generalize wr.heap.size = LB at *
      have wf := wf_key k0 k5
      have M1 := M0.below ((Below.refl _ W0).alloc (Nat.le_refl _) (.cells #[.int .i64 v.k, .int .i64 v.t, .int .i64 v.s, .int .i64 v.val, .int .i64 v.cl, .int .i64 v.ca, .slice da v.ds.length dc] 28))
      have g1 := M0.look wf
      have g2 : (Instr.lookup 85 (.map (some b)) (.int .i64 v.k) false).run Try.prog W0.drew = .ok (g v.k) W0.drew := (M0.below (Below.refl _ W0).drew).look wf
      have g3 : (Instr.lookup 85 (.map (some b)) (.int .i64 v.k) false).run Try.prog (W0.drew.alloc (.cells #[.int .i64 v.k, .int .i64 v.t, .int .i64 v.s, .int .i64 v.val, .int .i64 v.cl, .int .i64 v.ca, .slice da v.ds.length dc] 28)) = .ok (g v.k) (W0.drew.alloc (.cells #[.int .i64 v.k, .int .i64 v.t, .int .i64 v.s, .int .i64 v.val, .int .i64 v.cl, .int .i64 v.ca, .slice da v.ds.length dc] 28)) := (M0.below ((Below.refl _ W0).drew.alloc (Nat.le_refl _) (.cells #[.int .i64 v.k, .int .i64 v.t, .int .i64 v.s, .int .i64 v.val, .int .i64 v.cl, .int .i64 v.ca, .slice da v.ds.length dc] 28))).look wf
      have g4 : (Instr.lookup 85 (.map (some b)) (.int .i64 v.k) false).run Try.prog (W0.alloc (.cells #[.int .i64 v.k, .int .i64 v.t, .int .i64 v.s, .int .i64 v.val, .int .i64 v.cl, .int .i64 v.ca, .slice da v.ds.length dc] 28)).drew = .ok (g v.k) (W0.alloc (.cells #[.int .i64 v.k, .int .i64 v.t, .int .i64 v.s, .int .i64 v.val, .int .i64 v.cl, .int .i64 v.ca, .slice da v.ds.length dc] 28)).drew := (M0.below ((Below.refl _ W0).alloc (Nat.le_refl _) (.cells #[.int .i64 v.k, .int .i64 v.t, .int .i64 v.s, .int .i64 v.val, .int .i64 v.cl, .int .i64 v.ca, .slice da v.ds.length dc] 28)).drew).look wf
      have g5 : (Instr.lookup 85 (.map (some b)) (.int .i64 v.k) false).run Try.prog (W0.alloc (.cells #[.int .i64 v.k, .int .i64 v.t, .int .i64 v.s, .int .i64 v.val, .int .i64 v.cl, .int .i64 v.ca, .slice da v.ds.length dc] 28)) = .ok (g v.k) (W0.alloc (.cells #[.int .i64 v.k, .int .i64 v.t, .int .i64 v.s, .int .i64 v.val, .int .i64 v.cl, .int .i64 v.ca, .slice da v.ds.length dc] 28)) := (M0.below ((Below.refl _ W0).alloc (Nat.le_refl _) (.cells #[.int .i64 v.k, .int .i64 v.t, .int .i64 v.s, .int .i64 v.val, .int .i64 v.cl, .int .i64 v.ca, .slice da v.ds.length dc] 28))).look wf
      have rA : (W0.drew.alloc (.cells #[.int .i64 v.k, .int .i64 v.t, .int .i64 v.s, .int .i64 v.val, .int .i64 v.cl, .int .i64 v.ca, .slice da v.ds.length dc] 28)).ownsRow w.heap.size 28 7 (g v.k) (f v.k).length (flat7 (f v.k)) := (M0.below ((Below.refl _ W0).drew.alloc (Nat.le_refl _) (.cells #[.int .i64 v.k, .int .i64 v.t, .int .i64 v.s, .int .i64 v.val, .int .i64 v.cl, .int .i64 v.ca, .slice da v.ds.length dc] 28))).row v.k
      have nA : ∀ (j : Nat) (u : Value), (flat7 [⟨v, .slice da v.ds.length dc⟩])[j]? = some u → (W0.drew.alloc (.cells #[.int .i64 v.k, .int .i64 v.t, .int .i64 v.s, .int .i64 v.val, .int .i64 v.cl, .int .i64 v.ca, .slice da v.ds.length dc] 28)).cell? ((Addr.mk W0.heap.size 0 none).add j) = some u := cells7 (x := ⟨v, .slice da v.ds.length dc⟩) (Blk.new W0.drew #[.int .i64 v.k, .int .i64 v.t, .int .i64 v.s, .int .i64 v.val, .int .i64 v.cl, .int .i64 v.ca, .slice da v.ds.length dc] 28)
      have oA : ∀ u ∈ flat7 [⟨v, .slice da v.ds.length dc⟩], u.oneCell' = true := flat7_one (fun z hz => by simp at hz; subst hz; rfl)
      have s0 : Hid (W0.cell? ⟨LB, 0, none⟩ = some (.int .i64 v.k) ∧ W0.cell? ⟨LB, 1, none⟩ = some (.int .i64 v.t) ∧ W0.cell? ⟨LB, 2, none⟩ = some (.int .i64 v.s) ∧ W0.cell? ⟨LB, 3, none⟩ = some (.int .i64 v.val) ∧ W0.cell? ⟨LB, 4, none⟩ = some (.int .i64 v.cl) ∧ W0.cell? ⟨LB, 5, none⟩ = some (.int .i64 v.ca) ∧ W0.cell? ⟨LB, 6, none⟩ = some (.slice da v.ds.length dc)) := by
        obtain ⟨q, _⟩ := N0.rules
        exact ⟨q 0, q 1, q 2, q 3, q 4, q 5, q 6⟩
      have N1 := N0.below ((Below.refl _ W0).drew.alloc (Nat.le_refl _) (.cells #[.int .i64 v.k, .int .i64 v.t, .int .i64 v.s, .int .i64 v.val, .int .i64 v.cl, .int .i64 v.ca, .slice da v.ds.length dc] 28)) lL
      have sA : Hid ((W0.alloc (.cells #[.int .i64 v.k, .int .i64 v.t, .int .i64 v.s, .int .i64 v.val, .int .i64 v.cl, .int .i64 v.ca, .slice da v.ds.length dc] 28)).cell? ⟨LB, 0, none⟩ = some (.int .i64 v.k) ∧ (W0.alloc (.cells #[.int .i64 v.k, .int .i64 v.t, .int .i64 v.s, .int .i64 v.val, .int .i64 v.cl, .int .i64 v.ca, .slice da v.ds.length dc] 28)).cell? ⟨LB, 1, none⟩ = some (.int .i64 v.t) ∧ (W0.alloc (.cells #[.int .i64 v.k, .int .i64 v.t, .int .i64 v.s, .int .i64 v.val, .int .i64 v.cl, .int .i64 v.ca, .slice da v.ds.length dc] 28)).cell? ⟨LB, 2, none⟩ = some (.int .i64 v.s) ∧ (W0.alloc (.cells #[.int .i64 v.k, .int .i64 v.t, .int .i64 v.s, .int .i64 v.val, .int .i64 v.cl, .int .i64 v.ca, .slice da v.ds.length dc] 28)).cell? ⟨LB, 3, none⟩ = some (.int .i64 v.val) ∧ (W0.alloc (.cells #[.int .i64 v.k, .int .i64 v.t, .int .i64 v.s, .int .i64 v.val, .int .i64 v.cl, .int .i64 v.ca, .slice da v.ds.length dc] 28)).cell? ⟨LB, 4, none⟩ = some (.int .i64 v.cl) ∧ (W0.alloc (.cells #[.int .i64 v.k, .int .i64 v.t, .int .i64 v.s, .int .i64 v.val, .int .i64 v.cl, .int .i64 v.ca, .slice da v.ds.length dc] 28)).cell? ⟨LB, 5, none⟩ = some (.int .i64 v.ca) ∧ (W0.alloc (.cells #[.int .i64 v.k, .int .i64 v.t, .int .i64 v.s, .int .i64 v.val, .int .i64 v.cl, .int .i64 v.ca, .slice da v.ds.length dc] 28)).cell? ⟨LB, 6, none⟩ = some (.slice da v.ds.length dc)) := by
        obtain ⟨q, _⟩ := N1.rules
        exact ⟨q 0, q 1, q 2, q 3, q 4, q 5, q 6⟩
      have sB : w.heap.size ≤ (W0.drew.alloc (.cells #[.int .i64 v.k, .int .i64 v.t, .int .i64 v.s, .int .i64 v.val, .int .i64 v.cl, .int .i64 v.ca, .slice da v.ds.length dc] 28)).heap.size := Nat.le_trans B1.size (by simp)
      have h63 : (f v.k).length + 1 ≤ maxLen := by unfold maxLen; omega
      have hby : ((f v.k).length + 1) * 72 ≤ 140737488355328 := by omega
      go_region_held3 (fun W => W.cell? ⟨LB, 0, none⟩ = some (.int .i64 v.k) ∧ W.cell? ⟨LB, 1, none⟩ = some (.int .i64 v.t) ∧ W.cell? ⟨LB, 2, none⟩ = some (.int .i64 v.s) ∧ W.cell? ⟨LB, 3, none⟩ = some (.int .i64 v.val) ∧ W.cell? ⟨LB, 4, none⟩ = some (.int .i64 v.cl) ∧ W.cell? ⟨LB, 5, none⟩ = some (.int .i64 v.ca) ∧ W.cell? ⟨LB, 6, none⟩ = some (.slice da v.ds.length dc)) (first | (rw [s3.out.1, s3.out.2.1, s3.out.2.2.1, s3.out.2.2.2.1, s3.out.2.2.2.2.1, s3.out.2.2.2.2.2.1, s3.out.2.2.2.2.2.2]; exact ⟨rfl, rfl, rfl, rfl, rfl, rfl, rfl⟩) | (rw [s2.out.1, s2.out.2.1, s2.out.2.2.1, s2.out.2.2.2.1, s2.out.2.2.2.2.1, s2.out.2.2.2.2.2.1, s2.out.2.2.2.2.2.2]; exact ⟨rfl, rfl, rfl, rfl, rfl, rfl, rfl⟩) | exact sA.out | exact s0.out)
        (first
          | (refine step_append_at _ (by rfl) _ _ 23 (by rfl) w.heap.size 28 i0 (.agg #[.int .i64 0, .int .i64 0, .int .i64 0, .int .i64 0, .int .i64 0, .int .i64 0, .slice none 0 0]) 7 72 Try.underlying23 hi hz0 hz1 hz2 rfl (by decide) (g v.k) (f v.k).length (flat7 (f v.k)) (by rfl) rA ⟨W0.heap.size, 0, none⟩ 1 1 (flat7 [⟨v, .slice da v.ds.length dc⟩]) (by rfl) rfl nA oA h63 hby sB ?_
             intro v1 W2 own1 grow1 loc1
             have gAll : W0.grownBy W2 (g v.k).ownBlock := (World.grownBy.mk (w := W0) (w' := W0.drew.alloc (.cells #[.int .i64 v.k, .int .i64 v.t, .int .i64 v.s, .int .i64 v.val, .int .i64 v.cl, .int .i64 v.ca, .slice da v.ds.length dc] 28)) rfl rfl rfl (by simp) (fun j hj _ => Below.heap_alloc W0.drew _ j hj)).trans grow1
             have N2 := N0.grown gAll (fun e => by have := hgb LB e.symm; omega)
             have s2 : Hid (W2.cell? ⟨LB, 0, none⟩ = some (.int .i64 v.k) ∧ W2.cell? ⟨LB, 1, none⟩ = some (.int .i64 v.t) ∧ W2.cell? ⟨LB, 2, none⟩ = some (.int .i64 v.s) ∧ W2.cell? ⟨LB, 3, none⟩ = some (.int .i64 v.val) ∧ W2.cell? ⟨LB, 4, none⟩ = some (.int .i64 v.cl) ∧ W2.cell? ⟨LB, 5, none⟩ = some (.int .i64 v.ca) ∧ W2.cell? ⟨LB, 6, none⟩ = some (.slice da v.ds.length dc)) := by
               obtain ⟨q, _⟩ := N2.rules
               exact ⟨q 0, q 1, q 2, q 3, q 4, q 5, q 6⟩
             have hrow2 : W2.ownsRow w.heap.size 28 7 v1 (f v.k ++ [XV.mk v (.slice da v.ds.length dc)]).length (flat7 (f v.k ++ [XV.mk v (.slice da v.ds.length dc)])) := by rw [flat7_append, List.length_append]; exact own1
             obtain ⟨W3, hup, M3, grow3⟩ := M0.store wf (by omega) (by simp) gAll hrow2 (loc1.imp id fun e => ⟨_, e, by simp⟩)
             have N3 := N2.grown grow3 (fun e => by simp at e; subst e; obtain ⟨D, hD, _⟩ := M0.own; obtain ⟨es, cl, hb, _⟩ := hD; have := N0; unfold Blk at this; rw [hb] at this; cases this)
             have s3 : Hid (W3.cell? ⟨LB, 0, none⟩ = some (.int .i64 v.k) ∧ W3.cell? ⟨LB, 1, none⟩ = some (.int .i64 v.t) ∧ W3.cell? ⟨LB, 2, none⟩ = some (.int .i64 v.s) ∧ W3.cell? ⟨LB, 3, none⟩ = some (.int .i64 v.val) ∧ W3.cell? ⟨LB, 4, none⟩ = some (.int .i64 v.cl) ∧ W3.cell? ⟨LB, 5, none⟩ = some (.int .i64 v.ca) ∧ W3.cell? ⟨LB, 6, none⟩ = some (.slice da v.ds.length dc)) := by
               obtain ⟨q, _⟩ := N3.rules
               exact ⟨q 0, q 1, q 2, q 3, q 4, q 5, q 6⟩
             have B3 : Below w.heap.size w W3 := (B1.grown gAll B1.size (fun j hj => ((M0.row v.k).lt j hj).1)).grown grow3 (Nat.le_trans B1.size gAll.size) (fun j hj => by simp at hj; omega)
             clear own1 grow1 loc1 gAll N2 N3 hrow2 grow3 g1 g2 g3 g4 g5 rA nA oA N1 N0 M1 sB)
          | (refine step_update _ (by rfl) _ _ _ 85 (by rfl) (.map (some b)) (.int .i64 v.k) v1 (by rfl) (by rfl) (by rfl) W3 hup ?_))
      all_goals
        clear s0 sA s2 s3
        go_wp2_with fail
        go_roundw
        case rel =>
          refine ⟨k + 1, _, _, by omega, by go_num, M3, ⟨fun j => ?_, fun j x hx => ?_⟩, B3⟩
          · rw [HS.out, grp_snoc]
            by_cases e : j = v.k
            · subst e; rw [upd_same, if_pos rfl, List.map_append, HF.out.1]; rfl
            · rw [upd_other _ _ e, if_neg e, HF.out.1]
          · by_cases e : j = v.k
            · subst e
              rw [upd_same] at hx
              rcases List.mem_append.1 hx with hx | hx
              · exact HF.out.2 _ x hx
              · simp at hx; subst hx; exact hG
            · rw [upd_other _ _ e] at hx; exact HF.out.2 j x hx
        case measure => simp [intOf]; omega
    · have hk2 : k = vs.length := by omega
      subst hk2
      rw [List.take_length] at HF
      go_wp2_with fail
      go_ret2
      exact ⟨b, f, g, rfl, hbb, hM, HF.out.1, HF.out.2, hB⟩
end Go.Proofs.Ythlmodafadfnfaa

/- The program's search among versions of a key. -/
namespace Go.Proofs.Ythlmodafadfnfaa
open Go.ChangeShapes Go.WideShapes Go.ChangeAt Go.RowKit

set_option maxHeartbeats 4000000 in
theorem against_any (v : V) (da : Option Addr) (n dc : Nat) (t s : Int) (w : World) :
    Calls Try.prog 111 #[verV v.k v.t v.s v.val v.cl v.ca da n dc, stampV t s] w fun e w' => e = .returned (.int .i64 (ordV v.t v.s t s)) ∧ Below w.heap.size w w' := by
  obtain ⟨k, t', s', val, cl, ca, ds⟩ := v
  go_enter Try.func111, Try.ntmps111
  go_wp2
  go_region_with (first | (go_at_call 77; refine (then_any _).mono ?_; rintro e w1 ⟨rfl, rfl⟩) | (go_at_call 109; refine (order_any _ _ _ _ _ _ _ ?_ ?_).mono ?_; go_simp; go_simp; rintro e w1 ⟨rfl, hb⟩))
  all_goals
    go_wp2
    go_ret
    exact ⟨rfl, ((((((Below.refl _ _).alloc (Nat.le_refl _) _).alloc (by simp) _).alloc (by simp; omega) _).alloc (by simp; omega) _).drew).trans (hb.mono (by simp; omega))⟩
end Go.Proofs.Ythlmodafadfnfaa

/- The program's search among versions of a key. -/
namespace Go.Proofs.Ythlmodafadfnfaa
open Go.ChangeShapes Go.WideShapes Go.ChangeAt Go.RowKit

/-- Whether a stamp is among versions of one key. -/
def thr (gs : List V) (t s : Int) : Bool := (gs.find? fun v => decide (v.t = t ∧ v.s = s)).isSome
theorem ord_zero (t s t' s' : Int) : (ordV t s t' s' = 0) ↔ (t = t' ∧ s = s') := by
  unfold ordV cmpV
  by_cases h1 : t < t' <;> by_cases h2 : t' < t <;> by_cases h3 : s < s' <;> by_cases h4 : s' < s <;> simp [*] <;> omega
theorem against_is {v : V} {t s : Int} {r : Int} (h : ordV v.t v.s t s = r) {da : Option Addr} {n dc : Nat} {w : World} :
    Calls Try.prog 111 #[verV v.k v.t v.s v.val v.cl v.ca da n dc, stampV t s] w fun e w' => e = .returned (.int .i64 r) ∧ Below w.heap.size w w' := by rw [← h]; exact against_any v da n dc t s w
theorem lessB_trans {a b c d e f : Int} (h : lessB a b c d = true) (h' : lessB c d e f = true) : lessB a b e f = true := by unfold lessB at *; simp at *; omega
theorem lessB_irr (a b : Int) : lessB a b a b = false := by unfold lessB; simp
/-- What the search knows: all ahead of l are ahead of the stamp, none from h on is. -/
def Sought (gs : List V) (t s : Int) (l h : Nat) : Prop := (∀ j, (hj : j < gs.length) → j < l → lessB gs[j].t gs[j].s t s = true) ∧ (∀ j, (hj : j < gs.length) → h ≤ j → lessB gs[j].t gs[j].s t s = false)
theorem Sought.up {gs : List V} {t s : Int} {l h m : Nat} (hs : Sought gs t s l h) (ha : gs.Pairwise (fun a b => lessB a.t a.s b.t b.s = true)) (hm : m < gs.length) (hl : lessB gs[m].t gs[m].s t s = true) : Sought gs t s (m + 1) h := by
  refine ⟨fun j hj hjm => ?_, hs.2⟩
  by_cases e : j = m
  · subst e; exact hl
  · exact lessB_trans (List.pairwise_iff_getElem.1 ha j m hj hm (by omega)) hl
theorem Sought.down {gs : List V} {t s : Int} {l h m : Nat} (hs : Sought gs t s l h) (ha : gs.Pairwise (fun a b => lessB a.t a.s b.t b.s = true)) (hm : m < gs.length) (hl : lessB gs[m].t gs[m].s t s = false) : Sought gs t s l m := by
  refine ⟨hs.1, fun j hj hjm => ?_⟩
  by_cases e : j = m
  · subst e; exact hl
  · cases hh : lessB gs[j].t gs[j].s t s
    · rfl
    · have := lessB_trans (List.pairwise_iff_getElem.1 ha m j hm hj (by omega)) hh
      rw [hl] at this; cases this
theorem Sought.plc {gs : List V} {t s : Int} {l : Nat} (hs : Sought gs t s l l) (hl : l ≤ gs.length) : plc gs t s = l := plc_eq gs t s l hl (fun j hj h => hs.1 j hj h) (fun h => hs.2 l h (Nat.le_refl _))
theorem thr_at {gs : List V} {t s : Int} {l : Nat} (hs : Sought gs t s l l) (ha : gs.Pairwise (fun a b => lessB a.t a.s b.t b.s = true)) (hl : l < gs.length) : thr gs t s = decide (gs[l].t = t ∧ gs[l].s = s) ∧ (gs[l].t = t ∧ gs[l].s = s → gs.find? (fun v => decide (v.t = t ∧ v.s = s)) = some gs[l]) := by
  have h0 : ∀ v ∈ gs.take l, ¬ (v.t = t ∧ v.s = s) := fun v hv e => by
    obtain ⟨j, hj, rfl⟩ := List.getElem_of_mem hv
    rw [List.length_take] at hj
    simp only [List.getElem_take] at e
    have := hs.1 j (by omega) (by omega)
    rw [e.1, e.2, lessB_irr] at this; cases this
  have h1 : (gs.take l).find? (fun v => decide (v.t = t ∧ v.s = s)) = none := List.find?_eq_none.2 fun v hv => by simpa using h0 v hv
  have e : gs = gs.take l ++ gs[l] :: gs.drop (l + 1) := by rw [← List.drop_eq_getElem_cons hl, List.take_append_drop]
  have h2 : gs.find? (fun v => decide (v.t = t ∧ v.s = s)) = (gs[l] :: gs.drop (l + 1)).find? (fun v => decide (v.t = t ∧ v.s = s)) := by
    rw [congrArg (List.find? fun v : V => decide (v.t = t ∧ v.s = s)) e, List.find?_append, h1]; simp
  by_cases hq : gs[l].t = t ∧ gs[l].s = s
  · have h3 : gs.find? (fun v => decide (v.t = t ∧ v.s = s)) = some gs[l] := by rw [h2, List.find?_cons]; simp [hq]
    exact ⟨by unfold thr; rw [h3]; simp [hq], fun _ => h3⟩
  · refine ⟨?_, fun h => absurd h hq⟩
    have h3 : gs.find? (fun v => decide (v.t = t ∧ v.s = s)) = none := by
      rw [h2, List.find?_eq_none]
      intro v hv
      rcases List.mem_cons.1 hv with rfl | hv
      · simpa using hq
      · obtain ⟨j, hj, rfl⟩ := List.getElem_of_mem hv
        simp only [List.getElem_drop]
        simp at hj
        intro e2
        simp at e2
        have h5 := List.pairwise_iff_getElem.1 ha l (l + 1 + j) hl (by omega) (by omega)
        rw [e2.1, e2.2, hs.2 l hl (Nat.le_refl _)] at h5; cases h5
    unfold thr; rw [h3]; simp [hq]
theorem thr_end {gs : List V} {t s : Int} (hs : Sought gs t s gs.length gs.length) : thr gs t s = false := by
  unfold thr
  rw [List.find?_eq_none.2]
  · rfl
  · intro v hv
    obtain ⟨j, hj, rfl⟩ := List.getElem_of_mem hv
    have := hs.1 j hj hj
    intro e
    simp at e
    rw [e.1, e.2, lessB_irr] at this; cases this

set_option maxHeartbeats 4000000 in
set_option maxRecDepth 100000 in
theorem placeOf_any (a : Option Addr) (cap : Nat) (gs : List V) (t s : Int) (w : World) (hn : gs.length ≤ 100) (ha : gs.Pairwise (fun a b => lessB a.t a.s b.t b.s = true)) (h : Vers w a gs) :
    Calls Try.prog 110 #[.slice a gs.length cap, stampV t s, .func (.func 111) #[] #[]] w fun e w' => e = .returned (.tuple #[.int .i64 (plc gs t s), .bool (thr gs t s)]) ∧ Below w.heap.size w w' := by
  have S1 := Blk.new w #[.int .i64 t, .int .i64 s] 25
  have b0 : Below w.heap.size w (w.alloc (.cells #[.int .i64 t, .int .i64 s] 25)) := (Below.refl _ w).alloc (Nat.le_refl _) _
  have h1 := h.below b0
  have hp := S1.lt
  clear h
  go_enter Try.func110, Try.ntmps110
  go_wp2
  generalize w.alloc (.cells #[.int .i64 t, .int .i64 s] 25) = W1 at *
  go_loopw [8, 9] (fun lo hi wr => ∃ l h : Nat, l ≤ h ∧ h ≤ gs.length ∧ lo = .int .i64 l ∧ hi = .int .i64 h ∧ Hid (Sought gs t s l h) ∧ Below W1.heap.size W1 wr) (fun lo hi _ => (intOf hi - intOf lo).toNat)
  case atStart => exact ⟨0, gs.length, Nat.zero_le _, Nat.le_refl _, rfl, rfl, ⟨fun j hj h => absurd h (Nat.not_lt_zero _), fun j hj h => absurd hj (by omega)⟩, Below.refl _ _⟩
  case round =>
    obtain ⟨l, h, hlh, hh, rfl, rfl, HS, hB⟩ := hrel
    have hS := S1.below hB hp
    have rz : ∀ (n : Wof (Since wr)) (j : Nat), n.W.cell? ⟨w.heap.size, j, none⟩ = #[.int .i64 t, .int .i64 s][j]? := fun n j => (hS.below n.h hS.lt).cell j
    have ne := since_ne wr
    by_cases hlt : l < h
    · obtain ⟨m, hm⟩ : ∃ m : Nat, (m : Int) = (l : Int) + ((h : Int) - l) / 2 := ⟨l + (h - l) / 2, by omega⟩
      have hm1 : l ≤ m := by omega
      have hm2 : m < h := by omega
      have HM : Hid ((m : Int) = (l : Int) + ((h : Int) - l) / 2) := hm
      clear hm
      have hmg : m < gs.length := by omega
      obtain ⟨b, o, da, dc, rfl, hbb, hv1⟩ := h1.at hmg
      obtain ⟨r0, r1, r2, r3, r4, r5, r6⟩ := (hv1.below hB).rules
      obtain ⟨r, hr⟩ : ∃ r, ordV gs[m].t gs[m].s t s = r := ⟨_, rfl⟩
      have hlB := ord_less gs[m].t gs[m].s t s
      rw [hr] at hlB
      by_cases hneg : r < 0
      · have HU : Hid (Sought gs t s (m + 1) h) := HS.out.up ha hmg (by rw [← hlB]; simpa using hneg)
        clear hv1 hlB
        generalize gs[m] = v at *
        have m0 : (0 : Int) ≤ (m : Int) := by omega
        have m1 : (m : Int) < (gs.length : Int) := by omega
        have m2 : (m : Int) < 100 := by omega
        go_wp2_with fail
        rw [← HM.out]
        refine wp_region_class (S := Since wr) (by kernel_rfl) (by kernel_rfl) (Below.refl _ _).drew ?_
        repeat (go_big_quiet_step ((rename_i n; first | (go_at_call 111; exact Calls.inClass (against_is hr) Since.keep))))
        refine wpQuiet_nil ?_
        rintro W ⟨n, hnW⟩
        have R2 := n.h
        rw [← hnW] at R2
        have hB2 : Below W1.heap.size W1 W := hB.trans (R2.mono hB.size)
        clear R2 r0 r1 r2 r3 r4 r5 r6 rz ne hnW n hB hS
        go_wp2
        go_roundw
        case rel => exact ⟨m + 1, h, by omega, hh, by go_num, rfl, HU, hB2⟩
        case measure => simp [intOf]; omega
      · have HU : Hid (Sought gs t s l m) := HS.out.down ha hmg (by rw [← hlB]; simpa using hneg)
        have hneg2 : decide (r < 0) = false := by simpa using hneg
        clear hv1 hlB
        generalize gs[m] = v at *
        have m0 : (0 : Int) ≤ (m : Int) := by omega
        have m1 : (m : Int) < (gs.length : Int) := by omega
        go_wp2_with fail
        rw [← HM.out]
        refine wp_region_class (S := Since wr) (by kernel_rfl) (by kernel_rfl) (Below.refl _ _).drew ?_
        repeat (go_big_quiet_step ((rename_i n; first | (go_at_call 111; exact Calls.inClass (against_is hr) Since.keep))))
        refine wpQuiet_nil ?_
        rintro W ⟨n, hnW⟩
        have R2 := n.h
        rw [← hnW] at R2
        have hB2 : Below W1.heap.size W1 W := hB.trans (R2.mono hB.size)
        clear R2 r0 r1 r2 r3 r4 r5 r6 rz ne hnW n hB hS
        go_wp2
        go_roundw
        case rel => exact ⟨l, m, hm1, by omega, rfl, rfl, HU, hB2⟩
        case measure => simp [intOf]; omega
    · have hk2 : l = h := by omega
      subst hk2
      have HP : Hid (plc gs t s = l) := HS.out.plc hh
      by_cases hend : l < gs.length
      · obtain ⟨b, o, da, dc, rfl, hbb, hv1⟩ := h1.at hend
        obtain ⟨r0, r1, r2, r3, r4, r5, r6⟩ := (hv1.below hB).rules
        obtain ⟨r, hr⟩ : ∃ r, ordV gs[l].t gs[l].s t s = r := ⟨_, rfl⟩
        have HT : Hid (thr gs t s = (r == 0)) := by
          show thr gs t s = (r == 0)
          rw [(thr_at HS.out ha hend).1, ← hr, Bool.eq_iff_iff]
          simp [ord_zero]
        clear hv1
        generalize gs[l] = v at *
        have m0 : (0 : Int) ≤ (l : Int) := by omega
        have m1 : (l : Int) < (gs.length : Int) := by omega
        go_wp2_with fail
        refine wp_region_class (S := Since wr) (by kernel_rfl) (by kernel_rfl) (Below.refl _ _).drew ?_
        repeat (go_big_quiet_step ((rename_i n; first | (go_at_call 111; exact Calls.inClass (against_is hr) Since.keep))))
        refine wpQuiet_nil ?_
        rintro W ⟨n, hnW⟩
        have R2 := n.h
        rw [← hnW] at R2
        have hB2 : Below W1.heap.size W1 W := hB.trans (R2.mono hB.size)
        clear R2 r0 r1 r2 r3 r4 r5 r6 rz ne hnW n hB hS
        go_wp2
        go_ret2
        exact ⟨by rw [HP.out, HT.out]; rfl, b0.trans (hB2.mono b0.size)⟩
      · have he : l = gs.length := by omega
        subst he
        have HT : Hid (thr gs t s = false) := thr_end HS.out
        clear hS
        go_wp2_with fail
        refine wp_region_class (S := Since wr) (by kernel_rfl) (by kernel_rfl) (Below.refl _ _).drew ?_
        repeat (go_big_quiet_step ((fail)))
        refine wpQuiet_nil ?_
        rintro W ⟨n, hnW⟩
        have R2 := n.h
        rw [← hnW] at R2
        have hB2 : Below W1.heap.size W1 W := hB.trans (R2.mono hB.size)
        clear R2 rz ne hnW n hB
        go_wp2
        go_ret2
        exact ⟨by rw [HP.out, HT.out]; rfl, b0.trans (hB2.mono b0.size)⟩
end Go.Proofs.Ythlmodafadfnfaa

/- The specification's ChainHas. -/
namespace Go.Proofs.Ythlmodafadfnfaa
open Go.ChangeShapes Go.WideShapes Go.ChangeAt Go.RowKit

/-- Whether all deps are among versions. -/
def allIn (vs : List V) (ds : List D) : Bool := ds.all fun d => (cAt vs d.k d.t d.s).isSome
theorem has_chain {vs : List V} {ds : List D} (h : chainB vs = false) : cHas vs ds = false := by unfold cHas; rw [h]; rfl
theorem has_deps {vs : List V} {ds : List D} (h : depsOk ds = false) : cHas vs ds = false := by unfold cHas; rw [h]; simp
theorem has_yes {vs : List V} {ds : List D} (h : chainB vs = true) (hd : depsOk ds = true) : cHas vs ds = allIn vs ds := by unfold cHas allIn; rw [h, hd]; rfl
theorem allIn_step {vs : List V} {ds : List D} {k : Nat} (hk : k < ds.length) (h : allIn vs (ds.take k) = true) (hs : (cAt vs ds[k].k ds[k].t ds[k].s).isSome = true) : allIn vs (ds.take (k + 1)) = true := by
  unfold allIn at *; rw [takeD ds k hk, List.all_append, h]; simpa using hs
theorem allIn_bad {vs : List V} {ds : List D} {k : Nat} (hk : k < ds.length) (hs : (cAt vs ds[k].k ds[k].t ds[k].s).isSome = false) : allIn vs ds = false := by
  unfold allIn; rw [List.all_eq_false]; exact ⟨ds[k], List.getElem_mem hk, by rw [hs]; exact Bool.false_ne_true⟩

/-- Three cells that hold a dep. -/
def In3 (b x : Nat) (dk dt ds : Int) (W : World) : Prop := W.cell? ⟨b, x, none⟩ = some (.int .i64 dk) ∧ W.cell? ⟨b, x + 1, none⟩ = some (.int .i64 dt) ∧ W.cell? ⟨b, x + 2, none⟩ = some (.int .i64 ds)
theorem In3.mk {b x : Nat} {dk dt ds : Int} {W : World} (h0 : W.cell? ⟨b, x, none⟩ = some (.int .i64 dk)) (h1 : W.cell? ⟨b, x + 1, none⟩ = some (.int .i64 dt)) (h2 : W.cell? ⟨b, x + 2, none⟩ = some (.int .i64 ds)) : In3 b x dk dt ds W := ⟨h0, h1, h2⟩
theorem InD.new {w0 w : World} {b x y : Nat} {dk dt ds pk : Int} (h : InD w0 b x y dk dt ds pk w) (o : Obj) : InD w0 b x y dk dt ds pk (w.alloc o) := h.below ((Below.refl _ _).alloc (Nat.le_refl _) _)

theorem InD.new7 {w0 w : World} {b x y : Nat} {dk dt ds pk : Int} {v0 v1 v2 v3 v4 v5 v6 : Value} {o : Obj} (h : InD w0 b x y dk dt ds pk (w.alloc o)) (hb : b < w.heap.size) (h0 : w0.heap.size ≤ w.heap.size) : InD w0 b x y dk dt ds pk ((((((((w.alloc o).setCell ⟨w.heap.size, 0, none⟩ v0).setCell ⟨w.heap.size, 1, none⟩ v1).setCell ⟨w.heap.size, 2, none⟩ v2).setCell ⟨w.heap.size, 3, none⟩ v3).setCell ⟨w.heap.size, 4, none⟩ v4).setCell ⟨w.heap.size, 5, none⟩ v5).setCell ⟨w.heap.size, 6, none⟩ v6) := by
  have k : Below w.heap.size (w.alloc o) ((((((((w.alloc o).setCell ⟨w.heap.size, 0, none⟩ v0).setCell ⟨w.heap.size, 1, none⟩ v1).setCell ⟨w.heap.size, 2, none⟩ v2).setCell ⟨w.heap.size, 3, none⟩ v3).setCell ⟨w.heap.size, 4, none⟩ v4).setCell ⟨w.heap.size, 5, none⟩ v5).setCell ⟨w.heap.size, 6, none⟩ v6) := fill7_below (Below.refl _ _) (Nat.le_refl _)
  obtain ⟨h1, h4, h6, h7, h8, h9⟩ := h
  exact ⟨h1.trans (k.mono h0), Nat.lt_of_lt_of_le h4 k.size, (k.cell (p := ⟨b, _, none⟩) hb).trans h6, (k.cell (p := ⟨b, _, none⟩) hb).trans h7, (k.cell (p := ⟨b, _, none⟩) hb).trans h8, (k.cell (p := ⟨b, _, none⟩) hb).trans h9⟩

set_option maxHeartbeats 4000000 in
set_option maxRecDepth 100000 in
theorem sHasC_any (a : Option Addr) (cap : Nat) (vs : List V) (c : Option Addr) (cc : Nat) (ds : List D) (w : World) (hn : vs.length ≤ 1099511627776) (h : Vers w a vs) (hm : ds.length ≤ 1099511627776) (hd : Deps w c ds) :
    Calls Try.prog 37 #[.slice a vs.length cap, .slice c ds.length cc] w fun e w' => e = .returned (.bool (cHas vs ds)) ∧ Below w.heap.size w w' := by
  have hC := sChainOk_any a cap vs w hn h
  rcases hc : chainB vs with _ | _
  · have HN : Hid (cHas vs ds = false) := has_chain hc
    rw [hc] at hC
    clear h hc hd
    go_enter Try.func37, Try.ntmps37
    go_wp2_with fail
    refine hC.mono ?_
    rintro e w1 ⟨rfl, hb1⟩
    clear hC
    go_wp2_with fail
    go_ret
    exact ⟨by rw [HN.out]; rfl, hb1⟩
  have hD := fun W h => sDepsOk_any c cc ds W hm h
  rw [hc] at hC
  rcases hk : depsOk ds with _ | _
  · have HN : Hid (cHas vs ds = false) := has_deps hk
    rw [hk] at hD
    clear h hc hk
    go_enter Try.func37, Try.ntmps37
    go_wp2_with fail
    refine hC.mono ?_
    rintro e w1 ⟨rfl, hb1⟩
    clear hC
    go_wp2_with fail
    refine (hD _ (hd.below hb1)).mono ?_
    rintro e w2 ⟨rfl, hb2⟩
    clear hD
    go_wp2_with fail
    go_ret
    exact ⟨by rw [HN.out]; rfl, hb1.trans (hb2.mono hb1.size)⟩
  have HY : Hid (cHas vs ds = allIn vs ds) := has_yes hc hk
  rw [hk] at hD
  have HA : Hid (∀ k t s, atA vs k t s = cAt vs k t s) := fun k t s => atA_yes hc k t s
  clear hc hk
  go_enter Try.func37, Try.ntmps37
  go_wp2_with fail
  refine hC.mono ?_
  rintro e w1 ⟨rfl, hb1⟩
  clear hC
  go_wp2_with fail
  refine (hD _ (hd.below hb1)).mono ?_
  rintro e w2 ⟨rfl, hb2⟩
  have B2 : Below w.heap.size w w2 := hb1.trans (hb2.mono hb1.size)
  clear hD hb1 hb2
  go_wp2_with fail
  go_loopw [5] (fun i wr => ∃ k : Nat, k ≤ ds.length ∧ i = .int .i64 k ∧ Hid (allIn vs (ds.take k) = true) ∧ Below w.heap.size w wr) (fun i _ => ds.length - (intOf i).toNat)
  case atStart => exact ⟨0, Nat.zero_le _, rfl, rfl, B2⟩
  case round =>
    obtain ⟨k, hk, rfl, HI, hB⟩ := hrel
    clear B2 w1 w2
    by_cases hlt : k < ds.length
    · obtain ⟨b, o, rfl, hbb, e0, e1, e2⟩ := (hd.below hB).at hlt
      rcases hs : (cAt vs ds[k].k ds[k].t ds[k].s).isSome with _ | _
      · have HN : Hid (allIn vs ds = false) := allIn_bad hlt hs
        have hr : (atA vs ds[k].k ds[k].t ds[k].s).isSome = false := by rw [HA.out, hs]
        clear hs HI
        generalize ds[k] = y at *
        obtain ⟨dk, dt, dss⟩ := y
        simp only at e0 e1 e2 hr
        have R : InD w b (o + k * 3) (o + k * 3) dk dt dss dk wr := ⟨hB, hbb, e0, e1, e2, e0⟩
        have j0 : (0 : Int) ≤ (k : Int) := by omega
        have j1 : (k : Int) < (ds.length : Int) := by omega
        have s0 : Hid (wr.cell? ⟨b, o + k * 3, none⟩ = some (.int .i64 dk) ∧ wr.cell? ⟨b, o + k * 3 + 1, none⟩ = some (.int .i64 dt) ∧ wr.cell? ⟨b, o + k * 3 + 2, none⟩ = some (.int .i64 dss)) := In3.mk e0 e1 e2
        have R1 := InD.drew R
        have V1 := h.below R1.1
        have RA := R1.new (.cells #[.int .i64 0, .int .i64 0, .int .i64 0, .int .i64 0, .int .i64 0, .int .i64 0, .slice none 0 0] 28)
        have VA := h.below RA.1
        have sA : Hid ((wr.alloc (.cells #[.int .i64 0, .int .i64 0, .int .i64 0, .int .i64 0, .int .i64 0, .int .i64 0, .slice none 0 0] 28)).cell? ⟨b, o + k * 3, none⟩ = some (.int .i64 dk) ∧ (wr.alloc (.cells #[.int .i64 0, .int .i64 0, .int .i64 0, .int .i64 0, .int .i64 0, .int .i64 0, .slice none 0 0] 28)).cell? ⟨b, o + k * 3 + 1, none⟩ = some (.int .i64 dt) ∧ (wr.alloc (.cells #[.int .i64 0, .int .i64 0, .int .i64 0, .int .i64 0, .int .i64 0, .int .i64 0, .slice none 0 0] 28)).cell? ⟨b, o + k * 3 + 2, none⟩ = some (.int .i64 dss)) := ⟨RA.2.2.1, RA.2.2.2.1, RA.2.2.2.2.1⟩
        have ZA : Blk (wr.drew.alloc (.cells #[.int .i64 0, .int .i64 0, .int .i64 0, .int .i64 0, .int .i64 0, .int .i64 0, .slice none 0 0] 28)) wr.heap.size #[.int .i64 0, .int .i64 0, .int .i64 0, .int .i64 0, .int .i64 0, .int .i64 0, .slice none 0 0] 28 := Blk.new wr.drew _ _
        have lw : w.heap.size ≤ wr.heap.size := hB.size
        clear e0 e1 e2 hB
        go_wp2_with fail
        go_region_held3 (fun W => W.cell? ⟨b, o + k * 3, none⟩ = some (.int .i64 dk) ∧ W.cell? ⟨b, o + k * 3 + 1, none⟩ = some (.int .i64 dt) ∧ W.cell? ⟨b, o + k * 3 + 2, none⟩ = some (.int .i64 dss)) (first | (rw [s4.out.1, s4.out.2.1, s4.out.2.2]; exact ⟨rfl, rfl, rfl⟩) | (rw [s3.out.1, s3.out.2.1, s3.out.2.2]; exact ⟨rfl, rfl, rfl⟩) | (rw [s2.out.1, s2.out.2.1, s2.out.2.2]; exact ⟨rfl, rfl, rfl⟩) | exact sA.out | exact s0.out)
          (first | (go_at_call 33
                    refine (sAtV_any a cap vs dk dt dss _ hn ?hv).mono ?_
                    (case hv => exact V1)
                    rw [hr]
                    rintro e w3 ⟨u, pa, pc, Hu, rfl, hrow, hb3⟩
                    have R3 := R1.below hb3
                    have s2 : Hid (w3.cell? ⟨b, o + k * 3, none⟩ = some (.int .i64 dk) ∧ w3.cell? ⟨b, o + k * 3 + 1, none⟩ = some (.int .i64 dt) ∧ w3.cell? ⟨b, o + k * 3 + 2, none⟩ = some (.int .i64 dss)) := ⟨R3.2.2.1, R3.2.2.2.1, R3.2.2.2.2.1⟩
                    have R4 := R3.new (.cells #[.int .i64 0, .int .i64 0, .int .i64 0, .int .i64 0, .int .i64 0, .int .i64 0, .slice none 0 0] 28)
                    have s3 : Hid ((w3.alloc (.cells #[.int .i64 0, .int .i64 0, .int .i64 0, .int .i64 0, .int .i64 0, .int .i64 0, .slice none 0 0] 28)).cell? ⟨b, o + k * 3, none⟩ = some (.int .i64 dk) ∧ (w3.alloc (.cells #[.int .i64 0, .int .i64 0, .int .i64 0, .int .i64 0, .int .i64 0, .int .i64 0, .slice none 0 0] 28)).cell? ⟨b, o + k * 3 + 1, none⟩ = some (.int .i64 dt) ∧ (w3.alloc (.cells #[.int .i64 0, .int .i64 0, .int .i64 0, .int .i64 0, .int .i64 0, .int .i64 0, .slice none 0 0] 28)).cell? ⟨b, o + k * 3 + 2, none⟩ = some (.int .i64 dss)) := ⟨R4.2.2.1, R4.2.2.2.1, R4.2.2.2.2.1⟩
                    have R5 := R3.new (.cells #[.int .i64 u.k, .int .i64 u.t, .int .i64 u.s, .int .i64 u.val, .int .i64 u.cl, .int .i64 u.ca, .slice pa u.ds.length pc] 28)
                    have s4 : Hid ((w3.alloc (.cells #[.int .i64 u.k, .int .i64 u.t, .int .i64 u.s, .int .i64 u.val, .int .i64 u.cl, .int .i64 u.ca, .slice pa u.ds.length pc] 28)).cell? ⟨b, o + k * 3, none⟩ = some (.int .i64 dk) ∧ (w3.alloc (.cells #[.int .i64 u.k, .int .i64 u.t, .int .i64 u.s, .int .i64 u.val, .int .i64 u.cl, .int .i64 u.ca, .slice pa u.ds.length pc] 28)).cell? ⟨b, o + k * 3 + 1, none⟩ = some (.int .i64 dt) ∧ (w3.alloc (.cells #[.int .i64 u.k, .int .i64 u.t, .int .i64 u.s, .int .i64 u.val, .int .i64 u.cl, .int .i64 u.ca, .slice pa u.ds.length pc] 28)).cell? ⟨b, o + k * 3 + 2, none⟩ = some (.int .i64 dss)) := ⟨R5.2.2.1, R5.2.2.2.1, R5.2.2.2.2.1⟩
                    have B5 := R5.1
                    clear Hu hrow hb3 R3 R4 R5 V1 R1 R RA VA ZA sA)
                 | (go_at_call 33
                    refine (sAtV_any a cap vs dk dt dss _ hn ?hv).mono ?_
                    (case hv => exact VA)
                    rw [hr]
                    rintro e w3 ⟨u, pa, pc, Hu, rfl, hrow, hb3⟩
                    have R3 := RA.below hb3
                    have s2 : Hid (w3.cell? ⟨b, o + k * 3, none⟩ = some (.int .i64 dk) ∧ w3.cell? ⟨b, o + k * 3 + 1, none⟩ = some (.int .i64 dt) ∧ w3.cell? ⟨b, o + k * 3 + 2, none⟩ = some (.int .i64 dss)) := ⟨R3.2.2.1, R3.2.2.2.1, R3.2.2.2.2.1⟩
                    have Z3 := ZA.below hb3 ZA.lt
                    obtain ⟨zq, zf⟩ := Z3.rules
                    have k5 : Below wr.heap.size w3 (((((((w3.setCell ⟨wr.heap.size, 0, none⟩ (.int .i64 u.k)).setCell ⟨wr.heap.size, 1, none⟩ (.int .i64 u.t)).setCell ⟨wr.heap.size, 2, none⟩ (.int .i64 u.s)).setCell ⟨wr.heap.size, 3, none⟩ (.int .i64 u.val)).setCell ⟨wr.heap.size, 4, none⟩ (.int .i64 u.cl)).setCell ⟨wr.heap.size, 5, none⟩ (.int .i64 u.ca)).setCell ⟨wr.heap.size, 6, none⟩ (.slice pa u.ds.length pc)) := fill7_below (Below.refl _ _) (Nat.le_refl _)
                    have s4 : Hid ((((((((w3.setCell ⟨wr.heap.size, 0, none⟩ (.int .i64 u.k)).setCell ⟨wr.heap.size, 1, none⟩ (.int .i64 u.t)).setCell ⟨wr.heap.size, 2, none⟩ (.int .i64 u.s)).setCell ⟨wr.heap.size, 3, none⟩ (.int .i64 u.val)).setCell ⟨wr.heap.size, 4, none⟩ (.int .i64 u.cl)).setCell ⟨wr.heap.size, 5, none⟩ (.int .i64 u.ca)).setCell ⟨wr.heap.size, 6, none⟩ (.slice pa u.ds.length pc)).cell? ⟨b, o + k * 3, none⟩ = some (.int .i64 dk) ∧ (((((((w3.setCell ⟨wr.heap.size, 0, none⟩ (.int .i64 u.k)).setCell ⟨wr.heap.size, 1, none⟩ (.int .i64 u.t)).setCell ⟨wr.heap.size, 2, none⟩ (.int .i64 u.s)).setCell ⟨wr.heap.size, 3, none⟩ (.int .i64 u.val)).setCell ⟨wr.heap.size, 4, none⟩ (.int .i64 u.cl)).setCell ⟨wr.heap.size, 5, none⟩ (.int .i64 u.ca)).setCell ⟨wr.heap.size, 6, none⟩ (.slice pa u.ds.length pc)).cell? ⟨b, o + k * 3 + 1, none⟩ = some (.int .i64 dt) ∧ (((((((w3.setCell ⟨wr.heap.size, 0, none⟩ (.int .i64 u.k)).setCell ⟨wr.heap.size, 1, none⟩ (.int .i64 u.t)).setCell ⟨wr.heap.size, 2, none⟩ (.int .i64 u.s)).setCell ⟨wr.heap.size, 3, none⟩ (.int .i64 u.val)).setCell ⟨wr.heap.size, 4, none⟩ (.int .i64 u.cl)).setCell ⟨wr.heap.size, 5, none⟩ (.int .i64 u.ca)).setCell ⟨wr.heap.size, 6, none⟩ (.slice pa u.ds.length pc)).cell? ⟨b, o + k * 3 + 2, none⟩ = some (.int .i64 dss)) := ⟨(k5.cell (p := ⟨b, _, none⟩) hbb).trans s2.out.1, (k5.cell (p := ⟨b, _, none⟩) hbb).trans s2.out.2.1, (k5.cell (p := ⟨b, _, none⟩) hbb).trans s2.out.2.2⟩
                    have B5 := R3.1.trans (k5.mono lw)
                    clear Hu hrow hb3 R3 V1 R1 R RA VA ZA sA k5))
        all_goals
          try clear s4
          try clear s3
          clear s0 s2
          go_wp2
          go_ret
          exact ⟨by rw [HY.out, HN.out]; rfl, B5⟩
      · have HO : Hid (allIn vs (ds.take (k + 1)) = true) := allIn_step hlt HI.out hs
        have hr : (atA vs ds[k].k ds[k].t ds[k].s).isSome = true := by rw [HA.out, hs]
        clear hs HI
        generalize ds[k] = y at *
        obtain ⟨dk, dt, dss⟩ := y
        simp only at e0 e1 e2 hr
        have R : InD w b (o + k * 3) (o + k * 3) dk dt dss dk wr := ⟨hB, hbb, e0, e1, e2, e0⟩
        have j0 : (0 : Int) ≤ (k : Int) := by omega
        have j1 : (k : Int) < (ds.length : Int) := by omega
        have s0 : Hid (wr.cell? ⟨b, o + k * 3, none⟩ = some (.int .i64 dk) ∧ wr.cell? ⟨b, o + k * 3 + 1, none⟩ = some (.int .i64 dt) ∧ wr.cell? ⟨b, o + k * 3 + 2, none⟩ = some (.int .i64 dss)) := In3.mk e0 e1 e2
        have R1 := InD.drew R
        have V1 := h.below R1.1
        have RA := R1.new (.cells #[.int .i64 0, .int .i64 0, .int .i64 0, .int .i64 0, .int .i64 0, .int .i64 0, .slice none 0 0] 28)
        have VA := h.below RA.1
        have sA : Hid ((wr.alloc (.cells #[.int .i64 0, .int .i64 0, .int .i64 0, .int .i64 0, .int .i64 0, .int .i64 0, .slice none 0 0] 28)).cell? ⟨b, o + k * 3, none⟩ = some (.int .i64 dk) ∧ (wr.alloc (.cells #[.int .i64 0, .int .i64 0, .int .i64 0, .int .i64 0, .int .i64 0, .int .i64 0, .slice none 0 0] 28)).cell? ⟨b, o + k * 3 + 1, none⟩ = some (.int .i64 dt) ∧ (wr.alloc (.cells #[.int .i64 0, .int .i64 0, .int .i64 0, .int .i64 0, .int .i64 0, .int .i64 0, .slice none 0 0] 28)).cell? ⟨b, o + k * 3 + 2, none⟩ = some (.int .i64 dss)) := ⟨RA.2.2.1, RA.2.2.2.1, RA.2.2.2.2.1⟩
        have ZA : Blk (wr.drew.alloc (.cells #[.int .i64 0, .int .i64 0, .int .i64 0, .int .i64 0, .int .i64 0, .int .i64 0, .slice none 0 0] 28)) wr.heap.size #[.int .i64 0, .int .i64 0, .int .i64 0, .int .i64 0, .int .i64 0, .int .i64 0, .slice none 0 0] 28 := Blk.new wr.drew _ _
        have lw : w.heap.size ≤ wr.heap.size := hB.size
        clear e0 e1 e2 hB
        go_wp2_with fail
        go_region_held3 (fun W => W.cell? ⟨b, o + k * 3, none⟩ = some (.int .i64 dk) ∧ W.cell? ⟨b, o + k * 3 + 1, none⟩ = some (.int .i64 dt) ∧ W.cell? ⟨b, o + k * 3 + 2, none⟩ = some (.int .i64 dss)) (first | (rw [s4.out.1, s4.out.2.1, s4.out.2.2]; exact ⟨rfl, rfl, rfl⟩) | (rw [s3.out.1, s3.out.2.1, s3.out.2.2]; exact ⟨rfl, rfl, rfl⟩) | (rw [s2.out.1, s2.out.2.1, s2.out.2.2]; exact ⟨rfl, rfl, rfl⟩) | exact sA.out | exact s0.out)
          (first | (go_at_call 33
                    refine (sAtV_any a cap vs dk dt dss _ hn ?hv).mono ?_
                    (case hv => exact V1)
                    rw [hr]
                    rintro e w3 ⟨u, pa, pc, Hu, rfl, hrow, hb3⟩
                    have R3 := R1.below hb3
                    have s2 : Hid (w3.cell? ⟨b, o + k * 3, none⟩ = some (.int .i64 dk) ∧ w3.cell? ⟨b, o + k * 3 + 1, none⟩ = some (.int .i64 dt) ∧ w3.cell? ⟨b, o + k * 3 + 2, none⟩ = some (.int .i64 dss)) := ⟨R3.2.2.1, R3.2.2.2.1, R3.2.2.2.2.1⟩
                    have R4 := R3.new (.cells #[.int .i64 0, .int .i64 0, .int .i64 0, .int .i64 0, .int .i64 0, .int .i64 0, .slice none 0 0] 28)
                    have s3 : Hid ((w3.alloc (.cells #[.int .i64 0, .int .i64 0, .int .i64 0, .int .i64 0, .int .i64 0, .int .i64 0, .slice none 0 0] 28)).cell? ⟨b, o + k * 3, none⟩ = some (.int .i64 dk) ∧ (w3.alloc (.cells #[.int .i64 0, .int .i64 0, .int .i64 0, .int .i64 0, .int .i64 0, .int .i64 0, .slice none 0 0] 28)).cell? ⟨b, o + k * 3 + 1, none⟩ = some (.int .i64 dt) ∧ (w3.alloc (.cells #[.int .i64 0, .int .i64 0, .int .i64 0, .int .i64 0, .int .i64 0, .int .i64 0, .slice none 0 0] 28)).cell? ⟨b, o + k * 3 + 2, none⟩ = some (.int .i64 dss)) := ⟨R4.2.2.1, R4.2.2.2.1, R4.2.2.2.2.1⟩
                    have R5 := R3.new (.cells #[.int .i64 u.k, .int .i64 u.t, .int .i64 u.s, .int .i64 u.val, .int .i64 u.cl, .int .i64 u.ca, .slice pa u.ds.length pc] 28)
                    have s4 : Hid ((w3.alloc (.cells #[.int .i64 u.k, .int .i64 u.t, .int .i64 u.s, .int .i64 u.val, .int .i64 u.cl, .int .i64 u.ca, .slice pa u.ds.length pc] 28)).cell? ⟨b, o + k * 3, none⟩ = some (.int .i64 dk) ∧ (w3.alloc (.cells #[.int .i64 u.k, .int .i64 u.t, .int .i64 u.s, .int .i64 u.val, .int .i64 u.cl, .int .i64 u.ca, .slice pa u.ds.length pc] 28)).cell? ⟨b, o + k * 3 + 1, none⟩ = some (.int .i64 dt) ∧ (w3.alloc (.cells #[.int .i64 u.k, .int .i64 u.t, .int .i64 u.s, .int .i64 u.val, .int .i64 u.cl, .int .i64 u.ca, .slice pa u.ds.length pc] 28)).cell? ⟨b, o + k * 3 + 2, none⟩ = some (.int .i64 dss)) := ⟨R5.2.2.1, R5.2.2.2.1, R5.2.2.2.2.1⟩
                    have B5 := R5.1
                    clear Hu hrow hb3 R3 R4 R5 V1 R1 R RA VA ZA sA)
                 | (go_at_call 33
                    refine (sAtV_any a cap vs dk dt dss _ hn ?hv).mono ?_
                    (case hv => exact VA)
                    rw [hr]
                    rintro e w3 ⟨u, pa, pc, Hu, rfl, hrow, hb3⟩
                    have R3 := RA.below hb3
                    have s2 : Hid (w3.cell? ⟨b, o + k * 3, none⟩ = some (.int .i64 dk) ∧ w3.cell? ⟨b, o + k * 3 + 1, none⟩ = some (.int .i64 dt) ∧ w3.cell? ⟨b, o + k * 3 + 2, none⟩ = some (.int .i64 dss)) := ⟨R3.2.2.1, R3.2.2.2.1, R3.2.2.2.2.1⟩
                    have Z3 := ZA.below hb3 ZA.lt
                    obtain ⟨zq, zf⟩ := Z3.rules
                    have k5 : Below wr.heap.size w3 (((((((w3.setCell ⟨wr.heap.size, 0, none⟩ (.int .i64 u.k)).setCell ⟨wr.heap.size, 1, none⟩ (.int .i64 u.t)).setCell ⟨wr.heap.size, 2, none⟩ (.int .i64 u.s)).setCell ⟨wr.heap.size, 3, none⟩ (.int .i64 u.val)).setCell ⟨wr.heap.size, 4, none⟩ (.int .i64 u.cl)).setCell ⟨wr.heap.size, 5, none⟩ (.int .i64 u.ca)).setCell ⟨wr.heap.size, 6, none⟩ (.slice pa u.ds.length pc)) := fill7_below (Below.refl _ _) (Nat.le_refl _)
                    have s4 : Hid ((((((((w3.setCell ⟨wr.heap.size, 0, none⟩ (.int .i64 u.k)).setCell ⟨wr.heap.size, 1, none⟩ (.int .i64 u.t)).setCell ⟨wr.heap.size, 2, none⟩ (.int .i64 u.s)).setCell ⟨wr.heap.size, 3, none⟩ (.int .i64 u.val)).setCell ⟨wr.heap.size, 4, none⟩ (.int .i64 u.cl)).setCell ⟨wr.heap.size, 5, none⟩ (.int .i64 u.ca)).setCell ⟨wr.heap.size, 6, none⟩ (.slice pa u.ds.length pc)).cell? ⟨b, o + k * 3, none⟩ = some (.int .i64 dk) ∧ (((((((w3.setCell ⟨wr.heap.size, 0, none⟩ (.int .i64 u.k)).setCell ⟨wr.heap.size, 1, none⟩ (.int .i64 u.t)).setCell ⟨wr.heap.size, 2, none⟩ (.int .i64 u.s)).setCell ⟨wr.heap.size, 3, none⟩ (.int .i64 u.val)).setCell ⟨wr.heap.size, 4, none⟩ (.int .i64 u.cl)).setCell ⟨wr.heap.size, 5, none⟩ (.int .i64 u.ca)).setCell ⟨wr.heap.size, 6, none⟩ (.slice pa u.ds.length pc)).cell? ⟨b, o + k * 3 + 1, none⟩ = some (.int .i64 dt) ∧ (((((((w3.setCell ⟨wr.heap.size, 0, none⟩ (.int .i64 u.k)).setCell ⟨wr.heap.size, 1, none⟩ (.int .i64 u.t)).setCell ⟨wr.heap.size, 2, none⟩ (.int .i64 u.s)).setCell ⟨wr.heap.size, 3, none⟩ (.int .i64 u.val)).setCell ⟨wr.heap.size, 4, none⟩ (.int .i64 u.cl)).setCell ⟨wr.heap.size, 5, none⟩ (.int .i64 u.ca)).setCell ⟨wr.heap.size, 6, none⟩ (.slice pa u.ds.length pc)).cell? ⟨b, o + k * 3 + 2, none⟩ = some (.int .i64 dss)) := ⟨(k5.cell (p := ⟨b, _, none⟩) hbb).trans s2.out.1, (k5.cell (p := ⟨b, _, none⟩) hbb).trans s2.out.2.1, (k5.cell (p := ⟨b, _, none⟩) hbb).trans s2.out.2.2⟩
                    have B5 := R3.1.trans (k5.mono lw)
                    clear Hu hrow hb3 R3 V1 R1 R RA VA ZA sA k5))
        all_goals
          try clear s4
          try clear s3
          clear s0 s2
          go_wp2
          go_roundw
          case rel => exact ⟨k + 1, by omega, by go_num, HO, B5⟩
          case measure => simp [intOf]; omega
    · have hk2 : k = ds.length := by omega
      subst hk2
      rw [List.take_length] at HI
      go_wp2
      go_ret
      exact ⟨by rw [HY.out, HI.out]; rfl, hB⟩
end Go.Proofs.Ythlmodafadfnfaa

/- The place of a stamp in the map. -/
namespace Go.Proofs.Ythlmodafadfnfaa
open Go.ChangeShapes Go.WideShapes Go.ChangeAt Go.RowKit

/-- What lies at a key. -/
theorem Chm.at {w : World} {base b n : Nat} {f : Int → List XV} {g : Int → Value} (h : Chm w base b n f g) (key : Int) {gs : List V} (hgs : (f key).map XV.v = gs) (hgood : ∀ x ∈ f key, GoodX w x) : ∃ ga gc, g key = .slice ga gs.length gc ∧ Vers w ga gs := by
  obtain ⟨ga, gc, h1, h2, _⟩ := vers_of_row (h.row key) hgood
  subst hgs
  exact ⟨ga, gc, by rw [h1, List.length_map], h2⟩

set_option maxHeartbeats 1000000 in
theorem place_any (W : World) (base b n : Nat) (f : Int → List XV) (g : Int → Value) (key t s : Int) (gs : List V) (hM : Chm W base b n f g) (hwf : (Lit.int .i64 key).wf = true) (hgs : (f key).map XV.v = gs) (ha : gs.Pairwise (fun a b => lessB a.t a.s b.t b.s = true)) (hl : gs.length ≤ 100) (hgood : ∀ x ∈ f key, GoodX W x) :
    Calls Try.prog 80 #[.map (some b), .int .i64 key, stampV t s] W fun e w' => e = .returned (.tuple #[.int .i64 (plc gs t s), .bool (thr gs t s)]) ∧ Below W.heap.size W w' := by
  have b0 : Below W.heap.size W (W.alloc (.cells #[.int .i64 t, .int .i64 s] 25)) := (Below.refl _ W).alloc (Nat.le_refl _) _
  have M1 := hM.below b0
  have hlook := M1.look hwf
  obtain ⟨ga, gc, hg, hV⟩ := M1.at key hgs (fun x hx => (hgood x hx).below b0)
  rw [hg] at hlook
  have hP := placeOf_any ga gc gs t s _ hl ha hV
  clear hg hV M1 hM hgood hgs
  generalize plc gs t s = p at *
  generalize thr gs t s = r at *
  go_enter Try.func80, Try.ntmps80
  go_wp2_with fail
  refine hP.mono ?_
  rintro e w1 ⟨rfl, hb1⟩
  clear hP hlook
  go_wp2_with fail
  go_ret2
  exact ⟨rfl, b0.trans (hb1.mono b0.size)⟩

theorem top_at {vs : List V} {key : Int} {gs : List V} (hg : grp vs key = gs) (h : 0 < gs.length) : cTop vs key = some (gs[gs.length - 1]'(by omega)) := by
  rw [top_grp, hg, List.getLast?_eq_getElem?, List.getElem?_eq_getElem (by omega)]
theorem top_none {vs : List V} {key : Int} (hg : grp vs key = []) : cTop vs key = none := by rw [top_grp, hg]; rfl
end Go.Proofs.Ythlmodafadfnfaa

/- The program's ChainTop. -/
namespace Go.Proofs.Ythlmodafadfnfaa
open Go.ChangeShapes Go.WideShapes Go.ChangeAt Go.RowKit

set_option maxHeartbeats 4000000 in
set_option maxRecDepth 100000 in
theorem iTopV_any (a : Option Addr) (cap : Nat) (vs : List V) (key : Int) (w : World) (hn : vs.length ≤ 1099511627776) (h : Vers w a vs) (hwf : (Lit.int .i64 key).wf = true) :
    Calls Try.prog 29 #[.slice a vs.length cap, .int .i64 key] w fun e w' => ∃ u pa pc, Hid (u = (topA vs key).getD zeroV) ∧ e = .returned (.tuple #[verV u.k u.t u.s u.val u.cl u.ca pa u.ds.length pc, .bool (topA vs key).isSome]) ∧ RowD w' w.heap.size (.slice pa u.ds.length pc) u.ds ∧ Below w.heap.size w w' := by
  have Z1 : Blk (w.alloc (.cells #[.int .i64 0, .int .i64 0, .int .i64 0, .int .i64 0, .int .i64 0, .int .i64 0, .slice none 0 0] 28)) w.heap.size #[.int .i64 0, .int .i64 0, .int .i64 0, .int .i64 0, .int .i64 0, .int .i64 0, .slice none 0 0] 28 := Blk.new w _ _
  have b0 : Below w.heap.size w (w.alloc (.cells #[.int .i64 0, .int .i64 0, .int .i64 0, .int .i64 0, .int .i64 0, .int .i64 0, .slice none 0 0] 28)) := (Below.refl _ w).alloc (Nat.le_refl _) _
  have h1 := h.below b0
  have s1 : (w.alloc (.cells #[.int .i64 0, .int .i64 0, .int .i64 0, .int .i64 0, .int .i64 0, .int .i64 0, .slice none 0 0] 28)).heap.size = w.heap.size + 1 := by simp
  rcases hc : chainB vs with _ | _
  · have HN : Hid (topA vs key = none) := topA_no hc key
    have hC := iChainOf_no a cap vs _ hn h1 hc
    clear h hc
    go_enter Try.func29, Try.ntmps29
    go_wp2_with fail
    refine hC.mono ?_
    rintro e w2 ⟨rfl, hb2⟩
    have Z2 := Z1.below hb2 Z1.lt
    have B2 : Below w.heap.size w w2 := b0.trans (hb2.mono b0.size)
    obtain ⟨q1, g1⟩ := Z2.rules
    clear hC h1 Z1 b0 hb2
    go_wp2_with fail
    refine bodyPost_ret (v := .tuple #[verV 0 0 0 0 0 0 none 0 0, .bool false]) ?_ rfl ⟨zeroV, none, 0, by show _ = _; rw [HN.out]; rfl, by rw [HN.out]; rfl, World.ownsRow_nil _ _ _ _, fill7_below B2 (by omega)⟩
    refine Blk.gen (B := w.heap.size) (vs := #[.int .i64 0, .int .i64 0, .int .i64 0, .int .i64 0, .int .i64 0, .int .i64 0, .slice none 0 0]) (T := 28) ?_ (P := fun W => (results Try.f29 _).run Try.prog W = .ok _ W) ?_
    · exact Blk.fill7 Z2
    intro W hW
    obtain ⟨k, f⟩ := hW.rules
    simp [results, Try.results29, go_sem, k]
  have hC := iChainOf_yes a cap vs _ hn h1 hc
  have HA : Hid (topA vs key = cTop vs key) := topA_yes hc key
  have hl80 := (chainB_iff.1 hc).1
  clear h hc
  go_enter Try.func29, Try.ntmps29
  go_wp2_with fail
  generalize (w.alloc (.cells #[.int .i64 0, .int .i64 0, .int .i64 0, .int .i64 0, .int .i64 0, .int .i64 0, .slice none 0 0] 28)) = W1 at *
  refine hC.mono ?_
  rintro e w2 ⟨b, f, g, rfl, hbb, hM, hf, hgood, hb2⟩
  clear hC
  have hlook := hM.look hwf
  obtain ⟨ga, gc, hg, hV⟩ := hM.at key (hf key) (fun x hx => (hgood key x hx).below hb2)
  rw [hg] at hlook
  have hgl := grp_le vs key
  have hT1 := fun h => top_at (vs := vs) (key := key) rfl h
  have hT0 := fun h => top_none (vs := vs) (key := key) h
  have Z2 := Z1.below hb2 Z1.lt
  have B2 : Below w.heap.size w w2 := b0.trans (hb2.mono b0.size)
  clear hg hM hf hgood h1
  generalize grp vs key = gs at *
  by_cases hz : gs.length = 0
  · have HO : Hid (cTop vs key = none) := hT0 (List.length_eq_zero_iff.1 hz)
    clear hT0 hT1
    have hz2 : ((gs.length : Int) == 0) = true := by simpa using hz
    obtain ⟨q1, g1⟩ := Z2.rules
    go_wp2_with fail
    refine bodyPost_ret (v := .tuple #[verV 0 0 0 0 0 0 none 0 0, .bool false]) ?_ rfl ⟨zeroV, none, 0, by show _ = _; rw [HA.out, HO.out]; rfl, by rw [HA.out, HO.out]; rfl, World.ownsRow_nil _ _ _ _, fill7_below B2 (by omega)⟩
    refine Blk.gen (B := w.heap.size) (vs := #[.int .i64 0, .int .i64 0, .int .i64 0, .int .i64 0, .int .i64 0, .int .i64 0, .slice none 0 0]) (T := 28) ?_ (P := fun W => (results Try.f29 _).run Try.prog W = .ok _ W) ?_
    · exact Blk.fill7 Z2
    intro W hW
    obtain ⟨k, f⟩ := hW.rules
    simp [results, Try.results29, go_sem, k]
  · have HO : Hid (cTop vs key = some (gs[gs.length - 1]'(by omega))) := hT1 (by omega)
    clear hT0 hT1
    have hz2 : ((gs.length : Int) == 0) = false := by rw [beq_eq_false_iff_ne]; omega
    obtain ⟨l, hl⟩ : ∃ l, gs.length = l + 1 := ⟨gs.length - 1, by omega⟩
    obtain ⟨bx, o, da, dc, rfl, hbx, hv⟩ := hV.at (k := gs.length - 1) (by omega)
    have el : gs.length - 1 = l := by omega
    simp only [el] at HO hv
    have hls : l < gs.length := by omega
    generalize gs[l] = v at *
    obtain ⟨c0, c1, c2, c3, c4, c5, c6, hd, hdl⟩ := hv
    have i1 : (gs.length : Int) - 1 = (l : Int) := by omega
    have i2 : (l : Int) < (gs.length : Int) := by omega
    have HL : Hid (gs.length = l + 1) := hl
    clear hz el hl hV
    generalize gs.length = gl at *
    go_wp2_with fail
    refine (iCopy_any v da dc _ hdl hd).mono ?_
    rintro e w3 ⟨pa, pc, rfl, hrow, hb3⟩
    have Z3 := Z2.below hb3 Z2.lt
    have B3 : Below w.heap.size w w3 := B2.trans (hb3.mono B2.size)
    have hsz : w.heap.size + 1 ≤ w2.heap.size := by have := hb2.size; omega
    obtain ⟨q1, g1⟩ := Z3.rules
    clear c0 c1 c2 c3 c4 c5 c6 hd hb3 Z2
    go_wp2_with fail
    refine bodyPost_ret (v := .tuple #[verV v.k v.t v.s v.val v.cl v.ca pa v.ds.length pc, .bool true]) ?_ rfl ⟨v, pa, pc, by show _ = _; rw [HA.out, HO.out]; rfl, by rw [HA.out, HO.out]; rfl, row_mono (row_fill7 hrow (fun j hj => by have := (hrow.lt j hj).1; omega)) (by omega), fill7_below B3 (by omega)⟩
    refine Blk.gen (B := w.heap.size) (vs := #[.int .i64 v.k, .int .i64 v.t, .int .i64 v.s, .int .i64 v.val, .int .i64 v.cl, .int .i64 v.ca, .slice pa v.ds.length pc]) (T := 28) ?_ (P := fun W => (results Try.f29 _).run Try.prog W = .ok _ W) ?_
    · exact Blk.fill7 Z3
    intro W hW
    obtain ⟨k, f⟩ := hW.rules
    simp [results, Try.results29, go_sem, k]
end Go.Proofs.Ythlmodafadfnfaa

/- The law: a key without versions has none that is the newest. -/
namespace Go.Proofs.Ythlmodafadfnfaa
open Go.ChangeShapes Go.WideShapes Go.ChangeAt Go.RowKit

theorem cTop_is {vs : List V} {k : Int} {i : Nat} (hi : i < vs.length) (h : vs[i].k = k) : (cTop vs k).isSome = true := by
  unfold cTop
  rw [List.find?_isSome]
  exact ⟨vs[i], by simp, by simp [h]⟩
theorem cTop_not {vs : List V} {k : Int} (h : ∀ i, (hi : i < vs.length) → vs[i].k ≠ k) : (cTop vs k).isSome = false := by
  unfold cTop
  have : vs.reverse.find? (fun v => decide (v.k = k)) = none := by
    rw [List.find?_eq_none]
    intro x hx
    obtain ⟨i, hi, rfl⟩ := List.mem_iff_getElem.1 (List.mem_reverse.1 hx)
    simpa using h i hi
  rw [this]; rfl

set_option maxHeartbeats 4000000 in
set_option maxRecDepth 20000 in
theorem lawNone (w : World) (a : Option Addr) (len cap : Nat) (h : Code w a len cap) :
    Calls Try.prog 11 #[.slice a len cap] w fun e w' => e = .returned (.bool true) ∧ Below w.heap.size w w' := by
  have hm := h.2.1
  have hl := h.1
  unfold maxLen at hm
  by_cases hc : 1048576 < (len : Int)
  · go_enter Try.func11, Try.ntmps11
    go_wp2
    go_ret
    exact ⟨rfl, Below.refl _ _⟩
  go_enter Try.func11, Try.ntmps11
  go_wp2_with fail
  refine (drawCTop w a len cap h).mono ?_
  rintro e w1 ⟨v1, ys, vs, key, rfl, O1, hy, hF, k0, k1, B1⟩
  obtain ⟨va, vc, rfl, V1⟩ := O1.asD hy
  have hwf : (Lit.int .i64 key).wf = true := by
    have : key = -1 ∨ key = 0 ∨ key = 1 ∨ key = 2 ∨ key = 3 ∨ key = 4 ∨ key = 5 ∨ key = 6 := by omega
    rcases this with rfl | rfl | rfl | rfl | rfl | rfl | rfl | rfl <;> rfl
  have hvl : vs.length ≤ 81 := hF.1
  have hI := fun W h => iTopV_any va vc vs key W (by omega) h hwf
  have hS := fun W h => sTopV_any va vc vs key W (by omega) h
  have hC := fun W h => sChainOk_any va vc vs W (by omega) h
  obtain ⟨r, hr⟩ : ∃ r, r = (topA vs key).isSome := ⟨_, rfl⟩
  rw [← hr] at hI hS
  have HT : Hid (chainB vs = true → r = (cTop vs key).isSome) := fun hb => by rw [hr, topA_yes hb]
  generalize (topA vs key).getD zeroV = u at *
  clear h hm hl O1 hy hF hc hr
  go_wp2_with fail
  refine (hI _ V1).mono ?_
  rintro e w2 ⟨u2, pa2, pc2, hu2, rfl, R2, hb2⟩
  have e2 : u2 = u := hu2.out
  subst u2
  have b2 := (Below.refl _ w2).alloc (Nat.le_refl _) (.cells #[.int .i64 u.k, .int .i64 u.t, .int .i64 u.s, .int .i64 u.val, .int .i64 u.cl, .int .i64 u.ca, .slice pa2 u.ds.length pc2] 28)
  have V2 := (V1.below hb2).below b2
  have B2 : Below w.heap.size w w2 := B1.trans (hb2.mono B1.size)
  have B2' := B2.trans (b2.mono B2.size)
  clear V1 hb2 B1 R2 b2 B2 hI
  go_wp2_with fail
  generalize w2.alloc (.cells #[.int .i64 u.k, .int .i64 u.t, .int .i64 u.s, .int .i64 u.val, .int .i64 u.cl, .int .i64 u.ca, .slice pa2 u.ds.length pc2] 28) = w2' at *
  refine (hS _ V2).mono ?_
  rintro e w3 ⟨u3, pa3, pc3, hu3, rfl, R3, hb3⟩
  have e3 : u3 = u := hu3.out
  subst u3
  have b3 := (Below.refl _ w3).alloc (Nat.le_refl _) (.cells #[.int .i64 u.k, .int .i64 u.t, .int .i64 u.s, .int .i64 u.val, .int .i64 u.cl, .int .i64 u.ca, .slice pa3 u.ds.length pc3] 28)
  have V3 := (V2.below hb3).below b3
  have B3 : Below w.heap.size w w3 := B2'.trans (hb3.mono B2'.size)
  have B3' := B3.trans (b3.mono B3.size)
  clear V2 hb3 B2' R3 b3 B3 hS
  go_wp2_with fail
  generalize w3.alloc (.cells #[.int .i64 u.k, .int .i64 u.t, .int .i64 u.s, .int .i64 u.val, .int .i64 u.cl, .int .i64 u.ca, .slice pa3 u.ds.length pc3] 28) = w3' at *
  refine (hC _ V3).mono ?_
  rintro e w4 ⟨rfl, hb4⟩
  have V4 := V3.below hb4
  have B4 : Below w.heap.size w w4 := B3'.trans (hb4.mono B3'.size)
  clear V3 hb4 B3' hC
  rcases hcb : chainB vs with _ | _
  · clear V4 HT
    go_wp2_with fail
    go_ret
    exact ⟨by simp, B4⟩
  · have HR : Hid (r = (cTop vs key).isSome) := HT.out hcb
    clear HT hcb
    go_wp2_with fail
    go_loop [9] (fun i => ∃ k : Nat, k ≤ vs.length ∧ i = .int .i64 k ∧ ∀ j, (hj : j < vs.length) → j < k → vs[j].k ≠ key) (fun i => vs.length - (intOf i).toNat)
    case atStart => exact ⟨0, Nat.zero_le _, rfl, fun j _ hj => by omega⟩
    case round =>
      obtain ⟨k, hk, rfl, hno⟩ := hrel
      by_cases hlt : k < vs.length
      · obtain ⟨b, o, da, dc, rfl, hbb, hv⟩ := V4.at hlt
        have e0 := hv.c0
        by_cases he : vs[k].k = key
        · have hrt : r = true := by rw [HR.out]; exact cTop_is hlt he
          rw [he] at e0
          clear hv V4 hno HR
          subst hrt
          go_wp2_with fail
          go_ret
          exact ⟨rfl, B4⟩
        · have hno2 : Hid (∀ j, (hj : j < vs.length) → j < k + 1 → vs[j].k ≠ key) := fun j hj hjk => by
            by_cases hjk2 : j = k
            · subst hjk2; exact he
            · exact hno j hj (by omega)
          clear hv V4 hno HR
          generalize vs[k].k = z at *
          go_wp2_with fail
          go_round
          case rel => exact ⟨k + 1, by omega, by go_num, hno2.out⟩
          case measure => simp [intOf]; omega
      · have hrf : r = false := by rw [HR.out]; exact cTop_not fun j hj => hno j hj (by omega)
        subst hrf
        clear hno V4 HR
        go_wp2_with fail
        go_ret
        exact ⟨rfl, B4⟩
end Go.Proofs.Ythlmodafadfnfaa

