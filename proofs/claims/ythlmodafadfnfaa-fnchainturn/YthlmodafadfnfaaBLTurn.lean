/- 17 texts in one. -/
import Derived.Test.YthlmodafadfnfaaKeysLay
import Derived.Test.YthlmodafadfnfaaVersW2
import Derived.Maps.OwnSet
import Derived.Shelf.Spec.SlicesInsertGrow
import Derived.Test.YthlmodafadfnfaaSAtV
import Derived.Test.YthlmodafadfnfaaSPutC
import Derived.Test.YthlmodafadfnfaaDrawCP
import Derived.Test.YthlmodafadfnfaaLiV

/- A map's keys, sorted. -/
namespace Go.Proofs.Ythlmodafadfnfaa
open Go.RowKit Go.Maps Go.Sort Go.Shelf

theorem sorts (m : Nat) : AnyZI.SortsIn Try.prog sortedA_ren Fence.wide m :=
  ⟨fun blk off cap ss W hH hblk hsz => callsIn_wide.2 (AnyM.slices_Sort_int sortA blk off cap ss W hH hblk hsz),
   fun p cap W => callsIn_wide.2 (AnyM.slices_Sort_int_none sortA p cap W)⟩

theorem keys_any (mb : Option Nat) (W : World) : Calls Try.prog 114 #[.map mb] W fun e w' => e = .returned (.func (.func 124) #[] #[.pointer (some ⟨W.heap.size, 0, none⟩)]) ∧ w' = W.alloc (.cells #[.map mb] 85) :=
  (callsIn_wide (n := 5)).1 (AnyZI.keys_in keysA Fence.wide 5 trivial rfl mb W)

set_option maxHeartbeats 1000000 in
theorem sorted_any {H : Type} (b nn Bm : Nat) (D0 : DataW H) (R : Value → Option (DataW H × List MemPlace)) (w : World) (hBm : Bm < w.heap.size) (hm : w.cell? ⟨Bm, 0, none⟩ = some (.map (some b))) (hown : w.ownsMap Try.prog 3 R b nn D0) (hmax : Maps.size D0 ≤ 1000) :
    Calls Try.prog 113 #[.func (.func 124) #[] #[.pointer (some ⟨Bm, 0, none⟩)]] w fun e w' => ∃ (v : Value) (ss : List Int), e = .returned v ∧ ss.Perm (intKeys D0) ∧
      w'.ownsRow w.heap.size 3 1 v ss.length ((ss.mergeSort (fun x y => decide (x ≤ y))).map encZ) ∧ Below w.heap.size w w' := by
  refine (callsIn_wide (n := 5)).1 ?_
  have hseq : SeqGives Fence.wide 2 Try.prog 124 #[.pointer (some ⟨Bm, 0, none⟩)] encZ (fun ss => ss.Perm (intKeys D0)) (Maps.size D0) w :=
    AnyZI.keys_gives (ρ := keysA_ren) { keysA with } Fence.wide _ trivial rfl (by omega) Bm b nn D0 _ hBm hm hown
  have cS := AnyZI.sorted_in sortedA Fence.wide 5 trivial trivial trivial trivial rfl (by omega) (sorts _) (enters_of Try.func123 (by kernel_rfl) rfl) 124 #[.pointer (some ⟨Bm, 0, none⟩)] trivial (enters_of Try.func124 (by kernel_rfl) rfl) _ _ (by unfold maxLen; omega) (by omega) _ hseq
  change CallsIn _ _ Try.prog 113 _ _ _ at cS
  refine cS.mono ?_
  rintro e w' ⟨v, ss, rfl, hS, hrow, hnil, hb⟩
  exact ⟨v, ss, rfl, hS, hrow, hb⟩
end Go.Proofs.Ythlmodafadfnfaa

/- Versions by key in a map. -/
namespace Go.Proofs.Ythlmodafadfnfaa
open Go.ChangeShapes Go.WideShapes Go.ChangeAt Go.RowKit Go.Maps

/-- A map's elements, held as they are. -/
def heldR : Value → Option (DataW Value × List MemPlace) := fun v => some (.held v, [])
theorem keyedI : Keyed Try.prog 3 := int_keyed Try.underlying3
theorem zeroVers (w : World) : (zeroValue 23).run Try.prog w = .ok (.slice none 0 0) w := Try.zeroValue23 w
/-- Another value at one key. -/
def upd {α : Type} (f : Int → α) (k : Int) (l : α) : Int → α := fun j => if j = k then l else f j
theorem upd_same {α : Type} (f : Int → α) (k : Int) (l : α) : upd f k l k = l := if_pos rfl
theorem upd_other {α : Type} (f : Int → α) {k j : Int} (l : α) (h : j ≠ k) : upd f k l j = f j := if_neg h
/-- Versions by key: the map in block b holds at each key the slice g, a row of the call's own that holds the versions f. -/
structure Chm (w : World) (base b n : Nat) (f : Int → List XV) (g : Int → Value) : Prop where
  own : ∃ D : DataW Value, w.ownsMap Try.prog 3 heldR b n D ∧ (∀ k, D.atKey (.int .i64 k) (.held (.slice none 0 0)) = .held (g k)) ∧ (∀ k, Maps.has D (.int .i64 k) = true ↔ f k ≠ [])
  row : ∀ k, w.ownsRow base 28 7 (g k) (f k).length (flat7 (f k))
  apart : ∀ k j, k ≠ j → ApartV (g k) (g j)
theorem Chm.lt {w : World} {base b n : Nat} {f : Int → List XV} {g : Int → Value} (h : Chm w base b n f g) : b < w.heap.size := by obtain ⟨D, hD, _⟩ := h.own; exact hD.lt
theorem Chm.below {w w' : World} {base b n : Nat} {f : Int → List XV} {g : Int → Value} (h : Chm w base b n f g) (k : Below w.heap.size w w') : Chm w' base b n f g := by
  obtain ⟨D, hD, h1, h2⟩ := h.own
  exact ⟨⟨D, hD.kept (row := none) (grown_of_below k) (by simp), h1, h2⟩, fun j => row_below (h.row j) k (Nat.le_refl _), h.apart⟩
theorem Chm.made (w : World) (base : Nat) : Chm (w.alloc (.map #[] 0)) base w.heap.size 0 (fun _ => []) (fun _ => .slice none 0 0) :=
  ⟨⟨_, World.ownsMap_made w _ _ _, fun _ => rfl, fun _ => by simp [Maps.has]⟩, fun _ => World.ownsRow_nil _ _ _ _, fun _ _ _ j hj => (by simp [Value.ownBlock] at hj)⟩
/-- What a look-up finds. -/
theorem Chm.look {w : World} {base b n : Nat} {f : Int → List XV} {g : Int → Value} (h : Chm w base b n f g) {k : Int} (hk : (Lit.int .i64 k).wf = true) : (Instr.lookup 85 (.map (some b)) (.int .i64 k) false).run Try.prog w = .ok (g k) w := by
  obtain ⟨D, hD, h1, _⟩ := h.own
  obtain ⟨v, ps, hr, hv⟩ := hD.lookup keyedI Try.underlying85 (zeroVers w) (zd := .held (.slice none 0 0)) (zp := []) rfl (keyOf_int_mk Try.underlying3 hk)
  rw [h1 k] at hv
  simp [heldR] at hv
  rw [hr, hv.1]
theorem wf_key {k : Int} (h0 : 0 ≤ k) (h1 : k ≤ 5) : (Lit.int .i64 k).wf = true := by simp [Lit.wf, IntKind.min, IntKind.max, IntKind.bits, IntKind.signed]; omega
/-- A map that is another at one key: what lay at that key, and new blocks, may have turned ahead. -/
theorem Chm.store {w w1 : World} {base b n : Nat} {f : Int → List XV} {g : Int → Value} (h : Chm w base b n f g) {k : Int} (hk : (Lit.int .i64 k).wf = true) {l : List XV} {v : Value} (hn : n < 1000) (hl : l ≠ [])
    (hg : w.grownBy w1 (g k).ownBlock) (hrow : w1.ownsRow base 28 7 v l.length (flat7 l)) (hloc : v.ownBlock = (g k).ownBlock ∨ ∃ j, v.ownBlock = some j ∧ w.heap.size ≤ j) :
    ∃ w2, (Instr.mapUpdate 85 (.map (some b)) (.int .i64 k) v).run Try.prog w1 = .ok () w2 ∧ Chm w2 base b (n + 1) (upd f k l) (upd g k v) ∧ w1.grownBy w2 (some b) := by
  obtain ⟨D, hD, h1, h2⟩ := h.own
  have hbk : some b ≠ (g k).ownBlock := fun e => by
    obtain ⟨es, clock, hb, _⟩ := hD
    rcases (h.row k).2 with ⟨e0, _⟩ | ⟨x, cap, cur, e0, _, hx, _⟩
    · rw [e0] at e; simp [Value.ownBlock] at e
    · rw [e0] at e; simp [Value.ownBlock] at e; subst e; rw [hb] at hx; cases hx
  have hD1 := hD.kept hg hbk
  obtain ⟨w2, hr, hD2, hg2⟩ := hD1.update keyedI Try.underlying85 (by unfold maxLen; omega) (keyOf_int_mk Try.underlying3 hk) (val := v) (d := .held v) (ps := []) rfl
  have hrows : ∀ (u : Value) (m : Nat) (cs : List Value), w1.ownsRow base 28 7 u m cs → w2.ownsRow base 28 7 u m cs := fun u m cs hu => hu.kept hg2 (by
    rcases hu.2 with ⟨e0, _⟩ | ⟨x, cap, cur, e0, _, hx, _⟩
    · exact .inl (by rw [e0]; rfl)
    · refine .inr fun e => ?_
      rw [e0] at e; simp [Value.ownBlock] at e; subst e
      obtain ⟨es, clock, hb, _⟩ := hD1
      rw [hb] at hx; cases hx)
  refine ⟨w2, hr, ⟨⟨_, hD2, fun j => ?_, fun j => ?_⟩, fun j => ?_, fun i j hij => ?_⟩, hg2⟩
  · by_cases e : j = k
    · subst e; rw [upd_same]; exact atKey_put_same (k := .int .i64 j) hD1.isMap trivial _ _
    · rw [upd_other _ _ e, atKey_put_other (fun h => e (by simpa using h))]; exact h1 j
  · by_cases e : j = k
    · subst e; rw [upd_same, has_put_same (k := .int .i64 j) hD1.isMap trivial]; simp [hl]
    · rw [upd_other _ _ e, has_put_other (fun h => e (by simpa using h))]; exact h2 j
  · by_cases e : j = k
    · subst e; rw [upd_same, upd_same]; exact hrows _ _ _ hrow
    · rw [upd_other _ _ e, upd_other _ _ e]
      refine hrows _ _ _ ((h.row j).kept hg ?_)
      rcases hj : (g j).ownBlock with _ | q
      · exact .inl rfl
      · exact .inr fun e2 => h.apart j k e q hj e2.symm
  · by_cases ei : i = k
    · subst ei
      have ej : j ≠ i := fun e => hij e.symm
      rw [upd_same, upd_other _ _ ej]
      intro q hq hq2
      rcases hloc with e2 | ⟨r, e2, e3⟩
      · rw [e2] at hq; exact h.apart i j hij q hq hq2
      · rw [e2] at hq; simp at hq; subst hq; have := ((h.row j).lt r hq2).2; omega
    · by_cases ej : j = k
      · subst ej
        rw [upd_same, upd_other _ _ ei]
        intro q hq hq2
        rcases hloc with e2 | ⟨r, e2, e3⟩
        · rw [e2] at hq2; exact h.apart i j hij q hq hq2
        · rw [e2] at hq2; simp at hq2; subst hq2; have := ((h.row i).lt r hq).2; omega
      · rw [upd_other _ _ ei, upd_other _ _ ej]; exact h.apart i j hij
/-- The keys of such a map, sorted. -/
theorem Chm.keys {w : World} {base b n : Nat} {f : Int → List XV} {g : Int → Value} (h : Chm w base b n f g) : ∃ D : DataW Value, w.ownsMap Try.prog 3 heldR b n D ∧ ∀ ss : List Int, ss.Perm (intKeys D) → (ss.mergeSort (fun x y => decide (x ≤ y))).Pairwise (· < ·) ∧ ∀ k, k ∈ ss.mergeSort (fun x y => decide (x ≤ y)) ↔ f k ≠ [] := by
  obtain ⟨D, hD, _, h2⟩ := h.own
  refine ⟨D, hD, fun ss hp => ?_⟩
  obtain ⟨es, hDe, hpw, _⟩ := hD.entries keyedI
  obtain ⟨es', hD', hko⟩ := hD.keysOf
  obtain rfl : es = es' := by rw [hDe] at hD'; simpa using hD'
  subst hDe
  have hk : ∀ p ∈ es, ∃ x, p.1 = .int .i64 x := fun p hp => by obtain ⟨v, hv⟩ := hko p hp; obtain ⟨x, _, hx, _⟩ := Maps.keyOf_i64 Try.underlying3 hv; exact ⟨x, hx⟩
  have hnd : (intKeys (DataW.map es)).Nodup := by
    show (es.map fun p => Go.intOf p.1).Nodup
    refine List.pairwise_map.2 (hpw.imp_of_mem fun {p q} hp' hq' hne e => hne ?_)
    obtain ⟨a, ha⟩ := hk p hp'
    obtain ⟨b, hb⟩ := hk q hq'
    rw [ha, hb] at e ⊢
    exact congrArg _ e
  have hmem : ∀ x, x ∈ intKeys (DataW.map es) ↔ Maps.has (DataW.map es) (.int .i64 x) = true := fun x => by
    rw [has_eq, List.any_eq_true]
    show x ∈ (es.map fun p => Go.intOf p.1) ↔ _
    rw [List.mem_map]
    constructor
    · rintro ⟨p, hp', rfl⟩
      obtain ⟨a, ha⟩ := hk p hp'
      exact ⟨p, hp', by rw [ha]; simp [Lit.sameKey, Go.intOf]⟩
    · rintro ⟨p, hp', hs⟩
      obtain ⟨a, ha⟩ := hk p hp'
      rw [ha] at hs
      exact ⟨p, hp', by rw [ha]; simpa [Lit.sameKey, Go.intOf] using hs⟩
  have hps := (List.mergeSort_perm ss (fun x y => decide (x ≤ y))).trans hp
  refine ⟨?_, fun k => by rw [hps.mem_iff, hmem, h2]⟩
  have tr : ∀ a b c : Int, decide (a ≤ b) = true → decide (b ≤ c) = true → decide (a ≤ c) = true := fun a b c h1 h2 => by simp only [decide_eq_true_eq] at *; omega
  have to : ∀ a b : Int, (decide (a ≤ b) || decide (b ≤ a)) = true := fun a b => by simp only [Bool.or_eq_true, decide_eq_true_eq]; omega
  have h3 := List.pairwise_mergeSort tr to ss
  have h4 : (ss.mergeSort (fun x y => decide (x ≤ y))).Nodup := hps.nodup_iff.2 hnd
  refine (List.Pairwise.and h3 h4).imp fun {a b} hab => ?_
  have h5 := hab.1
  simp only [decide_eq_true_eq] at h5
  have := hab.2
  omega
end Go.Proofs.Ythlmodafadfnfaa

/- The program's map of versions by key. -/
namespace Go.Proofs.Ythlmodafadfnfaa
open Go.ChangeShapes Go.WideShapes Go.ChangeAt Go.RowKit

theorem okV_key {v : V} (h : okV v = true) : 0 ≤ v.k ∧ v.k ≤ 5 := by
  unfold okV verB numsB inB at h; simp at h; omega
theorem grp_snoc (l : List V) (v : V) (j : Int) : grp (l ++ [v]) j = if j = v.k then grp l j ++ [v] else grp l j := by
  unfold grp; rw [List.filter_append]
  by_cases e : j = v.k
  · subst e; rw [if_pos rfl]; simp
  · have e2 : ¬ v.k = j := fun h => e h.symm
    rw [if_neg e]; simp [e2]
theorem grp_le (l : List V) (j : Int) : (grp l j).length ≤ l.length := List.length_filter_le _ _

/-- An append at a step of a region that draws its order, with the place where the new slice lies. -/
theorem step_append_at {P : Program} (w : World) {ops : Array Oper} {o : Oper} {a : Act} {K : Act → World → Prop} {Q : Exit → Act → World → Prop} {E : Prop} (hgd : o.guard = none) (s x : Operand) (t : TypeId)
    (ho : o.op = .call { callee := .builtin .append, args := #[s, x], argTypes := #[t, t] })
    (base : Nat) (e : TypeId) (i : TypeInfo) (z : Value) (size bytes : Nat) (ht : P.underlying t = some (.slice e)) (hi : P.info? e = some i) (hz : i.zero = some z)
    (hsize : i.size = size) (hby : i.bytes = bytes) (hzs : z.cells.size = size) (hsz : 0 < size)
    (v : Value) (n : Nat) (xs : List Value) (hs : a.eval s = v) (hown : w.ownsRow base e size v n xs)
    (ad : Addr) (m c : Nat) (news : List Value) (hx : a.eval x = .slice (some ad) m c) (hl : news.length = m * size) (hnews : ∀ j u, news[j]? = some u → w.cell? (ad.add j) = some u) (h1 : ∀ u ∈ news, u.oneCell' = true)
    (h63 : n + m ≤ maxLen) (hbytes : (n + m) * bytes ≤ 140737488355328) (hbase : base ≤ w.heap.size)
    (h : ∀ v' w', w'.ownsRow base e size v' (n + m) (xs ++ news) → w.grownBy w' v.ownBlock → (v'.ownBlock = v.ownBlock ∨ v'.ownBlock = some w.heap.size) → K (a.put o.dst v') w') :
    if Region.wanted o (yielded ops a.tmps) = true then Oper.wp P o a w K Q else E := by
  have hw : Region.wanted o (yielded ops a.tmps) = true := by simp [Region.wanted, hgd]
  rw [if_pos hw]
  obtain ⟨v', w', hr, h2, h3, _, h5⟩ := run_append_own_at (P := P) w base t o.type e i z size bytes ht hi hz hsize hby hzs hsz v n xs hown ad m c news hl hnews h1 h63 hbytes hbase
  unfold Oper.wp execOp
  simp only [ho, resolve, invoke, builtin, Sem.run_bind, Sem.run_pure, Result.andThen_ok, List.map_toArray, List.map_cons, List.map_nil, hs, hx, hr]
  exact h v' w' h2 h3 h5
/-- A store into a map at such a step. -/
theorem step_update {P : Program} (w : World) {ops : Array Oper} {o : Oper} {a : Act} {K : Act → World → Prop} {Q : Exit → Act → World → Prop} {E : Prop} (hgd : o.guard = none) (m x v : Operand) (t : TypeId)
    (hop : o.op = Op.mapUpdate t m x v) (mv kv vv : Value) (hm : a.eval m = mv) (hx : a.eval x = kv) (hv : a.eval v = vv) (w' : World) (hr : (Instr.mapUpdate t mv kv vv).run P w = .ok () w')
    (h : K (a.put o.dst undef) w') : if Region.wanted o (yielded ops a.tmps) = true then Oper.wp P o a w K Q else E := by
  have hw : Region.wanted o (yielded ops a.tmps) = true := by simp [Region.wanted, hgd]
  rw [if_pos hw]
  unfold Oper.wp
  simp [execOp, hop, hm, hx, hv, hr, Result.andThen]
  exact h

theorem iChainOf_no (a : Option Addr) (cap : Nat) (vs : List V) (w : World) (hn : vs.length ≤ 1099511627776) (h : Vers w a vs) (hc : chainB vs = false) :
    Calls Try.prog 67 #[.slice a vs.length cap] w fun e w' => e = .returned (.tuple #[.map none, .bool false]) ∧ Below w.heap.size w w' := by
  have hC := iChainOk_any a cap vs w hn h
  rw [hc] at hC
  go_enter Try.func67, Try.ntmps67
  go_wp2_with fail
  refine hC.mono ?_
  rintro e w1 ⟨rfl, hb1⟩
  clear hC
  go_wp2_with fail
  go_ret2
  exact ⟨rfl, hb1⟩

set_option maxHeartbeats 4000000 in
set_option maxRecDepth 100000 in
theorem iChainOf_yes (a : Option Addr) (cap : Nat) (vs : List V) (w : World) (hn : vs.length ≤ 1099511627776) (h : Vers w a vs) (hc : chainB vs = true) :
    Calls Try.prog 67 #[.slice a vs.length cap] w fun e w' => ∃ b f g, e = .returned (.tuple #[.map (some b), .bool true]) ∧ w.heap.size ≤ b ∧ Chm w' w.heap.size b vs.length f g ∧ (∀ j, (f j).map XV.v = grp vs j) ∧ (∀ j, ∀ x ∈ f j, GoodX w x) ∧ Below w.heap.size w w' := by
  have hC := iChainOk_any a cap vs w hn h
  obtain ⟨hl80, hP⟩ := chainB_iff.1 hc
  rw [hc] at hC
  obtain ⟨i0, hi, hz0, hz1, hz2⟩ := info_parts infoVer
  clear hc hn
  go_enter Try.func67, Try.ntmps67
  go_wp2_with fail
  refine hC.mono ?_
  rintro e w1 ⟨rfl, hb1⟩
  clear hC
  have hmm := @run_makeMap Try.prog
  have C0 := Chm.made w1 w.heap.size
  have B0 := hb1.alloc hb1.size (.map #[] 0)
  have hbb := hb1.size
  go_wp2_with fail
  clear hmm hb1
  generalize w1.heap.size = b at *
  go_loopw [13] (fun i wr => ∃ (k : Nat) (f : Int → List XV) (g : Int → Value), k ≤ vs.length ∧ i = .int .i64 k ∧ Chm wr w.heap.size b k f g ∧ Hid ((∀ j, (f j).map XV.v = grp (vs.take k) j) ∧ ∀ j, ∀ x ∈ f j, GoodX w x) ∧ Below w.heap.size w wr) (fun i _ => vs.length - (intOf i).toNat)
  case atStart => exact ⟨0, _, _, Nat.zero_le _, rfl, C0, ⟨fun j => rfl, fun j x hx => (by cases hx)⟩, B0⟩
  case round =>
    obtain ⟨k, f, g, hk, rfl, hM, HF, hB⟩ := hrel
    clear C0 B0
    by_cases hlt : k < vs.length
    · obtain ⟨bb, o, da, dc, rfl, hbx, hv0⟩ := h.at hlt
      have hv := hv0.below hB
      have HS : Hid (vs.take (k + 1) = vs.take k ++ [vs[k]]) := takeV vs k hlt
      obtain ⟨k0, k5⟩ := okV_key (hP.1 vs[k] (List.getElem_mem hlt))
      have hfl : (f vs[k].k).length ≤ 80 := by
        have := congrArg List.length (HF.out.1 vs[k].k)
        have h2 := grp_le (vs.take k) vs[k].k
        simp at this h2; omega
      obtain ⟨c0, c1, c2, c3, c4, c5, c6, hd, hdl⟩ := hv
      generalize vs[k] = v at *
      have hG : GoodX w ⟨v, .slice da v.ds.length dc⟩ := ⟨da, dc, rfl, hv0.ds, hdl⟩
      have hgb : ∀ j, (g v.k).ownBlock = some j → j < wr.heap.size := fun j hj => ((hM.row v.k).lt j hj).2
      have bW := (Below.refl wr.heap.size wr).alloc (Nat.le_refl _) (.cells #[.int .i64 v.k, .int .i64 v.t, .int .i64 v.s, .int .i64 v.val, .int .i64 v.cl, .int .i64 v.ca, .slice da v.ds.length dc] 28)
      have N0 := Blk.new wr #[.int .i64 v.k, .int .i64 v.t, .int .i64 v.s, .int .i64 v.val, .int .i64 v.cl, .int .i64 v.ca, .slice da v.ds.length dc] 28
      have M0 := hM.below bW
      have B1 := hB.alloc hB.size (.cells #[.int .i64 v.k, .int .i64 v.t, .int .i64 v.s, .int .i64 v.val, .int .i64 v.cl, .int .i64 v.ca, .slice da v.ds.length dc] 28)
      have lL := N0.lt
      have lw := hB.size
      go_wp2_with fail
      clear c0 c1 c2 c3 c4 c5 c6 hd hv0 hM bW hB
      generalize wr.alloc (.cells #[.int .i64 v.k, .int .i64 v.t, .int .i64 v.s, .int .i64 v.val, .int .i64 v.cl, .int .i64 v.ca, .slice da v.ds.length dc] 28) = W0 at *
      generalize wr.heap.size = LB at *
      have wf := wf_key k0 k5
      have M1 := M0.below ((Below.refl _ W0).alloc (Nat.le_refl _) (.cells #[.int .i64 v.k, .int .i64 v.t, .int .i64 v.s, .int .i64 v.val, .int .i64 v.cl, .int .i64 v.ca, .slice da v.ds.length dc] 28))
      have g1 := M0.look wf
      have g2 : (Instr.lookup 85 (.map (some b)) (.int .i64 v.k) false).run Try.prog W0.drew = .ok (g v.k) W0.drew := (M0.below (Below.refl _ W0).drew).look wf
      have g3 : (Instr.lookup 85 (.map (some b)) (.int .i64 v.k) false).run Try.prog (W0.drew.alloc (.cells #[.int .i64 v.k, .int .i64 v.t, .int .i64 v.s, .int .i64 v.val, .int .i64 v.cl, .int .i64 v.ca, .slice da v.ds.length dc] 28)) = .ok (g v.k) (W0.drew.alloc (.cells #[.int .i64 v.k, .int .i64 v.t, .int .i64 v.s, .int .i64 v.val, .int .i64 v.cl, .int .i64 v.ca, .slice da v.ds.length dc] 28)) := (M0.below ((Below.refl _ W0).drew.alloc (Nat.le_refl _) (.cells #[.int .i64 v.k, .int .i64 v.t, .int .i64 v.s, .int .i64 v.val, .int .i64 v.cl, .int .i64 v.ca, .slice da v.ds.length dc] 28))).look wf
      have g4 : (Instr.lookup 85 (.map (some b)) (.int .i64 v.k) false).run Try.prog (W0.alloc (.cells #[.int .i64 v.k, .int .i64 v.t, .int .i64 v.s, .int .i64 v.val, .int .i64 v.cl, .int .i64 v.ca, .slice da v.ds.length dc] 28)).drew = .ok (g v.k) (W0.alloc (.cells #[.int .i64 v.k, .int .i64 v.t, .int .i64 v.s, .int .i64 v.val, .int .i64 v.cl, .int .i64 v.ca, .slice da v.ds.length dc] 28)).drew := (M0.below ((Below.refl _ W0).alloc (Nat.le_refl _) (.cells #[.int .i64 v.k, .int .i64 v.t, .int .i64 v.s, .int .i64 v.val, .int .i64 v.cl, .int .i64 v.ca, .slice da v.ds.length dc] 28)).drew).look wf
      have g5 : (Instr.lookup 85 (.map (some b)) (.int .i64 v.k) false).run Try.prog (W0.alloc (.cells #[.int .i64 v.k, .int .i64 v.t, .int .i64 v.s, .int .i64 v.val, .int .i64 v.cl, .int .i64 v.ca, .slice da v.ds.length dc] 28)) = .ok (g v.k) (W0.alloc (.cells #[.int .i64 v.k, .int .i64 v.t, .int .i64 v.s, .int .i64 v.val, .int .i64 v.cl, .int .i64 v.ca, .slice da v.ds.length dc] 28)) := (M0.below ((Below.refl _ W0).alloc (Nat.le_refl _) (.cells #[.int .i64 v.k, .int .i64 v.t, .int .i64 v.s, .int .i64 v.val, .int .i64 v.cl, .int .i64 v.ca, .slice da v.ds.length dc] 28))).look wf
      have rA : (W0.drew.alloc (.cells #[.int .i64 v.k, .int .i64 v.t, .int .i64 v.s, .int .i64 v.val, .int .i64 v.cl, .int .i64 v.ca, .slice da v.ds.length dc] 28)).ownsRow w.heap.size 28 7 (g v.k) (f v.k).length (flat7 (f v.k)) := (M0.below ((Below.refl _ W0).drew.alloc (Nat.le_refl _) (.cells #[.int .i64 v.k, .int .i64 v.t, .int .i64 v.s, .int .i64 v.val, .int .i64 v.cl, .int .i64 v.ca, .slice da v.ds.length dc] 28))).row v.k
      have nA : ∀ (j : Nat) (u : Value), (flat7 [⟨v, .slice da v.ds.length dc⟩])[j]? = some u → (W0.drew.alloc (.cells #[.int .i64 v.k, .int .i64 v.t, .int .i64 v.s, .int .i64 v.val, .int .i64 v.cl, .int .i64 v.ca, .slice da v.ds.length dc] 28)).cell? ((Addr.mk W0.heap.size 0 none).add j) = some u := cells7 (x := ⟨v, .slice da v.ds.length dc⟩) (Blk.new W0.drew #[.int .i64 v.k, .int .i64 v.t, .int .i64 v.s, .int .i64 v.val, .int .i64 v.cl, .int .i64 v.ca, .slice da v.ds.length dc] 28)
      have oA : ∀ u ∈ flat7 [⟨v, .slice da v.ds.length dc⟩], u.oneCell' = true := flat7_one (fun z hz => by simp at hz; subst hz; rfl)
      have s0 : Hid (W0.cell? ⟨LB, 0, none⟩ = some (.int .i64 v.k) ∧ W0.cell? ⟨LB, 1, none⟩ = some (.int .i64 v.t) ∧ W0.cell? ⟨LB, 2, none⟩ = some (.int .i64 v.s) ∧ W0.cell? ⟨LB, 3, none⟩ = some (.int .i64 v.val) ∧ W0.cell? ⟨LB, 4, none⟩ = some (.int .i64 v.cl) ∧ W0.cell? ⟨LB, 5, none⟩ = some (.int .i64 v.ca) ∧ W0.cell? ⟨LB, 6, none⟩ = some (.slice da v.ds.length dc)) := by
        obtain ⟨q, _⟩ := N0.rules
        exact ⟨q 0, q 1, q 2, q 3, q 4, q 5, q 6⟩
      have N1 := N0.below ((Below.refl _ W0).drew.alloc (Nat.le_refl _) (.cells #[.int .i64 v.k, .int .i64 v.t, .int .i64 v.s, .int .i64 v.val, .int .i64 v.cl, .int .i64 v.ca, .slice da v.ds.length dc] 28)) lL
      have sA : Hid ((W0.alloc (.cells #[.int .i64 v.k, .int .i64 v.t, .int .i64 v.s, .int .i64 v.val, .int .i64 v.cl, .int .i64 v.ca, .slice da v.ds.length dc] 28)).cell? ⟨LB, 0, none⟩ = some (.int .i64 v.k) ∧ (W0.alloc (.cells #[.int .i64 v.k, .int .i64 v.t, .int .i64 v.s, .int .i64 v.val, .int .i64 v.cl, .int .i64 v.ca, .slice da v.ds.length dc] 28)).cell? ⟨LB, 1, none⟩ = some (.int .i64 v.t) ∧ (W0.alloc (.cells #[.int .i64 v.k, .int .i64 v.t, .int .i64 v.s, .int .i64 v.val, .int .i64 v.cl, .int .i64 v.ca, .slice da v.ds.length dc] 28)).cell? ⟨LB, 2, none⟩ = some (.int .i64 v.s) ∧ (W0.alloc (.cells #[.int .i64 v.k, .int .i64 v.t, .int .i64 v.s, .int .i64 v.val, .int .i64 v.cl, .int .i64 v.ca, .slice da v.ds.length dc] 28)).cell? ⟨LB, 3, none⟩ = some (.int .i64 v.val) ∧ (W0.alloc (.cells #[.int .i64 v.k, .int .i64 v.t, .int .i64 v.s, .int .i64 v.val, .int .i64 v.cl, .int .i64 v.ca, .slice da v.ds.length dc] 28)).cell? ⟨LB, 4, none⟩ = some (.int .i64 v.cl) ∧ (W0.alloc (.cells #[.int .i64 v.k, .int .i64 v.t, .int .i64 v.s, .int .i64 v.val, .int .i64 v.cl, .int .i64 v.ca, .slice da v.ds.length dc] 28)).cell? ⟨LB, 5, none⟩ = some (.int .i64 v.ca) ∧ (W0.alloc (.cells #[.int .i64 v.k, .int .i64 v.t, .int .i64 v.s, .int .i64 v.val, .int .i64 v.cl, .int .i64 v.ca, .slice da v.ds.length dc] 28)).cell? ⟨LB, 6, none⟩ = some (.slice da v.ds.length dc)) := by
        obtain ⟨q, _⟩ := N1.rules
        exact ⟨q 0, q 1, q 2, q 3, q 4, q 5, q 6⟩
      have sB : w.heap.size ≤ (W0.drew.alloc (.cells #[.int .i64 v.k, .int .i64 v.t, .int .i64 v.s, .int .i64 v.val, .int .i64 v.cl, .int .i64 v.ca, .slice da v.ds.length dc] 28)).heap.size := Nat.le_trans B1.size (by simp)
      have h63 : (f v.k).length + 1 ≤ maxLen := by unfold maxLen; omega
      have hby : ((f v.k).length + 1) * 72 ≤ 140737488355328 := by omega
      go_region_held3 (fun W => W.cell? ⟨LB, 0, none⟩ = some (.int .i64 v.k) ∧ W.cell? ⟨LB, 1, none⟩ = some (.int .i64 v.t) ∧ W.cell? ⟨LB, 2, none⟩ = some (.int .i64 v.s) ∧ W.cell? ⟨LB, 3, none⟩ = some (.int .i64 v.val) ∧ W.cell? ⟨LB, 4, none⟩ = some (.int .i64 v.cl) ∧ W.cell? ⟨LB, 5, none⟩ = some (.int .i64 v.ca) ∧ W.cell? ⟨LB, 6, none⟩ = some (.slice da v.ds.length dc)) (first | (rw [s3.out.1, s3.out.2.1, s3.out.2.2.1, s3.out.2.2.2.1, s3.out.2.2.2.2.1, s3.out.2.2.2.2.2.1, s3.out.2.2.2.2.2.2]; exact ⟨rfl, rfl, rfl, rfl, rfl, rfl, rfl⟩) | (rw [s2.out.1, s2.out.2.1, s2.out.2.2.1, s2.out.2.2.2.1, s2.out.2.2.2.2.1, s2.out.2.2.2.2.2.1, s2.out.2.2.2.2.2.2]; exact ⟨rfl, rfl, rfl, rfl, rfl, rfl, rfl⟩) | exact sA.out | exact s0.out)
        (first
          | (refine step_append_at _ (by rfl) _ _ 23 (by rfl) w.heap.size 28 i0 (.agg #[.int .i64 0, .int .i64 0, .int .i64 0, .int .i64 0, .int .i64 0, .int .i64 0, .slice none 0 0]) 7 72 Try.underlying23 hi hz0 hz1 hz2 rfl (by decide) (g v.k) (f v.k).length (flat7 (f v.k)) (by rfl) rA ⟨W0.heap.size, 0, none⟩ 1 1 (flat7 [⟨v, .slice da v.ds.length dc⟩]) (by rfl) rfl nA oA h63 hby sB ?_
             intro v1 W2 own1 grow1 loc1
             have gAll : W0.grownBy W2 (g v.k).ownBlock := (World.grownBy.mk (w := W0) (w' := W0.drew.alloc (.cells #[.int .i64 v.k, .int .i64 v.t, .int .i64 v.s, .int .i64 v.val, .int .i64 v.cl, .int .i64 v.ca, .slice da v.ds.length dc] 28)) rfl rfl rfl (by simp) (fun j hj _ => Below.heap_alloc W0.drew _ j hj)).trans grow1
             have N2 := N0.grown gAll (fun e => by have := hgb LB e.symm; omega)
             have s2 : Hid (W2.cell? ⟨LB, 0, none⟩ = some (.int .i64 v.k) ∧ W2.cell? ⟨LB, 1, none⟩ = some (.int .i64 v.t) ∧ W2.cell? ⟨LB, 2, none⟩ = some (.int .i64 v.s) ∧ W2.cell? ⟨LB, 3, none⟩ = some (.int .i64 v.val) ∧ W2.cell? ⟨LB, 4, none⟩ = some (.int .i64 v.cl) ∧ W2.cell? ⟨LB, 5, none⟩ = some (.int .i64 v.ca) ∧ W2.cell? ⟨LB, 6, none⟩ = some (.slice da v.ds.length dc)) := by
               obtain ⟨q, _⟩ := N2.rules
               exact ⟨q 0, q 1, q 2, q 3, q 4, q 5, q 6⟩
             have hrow2 : W2.ownsRow w.heap.size 28 7 v1 (f v.k ++ [XV.mk v (.slice da v.ds.length dc)]).length (flat7 (f v.k ++ [XV.mk v (.slice da v.ds.length dc)])) := by rw [flat7_append, List.length_append]; exact own1
             obtain ⟨W3, hup, M3, grow3⟩ := M0.store wf (by omega) (by simp) gAll hrow2 (loc1.imp id fun e => ⟨_, e, by simp⟩)
             have N3 := N2.grown grow3 (fun e => by simp at e; subst e; obtain ⟨D, hD, _⟩ := M0.own; obtain ⟨es, cl, hb, _⟩ := hD; have := N0; unfold Blk at this; rw [hb] at this; cases this)
             have s3 : Hid (W3.cell? ⟨LB, 0, none⟩ = some (.int .i64 v.k) ∧ W3.cell? ⟨LB, 1, none⟩ = some (.int .i64 v.t) ∧ W3.cell? ⟨LB, 2, none⟩ = some (.int .i64 v.s) ∧ W3.cell? ⟨LB, 3, none⟩ = some (.int .i64 v.val) ∧ W3.cell? ⟨LB, 4, none⟩ = some (.int .i64 v.cl) ∧ W3.cell? ⟨LB, 5, none⟩ = some (.int .i64 v.ca) ∧ W3.cell? ⟨LB, 6, none⟩ = some (.slice da v.ds.length dc)) := by
               obtain ⟨q, _⟩ := N3.rules
               exact ⟨q 0, q 1, q 2, q 3, q 4, q 5, q 6⟩
             have B3 : Below w.heap.size w W3 := (B1.grown gAll B1.size (fun j hj => ((M0.row v.k).lt j hj).1)).grown grow3 (Nat.le_trans B1.size gAll.size) (fun j hj => by simp at hj; omega)
             clear own1 grow1 loc1 gAll N2 N3 hrow2 grow3 g1 g2 g3 g4 g5 rA nA oA N1 N0 M1 sB)
          | (refine step_update _ (by rfl) _ _ _ 85 (by rfl) (.map (some b)) (.int .i64 v.k) v1 (by rfl) (by rfl) (by rfl) W3 hup ?_))
      all_goals
        clear s0 sA s2 s3
        go_wp2_with fail
        go_roundw
        case rel =>
          refine ⟨k + 1, _, _, by omega, by go_num, M3, ⟨fun j => ?_, fun j x hx => ?_⟩, B3⟩
          · rw [HS.out, grp_snoc]
            by_cases e : j = v.k
            · subst e; rw [upd_same, if_pos rfl, List.map_append, HF.out.1]; rfl
            · rw [upd_other _ _ e, if_neg e, HF.out.1]
          · by_cases e : j = v.k
            · subst e
              rw [upd_same] at hx
              rcases List.mem_append.1 hx with hx | hx
              · exact HF.out.2 _ x hx
              · simp at hx; subst hx; exact hG
            · rw [upd_other _ _ e] at hx; exact HF.out.2 j x hx
        case measure => simp [intOf]; omega
    · have hk2 : k = vs.length := by omega
      subst hk2
      rw [List.take_length] at HF
      go_wp2_with fail
      go_ret2
      exact ⟨b, f, g, rfl, hbb, hM, HF.out.1, HF.out.2, hB⟩
end Go.Proofs.Ythlmodafadfnfaa

/- Cells of versions are shifted; copies of elements of several cells. -/
namespace Go.Proofs.Ythlmodafadfnfaa
open Go.ChangeShapes Go.WideShapes Go.ChangeAt Go.RowKit

theorem run_copy_rowk {P : Program} (w : World) (dT sT ty elem : TypeId) (g o dLen dCap : Nat) (a : Addr) (sLen sCap : Nat) (cur : Array Value) (t : TypeId) (cs : List Value) (m k : Nat)
    (hu : P.underlying dT = some (.slice elem)) (hs : (P.info? elem).map (·.size) = some k)
    (hg : w.heap[g]? = some (.cells cur t (0, 0))) (hm : Nat.min sLen dLen = m) (hn : cs.length = m * k)
    (hsrc : ∀ j v, cs[j]? = some v → w.cell? (a.add j) = some v) (hfit : o + cs.length ≤ cur.size) (h1 : ∀ v ∈ cs, v.oneCell' = true) :
    (Builtin.copy_ #[dT, sT] ty #[.slice (some ⟨g, o, none⟩) dLen dCap, .slice (some a) sLen sCap]).run P w =
      .ok (goInt m) (w.setRow g (cur.toList.take o ++ cs ++ cur.toList.drop (o + cs.length)).toArray) := by
  have hl := run_loadCells_list (P := P) w a cs hsrc
  have hst := run_storeCells_at P g o t cs 0 cur w hg (by simpa using hfit) h1
  cases hq : P.info? elem with
  | none => simp [hq] at hs
  | some i =>
    have hi : i.size = k := by simpa [hq] using hs
    rw [hn] at hl
    simp [Builtin.copy_, run_underlying hu, Builtin.lenOf, Builtin.firstCells, sizeOf, typeInfo, hq, hi, hm, hl, hst]

theorem flat7_single (x : XV) : (flat7 [x]).length = 7 := rfl
/-- Where an element goes in: what lay behind is shifted first. -/
theorem shift_cells {L : List Value} {xs : List XV} {x : XV} {n i : Nat} (hx : xs.length = n) (hi : i < n) (hL : L.take (n * 7) = flat7 xs) (hl : (n + 1) * 7 ≤ L.length) (L1 L2 : List Value) (h1 : L1 = L.take ((i + 1) * 7) ++ flat7 (xs.drop i) ++ L.drop ((i + 1) * 7 + (flat7 (xs.drop i)).length)) (h2 : L2 = L1.take (i * 7) ++ flat7 [x] ++ L1.drop (i * 7 + (flat7 [x]).length)) :
    L1.length = L.length ∧ L2.length = L.length ∧ L2.take ((n + 1) * 7) = flat7 (xs.take i ++ x :: xs.drop i) := by
  have ld : (flat7 (xs.drop i)).length = (n - i) * 7 := by rw [flat7_len, List.length_drop, hx]
  have e1 : L.take (i * 7) = flat7 (xs.take i) := by
    rw [← flat7_take, ← hL, List.take_take, Nat.min_eq_left (by omega)]
  have len1 : L1.length = L.length := by
    rw [h1]; simp only [List.length_append, List.length_take, List.length_drop, ld]; omega
  have t1 : L1.take (i * 7) = flat7 (xs.take i) := by
    rw [h1, List.append_assoc, List.take_append_of_le_length (by rw [List.length_take]; omega), List.take_take, Nat.min_eq_left (by omega), e1]
  have d1 : L1.drop (i * 7 + 7) = flat7 (xs.drop i) ++ L.drop ((i + 1) * 7 + (flat7 (xs.drop i)).length) := by
    rw [h1, List.append_assoc, List.drop_append_of_le_length (by rw [List.length_take]; omega), List.drop_take]
    rw [show (i + 1) * 7 - (i * 7 + 7) = 0 by omega]
    simp
  have e2 : L2 = flat7 (xs.take i ++ x :: xs.drop i) ++ L.drop ((i + 1) * 7 + (flat7 (xs.drop i)).length) := by
    rw [h2, flat7_single, t1, d1, flat7_append, show x :: xs.drop i = [x] ++ xs.drop i from rfl, flat7_append]
    simp
  have lf : (flat7 (xs.take i ++ x :: xs.drop i)).length = (n + 1) * 7 := by
    rw [flat7_len]; simp only [List.length_append, List.length_cons, List.length_take, List.length_drop, hx]
    rw [Nat.min_eq_left (by omega)]; omega
  refine ⟨len1, ?_, ?_⟩
  · rw [e2, List.length_append, lf, List.length_drop, ld]; omega
  · rw [e2, ← lf]; exact List.take_left
/-- The same over a new row. -/
theorem grow_cells {xs : List XV} {x : XV} {n i : Nat} (hx : xs.length = n) (hi : i < n) {R : List Value} {z1 z2 : List Value} (hR : R = flat7 (xs.take i) ++ z1 ++ z2) (h1 : z1.length = (n + 1 - i) * 7) (L1 L2 : List Value) (e1 : L1 = R.take (i * 7) ++ flat7 [x] ++ R.drop (i * 7 + (flat7 [x]).length)) (e2 : L2 = L1.take ((i + 1) * 7) ++ flat7 (xs.drop i) ++ L1.drop ((i + 1) * 7 + (flat7 (xs.drop i)).length)) :
    L1.length = R.length ∧ L2.length = R.length ∧ L2.take ((n + 1) * 7) = flat7 (xs.take i ++ x :: xs.drop i) := by
  have ld : (flat7 (xs.drop i)).length = (n - i) * 7 := by rw [flat7_len, List.length_drop, hx]
  have lt : (flat7 (xs.take i)).length = i * 7 := by rw [flat7_len, List.length_take, hx, Nat.min_eq_left (by omega)]
  have lR : R.length = i * 7 + (n + 1 - i) * 7 + z2.length := by rw [hR]; simp only [List.length_append, lt, h1]
  have t0 : R.take (i * 7) = flat7 (xs.take i) := by rw [hR, List.append_assoc, ← lt]; exact List.take_left
  have l1 : L1.length = R.length := by rw [e1]; simp only [List.length_append, List.length_take, List.length_drop, flat7_single]; omega
  have t1 : L1.take ((i + 1) * 7) = flat7 (xs.take i) ++ flat7 [x] := by
    rw [e1, t0]
    have : (i + 1) * 7 = (flat7 (xs.take i) ++ flat7 [x]).length := by rw [List.length_append, lt, flat7_single]; omega
    rw [this]; exact List.take_left
  have lf : (flat7 (xs.take i ++ x :: xs.drop i)).length = (n + 1) * 7 := by
    rw [flat7_len]; simp only [List.length_append, List.length_cons, List.length_take, List.length_drop, hx]
    rw [Nat.min_eq_left (by omega)]; omega
  have e3 : L2 = flat7 (xs.take i ++ x :: xs.drop i) ++ L1.drop ((i + 1) * 7 + (flat7 (xs.drop i)).length) := by
    rw [e2, t1, flat7_append, show x :: xs.drop i = [x] ++ xs.drop i from rfl, flat7_append]
    simp
  refine ⟨l1, ?_, ?_⟩
  · rw [e3, List.length_append, lf, List.length_drop, ld, l1]; omega
  · rw [e3, ← lf]; exact List.take_left
end Go.Proofs.Ythlmodafadfnfaa

/- A version goes into a slice of versions at its place. -/
namespace Go.Proofs.Ythlmodafadfnfaa
open Go.ChangeShapes Go.WideShapes Go.ChangeAt Go.RowKit Go.Lib

theorem sizeVer : (Try.prog.info? 28).map (·.size) = some 7 := by
  obtain ⟨i0, hi, hz0, hz1, hz2⟩ := info_parts infoVer
  rw [hi]; simp [hz1]

set_option maxHeartbeats 4000000 in
set_option maxRecDepth 100000 in
theorem insert_shift (g n c i vb : Nat) (cur : Array Value) (xs : List XV) (x : XV) (w : World) (hi : i < n) (hroom : n + 1 ≤ c) (hc63 : c ≤ maxLen) (hvb : vb ≠ g) (hg : w.heap[g]? = some (.cells cur 28 (0, 0))) (hcs : cur.size = c * 7) (htake : cur.toList.take (n * 7) = flat7 xs) (hxl : xs.length = n)
    (hB : Blk w vb #[.int .i64 x.v.k, .int .i64 x.v.t, .int .i64 x.v.s, .int .i64 x.v.val, .int .i64 x.v.cl, .int .i64 x.v.ca, x.p] 28) (h1 : ∀ y ∈ xs, y.p.oneCell' = true) (h1x : x.p.oneCell' = true) :
    Calls Try.prog 106 #[.slice (some ⟨g, 0, none⟩) n c, .int .i64 i, .slice (some ⟨vb, 0, none⟩) 1 1] w fun e w' => e = .returned (.slice (some ⟨g, 0, none⟩) (n + 1) c) ∧ (∃ cur', w'.heap[g]? = some (.cells cur' 28 (0, 0)) ∧ cur'.size = c * 7 ∧ cur'.toList.take ((n + 1) * 7) = flat7 (xs.take i ++ x :: xs.drop i)) ∧ w.grownBy w' (some g) := by
  unfold maxLen at hc63
  have mixed : Try.prog.follows .mixedOrders = true := by kernel_rfl
  obtain ⟨L1, hL1⟩ : ∃ L1, L1 = cur.toList.take ((i + 1) * 7) ++ flat7 (xs.drop i) ++ cur.toList.drop ((i + 1) * 7 + (flat7 (xs.drop i)).length) := ⟨_, rfl⟩
  obtain ⟨L2, hL2⟩ : ∃ L2, L2 = L1.take (i * 7) ++ flat7 [x] ++ L1.drop (i * 7 + (flat7 [x]).length) := ⟨_, rfl⟩
  obtain ⟨l1, l2, ht⟩ := shift_cells hxl hi htake (by simp [hcs]; omega) L1 L2 hL1 hL2
  have ld : (flat7 (xs.drop i)).length = (n - i) * 7 := by rw [flat7_len, List.length_drop, hxl]
  have hcell : ∀ (j : Nat) (u : Value), (flat7 xs)[j]? = some u → w.cell? ⟨g, j, none⟩ = some u := fun j u hj => by
    rw [← htake, List.getElem?_take] at hj
    split at hj
    · simp [World.cell?, hg]; simpa using hj
    · cases hj
  have hf : ∀ j, w.frozen? ⟨g, j, none⟩ = false := fun j => by simp [World.frozen?, hg]
  have hov : ∀ lb cb, (callFunc 119 #[.slice (some ⟨vb, 0, none⟩) 1 1, .slice (some ⟨g, (i + 1) * 7, none⟩) lb cb]).run Try.prog w = .ok (.value (.bool false)) w := fun lb cb => by
    rw [run_callFunc_extern Try.func119 (by kernel_rfl) (by kernel_rfl) (by kernel_rfl) (e := Extern.SlicesOverlaps.overlaps #[23, 23] #[4]) (by kernel_rfl),
      Lib.run_overlaps_apart w 23 4 28 Try.underlying23 7 Try.sizeOf28 ⟨vb, 0, none⟩ ⟨g, (i + 1) * 7, none⟩ 1 1 lb cb hvb 28 28 7 cur.size (by simp [World.shape?, show w.heap[vb]? = _ from hB]) (by simp [World.shape?, hg]) (by rw [hcs]; omega) (hB.frozen 0) (hB.frozen 7)]
    rfl
  have hz2 : ¬ ((i : Int) = (n : Int)) := by omega
  have hw1 : IntKind.i64.wrap ((i : Int) + 1) = (i : Int) + 1 := by rw [IntKind.wrap_i64]; omega
  have hw2 : IntKind.i64.wrap ((n : Int) + 1) = (n : Int) + 1 := by rw [IntKind.wrap_i64]; omega
  have hb1 : (0 : Int) ≤ (i : Int) + 1 := by omega
  have htn : ((i : Int) + 1).toNat = i + 1 := by omega
  have hb2 : ¬ (c = i + 1) := by omega
  have hb3 : (i : Int) ≤ (n : Int) + 1 := by omega
  have hb4 : ¬ (c = i) := by omega
  have hb5 : (i : Int) ≤ (n : Int) := by omega
  have hb6 : ¬ ((c : Int) < (n : Int) + 1) := by omega
  have htn2 : ((n : Int) + 1).toNat = n + 1 := by omega
  have hcp1 : ∀ ty dc sc, (Builtin.copy_ #[23, 23] ty #[.slice (some ⟨g, (i + 1) * 7, none⟩) (n - i) dc, .slice (some ⟨g, i * 7, none⟩) (n + 1 - i) sc]).run Try.prog w.drew = .ok (goInt ((n - i : Nat) : Int)) (w.drew.setRow g L1.toArray) := fun ty dc sc => by
    rw [hL1]
    exact run_copy_rowk w.drew _ _ ty 28 g ((i + 1) * 7) (n - i) dc ⟨g, i * 7, none⟩ (n + 1 - i) sc cur 28 (flat7 (xs.drop i)) (n - i) 7 Try.underlying23 sizeVer hg (by simp only [Nat.min_def]; split <;> omega) ld
      (fun j u hj => by
        rw [addr_add]
        refine hcell (i * 7 + j) u ?_
        rw [← flat7_drop, List.getElem?_drop] at hj
        exact hj)
      (by rw [ld, hcs]; omega) (flat7_one fun y hy => h1 y (List.mem_of_mem_drop hy))
  have hg1 : (w.drew.setRow g L1.toArray).heap[g]? = some (.cells L1.toArray 28 (0, 0)) := setRow_heap w.drew g cur _ _ _ hg
  have hB1 : Blk (w.drew.setRow g L1.toArray) vb #[.int .i64 x.v.k, .int .i64 x.v.t, .int .i64 x.v.s, .int .i64 x.v.val, .int .i64 x.v.cl, .int .i64 x.v.ca, x.p] 28 := (setRow_other w.drew g vb _ hvb).trans hB
  have hcp2 : ∀ ty dc, (Builtin.copy_ #[23, 23] ty #[.slice (some ⟨g, i * 7, none⟩) (n + 1 - i) dc, .slice (some ⟨vb, 0, none⟩) 1 1]).run Try.prog (w.drew.setRow g L1.toArray) = .ok (goInt 1) ((w.drew.setRow g L1.toArray).setRow g L2.toArray) := fun ty dc => by
    rw [hL2]
    exact run_copy_rowk (w.drew.setRow g L1.toArray) _ _ ty 28 g (i * 7) (n + 1 - i) dc ⟨vb, 0, none⟩ 1 1 L1.toArray 28 (flat7 [x]) 1 7 Try.underlying23 sizeVer hg1 (by simp only [Nat.min_def]; split <;> omega) rfl (cells7 hB1) (by rw [flat7_single]; simp [l1, hcs]; omega) (flat7_one fun y hy => by simp at hy; subst hy; exact h1x)
  have hfin : ((w.drew.setRow g L1.toArray).setRow g L2.toArray).heap[g]? = some (.cells L2.toArray 28 (0, 0)) := setRow_heap _ g L1.toArray _ _ _ hg1
  have hgr : w.grownBy ((w.drew.setRow g L1.toArray).setRow g L2.toArray) (some g) := ⟨rfl, rfl, rfl, by simp [World.setRow], fun k _ hk => (setRow_other _ g k _ (fun e => hk (by rw [e]))).trans (setRow_other w.drew g k _ (fun e => hk (by rw [e])))⟩
  have HE : Hid (L2.toArray.size = c * 7 ∧ L2.toArray.toList.take ((n + 1) * 7) = flat7 (xs.take i ++ x :: xs.drop i)) := ⟨by simp [l2, hcs], by simpa using ht⟩
  clear hL1 hL2 l1 l2 ht hcell htake hcs ld hg1 hB1
  generalize L1.toArray = A1 at *
  generalize L2.toArray = A2 at *
  go_enter Try.func106, Try.ntmps106
  go_wp2_with (simp only [hov])
  go_region_law_o (refine step_copy_runI rfl _ _ 23 23 rfl _ _ (by simp [Act.eval, Act.put]) (by simp [Act.eval, Act.put]) (hcp1 _ _ _) ?_)
  go_wp2_with (at_builtin; refine wpList_copy_runI _ rfl _ _ 23 23 rfl _ _ rfl rfl (hcp2 _ _) ?_)
  go_ret
  exact ⟨rfl, ⟨A2, hfin, HE.out.1, HE.out.2⟩, hgr⟩
end Go.Proofs.Ythlmodafadfnfaa

/- A version goes into a slice of versions: at its end, or where there is no room. -/
namespace Go.Proofs.Ythlmodafadfnfaa
open Go.ChangeShapes Go.WideShapes Go.ChangeAt Go.RowKit Go.Lib

set_option maxHeartbeats 4000000 in
set_option maxRecDepth 100000 in
theorem insert_end (base vb : Nat) (v : Value) (xs : List XV) (x : XV) (w : World) (hown : w.ownsRow base 28 7 v xs.length (flat7 xs)) (hn : xs.length ≤ 100) (hb : base ≤ w.heap.size)
    (hB : Blk w vb #[.int .i64 x.v.k, .int .i64 x.v.t, .int .i64 x.v.s, .int .i64 x.v.val, .int .i64 x.v.cl, .int .i64 x.v.ca, x.p] 28) (h1x : x.p.oneCell' = true) :
    Calls Try.prog 106 #[v, .int .i64 xs.length, .slice (some ⟨vb, 0, none⟩) 1 1] w fun e w' => ∃ v', e = .returned v' ∧ w'.ownsRow base 28 7 v' (xs.length + 1) (flat7 xs ++ flat7 [x]) ∧ w.grownBy w' v.ownBlock ∧ (v'.ownBlock = v.ownBlock ∨ ∃ j, v'.ownBlock = some j ∧ w.heap.size ≤ j) := by
  obtain ⟨i0, hi, hz0, hz1, hz2⟩ := info_parts infoVer
  have hone : ∀ u ∈ flat7 [x], u.oneCell' = true := flat7_one fun y hy => by simp at hy; subst hy; exact h1x
  have hcells := cells7 hB
  have h63 : xs.length + 1 ≤ maxLen := by unfold maxLen; omega
  have hby : (xs.length + 1) * 72 ≤ 140737488355328 := by omega
  rcases hown.2 with ⟨rfl, hl⟩ | ⟨g, cap, cur, rfl, _, _, hnc, hcm, _⟩
  · obtain rfl : xs = [] := List.length_eq_zero_iff.1 hl
    clear hl
    simp only [List.length_nil] at *
    go_enter Try.func106, Try.ntmps106
    go_wp2_with (first | (at_builtin; refine wpList_append_own_at _ rfl _ _ 23 rfl base 28 i0 (.agg #[.int .i64 0, .int .i64 0, .int .i64 0, .int .i64 0, .int .i64 0, .int .i64 0, .slice none 0 0]) 7 72 Try.underlying23 hi hz0 hz1 hz2 rfl (by decide) (.slice none 0 0) 0 (flat7 []) rfl hown ⟨vb, 0, none⟩ 1 1 (flat7 [x]) rfl rfl hcells hone h63 hby hb ?_; intro v' w1 hrow hgr _ hloc))
    go_ret
    exact ⟨_, rfl, hrow, hgr, hloc.imp id fun e => ⟨_, e, Nat.le_refl _⟩⟩
  · unfold maxLen at hcm
    have hle : (xs.length : Int) ≤ (cap : Int) := by omega
    generalize hxn : xs.length = n at *
    go_enter Try.func106, Try.ntmps106
    go_wp2_with (first | (at_builtin; refine wpList_append_own_at _ rfl _ _ 23 rfl base 28 i0 (.agg #[.int .i64 0, .int .i64 0, .int .i64 0, .int .i64 0, .int .i64 0, .int .i64 0, .slice none 0 0]) 7 72 Try.underlying23 hi hz0 hz1 hz2 rfl (by decide) (.slice (some ⟨g, 0, none⟩) n cap) n (flat7 xs) rfl hown ⟨vb, 0, none⟩ 1 1 (flat7 [x]) rfl rfl hcells hone h63 hby hb ?_; intro v' w1 hrow hgr _ hloc))
    all_goals
      go_ret
      exact ⟨_, rfl, hrow, hgr, hloc.imp id fun e => ⟨_, e, Nat.le_refl _⟩⟩

set_option maxHeartbeats 4000000 in
set_option maxRecDepth 100000 in
theorem insert_grow (g n c i vb : Nat) (cur : Array Value) (xs : List XV) (x : XV) (w : World) (hi : i < n) (hn : n ≤ 100) (hroom : c < n + 1) (hnc : n ≤ c) (hg : w.heap[g]? = some (.cells cur 28 (0, 0))) (htake : cur.toList.take (n * 7) = flat7 xs) (hxl : xs.length = n)
    (hB : Blk w vb #[.int .i64 x.v.k, .int .i64 x.v.t, .int .i64 x.v.s, .int .i64 x.v.val, .int .i64 x.v.cl, .int .i64 x.v.ca, x.p] 28) (h1 : ∀ y ∈ xs, y.p.oneCell' = true) (h1x : x.p.oneCell' = true) :
    Calls Try.prog 106 #[.slice (some ⟨g, 0, none⟩) n c, .int .i64 i, .slice (some ⟨vb, 0, none⟩) 1 1] w fun e w' => ∃ G cur', e = .returned (.slice (some ⟨w.heap.size, 0, none⟩) (n + 1) G) ∧ n + 1 ≤ G ∧ G ≤ maxLen ∧ w'.heap[w.heap.size]? = some (.cells cur' 28 (0, 0)) ∧ cur'.size = G * 7 ∧ cur'.toList.take ((n + 1) * 7) = flat7 (xs.take i ++ x :: xs.drop i) ∧ w.grownBy w' none := by
  obtain ⟨i0, hi0, hz0, hzs, hzb⟩ := info_parts infoVer
  have mixed : Try.prog.follows .mixedOrders = true := by kernel_rfl
  obtain rfl : c = n := by omega
  have lt : (flat7 (xs.take i)).length = i * 7 := by rw [flat7_len, List.length_take, hxl, Nat.min_eq_left (by omega)]
  have ld : (flat7 (xs.drop i)).length = (c - i) * 7 := by rw [flat7_len, List.length_drop, hxl]
  have hcell : ∀ (j : Nat) (u : Value), (flat7 xs)[j]? = some u → w.cell? ⟨g, j, none⟩ = some u := fun j u hj => by
    rw [← htake, List.getElem?_take] at hj
    split at hj
    · simp [World.cell?, hg]; simpa using hj
    · cases hj
  have hgw : g < w.heap.size := (Array.getElem?_eq_some_iff.1 hg).1
  have hold : (Builtin.firstCells i0.size i (.slice (some ⟨g, 0, none⟩) i c)).run Try.prog w.drew = .ok (flat7 (xs.take i)).toArray w.drew := by
    rw [hzs]
    exact run_firstCells_some w.drew 7 i ⟨g, 0, none⟩ i c (flat7 (xs.take i)) lt (fun j u hj => by
      rw [addr_add, Nat.zero_add]
      refine hcell j u ?_
      rw [← flat7_take, List.getElem?_take] at hj
      split at hj
      · exact hj
      · cases hj)
  have hik : i + (c + 1 - i) = c + 1 := by omega
  have hkk : (c : Int) + 1 - (i : Int) = ((c + 1 - i : Nat) : Int) := by omega
  obtain ⟨G, hG⟩ : ∃ G, G = grownCap w (c + 1) c 28 := ⟨_, rfl⟩
  obtain ⟨ROW, hROW⟩ : ∃ ROW : Array Value, ROW = (flat7 (xs.take i)).toArray ++ Builtin.zeroCells (Value.agg #[.int .i64 0, .int .i64 0, .int .i64 0, .int .i64 0, .int .i64 0, .int .i64 0, .slice none 0 0]).cells (c + 1 - i) ++ Builtin.zeroCells (Value.agg #[.int .i64 0, .int .i64 0, .int .i64 0, .int .i64 0, .int .i64 0, .int .i64 0, .slice none 0 0]).cells (G - (c + 1)) := ⟨_, rfl⟩
  have hrz : ∀ ty, (Builtin.append_ #[23, 3] ty #[.slice (some ⟨g, 0, none⟩) i c, .int .i64 ((c : Int) + 1 - (i : Int))]).run Try.prog w = .ok (.slice (some ⟨w.heap.size, 0, none⟩) (c + 1) G) (w.drew.alloc (.cells ROW 28)) := fun ty => by
    have h := Lib.run_append_grow_zeros w 23 3 ty 28 i0 _ .i64 .i64 Try.underlying23 Try.underlying3 hi0 hz0 (some ⟨g, 0, none⟩) i c (flat7 (xs.take i)) hold (c + 1 - i) (by omega) (by omega) (by omega) (by omega) (by rw [hzb]; omega) (by rw [hzb, hik]; exact growslice_fits hroom (by omega))
    rw [hik] at h
    rw [hkk, hROW, hG]
    exact h
  have hGn : c + 1 ≤ G := by rw [hG]; exact grownCap_ge w _ _ _
  have hG63 : G ≤ maxLen := by rw [hG]; exact grownCap_le_maxLen w _ _ _ (by unfold maxLen; omega)
  have hzc : ∀ k, (Builtin.zeroCells (Value.agg #[.int .i64 0, .int .i64 0, .int .i64 0, .int .i64 0, .int .i64 0, .int .i64 0, .slice none 0 0]).cells k).size = k * 7 := fun k => by rw [size_zeroCells]; rfl
  have hRs : ROW.size = G * 7 := by rw [hROW]; simp only [Array.size_append, hzc, List.size_toArray, lt]; omega
  have hRl : ROW.toList = flat7 (xs.take i) ++ (Builtin.zeroCells (Value.agg #[.int .i64 0, .int .i64 0, .int .i64 0, .int .i64 0, .int .i64 0, .int .i64 0, .slice none 0 0]).cells (c + 1 - i)).toList ++ (Builtin.zeroCells (Value.agg #[.int .i64 0, .int .i64 0, .int .i64 0, .int .i64 0, .int .i64 0, .int .i64 0, .slice none 0 0]).cells (G - (c + 1))).toList := by rw [hROW]; simp
  obtain ⟨L1, hL1⟩ : ∃ L1, L1 = ROW.toList.take (i * 7) ++ flat7 [x] ++ ROW.toList.drop (i * 7 + (flat7 [x]).length) := ⟨_, rfl⟩
  obtain ⟨L2, hL2⟩ : ∃ L2, L2 = L1.take ((i + 1) * 7) ++ flat7 (xs.drop i) ++ L1.drop ((i + 1) * 7 + (flat7 (xs.drop i)).length) := ⟨_, rfl⟩
  obtain ⟨l1, l2, ht⟩ := grow_cells hxl hi hRl (by rw [Array.length_toList, hzc]) L1 L2 hL1 hL2
  have hRs2 : ROW.toList.length = G * 7 := by rw [Array.length_toList, hRs]
  rw [hRs2] at l1 l2
  have hgN : (w.drew.alloc (.cells ROW 28)).heap[w.heap.size]? = some (.cells ROW 28 (0, 0)) := heap_alloc_new w.drew _
  have hold2 : ∀ k, k < w.heap.size → (w.drew.alloc (.cells ROW 28)).heap[k]? = w.heap[k]? := fun k hk => Below.heap_alloc w.drew _ k hk
  have hcpA : ∀ W : World, W.heap = (w.drew.alloc (.cells ROW 28)).heap → ∀ ty dc, (Builtin.copy_ #[23, 23] ty #[.slice (some ⟨w.heap.size, i * 7, none⟩) (c + 1 - i) dc, .slice (some ⟨vb, 0, none⟩) 1 1]).run Try.prog W = .ok (goInt 1) (W.setRow w.heap.size L1.toArray) := fun W hW ty dc => by
    rw [hL1]
    refine run_copy_rowk W _ _ ty 28 w.heap.size (i * 7) (c + 1 - i) dc ⟨vb, 0, none⟩ 1 1 ROW 28 (flat7 [x]) 1 7 Try.underlying23 sizeVer (by rw [hW]; exact hgN) (by simp only [Nat.min_def]; split <;> omega) rfl (cells7 (T := 28) ?_) (by rw [flat7_single, hRs]; omega) (flat7_one fun y hy => by simp at hy; subst hy; exact h1x)
    show W.heap[vb]? = _
    rw [hW, hold2 vb hB.lt]; exact hB
  have hg1 : ∀ W : World, W.heap = (w.drew.alloc (.cells ROW 28)).heap → (W.setRow w.heap.size L1.toArray).heap[w.heap.size]? = some (.cells L1.toArray 28 (0, 0)) := fun W hW => setRow_heap W w.heap.size ROW _ _ _ (by rw [hW]; exact hgN)
  have ho1 : ∀ W : World, W.heap = (w.drew.alloc (.cells ROW 28)).heap → ∀ k, k < w.heap.size → (W.setRow w.heap.size L1.toArray).heap[k]? = w.heap[k]? := fun W hW k hk => (setRow_other W w.heap.size k _ (by omega)).trans (by rw [hW]; exact hold2 k hk)
  have hcpB : ∀ W : World, W.heap[w.heap.size]? = some (.cells L1.toArray 28 (0, 0)) → (∀ k, k < w.heap.size → W.heap[k]? = w.heap[k]?) → ∀ ty dc sc, (Builtin.copy_ #[23, 23] ty #[.slice (some ⟨w.heap.size, (i + 1) * 7, none⟩) (c - i) dc, .slice (some ⟨g, i * 7, none⟩) (c - i) sc]).run Try.prog W = .ok (goInt ((c - i : Nat) : Int)) (W.setRow w.heap.size L2.toArray) := fun W hW hWo ty dc sc => by
    rw [hL2]
    exact run_copy_rowk W _ _ ty 28 w.heap.size ((i + 1) * 7) (c - i) dc ⟨g, i * 7, none⟩ (c - i) sc L1.toArray 28 (flat7 (xs.drop i)) (c - i) 7 Try.underlying23 sizeVer hW (by simp only [Nat.min_def]; split <;> omega) ld
      (fun j u hj => by
        rw [addr_add]
        rw [World.cell?_of_block (w := w) (a := ⟨g, i * 7 + j, none⟩) (hWo g hgw)]
        refine hcell (i * 7 + j) u ?_
        rw [← flat7_drop, List.getElem?_drop] at hj
        exact hj)
      (by rw [ld]; simp [l1]; omega) (flat7_one fun y hy => h1 y (List.mem_of_mem_drop hy))
  have HE : Hid (L2.toArray.size = G * 7 ∧ L2.toArray.toList.take ((c + 1) * 7) = flat7 (xs.take i ++ x :: xs.drop i)) := ⟨by simp [l2], by simpa using ht⟩
  have hz2 : ¬ ((i : Int) = (c : Int)) := by omega
  have hw1 : IntKind.i64.wrap ((i : Int) + 1) = (i : Int) + 1 := by rw [IntKind.wrap_i64]; omega
  have hw2 : IntKind.i64.wrap ((c : Int) + 1) = (c : Int) + 1 := by rw [IntKind.wrap_i64]; omega
  have hw3 : IntKind.i64.wrap ((c : Int) + 1 - i) = (c : Int) + 1 - i := by rw [IntKind.wrap_i64]; omega
  have hb1 : (0 : Int) ≤ (i : Int) + 1 := by omega
  have htn : ((i : Int) + 1).toNat = i + 1 := by omega
  have hb2 : ¬ (G = i + 1) := by omega
  have hb4 : ¬ (c = i) := by omega
  have hb5 : (i : Int) ≤ (c : Int) := by omega
  have hb6 : ¬ (G = i) := by omega
  have hb7 : (i : Int) ≤ (c : Int) + 1 := by omega
  have hE1 : ((w.alloc (.cells ROW 28)).drew).heap = (w.drew.alloc (.cells ROW 28)).heap := rfl
  have hF1 := hg1 _ hE1
  have hF2 := ho1 _ hE1
  unfold maxLen at hG63
  clear hG hROW hRl hL1 hL2 l1 l2 ht hcell htake hold lt ld hzc hRs hRs2 hik hkk hgN hold2 hg1 ho1
  generalize L1.toArray = A1 at *
  generalize L2.toArray = A2 at *
  go_enter Try.func106, Try.ntmps106
  go_wp2_with (first | (at_builtin; refine Lib.wpList_append_run _ rfl _ _ _ _ rfl _ _ rfl rfl _ _ (hrz _) ?_) | (at_builtin; refine wpList_copy_runI _ rfl _ _ 23 23 rfl _ _ rfl rfl (hcpA ((w.alloc (.cells ROW 28)).drew) hE1 _ _) ?_))
  go_region_law_o (refine step_copy_runI rfl _ _ 23 23 rfl (.slice (some ⟨w.heap.size, (i + 1) * 7, none⟩) (c - i) (G - (i + 1))) (.slice (some ⟨g, i * 7, none⟩) (c - i) (c - i)) (by simp [Act.eval, Act.put]) (by simp [Act.eval, Act.put]) (hcpB (((w.alloc (.cells ROW 28)).drew.setRow w.heap.size A1).drew) hF1 hF2 3 (G - (i + 1)) (c - i)) ?_)
  go_wp2_with fail
  go_ret
  refine ⟨G, A2, rfl, hGn, by unfold maxLen; omega, ?_, HE.out.1, HE.out.2, ⟨rfl, rfl, rfl, ?_, fun k hk _ => ?_⟩⟩
  · exact setRow_heap _ w.heap.size A1 _ _ _ hF1
  · simp [World.setRow]
  · exact (setRow_other _ w.heap.size k _ (by omega)).trans (hF2 k hk)
end Go.Proofs.Ythlmodafadfnfaa

/- The program's search among versions of a key. -/
namespace Go.Proofs.Ythlmodafadfnfaa
open Go.ChangeShapes Go.WideShapes Go.ChangeAt Go.RowKit

set_option maxHeartbeats 4000000 in
theorem against_any (v : V) (da : Option Addr) (n dc : Nat) (t s : Int) (w : World) :
    Calls Try.prog 111 #[verV v.k v.t v.s v.val v.cl v.ca da n dc, stampV t s] w fun e w' => e = .returned (.int .i64 (ordV v.t v.s t s)) ∧ Below w.heap.size w w' := by
  obtain ⟨k, t', s', val, cl, ca, ds⟩ := v
  go_enter Try.func111, Try.ntmps111
  go_wp2
  go_region_with (first | (go_at_call 77; refine (then_any _).mono ?_; rintro e w1 ⟨rfl, rfl⟩) | (go_at_call 109; refine (order_any _ _ _ _ _ _ _ ?_ ?_).mono ?_; go_simp; go_simp; rintro e w1 ⟨rfl, hb⟩))
  all_goals
    go_wp2
    go_ret
    exact ⟨rfl, ((((((Below.refl _ _).alloc (Nat.le_refl _) _).alloc (by simp) _).alloc (by simp; omega) _).alloc (by simp; omega) _).drew).trans (hb.mono (by simp; omega))⟩
end Go.Proofs.Ythlmodafadfnfaa

/- The program's search among versions of a key. -/
namespace Go.Proofs.Ythlmodafadfnfaa
open Go.ChangeShapes Go.WideShapes Go.ChangeAt Go.RowKit

/-- Whether a stamp is among versions of one key. -/
def thr (gs : List V) (t s : Int) : Bool := (gs.find? fun v => decide (v.t = t ∧ v.s = s)).isSome
theorem ord_zero (t s t' s' : Int) : (ordV t s t' s' = 0) ↔ (t = t' ∧ s = s') := by
  unfold ordV cmpV
  by_cases h1 : t < t' <;> by_cases h2 : t' < t <;> by_cases h3 : s < s' <;> by_cases h4 : s' < s <;> simp [*] <;> omega
theorem against_is {v : V} {t s : Int} {r : Int} (h : ordV v.t v.s t s = r) {da : Option Addr} {n dc : Nat} {w : World} :
    Calls Try.prog 111 #[verV v.k v.t v.s v.val v.cl v.ca da n dc, stampV t s] w fun e w' => e = .returned (.int .i64 r) ∧ Below w.heap.size w w' := by rw [← h]; exact against_any v da n dc t s w
theorem lessB_trans {a b c d e f : Int} (h : lessB a b c d = true) (h' : lessB c d e f = true) : lessB a b e f = true := by unfold lessB at *; simp at *; omega
theorem lessB_irr (a b : Int) : lessB a b a b = false := by unfold lessB; simp
/-- What the search knows: all ahead of l are ahead of the stamp, none from h on is. -/
def Sought (gs : List V) (t s : Int) (l h : Nat) : Prop := (∀ j, (hj : j < gs.length) → j < l → lessB gs[j].t gs[j].s t s = true) ∧ (∀ j, (hj : j < gs.length) → h ≤ j → lessB gs[j].t gs[j].s t s = false)
theorem Sought.up {gs : List V} {t s : Int} {l h m : Nat} (hs : Sought gs t s l h) (ha : gs.Pairwise (fun a b => lessB a.t a.s b.t b.s = true)) (hm : m < gs.length) (hl : lessB gs[m].t gs[m].s t s = true) : Sought gs t s (m + 1) h := by
  refine ⟨fun j hj hjm => ?_, hs.2⟩
  by_cases e : j = m
  · subst e; exact hl
  · exact lessB_trans (List.pairwise_iff_getElem.1 ha j m hj hm (by omega)) hl
theorem Sought.down {gs : List V} {t s : Int} {l h m : Nat} (hs : Sought gs t s l h) (ha : gs.Pairwise (fun a b => lessB a.t a.s b.t b.s = true)) (hm : m < gs.length) (hl : lessB gs[m].t gs[m].s t s = false) : Sought gs t s l m := by
  refine ⟨hs.1, fun j hj hjm => ?_⟩
  by_cases e : j = m
  · subst e; exact hl
  · cases hh : lessB gs[j].t gs[j].s t s
    · rfl
    · have := lessB_trans (List.pairwise_iff_getElem.1 ha m j hm hj (by omega)) hh
      rw [hl] at this; cases this
theorem Sought.plc {gs : List V} {t s : Int} {l : Nat} (hs : Sought gs t s l l) (hl : l ≤ gs.length) : plc gs t s = l := plc_eq gs t s l hl (fun j hj h => hs.1 j hj h) (fun h => hs.2 l h (Nat.le_refl _))
theorem thr_at {gs : List V} {t s : Int} {l : Nat} (hs : Sought gs t s l l) (ha : gs.Pairwise (fun a b => lessB a.t a.s b.t b.s = true)) (hl : l < gs.length) : thr gs t s = decide (gs[l].t = t ∧ gs[l].s = s) ∧ (gs[l].t = t ∧ gs[l].s = s → gs.find? (fun v => decide (v.t = t ∧ v.s = s)) = some gs[l]) := by
  have h0 : ∀ v ∈ gs.take l, ¬ (v.t = t ∧ v.s = s) := fun v hv e => by
    obtain ⟨j, hj, rfl⟩ := List.getElem_of_mem hv
    rw [List.length_take] at hj
    simp only [List.getElem_take] at e
    have := hs.1 j (by omega) (by omega)
    rw [e.1, e.2, lessB_irr] at this; cases this
  have h1 : (gs.take l).find? (fun v => decide (v.t = t ∧ v.s = s)) = none := List.find?_eq_none.2 fun v hv => by simpa using h0 v hv
  have e : gs = gs.take l ++ gs[l] :: gs.drop (l + 1) := by rw [← List.drop_eq_getElem_cons hl, List.take_append_drop]
  have h2 : gs.find? (fun v => decide (v.t = t ∧ v.s = s)) = (gs[l] :: gs.drop (l + 1)).find? (fun v => decide (v.t = t ∧ v.s = s)) := by
    rw [congrArg (List.find? fun v : V => decide (v.t = t ∧ v.s = s)) e, List.find?_append, h1]; simp
  by_cases hq : gs[l].t = t ∧ gs[l].s = s
  · have h3 : gs.find? (fun v => decide (v.t = t ∧ v.s = s)) = some gs[l] := by rw [h2, List.find?_cons]; simp [hq]
    exact ⟨by unfold thr; rw [h3]; simp [hq], fun _ => h3⟩
  · refine ⟨?_, fun h => absurd h hq⟩
    have h3 : gs.find? (fun v => decide (v.t = t ∧ v.s = s)) = none := by
      rw [h2, List.find?_eq_none]
      intro v hv
      rcases List.mem_cons.1 hv with rfl | hv
      · simpa using hq
      · obtain ⟨j, hj, rfl⟩ := List.getElem_of_mem hv
        simp only [List.getElem_drop]
        simp at hj
        intro e2
        simp at e2
        have h5 := List.pairwise_iff_getElem.1 ha l (l + 1 + j) hl (by omega) (by omega)
        rw [e2.1, e2.2, hs.2 l hl (Nat.le_refl _)] at h5; cases h5
    unfold thr; rw [h3]; simp [hq]
theorem thr_end {gs : List V} {t s : Int} (hs : Sought gs t s gs.length gs.length) : thr gs t s = false := by
  unfold thr
  rw [List.find?_eq_none.2]
  · rfl
  · intro v hv
    obtain ⟨j, hj, rfl⟩ := List.getElem_of_mem hv
    have := hs.1 j hj hj
    intro e
    simp at e
    rw [e.1, e.2, lessB_irr] at this; cases this

set_option maxHeartbeats 4000000 in
set_option maxRecDepth 100000 in
theorem placeOf_any (a : Option Addr) (cap : Nat) (gs : List V) (t s : Int) (w : World) (hn : gs.length ≤ 100) (ha : gs.Pairwise (fun a b => lessB a.t a.s b.t b.s = true)) (h : Vers w a gs) :
    Calls Try.prog 110 #[.slice a gs.length cap, stampV t s, .func (.func 111) #[] #[]] w fun e w' => e = .returned (.tuple #[.int .i64 (plc gs t s), .bool (thr gs t s)]) ∧ Below w.heap.size w w' := by
  have S1 := Blk.new w #[.int .i64 t, .int .i64 s] 25
  have b0 : Below w.heap.size w (w.alloc (.cells #[.int .i64 t, .int .i64 s] 25)) := (Below.refl _ w).alloc (Nat.le_refl _) _
  have h1 := h.below b0
  have hp := S1.lt
  clear h
  go_enter Try.func110, Try.ntmps110
  go_wp2
  generalize w.alloc (.cells #[.int .i64 t, .int .i64 s] 25) = W1 at *
  go_loopw [8, 9] (fun lo hi wr => ∃ l h : Nat, l ≤ h ∧ h ≤ gs.length ∧ lo = .int .i64 l ∧ hi = .int .i64 h ∧ Hid (Sought gs t s l h) ∧ Below W1.heap.size W1 wr) (fun lo hi _ => (intOf hi - intOf lo).toNat)
  case atStart => exact ⟨0, gs.length, Nat.zero_le _, Nat.le_refl _, rfl, rfl, ⟨fun j hj h => absurd h (Nat.not_lt_zero _), fun j hj h => absurd hj (by omega)⟩, Below.refl _ _⟩
  case round =>
    obtain ⟨l, h, hlh, hh, rfl, rfl, HS, hB⟩ := hrel
    have hS := S1.below hB hp
    have rz : ∀ (n : Wof (Since wr)) (j : Nat), n.W.cell? ⟨w.heap.size, j, none⟩ = #[.int .i64 t, .int .i64 s][j]? := fun n j => (hS.below n.h hS.lt).cell j
    have ne := since_ne wr
    by_cases hlt : l < h
    · obtain ⟨m, hm⟩ : ∃ m : Nat, (m : Int) = (l : Int) + ((h : Int) - l) / 2 := ⟨l + (h - l) / 2, by omega⟩
      have hm1 : l ≤ m := by omega
      have hm2 : m < h := by omega
      have HM : Hid ((m : Int) = (l : Int) + ((h : Int) - l) / 2) := hm
      clear hm
      have hmg : m < gs.length := by omega
      obtain ⟨b, o, da, dc, rfl, hbb, hv1⟩ := h1.at hmg
      obtain ⟨r0, r1, r2, r3, r4, r5, r6⟩ := (hv1.below hB).rules
      obtain ⟨r, hr⟩ : ∃ r, ordV gs[m].t gs[m].s t s = r := ⟨_, rfl⟩
      have hlB := ord_less gs[m].t gs[m].s t s
      rw [hr] at hlB
      by_cases hneg : r < 0
      · have HU : Hid (Sought gs t s (m + 1) h) := HS.out.up ha hmg (by rw [← hlB]; simpa using hneg)
        clear hv1 hlB
        generalize gs[m] = v at *
        have m0 : (0 : Int) ≤ (m : Int) := by omega
        have m1 : (m : Int) < (gs.length : Int) := by omega
        have m2 : (m : Int) < 100 := by omega
        go_wp2_with fail
        rw [← HM.out]
        refine wp_region_class (S := Since wr) (by kernel_rfl) (by kernel_rfl) (Below.refl _ _).drew ?_
        repeat (go_big_quiet_step ((rename_i n; first | (go_at_call 111; exact Calls.inClass (against_is hr) Since.keep))))
        refine wpQuiet_nil ?_
        rintro W ⟨n, hnW⟩
        have R2 := n.h
        rw [← hnW] at R2
        have hB2 : Below W1.heap.size W1 W := hB.trans (R2.mono hB.size)
        clear R2 r0 r1 r2 r3 r4 r5 r6 rz ne hnW n hB hS
        go_wp2
        go_roundw
        case rel => exact ⟨m + 1, h, by omega, hh, by go_num, rfl, HU, hB2⟩
        case measure => simp [intOf]; omega
      · have HU : Hid (Sought gs t s l m) := HS.out.down ha hmg (by rw [← hlB]; simpa using hneg)
        have hneg2 : decide (r < 0) = false := by simpa using hneg
        clear hv1 hlB
        generalize gs[m] = v at *
        have m0 : (0 : Int) ≤ (m : Int) := by omega
        have m1 : (m : Int) < (gs.length : Int) := by omega
        go_wp2_with fail
        rw [← HM.out]
        refine wp_region_class (S := Since wr) (by kernel_rfl) (by kernel_rfl) (Below.refl _ _).drew ?_
        repeat (go_big_quiet_step ((rename_i n; first | (go_at_call 111; exact Calls.inClass (against_is hr) Since.keep))))
        refine wpQuiet_nil ?_
        rintro W ⟨n, hnW⟩
        have R2 := n.h
        rw [← hnW] at R2
        have hB2 : Below W1.heap.size W1 W := hB.trans (R2.mono hB.size)
        clear R2 r0 r1 r2 r3 r4 r5 r6 rz ne hnW n hB hS
        go_wp2
        go_roundw
        case rel => exact ⟨l, m, hm1, by omega, rfl, rfl, HU, hB2⟩
        case measure => simp [intOf]; omega
    · have hk2 : l = h := by omega
      subst hk2
      have HP : Hid (plc gs t s = l) := HS.out.plc hh
      by_cases hend : l < gs.length
      · obtain ⟨b, o, da, dc, rfl, hbb, hv1⟩ := h1.at hend
        obtain ⟨r0, r1, r2, r3, r4, r5, r6⟩ := (hv1.below hB).rules
        obtain ⟨r, hr⟩ : ∃ r, ordV gs[l].t gs[l].s t s = r := ⟨_, rfl⟩
        have HT : Hid (thr gs t s = (r == 0)) := by
          show thr gs t s = (r == 0)
          rw [(thr_at HS.out ha hend).1, ← hr, Bool.eq_iff_iff]
          simp [ord_zero]
        clear hv1
        generalize gs[l] = v at *
        have m0 : (0 : Int) ≤ (l : Int) := by omega
        have m1 : (l : Int) < (gs.length : Int) := by omega
        go_wp2_with fail
        refine wp_region_class (S := Since wr) (by kernel_rfl) (by kernel_rfl) (Below.refl _ _).drew ?_
        repeat (go_big_quiet_step ((rename_i n; first | (go_at_call 111; exact Calls.inClass (against_is hr) Since.keep))))
        refine wpQuiet_nil ?_
        rintro W ⟨n, hnW⟩
        have R2 := n.h
        rw [← hnW] at R2
        have hB2 : Below W1.heap.size W1 W := hB.trans (R2.mono hB.size)
        clear R2 r0 r1 r2 r3 r4 r5 r6 rz ne hnW n hB hS
        go_wp2
        go_ret2
        exact ⟨by rw [HP.out, HT.out]; rfl, b0.trans (hB2.mono b0.size)⟩
      · have he : l = gs.length := by omega
        subst he
        have HT : Hid (thr gs t s = false) := thr_end HS.out
        clear hS
        go_wp2_with fail
        refine wp_region_class (S := Since wr) (by kernel_rfl) (by kernel_rfl) (Below.refl _ _).drew ?_
        repeat (go_big_quiet_step ((fail)))
        refine wpQuiet_nil ?_
        rintro W ⟨n, hnW⟩
        have R2 := n.h
        rw [← hnW] at R2
        have hB2 : Below W1.heap.size W1 W := hB.trans (R2.mono hB.size)
        clear R2 rz ne hnW n hB
        go_wp2
        go_ret2
        exact ⟨by rw [HP.out, HT.out]; rfl, b0.trans (hB2.mono b0.size)⟩
end Go.Proofs.Ythlmodafadfnfaa

/- The specification's ChainHas. -/
namespace Go.Proofs.Ythlmodafadfnfaa
open Go.ChangeShapes Go.WideShapes Go.ChangeAt Go.RowKit

/-- Whether all deps are among versions. -/
def allIn (vs : List V) (ds : List D) : Bool := ds.all fun d => (cAt vs d.k d.t d.s).isSome
theorem has_chain {vs : List V} {ds : List D} (h : chainB vs = false) : cHas vs ds = false := by unfold cHas; rw [h]; rfl
theorem has_deps {vs : List V} {ds : List D} (h : depsOk ds = false) : cHas vs ds = false := by unfold cHas; rw [h]; simp
theorem has_yes {vs : List V} {ds : List D} (h : chainB vs = true) (hd : depsOk ds = true) : cHas vs ds = allIn vs ds := by unfold cHas allIn; rw [h, hd]; rfl
theorem allIn_step {vs : List V} {ds : List D} {k : Nat} (hk : k < ds.length) (h : allIn vs (ds.take k) = true) (hs : (cAt vs ds[k].k ds[k].t ds[k].s).isSome = true) : allIn vs (ds.take (k + 1)) = true := by
  unfold allIn at *; rw [takeD ds k hk, List.all_append, h]; simpa using hs
theorem allIn_bad {vs : List V} {ds : List D} {k : Nat} (hk : k < ds.length) (hs : (cAt vs ds[k].k ds[k].t ds[k].s).isSome = false) : allIn vs ds = false := by
  unfold allIn; rw [List.all_eq_false]; exact ⟨ds[k], List.getElem_mem hk, by rw [hs]; exact Bool.false_ne_true⟩

/-- Three cells that hold a dep. -/
def In3 (b x : Nat) (dk dt ds : Int) (W : World) : Prop := W.cell? ⟨b, x, none⟩ = some (.int .i64 dk) ∧ W.cell? ⟨b, x + 1, none⟩ = some (.int .i64 dt) ∧ W.cell? ⟨b, x + 2, none⟩ = some (.int .i64 ds)
theorem In3.mk {b x : Nat} {dk dt ds : Int} {W : World} (h0 : W.cell? ⟨b, x, none⟩ = some (.int .i64 dk)) (h1 : W.cell? ⟨b, x + 1, none⟩ = some (.int .i64 dt)) (h2 : W.cell? ⟨b, x + 2, none⟩ = some (.int .i64 ds)) : In3 b x dk dt ds W := ⟨h0, h1, h2⟩
theorem InD.new {w0 w : World} {b x y : Nat} {dk dt ds pk : Int} (h : InD w0 b x y dk dt ds pk w) (o : Obj) : InD w0 b x y dk dt ds pk (w.alloc o) := h.below ((Below.refl _ _).alloc (Nat.le_refl _) _)

theorem InD.new7 {w0 w : World} {b x y : Nat} {dk dt ds pk : Int} {v0 v1 v2 v3 v4 v5 v6 : Value} {o : Obj} (h : InD w0 b x y dk dt ds pk (w.alloc o)) (hb : b < w.heap.size) (h0 : w0.heap.size ≤ w.heap.size) : InD w0 b x y dk dt ds pk ((((((((w.alloc o).setCell ⟨w.heap.size, 0, none⟩ v0).setCell ⟨w.heap.size, 1, none⟩ v1).setCell ⟨w.heap.size, 2, none⟩ v2).setCell ⟨w.heap.size, 3, none⟩ v3).setCell ⟨w.heap.size, 4, none⟩ v4).setCell ⟨w.heap.size, 5, none⟩ v5).setCell ⟨w.heap.size, 6, none⟩ v6) := by
  have k : Below w.heap.size (w.alloc o) ((((((((w.alloc o).setCell ⟨w.heap.size, 0, none⟩ v0).setCell ⟨w.heap.size, 1, none⟩ v1).setCell ⟨w.heap.size, 2, none⟩ v2).setCell ⟨w.heap.size, 3, none⟩ v3).setCell ⟨w.heap.size, 4, none⟩ v4).setCell ⟨w.heap.size, 5, none⟩ v5).setCell ⟨w.heap.size, 6, none⟩ v6) := fill7_below (Below.refl _ _) (Nat.le_refl _)
  obtain ⟨h1, h4, h6, h7, h8, h9⟩ := h
  exact ⟨h1.trans (k.mono h0), Nat.lt_of_lt_of_le h4 k.size, (k.cell (p := ⟨b, _, none⟩) hb).trans h6, (k.cell (p := ⟨b, _, none⟩) hb).trans h7, (k.cell (p := ⟨b, _, none⟩) hb).trans h8, (k.cell (p := ⟨b, _, none⟩) hb).trans h9⟩

set_option maxHeartbeats 4000000 in
set_option maxRecDepth 100000 in
theorem sHasC_any (a : Option Addr) (cap : Nat) (vs : List V) (c : Option Addr) (cc : Nat) (ds : List D) (w : World) (hn : vs.length ≤ 1099511627776) (h : Vers w a vs) (hm : ds.length ≤ 1099511627776) (hd : Deps w c ds) :
    Calls Try.prog 37 #[.slice a vs.length cap, .slice c ds.length cc] w fun e w' => e = .returned (.bool (cHas vs ds)) ∧ Below w.heap.size w w' := by
  have hC := sChainOk_any a cap vs w hn h
  rcases hc : chainB vs with _ | _
  · have HN : Hid (cHas vs ds = false) := has_chain hc
    rw [hc] at hC
    clear h hc hd
    go_enter Try.func37, Try.ntmps37
    go_wp2_with fail
    refine hC.mono ?_
    rintro e w1 ⟨rfl, hb1⟩
    clear hC
    go_wp2_with fail
    go_ret
    exact ⟨by rw [HN.out]; rfl, hb1⟩
  have hD := fun W h => sDepsOk_any c cc ds W hm h
  rw [hc] at hC
  rcases hk : depsOk ds with _ | _
  · have HN : Hid (cHas vs ds = false) := has_deps hk
    rw [hk] at hD
    clear h hc hk
    go_enter Try.func37, Try.ntmps37
    go_wp2_with fail
    refine hC.mono ?_
    rintro e w1 ⟨rfl, hb1⟩
    clear hC
    go_wp2_with fail
    refine (hD _ (hd.below hb1)).mono ?_
    rintro e w2 ⟨rfl, hb2⟩
    clear hD
    go_wp2_with fail
    go_ret
    exact ⟨by rw [HN.out]; rfl, hb1.trans (hb2.mono hb1.size)⟩
  have HY : Hid (cHas vs ds = allIn vs ds) := has_yes hc hk
  rw [hk] at hD
  have HA : Hid (∀ k t s, atA vs k t s = cAt vs k t s) := fun k t s => atA_yes hc k t s
  clear hc hk
  go_enter Try.func37, Try.ntmps37
  go_wp2_with fail
  refine hC.mono ?_
  rintro e w1 ⟨rfl, hb1⟩
  clear hC
  go_wp2_with fail
  refine (hD _ (hd.below hb1)).mono ?_
  rintro e w2 ⟨rfl, hb2⟩
  have B2 : Below w.heap.size w w2 := hb1.trans (hb2.mono hb1.size)
  clear hD hb1 hb2
  go_wp2_with fail
  go_loopw [5] (fun i wr => ∃ k : Nat, k ≤ ds.length ∧ i = .int .i64 k ∧ Hid (allIn vs (ds.take k) = true) ∧ Below w.heap.size w wr) (fun i _ => ds.length - (intOf i).toNat)
  case atStart => exact ⟨0, Nat.zero_le _, rfl, rfl, B2⟩
  case round =>
    obtain ⟨k, hk, rfl, HI, hB⟩ := hrel
    clear B2 w1 w2
    by_cases hlt : k < ds.length
    · obtain ⟨b, o, rfl, hbb, e0, e1, e2⟩ := (hd.below hB).at hlt
      rcases hs : (cAt vs ds[k].k ds[k].t ds[k].s).isSome with _ | _
      · have HN : Hid (allIn vs ds = false) := allIn_bad hlt hs
        have hr : (atA vs ds[k].k ds[k].t ds[k].s).isSome = false := by rw [HA.out, hs]
        clear hs HI
        generalize ds[k] = y at *
        obtain ⟨dk, dt, dss⟩ := y
        simp only at e0 e1 e2 hr
        have R : InD w b (o + k * 3) (o + k * 3) dk dt dss dk wr := ⟨hB, hbb, e0, e1, e2, e0⟩
        have j0 : (0 : Int) ≤ (k : Int) := by omega
        have j1 : (k : Int) < (ds.length : Int) := by omega
        have s0 : Hid (wr.cell? ⟨b, o + k * 3, none⟩ = some (.int .i64 dk) ∧ wr.cell? ⟨b, o + k * 3 + 1, none⟩ = some (.int .i64 dt) ∧ wr.cell? ⟨b, o + k * 3 + 2, none⟩ = some (.int .i64 dss)) := In3.mk e0 e1 e2
        have R1 := InD.drew R
        have V1 := h.below R1.1
        have RA := R1.new (.cells #[.int .i64 0, .int .i64 0, .int .i64 0, .int .i64 0, .int .i64 0, .int .i64 0, .slice none 0 0] 28)
        have VA := h.below RA.1
        have sA : Hid ((wr.alloc (.cells #[.int .i64 0, .int .i64 0, .int .i64 0, .int .i64 0, .int .i64 0, .int .i64 0, .slice none 0 0] 28)).cell? ⟨b, o + k * 3, none⟩ = some (.int .i64 dk) ∧ (wr.alloc (.cells #[.int .i64 0, .int .i64 0, .int .i64 0, .int .i64 0, .int .i64 0, .int .i64 0, .slice none 0 0] 28)).cell? ⟨b, o + k * 3 + 1, none⟩ = some (.int .i64 dt) ∧ (wr.alloc (.cells #[.int .i64 0, .int .i64 0, .int .i64 0, .int .i64 0, .int .i64 0, .int .i64 0, .slice none 0 0] 28)).cell? ⟨b, o + k * 3 + 2, none⟩ = some (.int .i64 dss)) := ⟨RA.2.2.1, RA.2.2.2.1, RA.2.2.2.2.1⟩
        have ZA : Blk (wr.drew.alloc (.cells #[.int .i64 0, .int .i64 0, .int .i64 0, .int .i64 0, .int .i64 0, .int .i64 0, .slice none 0 0] 28)) wr.heap.size #[.int .i64 0, .int .i64 0, .int .i64 0, .int .i64 0, .int .i64 0, .int .i64 0, .slice none 0 0] 28 := Blk.new wr.drew _ _
        have lw : w.heap.size ≤ wr.heap.size := hB.size
        clear e0 e1 e2 hB
        go_wp2_with fail
        go_region_held3 (fun W => W.cell? ⟨b, o + k * 3, none⟩ = some (.int .i64 dk) ∧ W.cell? ⟨b, o + k * 3 + 1, none⟩ = some (.int .i64 dt) ∧ W.cell? ⟨b, o + k * 3 + 2, none⟩ = some (.int .i64 dss)) (first | (rw [s4.out.1, s4.out.2.1, s4.out.2.2]; exact ⟨rfl, rfl, rfl⟩) | (rw [s3.out.1, s3.out.2.1, s3.out.2.2]; exact ⟨rfl, rfl, rfl⟩) | (rw [s2.out.1, s2.out.2.1, s2.out.2.2]; exact ⟨rfl, rfl, rfl⟩) | exact sA.out | exact s0.out)
          (first | (go_at_call 33
                    refine (sAtV_any a cap vs dk dt dss _ hn ?hv).mono ?_
                    (case hv => exact V1)
                    rw [hr]
                    rintro e w3 ⟨u, pa, pc, Hu, rfl, hrow, hb3⟩
                    have R3 := R1.below hb3
                    have s2 : Hid (w3.cell? ⟨b, o + k * 3, none⟩ = some (.int .i64 dk) ∧ w3.cell? ⟨b, o + k * 3 + 1, none⟩ = some (.int .i64 dt) ∧ w3.cell? ⟨b, o + k * 3 + 2, none⟩ = some (.int .i64 dss)) := ⟨R3.2.2.1, R3.2.2.2.1, R3.2.2.2.2.1⟩
                    have R4 := R3.new (.cells #[.int .i64 0, .int .i64 0, .int .i64 0, .int .i64 0, .int .i64 0, .int .i64 0, .slice none 0 0] 28)
                    have s3 : Hid ((w3.alloc (.cells #[.int .i64 0, .int .i64 0, .int .i64 0, .int .i64 0, .int .i64 0, .int .i64 0, .slice none 0 0] 28)).cell? ⟨b, o + k * 3, none⟩ = some (.int .i64 dk) ∧ (w3.alloc (.cells #[.int .i64 0, .int .i64 0, .int .i64 0, .int .i64 0, .int .i64 0, .int .i64 0, .slice none 0 0] 28)).cell? ⟨b, o + k * 3 + 1, none⟩ = some (.int .i64 dt) ∧ (w3.alloc (.cells #[.int .i64 0, .int .i64 0, .int .i64 0, .int .i64 0, .int .i64 0, .int .i64 0, .slice none 0 0] 28)).cell? ⟨b, o + k * 3 + 2, none⟩ = some (.int .i64 dss)) := ⟨R4.2.2.1, R4.2.2.2.1, R4.2.2.2.2.1⟩
                    have R5 := R3.new (.cells #[.int .i64 u.k, .int .i64 u.t, .int .i64 u.s, .int .i64 u.val, .int .i64 u.cl, .int .i64 u.ca, .slice pa u.ds.length pc] 28)
                    have s4 : Hid ((w3.alloc (.cells #[.int .i64 u.k, .int .i64 u.t, .int .i64 u.s, .int .i64 u.val, .int .i64 u.cl, .int .i64 u.ca, .slice pa u.ds.length pc] 28)).cell? ⟨b, o + k * 3, none⟩ = some (.int .i64 dk) ∧ (w3.alloc (.cells #[.int .i64 u.k, .int .i64 u.t, .int .i64 u.s, .int .i64 u.val, .int .i64 u.cl, .int .i64 u.ca, .slice pa u.ds.length pc] 28)).cell? ⟨b, o + k * 3 + 1, none⟩ = some (.int .i64 dt) ∧ (w3.alloc (.cells #[.int .i64 u.k, .int .i64 u.t, .int .i64 u.s, .int .i64 u.val, .int .i64 u.cl, .int .i64 u.ca, .slice pa u.ds.length pc] 28)).cell? ⟨b, o + k * 3 + 2, none⟩ = some (.int .i64 dss)) := ⟨R5.2.2.1, R5.2.2.2.1, R5.2.2.2.2.1⟩
                    have B5 := R5.1
                    clear Hu hrow hb3 R3 R4 R5 V1 R1 R RA VA ZA sA)
                 | (go_at_call 33
                    refine (sAtV_any a cap vs dk dt dss _ hn ?hv).mono ?_
                    (case hv => exact VA)
                    rw [hr]
                    rintro e w3 ⟨u, pa, pc, Hu, rfl, hrow, hb3⟩
                    have R3 := RA.below hb3
                    have s2 : Hid (w3.cell? ⟨b, o + k * 3, none⟩ = some (.int .i64 dk) ∧ w3.cell? ⟨b, o + k * 3 + 1, none⟩ = some (.int .i64 dt) ∧ w3.cell? ⟨b, o + k * 3 + 2, none⟩ = some (.int .i64 dss)) := ⟨R3.2.2.1, R3.2.2.2.1, R3.2.2.2.2.1⟩
                    have Z3 := ZA.below hb3 ZA.lt
                    obtain ⟨zq, zf⟩ := Z3.rules
                    have k5 : Below wr.heap.size w3 (((((((w3.setCell ⟨wr.heap.size, 0, none⟩ (.int .i64 u.k)).setCell ⟨wr.heap.size, 1, none⟩ (.int .i64 u.t)).setCell ⟨wr.heap.size, 2, none⟩ (.int .i64 u.s)).setCell ⟨wr.heap.size, 3, none⟩ (.int .i64 u.val)).setCell ⟨wr.heap.size, 4, none⟩ (.int .i64 u.cl)).setCell ⟨wr.heap.size, 5, none⟩ (.int .i64 u.ca)).setCell ⟨wr.heap.size, 6, none⟩ (.slice pa u.ds.length pc)) := fill7_below (Below.refl _ _) (Nat.le_refl _)
                    have s4 : Hid ((((((((w3.setCell ⟨wr.heap.size, 0, none⟩ (.int .i64 u.k)).setCell ⟨wr.heap.size, 1, none⟩ (.int .i64 u.t)).setCell ⟨wr.heap.size, 2, none⟩ (.int .i64 u.s)).setCell ⟨wr.heap.size, 3, none⟩ (.int .i64 u.val)).setCell ⟨wr.heap.size, 4, none⟩ (.int .i64 u.cl)).setCell ⟨wr.heap.size, 5, none⟩ (.int .i64 u.ca)).setCell ⟨wr.heap.size, 6, none⟩ (.slice pa u.ds.length pc)).cell? ⟨b, o + k * 3, none⟩ = some (.int .i64 dk) ∧ (((((((w3.setCell ⟨wr.heap.size, 0, none⟩ (.int .i64 u.k)).setCell ⟨wr.heap.size, 1, none⟩ (.int .i64 u.t)).setCell ⟨wr.heap.size, 2, none⟩ (.int .i64 u.s)).setCell ⟨wr.heap.size, 3, none⟩ (.int .i64 u.val)).setCell ⟨wr.heap.size, 4, none⟩ (.int .i64 u.cl)).setCell ⟨wr.heap.size, 5, none⟩ (.int .i64 u.ca)).setCell ⟨wr.heap.size, 6, none⟩ (.slice pa u.ds.length pc)).cell? ⟨b, o + k * 3 + 1, none⟩ = some (.int .i64 dt) ∧ (((((((w3.setCell ⟨wr.heap.size, 0, none⟩ (.int .i64 u.k)).setCell ⟨wr.heap.size, 1, none⟩ (.int .i64 u.t)).setCell ⟨wr.heap.size, 2, none⟩ (.int .i64 u.s)).setCell ⟨wr.heap.size, 3, none⟩ (.int .i64 u.val)).setCell ⟨wr.heap.size, 4, none⟩ (.int .i64 u.cl)).setCell ⟨wr.heap.size, 5, none⟩ (.int .i64 u.ca)).setCell ⟨wr.heap.size, 6, none⟩ (.slice pa u.ds.length pc)).cell? ⟨b, o + k * 3 + 2, none⟩ = some (.int .i64 dss)) := ⟨(k5.cell (p := ⟨b, _, none⟩) hbb).trans s2.out.1, (k5.cell (p := ⟨b, _, none⟩) hbb).trans s2.out.2.1, (k5.cell (p := ⟨b, _, none⟩) hbb).trans s2.out.2.2⟩
                    have B5 := R3.1.trans (k5.mono lw)
                    clear Hu hrow hb3 R3 V1 R1 R RA VA ZA sA k5))
        all_goals
          try clear s4
          try clear s3
          clear s0 s2
          go_wp2
          go_ret
          exact ⟨by rw [HY.out, HN.out]; rfl, B5⟩
      · have HO : Hid (allIn vs (ds.take (k + 1)) = true) := allIn_step hlt HI.out hs
        have hr : (atA vs ds[k].k ds[k].t ds[k].s).isSome = true := by rw [HA.out, hs]
        clear hs HI
        generalize ds[k] = y at *
        obtain ⟨dk, dt, dss⟩ := y
        simp only at e0 e1 e2 hr
        have R : InD w b (o + k * 3) (o + k * 3) dk dt dss dk wr := ⟨hB, hbb, e0, e1, e2, e0⟩
        have j0 : (0 : Int) ≤ (k : Int) := by omega
        have j1 : (k : Int) < (ds.length : Int) := by omega
        have s0 : Hid (wr.cell? ⟨b, o + k * 3, none⟩ = some (.int .i64 dk) ∧ wr.cell? ⟨b, o + k * 3 + 1, none⟩ = some (.int .i64 dt) ∧ wr.cell? ⟨b, o + k * 3 + 2, none⟩ = some (.int .i64 dss)) := In3.mk e0 e1 e2
        have R1 := InD.drew R
        have V1 := h.below R1.1
        have RA := R1.new (.cells #[.int .i64 0, .int .i64 0, .int .i64 0, .int .i64 0, .int .i64 0, .int .i64 0, .slice none 0 0] 28)
        have VA := h.below RA.1
        have sA : Hid ((wr.alloc (.cells #[.int .i64 0, .int .i64 0, .int .i64 0, .int .i64 0, .int .i64 0, .int .i64 0, .slice none 0 0] 28)).cell? ⟨b, o + k * 3, none⟩ = some (.int .i64 dk) ∧ (wr.alloc (.cells #[.int .i64 0, .int .i64 0, .int .i64 0, .int .i64 0, .int .i64 0, .int .i64 0, .slice none 0 0] 28)).cell? ⟨b, o + k * 3 + 1, none⟩ = some (.int .i64 dt) ∧ (wr.alloc (.cells #[.int .i64 0, .int .i64 0, .int .i64 0, .int .i64 0, .int .i64 0, .int .i64 0, .slice none 0 0] 28)).cell? ⟨b, o + k * 3 + 2, none⟩ = some (.int .i64 dss)) := ⟨RA.2.2.1, RA.2.2.2.1, RA.2.2.2.2.1⟩
        have ZA : Blk (wr.drew.alloc (.cells #[.int .i64 0, .int .i64 0, .int .i64 0, .int .i64 0, .int .i64 0, .int .i64 0, .slice none 0 0] 28)) wr.heap.size #[.int .i64 0, .int .i64 0, .int .i64 0, .int .i64 0, .int .i64 0, .int .i64 0, .slice none 0 0] 28 := Blk.new wr.drew _ _
        have lw : w.heap.size ≤ wr.heap.size := hB.size
        clear e0 e1 e2 hB
        go_wp2_with fail
        go_region_held3 (fun W => W.cell? ⟨b, o + k * 3, none⟩ = some (.int .i64 dk) ∧ W.cell? ⟨b, o + k * 3 + 1, none⟩ = some (.int .i64 dt) ∧ W.cell? ⟨b, o + k * 3 + 2, none⟩ = some (.int .i64 dss)) (first | (rw [s4.out.1, s4.out.2.1, s4.out.2.2]; exact ⟨rfl, rfl, rfl⟩) | (rw [s3.out.1, s3.out.2.1, s3.out.2.2]; exact ⟨rfl, rfl, rfl⟩) | (rw [s2.out.1, s2.out.2.1, s2.out.2.2]; exact ⟨rfl, rfl, rfl⟩) | exact sA.out | exact s0.out)
          (first | (go_at_call 33
                    refine (sAtV_any a cap vs dk dt dss _ hn ?hv).mono ?_
                    (case hv => exact V1)
                    rw [hr]
                    rintro e w3 ⟨u, pa, pc, Hu, rfl, hrow, hb3⟩
                    have R3 := R1.below hb3
                    have s2 : Hid (w3.cell? ⟨b, o + k * 3, none⟩ = some (.int .i64 dk) ∧ w3.cell? ⟨b, o + k * 3 + 1, none⟩ = some (.int .i64 dt) ∧ w3.cell? ⟨b, o + k * 3 + 2, none⟩ = some (.int .i64 dss)) := ⟨R3.2.2.1, R3.2.2.2.1, R3.2.2.2.2.1⟩
                    have R4 := R3.new (.cells #[.int .i64 0, .int .i64 0, .int .i64 0, .int .i64 0, .int .i64 0, .int .i64 0, .slice none 0 0] 28)
                    have s3 : Hid ((w3.alloc (.cells #[.int .i64 0, .int .i64 0, .int .i64 0, .int .i64 0, .int .i64 0, .int .i64 0, .slice none 0 0] 28)).cell? ⟨b, o + k * 3, none⟩ = some (.int .i64 dk) ∧ (w3.alloc (.cells #[.int .i64 0, .int .i64 0, .int .i64 0, .int .i64 0, .int .i64 0, .int .i64 0, .slice none 0 0] 28)).cell? ⟨b, o + k * 3 + 1, none⟩ = some (.int .i64 dt) ∧ (w3.alloc (.cells #[.int .i64 0, .int .i64 0, .int .i64 0, .int .i64 0, .int .i64 0, .int .i64 0, .slice none 0 0] 28)).cell? ⟨b, o + k * 3 + 2, none⟩ = some (.int .i64 dss)) := ⟨R4.2.2.1, R4.2.2.2.1, R4.2.2.2.2.1⟩
                    have R5 := R3.new (.cells #[.int .i64 u.k, .int .i64 u.t, .int .i64 u.s, .int .i64 u.val, .int .i64 u.cl, .int .i64 u.ca, .slice pa u.ds.length pc] 28)
                    have s4 : Hid ((w3.alloc (.cells #[.int .i64 u.k, .int .i64 u.t, .int .i64 u.s, .int .i64 u.val, .int .i64 u.cl, .int .i64 u.ca, .slice pa u.ds.length pc] 28)).cell? ⟨b, o + k * 3, none⟩ = some (.int .i64 dk) ∧ (w3.alloc (.cells #[.int .i64 u.k, .int .i64 u.t, .int .i64 u.s, .int .i64 u.val, .int .i64 u.cl, .int .i64 u.ca, .slice pa u.ds.length pc] 28)).cell? ⟨b, o + k * 3 + 1, none⟩ = some (.int .i64 dt) ∧ (w3.alloc (.cells #[.int .i64 u.k, .int .i64 u.t, .int .i64 u.s, .int .i64 u.val, .int .i64 u.cl, .int .i64 u.ca, .slice pa u.ds.length pc] 28)).cell? ⟨b, o + k * 3 + 2, none⟩ = some (.int .i64 dss)) := ⟨R5.2.2.1, R5.2.2.2.1, R5.2.2.2.2.1⟩
                    have B5 := R5.1
                    clear Hu hrow hb3 R3 R4 R5 V1 R1 R RA VA ZA sA)
                 | (go_at_call 33
                    refine (sAtV_any a cap vs dk dt dss _ hn ?hv).mono ?_
                    (case hv => exact VA)
                    rw [hr]
                    rintro e w3 ⟨u, pa, pc, Hu, rfl, hrow, hb3⟩
                    have R3 := RA.below hb3
                    have s2 : Hid (w3.cell? ⟨b, o + k * 3, none⟩ = some (.int .i64 dk) ∧ w3.cell? ⟨b, o + k * 3 + 1, none⟩ = some (.int .i64 dt) ∧ w3.cell? ⟨b, o + k * 3 + 2, none⟩ = some (.int .i64 dss)) := ⟨R3.2.2.1, R3.2.2.2.1, R3.2.2.2.2.1⟩
                    have Z3 := ZA.below hb3 ZA.lt
                    obtain ⟨zq, zf⟩ := Z3.rules
                    have k5 : Below wr.heap.size w3 (((((((w3.setCell ⟨wr.heap.size, 0, none⟩ (.int .i64 u.k)).setCell ⟨wr.heap.size, 1, none⟩ (.int .i64 u.t)).setCell ⟨wr.heap.size, 2, none⟩ (.int .i64 u.s)).setCell ⟨wr.heap.size, 3, none⟩ (.int .i64 u.val)).setCell ⟨wr.heap.size, 4, none⟩ (.int .i64 u.cl)).setCell ⟨wr.heap.size, 5, none⟩ (.int .i64 u.ca)).setCell ⟨wr.heap.size, 6, none⟩ (.slice pa u.ds.length pc)) := fill7_below (Below.refl _ _) (Nat.le_refl _)
                    have s4 : Hid ((((((((w3.setCell ⟨wr.heap.size, 0, none⟩ (.int .i64 u.k)).setCell ⟨wr.heap.size, 1, none⟩ (.int .i64 u.t)).setCell ⟨wr.heap.size, 2, none⟩ (.int .i64 u.s)).setCell ⟨wr.heap.size, 3, none⟩ (.int .i64 u.val)).setCell ⟨wr.heap.size, 4, none⟩ (.int .i64 u.cl)).setCell ⟨wr.heap.size, 5, none⟩ (.int .i64 u.ca)).setCell ⟨wr.heap.size, 6, none⟩ (.slice pa u.ds.length pc)).cell? ⟨b, o + k * 3, none⟩ = some (.int .i64 dk) ∧ (((((((w3.setCell ⟨wr.heap.size, 0, none⟩ (.int .i64 u.k)).setCell ⟨wr.heap.size, 1, none⟩ (.int .i64 u.t)).setCell ⟨wr.heap.size, 2, none⟩ (.int .i64 u.s)).setCell ⟨wr.heap.size, 3, none⟩ (.int .i64 u.val)).setCell ⟨wr.heap.size, 4, none⟩ (.int .i64 u.cl)).setCell ⟨wr.heap.size, 5, none⟩ (.int .i64 u.ca)).setCell ⟨wr.heap.size, 6, none⟩ (.slice pa u.ds.length pc)).cell? ⟨b, o + k * 3 + 1, none⟩ = some (.int .i64 dt) ∧ (((((((w3.setCell ⟨wr.heap.size, 0, none⟩ (.int .i64 u.k)).setCell ⟨wr.heap.size, 1, none⟩ (.int .i64 u.t)).setCell ⟨wr.heap.size, 2, none⟩ (.int .i64 u.s)).setCell ⟨wr.heap.size, 3, none⟩ (.int .i64 u.val)).setCell ⟨wr.heap.size, 4, none⟩ (.int .i64 u.cl)).setCell ⟨wr.heap.size, 5, none⟩ (.int .i64 u.ca)).setCell ⟨wr.heap.size, 6, none⟩ (.slice pa u.ds.length pc)).cell? ⟨b, o + k * 3 + 2, none⟩ = some (.int .i64 dss)) := ⟨(k5.cell (p := ⟨b, _, none⟩) hbb).trans s2.out.1, (k5.cell (p := ⟨b, _, none⟩) hbb).trans s2.out.2.1, (k5.cell (p := ⟨b, _, none⟩) hbb).trans s2.out.2.2⟩
                    have B5 := R3.1.trans (k5.mono lw)
                    clear Hu hrow hb3 R3 V1 R1 R RA VA ZA sA k5))
        all_goals
          try clear s4
          try clear s3
          clear s0 s2
          go_wp2
          go_roundw
          case rel => exact ⟨k + 1, by omega, by go_num, HO, B5⟩
          case measure => simp [intOf]; omega
    · have hk2 : k = ds.length := by omega
      subst hk2
      rw [List.take_length] at HI
      go_wp2
      go_ret
      exact ⟨by rw [HY.out, HI.out]; rfl, hB⟩
end Go.Proofs.Ythlmodafadfnfaa

/- The place of a stamp in the map. -/
namespace Go.Proofs.Ythlmodafadfnfaa
open Go.ChangeShapes Go.WideShapes Go.ChangeAt Go.RowKit

/-- What lies at a key. -/
theorem Chm.at {w : World} {base b n : Nat} {f : Int → List XV} {g : Int → Value} (h : Chm w base b n f g) (key : Int) {gs : List V} (hgs : (f key).map XV.v = gs) (hgood : ∀ x ∈ f key, GoodX w x) : ∃ ga gc, g key = .slice ga gs.length gc ∧ Vers w ga gs := by
  obtain ⟨ga, gc, h1, h2, _⟩ := vers_of_row (h.row key) hgood
  subst hgs
  exact ⟨ga, gc, by rw [h1, List.length_map], h2⟩

set_option maxHeartbeats 1000000 in
theorem place_any (W : World) (base b n : Nat) (f : Int → List XV) (g : Int → Value) (key t s : Int) (gs : List V) (hM : Chm W base b n f g) (hwf : (Lit.int .i64 key).wf = true) (hgs : (f key).map XV.v = gs) (ha : gs.Pairwise (fun a b => lessB a.t a.s b.t b.s = true)) (hl : gs.length ≤ 100) (hgood : ∀ x ∈ f key, GoodX W x) :
    Calls Try.prog 80 #[.map (some b), .int .i64 key, stampV t s] W fun e w' => e = .returned (.tuple #[.int .i64 (plc gs t s), .bool (thr gs t s)]) ∧ Below W.heap.size W w' := by
  have b0 : Below W.heap.size W (W.alloc (.cells #[.int .i64 t, .int .i64 s] 25)) := (Below.refl _ W).alloc (Nat.le_refl _) _
  have M1 := hM.below b0
  have hlook := M1.look hwf
  obtain ⟨ga, gc, hg, hV⟩ := M1.at key hgs (fun x hx => (hgood x hx).below b0)
  rw [hg] at hlook
  have hP := placeOf_any ga gc gs t s _ hl ha hV
  clear hg hV M1 hM hgood hgs
  generalize plc gs t s = p at *
  generalize thr gs t s = r at *
  go_enter Try.func80, Try.ntmps80
  go_wp2_with fail
  refine hP.mono ?_
  rintro e w1 ⟨rfl, hb1⟩
  clear hP hlook
  go_wp2_with fail
  go_ret2
  exact ⟨rfl, b0.trans (hb1.mono b0.size)⟩

theorem top_at {vs : List V} {key : Int} {gs : List V} (hg : grp vs key = gs) (h : 0 < gs.length) : cTop vs key = some (gs[gs.length - 1]'(by omega)) := by
  rw [top_grp, hg, List.getLast?_eq_getElem?, List.getElem?_eq_getElem (by omega)]
theorem top_none {vs : List V} {key : Int} (hg : grp vs key = []) : cTop vs key = none := by rw [top_grp, hg]; rfl
end Go.Proofs.Ythlmodafadfnfaa

/- The program's ChainAt. -/
namespace Go.Proofs.Ythlmodafadfnfaa
open Go.ChangeShapes Go.WideShapes Go.ChangeAt Go.RowKit

theorem plc_sought (gs : List V) (t s : Int) (ha : gs.Pairwise (fun a b => lessB a.t a.s b.t b.s = true)) : Sought gs t s (plc gs t s) (plc gs t s) := by
  have h1 : ∀ j, (hj : j < gs.length) → j < plc gs t s → lessB gs[j].t gs[j].s t s = true := by
    clear ha
    induction gs with
    | nil => intro j hj; simp at hj
    | cons x xs ih =>
      intro j hj hp
      unfold plc at hp
      split at hp
      · rename_i hx
        cases j with
        | zero => exact hx
        | succ j => exact ih j (by simpa using hj) (by omega)
      · omega
  have h2 : ∀ h : plc gs t s < gs.length, lessB gs[plc gs t s].t gs[plc gs t s].s t s = false := by
    clear ha h1
    induction gs with
    | nil => intro h; simp at h
    | cons x xs ih =>
      intro h
      by_cases hx : lessB x.t x.s t s = true
      · have e : plc (x :: xs) t s = plc xs t s + 1 := by rw [plc, if_pos hx]
        simp only [e] at h ⊢
        exact ih (by simpa using h)
      · have e : plc (x :: xs) t s = 0 := by rw [plc, if_neg hx]
        simp only [e]
        simpa using hx
  refine ⟨h1, fun j hj hp => ?_⟩
  by_cases e : j = plc gs t s
  · subst e; exact h2 hj
  · cases hh : lessB gs[j].t gs[j].s t s
    · rfl
    · have := lessB_trans (List.pairwise_iff_getElem.1 ha (plc gs t s) j (by omega) hj (by omega)) hh
      rw [h2 (by omega)] at this; cases this
theorem thr_found {gs : List V} {t s : Int} (ha : gs.Pairwise (fun a b => lessB a.t a.s b.t b.s = true)) (h : thr gs t s = true) : ∃ hp : plc gs t s < gs.length, gs.find? (fun v => decide (v.t = t ∧ v.s = s)) = some gs[plc gs t s] := by
  have hs := plc_sought gs t s ha
  by_cases hp : plc gs t s < gs.length
  · obtain ⟨h1, h2⟩ := thr_at hs ha hp
    rw [h] at h1
    exact ⟨hp, h2 (by simpa using h1.symm)⟩
  · have e : plc gs t s = gs.length := by have := plc_le gs t s; omega
    rw [e] at hs
    rw [thr_end hs] at h; cases h
theorem thr_at_none {gs : List V} {t s : Int} (h : thr gs t s = false) : gs.find? (fun v => decide (v.t = t ∧ v.s = s)) = none := by
  unfold thr at h
  rcases hf : gs.find? (fun v => decide (v.t = t ∧ v.s = s)) with _ | x
  · exact hf
  · rw [hf] at h; cases h

set_option maxHeartbeats 4000000 in
set_option maxRecDepth 100000 in
theorem iAtV_any (a : Option Addr) (cap : Nat) (vs : List V) (key t s : Int) (w : World) (hn : vs.length ≤ 1099511627776) (h : Vers w a vs) (hwf : (Lit.int .i64 key).wf = true) :
    Calls Try.prog 34 #[.slice a vs.length cap, .int .i64 key, stampV t s] w fun e w' => ∃ u pa pc, Hid (u = (atA vs key t s).getD zeroV) ∧ e = .returned (.tuple #[verV u.k u.t u.s u.val u.cl u.ca pa u.ds.length pc, .bool (atA vs key t s).isSome]) ∧ RowD w' w.heap.size (.slice pa u.ds.length pc) u.ds ∧ Below w.heap.size w w' := by
  have S1 : Blk ((w.alloc (.cells #[.int .i64 t, .int .i64 s] 25)).alloc (.cells #[.int .i64 0, .int .i64 0, .int .i64 0, .int .i64 0, .int .i64 0, .int .i64 0, .slice none 0 0] 28)) w.heap.size #[.int .i64 t, .int .i64 s] 25 := (Blk.new w _ _).alloc _
  have Z1 : Blk ((w.alloc (.cells #[.int .i64 t, .int .i64 s] 25)).alloc (.cells #[.int .i64 0, .int .i64 0, .int .i64 0, .int .i64 0, .int .i64 0, .int .i64 0, .slice none 0 0] 28)) (w.heap.size + 1) #[.int .i64 0, .int .i64 0, .int .i64 0, .int .i64 0, .int .i64 0, .int .i64 0, .slice none 0 0] 28 := by have := Blk.new (w.alloc (.cells #[.int .i64 t, .int .i64 s] 25)) #[.int .i64 0, .int .i64 0, .int .i64 0, .int .i64 0, .int .i64 0, .int .i64 0, .slice none 0 0] 28; simpa using this
  have b0 : Below w.heap.size w ((w.alloc (.cells #[.int .i64 t, .int .i64 s] 25)).alloc (.cells #[.int .i64 0, .int .i64 0, .int .i64 0, .int .i64 0, .int .i64 0, .int .i64 0, .slice none 0 0] 28)) := ((Below.refl _ w).alloc (Nat.le_refl _) _).alloc (by simp) _
  have h1 := h.below b0
  have s1 : ((w.alloc (.cells #[.int .i64 t, .int .i64 s] 25)).alloc (.cells #[.int .i64 0, .int .i64 0, .int .i64 0, .int .i64 0, .int .i64 0, .int .i64 0, .slice none 0 0] 28)).heap.size = w.heap.size + 1 + 1 := by simp
  rcases hc : chainB vs with _ | _
  · have HN : Hid (atA vs key t s = none) := atA_no hc key t s
    have hC := iChainOf_no a cap vs _ hn h1 hc
    clear h hc
    go_enter Try.func34, Try.ntmps34
    go_wp2_with fail
    refine hC.mono ?_
    rintro e w2 ⟨rfl, hb2⟩
    have Z2 := Z1.below hb2 Z1.lt
    have B2 : Below w.heap.size w w2 := b0.trans (hb2.mono b0.size)
    obtain ⟨q1, g1⟩ := Z2.rules
    clear hC h1 S1 Z1 b0 hb2
    go_wp2_with fail
    refine bodyPost_ret (v := .tuple #[verV 0 0 0 0 0 0 none 0 0, .bool false]) ?_ rfl ⟨zeroV, none, 0, by show _ = _; rw [HN.out]; rfl, by rw [HN.out]; rfl, World.ownsRow_nil _ _ _ _, fill7_below B2 (by omega)⟩
    refine Blk.gen (B := w.heap.size + 1) (vs := #[.int .i64 0, .int .i64 0, .int .i64 0, .int .i64 0, .int .i64 0, .int .i64 0, .slice none 0 0]) (T := 28) ?_ (P := fun W => (results Try.f34 _).run Try.prog W = .ok _ W) ?_
    · exact Blk.fill7 Z2
    intro W hW
    obtain ⟨k, f⟩ := hW.rules
    simp [results, Try.results34, go_sem, k]
  have hC := iChainOf_yes a cap vs _ hn h1 hc
  have HA : Hid (atA vs key t s = cAt vs key t s) := atA_yes hc key t s
  obtain ⟨hl80, hP⟩ := chainB_iff.1 hc
  have HG : Hid (cAt vs key t s = (grp vs key).find? fun v => decide (v.t = t ∧ v.s = s)) := at_grp vs key t s
  have hasc := grp_asc hP.2 key
  clear h hc hP
  go_enter Try.func34, Try.ntmps34
  go_wp2_with fail
  generalize ((w.alloc (.cells #[.int .i64 t, .int .i64 s] 25)).alloc (.cells #[.int .i64 0, .int .i64 0, .int .i64 0, .int .i64 0, .int .i64 0, .int .i64 0, .slice none 0 0] 28)) = W1 at *
  refine hC.mono ?_
  rintro e w2 ⟨b, f, g, rfl, hbb, hM, hf, hgood, hb2⟩
  clear hC
  have hgl := grp_le vs key
  have hGs := hf key
  clear hf
  generalize grp vs key = gs at *
  have S2 := S1.below hb2 S1.lt
  obtain ⟨q1, g1⟩ := S2.rules
  go_wp2_with fail
  refine (place_any w2 _ b vs.length f g key t s gs hM hwf hGs hasc (by omega) (fun x hx => (hgood key x hx).below hb2)).mono ?_
  rintro e w3 ⟨rfl, hb3⟩
  have b3 : Below W1.heap.size W1 w3 := hb2.trans (hb3.mono hb2.size)
  have M3 := hM.below hb3
  have Z3 := Z1.below b3 Z1.lt
  have B3 : Below w.heap.size w w3 := b0.trans (b3.mono b0.size)
  have hsz : w.heap.size + 1 + 1 ≤ w3.heap.size := by have := b3.size; omega
  clear q1 g1 S2 hb3
  rcases hth : thr gs t s with _ | _
  · have HO : Hid (gs.find? (fun v => decide (v.t = t ∧ v.s = s)) = none) := thr_at_none hth
    obtain ⟨q1, g1⟩ := Z3.rules
    clear hasc hth
    go_wp2_with fail
    refine bodyPost_ret (v := .tuple #[verV 0 0 0 0 0 0 none 0 0, .bool false]) ?_ rfl ⟨zeroV, none, 0, by show _ = _; rw [HA.out, HG.out, HO.out]; rfl, by rw [HA.out, HG.out, HO.out]; rfl, World.ownsRow_nil _ _ _ _, fill7_below B3 (by omega)⟩
    refine Blk.gen (B := w.heap.size + 1) (vs := #[.int .i64 0, .int .i64 0, .int .i64 0, .int .i64 0, .int .i64 0, .int .i64 0, .slice none 0 0]) (T := 28) ?_ (P := fun W => (results Try.f34 _).run Try.prog W = .ok _ W) ?_
    · exact Blk.fill7 Z3
    intro W hW
    obtain ⟨k, f⟩ := hW.rules
    simp [results, Try.results34, go_sem, k]
  · obtain ⟨hp, HO⟩ := thr_found hasc hth
    have HO : Hid _ := HO
    have hlook := M3.look hwf
    obtain ⟨ga, gc, hg, hV⟩ := M3.at key hGs (fun x hx => (hgood key x hx).below b3)
    rw [hg] at hlook
    obtain ⟨bx, o, da, dc, rfl, hbx, hv⟩ := hV.at hp
    clear hg hV M3 hM hgood hGs hth hasc
    generalize plc gs t s = p at *
    generalize gs[p] = v at *
    obtain ⟨c0, c1, c2, c3, c4, c5, c6, hd, hdl⟩ := hv
    have i1 : (0 : Int) ≤ (p : Int) := by omega
    have i2 : (p : Int) < (gs.length : Int) := by omega
    go_wp2_with fail
    refine (iCopy_any v da dc _ hdl hd).mono ?_
    rintro e w4 ⟨pa, pc, rfl, hrow, hb4⟩
    have Z4 := Z3.below hb4 Z3.lt
    have B4 : Below w.heap.size w w4 := B3.trans (hb4.mono B3.size)
    obtain ⟨q1, g1⟩ := Z4.rules
    clear c0 c1 c2 c3 c4 c5 c6 hd hb4 Z3
    go_wp2_with fail
    refine bodyPost_ret (v := .tuple #[verV v.k v.t v.s v.val v.cl v.ca pa v.ds.length pc, .bool true]) ?_ rfl ⟨v, pa, pc, by show _ = _; rw [HA.out, HG.out, HO.out]; rfl, by rw [HA.out, HG.out, HO.out]; rfl, row_mono (row_fill7 hrow (fun j hj => by have := (hrow.lt j hj).1; omega)) (by omega), fill7_below B4 (by omega)⟩
    refine Blk.gen (B := w.heap.size + 1) (vs := #[.int .i64 v.k, .int .i64 v.t, .int .i64 v.s, .int .i64 v.val, .int .i64 v.cl, .int .i64 v.ca, .slice pa v.ds.length pc]) (T := 28) ?_ (P := fun W => (results Try.f34 _).run Try.prog W = .ok _ W) ?_
    · exact Blk.fill7 Z4
    intro W hW
    obtain ⟨k, f⟩ := hW.rules
    simp [results, Try.results34, go_sem, k]
end Go.Proofs.Ythlmodafadfnfaa

/- The program puts a version into the map. -/
namespace Go.Proofs.Ythlmodafadfnfaa
open Go.ChangeShapes Go.WideShapes Go.ChangeAt Go.RowKit

theorem insert_any (base i vb : Nat) (v : Value) (xs : List XV) (x : XV) (w : World) (hown : w.ownsRow base 28 7 v xs.length (flat7 xs)) (hn : xs.length ≤ 100) (hi : i ≤ xs.length) (hb : base ≤ w.heap.size) (hvb : v.ownBlock ≠ some vb)
    (hB : Blk w vb #[.int .i64 x.v.k, .int .i64 x.v.t, .int .i64 x.v.s, .int .i64 x.v.val, .int .i64 x.v.cl, .int .i64 x.v.ca, x.p] 28) (h1 : ∀ y ∈ xs, y.p.oneCell' = true) (h1x : x.p.oneCell' = true) :
    Calls Try.prog 106 #[v, .int .i64 i, .slice (some ⟨vb, 0, none⟩) 1 1] w fun e w' => ∃ v', e = .returned v' ∧ w'.ownsRow base 28 7 v' (xs.take i ++ x :: xs.drop i).length (flat7 (xs.take i ++ x :: xs.drop i)) ∧ w.grownBy w' v.ownBlock ∧ (v'.ownBlock = v.ownBlock ∨ ∃ j, v'.ownBlock = some j ∧ w.heap.size ≤ j) := by
  have hl : (xs.take i ++ x :: xs.drop i).length = xs.length + 1 := by simp only [List.length_append, List.length_cons, List.length_take, List.length_drop]; rw [Nat.min_eq_left hi]; omega
  rw [hl]
  have hfl : (flat7 (xs.take i ++ x :: xs.drop i)).length = (xs.length + 1) * 7 := by rw [flat7_len, hl]
  by_cases he : i = xs.length
  · subst he
    refine (insert_end base vb v xs x w hown hn hb hB h1x).mono ?_
    rintro e w' ⟨v', rfl, hr, hg, hloc⟩
    refine ⟨v', rfl, ?_, hg, hloc⟩
    rw [List.take_length, List.drop_length, flat7_append]; exact hr
  · have hi2 : i < xs.length := by omega
    rcases hown.2 with ⟨_, h0⟩ | ⟨g, cap, cur, rfl, hbg, hg, hnc, hcm, hcs, ht⟩
    · omega
    · by_cases hroom : xs.length + 1 ≤ cap
      · refine (insert_shift g xs.length cap i vb cur xs x w hi2 hroom hcm (fun e => hvb (by rw [e]; rfl)) hg hcs ht rfl hB h1 h1x).mono ?_
        rintro e w' ⟨rfl, ⟨cur', k1, k2, k3⟩, hgr⟩
        exact ⟨_, rfl, ⟨hfl, .inr ⟨g, cap, cur', rfl, hbg, k1, hroom, hcm, k2, k3⟩⟩, hgr, .inl rfl⟩
      · refine (insert_grow g xs.length cap i vb cur xs x w hi2 hn (by omega) hnc hg ht rfl hB h1 h1x).mono ?_
        rintro e w' ⟨G, cur', rfl, k0, k4, k1, k2, k3, hgr⟩
        exact ⟨_, rfl, ⟨hfl, .inr ⟨w.heap.size, G, cur', rfl, hb, k1, k0, k4, k2, k3⟩⟩, ⟨hgr.os, hgr.tape, hgr.output, hgr.size, fun k hk _ => hgr.block k hk (by simp)⟩, .inr ⟨_, rfl, Nat.le_refl _⟩⟩

set_option maxHeartbeats 4000000 in
set_option maxRecDepth 100000 in
theorem put_there (W : World) (base b n : Nat) (f : Int → List XV) (g : Int → Value) (v : V) (da : Option Addr) (dc : Nat) (gs : List V) (hM : Chm W base b n f g) (hok : okV v = true) (hgs : (f v.k).map XV.v = gs) (ha : gs.Pairwise (fun a b => lessB a.t a.s b.t b.s = true)) (hl : gs.length ≤ 80) (hgood : ∀ x ∈ f v.k, GoodX W x) (hth : thr gs v.t v.s = true) :
    Calls Try.prog 69 #[.map (some b), verV v.k v.t v.s v.val v.cl v.ca da v.ds.length dc] W fun e w' => e = .returned (.bool false) ∧ Below W.heap.size W w' := by
  obtain ⟨k0, k5⟩ := okV_key hok
  have wf := wf_key k0 k5
  have b0 : Below W.heap.size W (W.alloc (.cells #[.int .i64 v.k, .int .i64 v.t, .int .i64 v.s, .int .i64 v.val, .int .i64 v.cl, .int .i64 v.ca, .slice da v.ds.length dc] 28)) := (Below.refl _ W).alloc (Nat.le_refl _) _
  have hP := place_any _ base b n f g v.k v.t v.s gs (hM.below b0) wf hgs ha (by omega) (fun x hx => (hgood x hx).below b0)
  rw [hth] at hP
  clear hM hgood hgs ha hth
  generalize plc gs v.t v.s = p at *
  go_enter Try.func69, Try.ntmps69
  go_wp2_with fail
  refine hP.mono ?_
  rintro e w1 ⟨rfl, hb1⟩
  clear hP
  go_wp2_with fail
  go_ret
  exact ⟨rfl, b0.trans (hb1.mono b0.size)⟩

set_option maxHeartbeats 4000000 in
set_option maxRecDepth 100000 in
theorem put_new (W : World) (base b n : Nat) (f : Int → List XV) (g : Int → Value) (v : V) (da : Option Addr) (dc : Nat) (gs : List V) (hM : Chm W base b n f g) (hok : okV v = true) (hgs : (f v.k).map XV.v = gs) (ha : gs.Pairwise (fun a b => lessB a.t a.s b.t b.s = true)) (hl : gs.length ≤ 80) (hgood : ∀ x ∈ f v.k, GoodX W x) (hth : thr gs v.t v.s = false) (hn : n ≤ 100) (hbase : base ≤ b) (hbW : base ≤ W.heap.size) :
    Calls Try.prog 69 #[.map (some b), verV v.k v.t v.s v.val v.cl v.ca da v.ds.length dc] W fun e w' => ∃ u, e = .returned (.bool true) ∧ Chm w' base b (n + 1) (upd f v.k ((f v.k).take (plc gs v.t v.s) ++ XV.mk v (.slice da v.ds.length dc) :: (f v.k).drop (plc gs v.t v.s))) (upd g v.k u) ∧ Below base W w' := by
  obtain ⟨k0, k5⟩ := okV_key hok
  have wf := wf_key k0 k5
  have b0 : Below W.heap.size W (W.alloc (.cells #[.int .i64 v.k, .int .i64 v.t, .int .i64 v.s, .int .i64 v.val, .int .i64 v.cl, .int .i64 v.ca, .slice da v.ds.length dc] 28)) := (Below.refl _ W).alloc (Nat.le_refl _) _
  have hP := place_any _ base b n f g v.k v.t v.s gs (hM.below b0) wf hgs ha (by omega) (fun x hx => (hgood x hx).below b0)
  rw [hth] at hP
  have hpl := plc_le gs v.t v.s
  have hfl : (f v.k).length = gs.length := by rw [← hgs, List.length_map]
  have h1 : ∀ y ∈ f v.k, y.p.oneCell' = true := fun y hy => (hgood y hy).one
  have hgb : ∀ j, (g v.k).ownBlock = some j → j < W.heap.size := fun j hj => ((hM.row v.k).lt j hj).2
  have HBW : Hid (base ≤ W.heap.size) := hbW
  rw [← hfl] at hl hpl
  clear hgood hgs ha hth hfl hok
  generalize plc gs v.t v.s = p at *
  have N1 := Blk.new W #[.int .i64 v.k, .int .i64 v.t, .int .i64 v.s, .int .i64 v.val, .int .i64 v.cl, .int .i64 v.ca, .slice da v.ds.length dc] 28
  go_enter Try.func69, Try.ntmps69
  go_wp2_with fail
  refine hP.mono ?_
  rintro e W0 ⟨rfl, hb1⟩
  have M0 := (hM.below b0).below hb1
  have N0 := N1.below hb1 N1.lt
  have B0 : Below W.heap.size W W0 := b0.trans (hb1.mono b0.size)
  have lL := N0.lt
  clear hP N1 hb1 hM
  obtain ⟨qn, fn⟩ := N0.rules
  go_wp2_with fail
  clear qn fn
  generalize hLB : W.heap.size = LB at *
  have HLB : Hid (W.heap.size = LB) := hLB
  clear hLB
  have g1 := M0.look wf
  have g2 : (Instr.lookup 85 (.map (some b)) (.int .i64 v.k) false).run Try.prog W0.drew = .ok (g v.k) W0.drew := (M0.below (Below.refl _ W0).drew).look wf
  have g3 : (Instr.lookup 85 (.map (some b)) (.int .i64 v.k) false).run Try.prog (W0.drew.alloc (.cells #[.int .i64 v.k, .int .i64 v.t, .int .i64 v.s, .int .i64 v.val, .int .i64 v.cl, .int .i64 v.ca, .slice da v.ds.length dc] 28)) = .ok (g v.k) (W0.drew.alloc (.cells #[.int .i64 v.k, .int .i64 v.t, .int .i64 v.s, .int .i64 v.val, .int .i64 v.cl, .int .i64 v.ca, .slice da v.ds.length dc] 28)) := (M0.below ((Below.refl _ W0).drew.alloc (Nat.le_refl _) (.cells #[.int .i64 v.k, .int .i64 v.t, .int .i64 v.s, .int .i64 v.val, .int .i64 v.cl, .int .i64 v.ca, .slice da v.ds.length dc] 28))).look wf
  have g4 : (Instr.lookup 85 (.map (some b)) (.int .i64 v.k) false).run Try.prog (W0.alloc (.cells #[.int .i64 v.k, .int .i64 v.t, .int .i64 v.s, .int .i64 v.val, .int .i64 v.cl, .int .i64 v.ca, .slice da v.ds.length dc] 28)).drew = .ok (g v.k) (W0.alloc (.cells #[.int .i64 v.k, .int .i64 v.t, .int .i64 v.s, .int .i64 v.val, .int .i64 v.cl, .int .i64 v.ca, .slice da v.ds.length dc] 28)).drew := (M0.below ((Below.refl _ W0).alloc (Nat.le_refl _) (.cells #[.int .i64 v.k, .int .i64 v.t, .int .i64 v.s, .int .i64 v.val, .int .i64 v.cl, .int .i64 v.ca, .slice da v.ds.length dc] 28)).drew).look wf
  have g5 : (Instr.lookup 85 (.map (some b)) (.int .i64 v.k) false).run Try.prog (W0.alloc (.cells #[.int .i64 v.k, .int .i64 v.t, .int .i64 v.s, .int .i64 v.val, .int .i64 v.cl, .int .i64 v.ca, .slice da v.ds.length dc] 28)) = .ok (g v.k) (W0.alloc (.cells #[.int .i64 v.k, .int .i64 v.t, .int .i64 v.s, .int .i64 v.val, .int .i64 v.cl, .int .i64 v.ca, .slice da v.ds.length dc] 28)) := (M0.below ((Below.refl _ W0).alloc (Nat.le_refl _) (.cells #[.int .i64 v.k, .int .i64 v.t, .int .i64 v.s, .int .i64 v.val, .int .i64 v.cl, .int .i64 v.ca, .slice da v.ds.length dc] 28))).look wf
  have rA : (W0.drew.alloc (.cells #[.int .i64 v.k, .int .i64 v.t, .int .i64 v.s, .int .i64 v.val, .int .i64 v.cl, .int .i64 v.ca, .slice da v.ds.length dc] 28)).ownsRow base 28 7 (g v.k) (f v.k).length (flat7 (f v.k)) := (M0.below ((Below.refl _ W0).drew.alloc (Nat.le_refl _) (.cells #[.int .i64 v.k, .int .i64 v.t, .int .i64 v.s, .int .i64 v.val, .int .i64 v.cl, .int .i64 v.ca, .slice da v.ds.length dc] 28))).row v.k
  have NA : Blk (W0.drew.alloc (.cells #[.int .i64 v.k, .int .i64 v.t, .int .i64 v.s, .int .i64 v.val, .int .i64 v.cl, .int .i64 v.ca, .slice da v.ds.length dc] 28)) W0.heap.size #[.int .i64 v.k, .int .i64 v.t, .int .i64 v.s, .int .i64 v.val, .int .i64 v.cl, .int .i64 v.ca, .slice da v.ds.length dc] 28 := Blk.new W0.drew #[.int .i64 v.k, .int .i64 v.t, .int .i64 v.s, .int .i64 v.val, .int .i64 v.cl, .int .i64 v.ca, .slice da v.ds.length dc] 28
  have s0 : Hid (W0.cell? ⟨LB, 0, none⟩ = some (.int .i64 v.k) ∧ W0.cell? ⟨LB, 1, none⟩ = some (.int .i64 v.t) ∧ W0.cell? ⟨LB, 2, none⟩ = some (.int .i64 v.s) ∧ W0.cell? ⟨LB, 3, none⟩ = some (.int .i64 v.val) ∧ W0.cell? ⟨LB, 4, none⟩ = some (.int .i64 v.cl) ∧ W0.cell? ⟨LB, 5, none⟩ = some (.int .i64 v.ca) ∧ W0.cell? ⟨LB, 6, none⟩ = some (.slice da v.ds.length dc)) := by
    obtain ⟨q, _⟩ := N0.rules
    exact ⟨q 0, q 1, q 2, q 3, q 4, q 5, q 6⟩
  have N1 := N0.below ((Below.refl _ W0).drew.alloc (Nat.le_refl _) (.cells #[.int .i64 v.k, .int .i64 v.t, .int .i64 v.s, .int .i64 v.val, .int .i64 v.cl, .int .i64 v.ca, .slice da v.ds.length dc] 28)) lL
  have sA : Hid ((W0.alloc (.cells #[.int .i64 v.k, .int .i64 v.t, .int .i64 v.s, .int .i64 v.val, .int .i64 v.cl, .int .i64 v.ca, .slice da v.ds.length dc] 28)).cell? ⟨LB, 0, none⟩ = some (.int .i64 v.k) ∧ (W0.alloc (.cells #[.int .i64 v.k, .int .i64 v.t, .int .i64 v.s, .int .i64 v.val, .int .i64 v.cl, .int .i64 v.ca, .slice da v.ds.length dc] 28)).cell? ⟨LB, 1, none⟩ = some (.int .i64 v.t) ∧ (W0.alloc (.cells #[.int .i64 v.k, .int .i64 v.t, .int .i64 v.s, .int .i64 v.val, .int .i64 v.cl, .int .i64 v.ca, .slice da v.ds.length dc] 28)).cell? ⟨LB, 2, none⟩ = some (.int .i64 v.s) ∧ (W0.alloc (.cells #[.int .i64 v.k, .int .i64 v.t, .int .i64 v.s, .int .i64 v.val, .int .i64 v.cl, .int .i64 v.ca, .slice da v.ds.length dc] 28)).cell? ⟨LB, 3, none⟩ = some (.int .i64 v.val) ∧ (W0.alloc (.cells #[.int .i64 v.k, .int .i64 v.t, .int .i64 v.s, .int .i64 v.val, .int .i64 v.cl, .int .i64 v.ca, .slice da v.ds.length dc] 28)).cell? ⟨LB, 4, none⟩ = some (.int .i64 v.cl) ∧ (W0.alloc (.cells #[.int .i64 v.k, .int .i64 v.t, .int .i64 v.s, .int .i64 v.val, .int .i64 v.cl, .int .i64 v.ca, .slice da v.ds.length dc] 28)).cell? ⟨LB, 5, none⟩ = some (.int .i64 v.ca) ∧ (W0.alloc (.cells #[.int .i64 v.k, .int .i64 v.t, .int .i64 v.s, .int .i64 v.val, .int .i64 v.cl, .int .i64 v.ca, .slice da v.ds.length dc] 28)).cell? ⟨LB, 6, none⟩ = some (.slice da v.ds.length dc)) := by
    obtain ⟨q, _⟩ := N1.rules
    exact ⟨q 0, q 1, q 2, q 3, q 4, q 5, q 6⟩
  have hb0 : base ≤ W0.heap.size := by have := HBW.out; have := B0.size; omega
  have sB : base ≤ (W0.drew.alloc (.cells #[.int .i64 v.k, .int .i64 v.t, .int .i64 v.s, .int .i64 v.val, .int .i64 v.cl, .int .i64 v.ca, .slice da v.ds.length dc] 28)).heap.size := Nat.le_trans hb0 (by simp)
  have hnv : (g v.k).ownBlock ≠ some W0.heap.size := fun e => by have := hgb _ e; omega
  go_region_held3 (fun W => W.cell? ⟨LB, 0, none⟩ = some (.int .i64 v.k) ∧ W.cell? ⟨LB, 1, none⟩ = some (.int .i64 v.t) ∧ W.cell? ⟨LB, 2, none⟩ = some (.int .i64 v.s) ∧ W.cell? ⟨LB, 3, none⟩ = some (.int .i64 v.val) ∧ W.cell? ⟨LB, 4, none⟩ = some (.int .i64 v.cl) ∧ W.cell? ⟨LB, 5, none⟩ = some (.int .i64 v.ca) ∧ W.cell? ⟨LB, 6, none⟩ = some (.slice da v.ds.length dc)) (first | (rw [s3.out.1, s3.out.2.1, s3.out.2.2.1, s3.out.2.2.2.1, s3.out.2.2.2.2.1, s3.out.2.2.2.2.2.1, s3.out.2.2.2.2.2.2]; exact ⟨rfl, rfl, rfl, rfl, rfl, rfl, rfl⟩) | (rw [s2.out.1, s2.out.2.1, s2.out.2.2.1, s2.out.2.2.2.1, s2.out.2.2.2.2.1, s2.out.2.2.2.2.2.1, s2.out.2.2.2.2.2.2]; exact ⟨rfl, rfl, rfl, rfl, rfl, rfl, rfl⟩) | exact sA.out | exact s0.out)
    (first
      | (go_at_call 106
         refine (insert_any base p W0.heap.size (g v.k) (f v.k) ⟨v, .slice da v.ds.length dc⟩ _ ?ha (by omega) hpl ?hb hnv ?hc h1 rfl).mono ?_
         (case ha => exact rA)
         (case hb => exact sB)
         (case hc => exact NA)
         rintro e W2 ⟨v1, rfl, own1, grow1, loc1⟩
         have gAll : W0.grownBy W2 (g v.k).ownBlock := (World.grownBy.mk (w := W0) (w' := W0.drew.alloc (.cells #[.int .i64 v.k, .int .i64 v.t, .int .i64 v.s, .int .i64 v.val, .int .i64 v.cl, .int .i64 v.ca, .slice da v.ds.length dc] 28)) rfl rfl rfl (by simp) (fun j hj _ => Below.heap_alloc W0.drew _ j hj)).trans grow1
         have N2 := N0.grown gAll (fun e => by have := hgb LB e.symm; omega)
         have s2 : Hid (W2.cell? ⟨LB, 0, none⟩ = some (.int .i64 v.k) ∧ W2.cell? ⟨LB, 1, none⟩ = some (.int .i64 v.t) ∧ W2.cell? ⟨LB, 2, none⟩ = some (.int .i64 v.s) ∧ W2.cell? ⟨LB, 3, none⟩ = some (.int .i64 v.val) ∧ W2.cell? ⟨LB, 4, none⟩ = some (.int .i64 v.cl) ∧ W2.cell? ⟨LB, 5, none⟩ = some (.int .i64 v.ca) ∧ W2.cell? ⟨LB, 6, none⟩ = some (.slice da v.ds.length dc)) := by
           obtain ⟨q, _⟩ := N2.rules
           exact ⟨q 0, q 1, q 2, q 3, q 4, q 5, q 6⟩
         obtain ⟨W3, hup, M3, grow3⟩ := M0.store wf (by omega) (by simp) gAll own1 (loc1.imp id fun ⟨j, e1, e2⟩ => ⟨j, e1, Nat.le_trans (by simp) e2⟩)
         have N3 := N2.grown grow3 (fun e => by simp at e; subst e; obtain ⟨D, hD, _⟩ := M0.own; obtain ⟨es, cl, hb, _⟩ := hD; have := N0; unfold Blk at this; rw [hb] at this; cases this)
         have s3 : Hid (W3.cell? ⟨LB, 0, none⟩ = some (.int .i64 v.k) ∧ W3.cell? ⟨LB, 1, none⟩ = some (.int .i64 v.t) ∧ W3.cell? ⟨LB, 2, none⟩ = some (.int .i64 v.s) ∧ W3.cell? ⟨LB, 3, none⟩ = some (.int .i64 v.val) ∧ W3.cell? ⟨LB, 4, none⟩ = some (.int .i64 v.cl) ∧ W3.cell? ⟨LB, 5, none⟩ = some (.int .i64 v.ca) ∧ W3.cell? ⟨LB, 6, none⟩ = some (.slice da v.ds.length dc)) := by
           obtain ⟨q, _⟩ := N3.rules
           exact ⟨q 0, q 1, q 2, q 3, q 4, q 5, q 6⟩
         have B3 : Below base W W3 := ((B0.mono (by have := HLB.out; have := HBW.out; omega)).grown gAll hb0 (fun j hj => ((M0.row v.k).lt j hj).1)).grown grow3 (Nat.le_trans hb0 gAll.size) (fun j hj => by simp at hj; omega)
         clear own1 grow1 loc1 gAll N2 N3 grow3 g1 g2 g3 g4 g5 rA NA N1 N0 sB)
      | (refine step_update _ (by rfl) _ _ _ 85 (by rfl) (.map (some b)) (.int .i64 v.k) v1 (by rfl) (by rfl) (by rfl) W3 hup ?_))
  all_goals
    clear s0 sA s2 s3
    go_wp2_with fail
    go_ret
    exact ⟨v1, rfl, M3, B3⟩
end Go.Proofs.Ythlmodafadfnfaa

/- Versions of wanted keys, told in order: what is shared. -/
namespace Go.Proofs.Ythlmodafadfnfaa
open Go.ChangeShapes Go.WideShapes Go.ChangeAt Go.RowKit

/-- The keys of such a map, and how many. -/
theorem Chm.keys' {w : World} {base b n : Nat} {f : Int → List XV} {g : Int → Value} (h : Chm w base b n f g) : ∃ D : DataW Value, w.ownsMap Try.prog 3 heldR b n D ∧ Maps.size D ≤ n ∧ ∀ ss : List Int, ss.Perm (intKeys D) → ∃ ks : List Int, ss.mergeSort (fun x y => decide (x ≤ y)) = ks ∧ ks.length = ss.length ∧ ks.length ≤ n ∧ ks.Pairwise (· < ·) ∧ ∀ k, k ∈ ks ↔ f k ≠ [] := by
  obtain ⟨D, hD, hk⟩ := h.keys
  refine ⟨D, hD, hD.size_le, fun ss hp => ⟨_, rfl, List.length_mergeSort ss, ?_, (hk ss hp).1, (hk ss hp).2⟩⟩
  rw [List.length_mergeSort, hp.length_eq]
  refine Nat.le_trans (Nat.le_of_eq ?_) hD.size_le
  cases D <;> simp [intKeys, Maps.size]
/-- One of a row of numbers. -/
theorem ints_at {w : World} {base vc : Nat} {e : TypeId} {va : Option Addr} {n : Nat} {ks : List Int} (h : w.ownsRow base e 1 (.slice va n vc) n (ks.map encZ)) {i : Nat} (hi : i < ks.length) : ∃ gb, va = some ⟨gb, 0, none⟩ ∧ gb < w.heap.size ∧ base ≤ gb ∧ w.cell? ⟨gb, i, none⟩ = some (.int .i64 ks[i]) := by
  have hl := h.1
  simp at hl
  rcases h.2 with ⟨_, hn⟩ | ⟨gb, cap, cur, he, hb, hg, _⟩
  · omega
  · simp at he
    obtain ⟨rfl, rfl⟩ := he
    refine ⟨gb, rfl, (Array.getElem?_eq_some_iff.1 hg).1, hb, ?_⟩
    have := h.cells (g := gb) rfl i (.int .i64 ks[i]) (by simp [hi])
    rwa [addr_add, Nat.zero_add] at this
/-- Versions of the first wanted keys. -/
def toldTo (p : Int → Bool) (vs : List V) (ks : List Int) : List V := ks.flatMap fun k => if p k = true then grp vs k else []
theorem toldTo_snoc (p : Int → Bool) (vs : List V) (ks : List Int) (k : Int) : toldTo p vs (ks ++ [k]) = toldTo p vs ks ++ if p k = true then grp vs k else [] := by simp [toldTo]
end Go.Proofs.Ythlmodafadfnfaa

/- All versions of the map, in order. -/
namespace Go.Proofs.Ythlmodafadfnfaa
open Go.ChangeShapes Go.WideShapes Go.ChangeAt Go.RowKit

set_option maxHeartbeats 4000000 in
set_option maxRecDepth 100000 in
theorem ofAll_any (W : World) (base b n : Nat) (f : Int → List XV) (g : Int → Value) (vs : List V)  (p : Int → Bool) (hM : Chm W base b n f g) (hn : n ≤ 1000) (hf : ∀ j, (f j).map XV.v = grp vs j) (hgood : ∀ j, ∀ x ∈ f j, GoodX W x) (hvs : vs.Pairwise (fun a b => a.k ≤ b.k)) (hvk : ∀ v ∈ vs, 0 ≤ v.k ∧ v.k ≤ 5) (hl : vs.length ≤ 100)
    (hw : ∀ (W' : World) (k : Int), Below W.heap.size W W' → Calls Try.prog 107 #[.int .i64 k] W' fun e w' => e = .returned (.bool (p k)) ∧ Below W'.heap.size W' w') :
    Calls Try.prog 90 #[.map (some b), .func (.func 107) #[] #[]] W fun e w' => ∃ u ys, e = .returned u ∧ OwnV w' W.heap.size u ys ∧ ys.map XV.v = vs.filter (fun v => p v.k) ∧ Below W.heap.size W w' := by
  obtain ⟨i0, hi, hz0, hz1, hz2⟩ := info_parts infoVer
  have b1 : Below W.heap.size W (W.alloc (.cells #[.map (some b)] 85)) := (Below.refl _ W).alloc (Nat.le_refl _) _
  have M1 := hM.below b1
  have lb := hM.lt
  obtain ⟨D, hD, hsz, hks⟩ := M1.keys'
  have hcell : (W.alloc (.cells #[.map (some b)] 85)).cell? ⟨W.heap.size, 0, none⟩ = some (.map (some b)) := (Blk.new W #[.map (some b)] 85).cell 0
  go_enter Try.func90, Try.ntmps90
  go_wp2_with fail
  refine (keys_any (some b) _).mono ?_
  rintro e w1 ⟨rfl, rfl⟩
  go_wp2_with fail
  refine (sorted_any b n W.heap.size D heldR _ (by simp) hcell hD (by omega)).mono ?_
  rintro e w2 ⟨v, ss, rfl, hperm, hrow, hb2⟩
  obtain ⟨ks, hke, hkl, hkn, hkp, hkm⟩ := hks ss hperm
  rw [hke] at hrow
  obtain ⟨va, vc, rfl, _⟩ := row_slice hrow
  have B2 : Below W.heap.size W w2 := b1.trans (hb2.mono b1.size)
  have M2 := hM.below B2
  have HT : Hid (toldTo p vs ks = vs.filter fun v => p v.k) := told_keys p ks vs hvs hkp (fun k => by rw [hkm k, ← hf k]; simp)
  have HM : Hid (∀ k ∈ ks, f k ≠ []) := fun k hk => (hkm k).1 hk
  have HK : Hid (∀ k ∈ ks, 0 ≤ k ∧ k ≤ 5) := fun k hk => by
    have := (hkm k).1 hk
    rcases hx : f k with _ | ⟨x, l⟩
    · exact absurd hx this
    · have hg : x.v ∈ grp vs k := by rw [← hf k, hx]; simp
      have h1 := List.mem_filter.1 hg
      have h2 := hvk _ h1.1
      have h3 := h1.2
      simp at h3
      omega
  have hs2 := B2.size
  rw [← hkl] at hrow
  clear hks hke hperm hsz hD hcell M1 b1 hb2 hkm hkp hM
  rw [← hkl]
  clear hkl
  go_wp2_with fail
  go_loopw [5, 12] (fun u i wr => ∃ (k : Nat) (ys : List XV), k ≤ ks.length ∧ i = .int .i64 k ∧ OwnV wr w2.heap.size u ys ∧ Hid (ys.map XV.v = toldTo p vs (ks.take k)) ∧ ys.length ≤ k * 100 ∧ Below w2.heap.size w2 wr) (fun _ i _ => ks.length - (intOf i).toNat)
  case atStart => exact ⟨0, [], Nat.zero_le _, rfl, OwnV.nil _ _, rfl, Nat.zero_le _, Below.refl _ _⟩
  case round =>
    obtain ⟨k, ys, hk, rfl, hO, HY, hyl, hB⟩ := hrel
    by_cases hlt : k < ks.length
    · obtain ⟨gb, rfl, hgb, _, hc⟩ := ints_at hrow hlt
      have hc2 := (hB.cell (p := ⟨gb, k, none⟩) hgb).trans hc
      have HS : Hid (ks.take (k + 1) = ks.take k ++ [ks[k]]) := takeV ks k hlt
      have hne := HM.out ks[k] (List.getElem_mem hlt)
      obtain ⟨k0, k5⟩ := HK.out ks[k] (List.getElem_mem hlt)
      generalize ks[k] = key at *
      have i1 : (0 : Int) ≤ (k : Int) := by omega
      have i2 : (k : Int) < (ks.length : Int) := by omega
      have BW : Below W.heap.size W wr := B2.trans (hB.mono hs2)
      go_wp2_with fail
      refine (hw wr key BW).mono ?_
      rintro e w3 ⟨rfl, hb3⟩
      have B3 : Below w2.heap.size w2 w3 := hB.trans (hb3.mono hB.size)
      have O3 := hO.below hb3 (Nat.le_refl _)
      clear hc hc2 hO hb3 BW hB
      rcases hp : p key with _ | _
      · have HN : Hid (toldTo p vs (ks.take (k + 1)) = toldTo p vs (ks.take k)) := by show toldTo _ _ _ = _; rw [HS.out, toldTo_snoc, hp]; simp
        go_wp2_with fail
        go_roundw
        case rel => exact ⟨k + 1, ys, by omega, by go_num, O3, (by show _ = _; rw [HN.out, HY.out]), by omega, B3⟩
        case measure => simp [intOf]; omega
      · have HN : Hid (toldTo p vs (ks.take (k + 1)) = toldTo p vs (ks.take k) ++ grp vs key) := by show toldTo _ _ _ = _; rw [HS.out, toldTo_snoc, hp]; simp
        have M3 := M2.below B3
        have hlook := M3.look (wf_key k0 k5)
        have BW3 : Below W.heap.size W w3 := B2.trans (B3.mono hs2)
        obtain ⟨ga, gc, hg, hV⟩ := M3.at key (hf key) (fun x hx => (hgood key x hx).below BW3)
        rw [hg] at hlook
        have hgl := grp_le vs key
        have hgp : 0 < (grp vs key).length := by
          rw [← hf key, List.length_map]
          exact List.length_pos_iff.2 hne
        clear hg M3 hp
        generalize grp vs key = gs at *
        go_wp2_with fail
        refine (iVers_any ga gc gs _ (by omega) hV).mono ?_
        rintro e w4 ⟨cv, zs, rfl, OC, hzs, hb4⟩
        have B4 : Below w2.heap.size w2 w4 := B3.trans (hb4.mono B3.size)
        have O4 := O3.below hb4 (Nat.le_refl _)
        have hzl : zs.length = gs.length := by rw [← hzs, List.length_map]
        have hap : ∀ x ∈ ys, ∀ y ∈ zs, ApartV x.p y.p := fun x hx y hy => apart_new (O3.deps x hx).1 (OC.deps y hy).1 (Nat.le_refl _)
        have OC4 := OC.mono (base' := w2.heap.size) B3.size
        obtain ⟨cb, cc, rfl⟩ : ∃ cb cc, cv = .slice (some ⟨cb, 0, none⟩) zs.length cc := by
          rcases OC.row.2 with ⟨_, h0⟩ | ⟨cb, cc, cur, h0, _⟩
          · omega
          · exact ⟨cb, cc, h0⟩
        have hcells := OC4.row.cells (g := cb) rfl
        have hone := flat7_one (fun y hy => (OC4.good y hy).one)
        have h63 : ys.length + zs.length ≤ maxLen := by unfold maxLen; omega
        have hby : (ys.length + zs.length) * 72 ≤ 140737488355328 := by omega
        have hs4 := B4.size
        have HL : Hid ((flat7 zs).length = zs.length * 7) := flat7_len zs
        have hzb : zs.length ≤ 100 := by omega
        have HZ : Hid (zs.map XV.v = gs) := hzs
        clear hlook hV hb4 O3 OC B3 BW3 hzl hzs
        go_wp2_with (first | (at_builtin
                              refine wpList_append_own _ rfl _ _ 23 rfl w2.heap.size 28 i0 (.agg #[.int .i64 0, .int .i64 0, .int .i64 0, .int .i64 0, .int .i64 0, .int .i64 0, .slice none 0 0]) 7 72 Try.underlying23 hi hz0 hz1 hz2 rfl (by decide) _ ys.length (flat7 ys) rfl O4.row ⟨cb, 0, none⟩ zs.length cc (flat7 zs) rfl HL.out hcells hone h63 hby hs4 ?_
                              intro u5 w5 hrow5 hg5 _
                              have O5 := O4.append hg5 hrow5 OC4.deps OC4.apart hap
                              have B5 : Below w2.heap.size w2 w5 := B4.grown hg5 hs4 (fun j hj => (O4.row.lt j hj).1)
                              clear hrow5 hg5 O4 OC4 hap hcells hone B4))
        go_roundw
        case rel => exact ⟨k + 1, ys ++ zs, by omega, by go_num, O5, (by show _ = _; rw [HN.out, List.map_append, HY.out, HZ.out]), by rw [List.length_append]; omega, B5⟩
        case measure => simp [intOf]; omega
    · have hk2 : k = ks.length := by omega
      subst hk2
      rw [List.take_length] at HY
      go_wp2_with fail
      go_ret
      exact ⟨_, ys, rfl, hO.mono hs2, by rw [HY.out, HT.out], B2.trans (hB.mono hs2)⟩

theorem all1_any (k : Int) (w : World) : Calls Try.prog 107 #[.int .i64 k] w fun e w' => e = .returned (.bool true) ∧ w' = w := by
  go_enter Try.func107, Try.ntmps107
  go_wp2
  go_ret
  exact ⟨rfl, rfl⟩
theorem all_chain (W : World) (base b n : Nat) (f : Int → List XV) (g : Int → Value) (vs : List V) (hM : Chm W base b n f g) (hn : n ≤ 1000) (hf : ∀ j, (f j).map XV.v = grp vs j) (hgood : ∀ j, ∀ x ∈ f j, GoodX W x) (hvs : vs.Pairwise (fun a b => a.k ≤ b.k)) (hvk : ∀ v ∈ vs, 0 ≤ v.k ∧ v.k ≤ 5) (hl : vs.length ≤ 100) :
    Calls Try.prog 70 #[.map (some b)] W fun e w' => ∃ u ys, e = .returned u ∧ OwnV w' W.heap.size u ys ∧ ys.map XV.v = vs ∧ Below W.heap.size W w' := by
  have hO := ofAll_any W base b n f g vs (fun _ => true) hM hn hf hgood hvs hvk hl (fun W' k _ => (all1_any k W').mono fun e w' ⟨h1, h2⟩ => ⟨h1, by rw [h2]; exact Below.refl _ _⟩)
  go_enter Try.func70, Try.ntmps70
  go_wp2_with fail
  refine hO.mono ?_
  rintro e w1 ⟨u, ys, rfl, O1, hy, hb⟩
  go_wp2_with fail
  go_ret
  exact ⟨_, ys, rfl, O1, by rw [hy]; simp, hb⟩
end Go.Proofs.Ythlmodafadfnfaa

/- The program's ChainPut. -/
namespace Go.Proofs.Ythlmodafadfnfaa
open Go.ChangeShapes Go.WideShapes Go.ChangeAt Go.RowKit

theorem chain_keys {vs : List V} (h : chainP vs) : ∀ v ∈ vs, 0 ≤ v.k ∧ v.k ≤ 5 := fun v hv => okV_key (h.1 v hv)
theorem at_thr (vs : List V) (k t s : Int) : (cAt vs k t s).isSome = thr (grp vs k) t s := by rw [at_grp]; rfl
/-- The versions by key behind a put. -/
theorem upd_grp {vs : List V} {v : V} {f : Int → List XV} {p : Value} (h : Asc vs) (hn : cAt vs v.k v.t v.s = none) (hf : ∀ j, (f j).map XV.v = grp vs j) : ∀ j, (upd f v.k ((f v.k).take (plc (grp vs v.k) v.t v.s) ++ XV.mk v p :: (f v.k).drop (plc (grp vs v.k) v.t v.s)) j).map XV.v = grp (insV v vs) j := fun j => by
  rw [grp_insV h hn]
  by_cases e : j = v.k
  · subst e
    rw [upd_same, if_pos rfl, List.map_append, List.map_cons, List.map_take, List.map_drop, hf]
  · rw [upd_other _ _ e, if_neg e, hf]

set_option maxHeartbeats 4000000 in
set_option maxRecDepth 100000 in
theorem iPutV_any (a : Option Addr) (cap : Nat) (vs : List V) (v : V) (va : Option Addr) (vc : Nat) (w : World) (hn : vs.length ≤ 1099511627776) (h : Vers w a vs) (hvl : v.ds.length ≤ 1099511627776) (hvd0 : Deps w va v.ds) :
    Calls Try.prog 23 #[.slice a vs.length cap, verV v.k v.t v.s v.val v.cl v.ca va v.ds.length vc] w fun e w' => ∃ u ys, e = .returned (.tuple #[u, .bool (cDid vs v)]) ∧ OwnV w' w.heap.size u ys ∧ ys.map XV.v = cPut vs v ∧ Below w.heap.size w w' := by
  have V1 := Blk.new w #[.int .i64 v.k, .int .i64 v.t, .int .i64 v.s, .int .i64 v.val, .int .i64 v.cl, .int .i64 v.ca, .slice va v.ds.length vc] 28
  have b0 : Below w.heap.size w (w.alloc (.cells #[.int .i64 v.k, .int .i64 v.t, .int .i64 v.s, .int .i64 v.val, .int .i64 v.cl, .int .i64 v.ca, .slice va v.ds.length vc] 28)) := (Below.refl _ w).alloc (Nat.le_refl _) _
  have h1 := h.below b0
  have hvd := hvd0.below b0
  have s1 : (w.alloc (.cells #[.int .i64 v.k, .int .i64 v.t, .int .i64 v.s, .int .i64 v.val, .int .i64 v.cl, .int .i64 v.ca, .slice va v.ds.length vc] 28)).heap.size = w.heap.size + 1 := by simp
  rcases hc : chainB vs with _ | _
  · have HP : Hid _ := put_no (v := v) hc
    have hC := iChainOf_no a cap vs _ hn h1 hc
    clear h hc hvd hvd0
    go_enter Try.func23, Try.ntmps23
    go_wp2_with fail
    refine hC.mono ?_
    rintro e w2 ⟨rfl, hb2⟩
    clear hC
    go_wp2_with fail
    go_ret2
    exact ⟨_, [], by rw [HP.out.2]; rfl, OwnV.nil _ _, by rw [HP.out.1]; rfl, b0.trans (hb2.mono b0.size)⟩
  have hC := iChainOf_yes a cap vs _ hn h1 hc
  obtain ⟨hl80, hP⟩ := chainB_iff.1 hc
  have hvs := asc_keys hP.2
  have hvk := chain_keys hP
  have hl100 : vs.length ≤ 100 := by omega
  by_cases hl : 80 ≤ (vs.length : Int)
  · have HP : Hid _ := put_stay hc (putB_full (v := v) (by omega : 80 ≤ vs.length))
    clear h hc hvd0 hP
    go_enter Try.func23, Try.ntmps23
    go_wp2_with fail
    generalize (w.alloc (.cells #[.int .i64 v.k, .int .i64 v.t, .int .i64 v.s, .int .i64 v.val, .int .i64 v.cl, .int .i64 v.ca, .slice va v.ds.length vc] 28)) = W1 at *
    refine hC.mono ?_
    rintro e w2 ⟨b, f, g, rfl, hbb, hM, hf, hgood, hb2⟩
    clear hC
    have V2 := V1.below hb2 V1.lt
    obtain ⟨q1, g1⟩ := V2.rules
    go_wp2_with fail
    refine (all_chain w2 W1.heap.size b vs.length f g vs hM (by omega) hf (fun j x hx => (hgood j x hx).below hb2) hvs hvk hl100).mono ?_
    rintro e w9 ⟨u9, ys, rfl, hO, hys, hb9⟩
    go_wp2_with fail
    go_ret2
    exact ⟨_, ys, by rw [HP.out.2]; rfl, hO.mono (by have := b0.size; have := hb2.size; omega), by rw [hys, HP.out.1], (b0.trans (hb2.mono b0.size)).trans (hb9.mono (by have := b0.size; have := hb2.size; omega))⟩
  have hl2 : (vs.length : Int) < 80 := by omega
  rcases hv : okV v with _ | _
  · have HP : Hid _ := put_stay hc (putB_ok (vs := vs) hv)
    clear h hc hvd0 hP
    go_enter Try.func23, Try.ntmps23
    go_wp2_with fail
    generalize (w.alloc (.cells #[.int .i64 v.k, .int .i64 v.t, .int .i64 v.s, .int .i64 v.val, .int .i64 v.cl, .int .i64 v.ca, .slice va v.ds.length vc] 28)) = W1 at *
    refine hC.mono ?_
    rintro e w2 ⟨b, f, g, rfl, hbb, hM, hf, hgood, hb2⟩
    clear hC
    have V2 := V1.below hb2 V1.lt
    obtain ⟨q1, g1⟩ := V2.rules
    go_wp2_with fail
    refine (iVer_is hv hvl (hvd.below hb2)).mono ?_
    rintro e w3 ⟨rfl, hb3⟩
    have b3 : Below W1.heap.size W1 w3 := hb2.trans (hb3.mono hb2.size)
    have M3 := hM.below hb3
    clear q1 g1 V2 hb3 hM
    go_wp2_with fail
    refine (all_chain w3 W1.heap.size b vs.length f g vs M3 (by omega) hf (fun j x hx => (hgood j x hx).below b3) hvs hvk hl100).mono ?_
    rintro e w9 ⟨u9, ys, rfl, hO, hys, hb9⟩
    go_wp2_with fail
    go_ret2
    exact ⟨_, ys, by rw [HP.out.2]; rfl, hO.mono (by have := b0.size; have := b3.size; omega), by rw [hys, HP.out.1], (b0.trans (b3.mono b0.size)).trans (hb9.mono (by have := b0.size; have := b3.size; omega))⟩
  have hth0 := at_thr vs v.k v.t v.s
  have hgl := grp_le vs v.k
  have hga := grp_asc hP.2 v.k
  rcases hth : thr (grp vs v.k) v.t v.s with _ | _
  · rw [hth] at hth0
    have HP : Hid _ := put_take hc (putB_yes (vs := vs) hv hth0 (by omega))
    have hnone : cAt vs v.k v.t v.s = none := by rcases hx : cAt vs v.k v.t v.s with _ | y; rfl; rw [hx] at hth0; cases hth0
    have hasc2 := insV_asc hP.2 hnone
    have hvs2 := asc_keys hasc2
    have hvk2 : ∀ u ∈ insV v vs, 0 ≤ u.k ∧ u.k ≤ 5 := fun u hu => by
      rcases insV_mem.1 hu with rfl | hu
      · exact okV_key hv
      · exact hvk u hu
    have hl2' : (insV v vs).length ≤ 100 := by rw [insV_len]; omega
    have HU : Hid _ := fun (f : Int → List XV) (p : Value) hf => upd_grp (f := f) (p := p) hP.2 hnone hf
    clear h hc hvd0 hP hth0 hnone hasc2 hvs hvk
    go_enter Try.func23, Try.ntmps23
    go_wp2_with fail
    generalize (w.alloc (.cells #[.int .i64 v.k, .int .i64 v.t, .int .i64 v.s, .int .i64 v.val, .int .i64 v.cl, .int .i64 v.ca, .slice va v.ds.length vc] 28)) = W1 at *
    refine hC.mono ?_
    rintro e w2 ⟨b, f, g, rfl, hbb, hM, hf, hgood, hb2⟩
    clear hC
    have V2 := V1.below hb2 V1.lt
    obtain ⟨q1, g1⟩ := V2.rules
    go_wp2_with fail
    refine (iVer_is hv hvl (hvd.below hb2)).mono ?_
    rintro e w3 ⟨rfl, hb3⟩
    have b3 : Below W1.heap.size W1 w3 := hb2.trans (hb3.mono hb2.size)
    have M3 := hM.below hb3
    have V3 := V2.below hb3 V2.lt
    clear q1 g1 V2 hb3 hM
    obtain ⟨q1, g1⟩ := V3.rules
    go_wp2_with fail
    refine (put_new w3 W1.heap.size b vs.length f g v va vc (grp vs v.k) M3 hv (hf v.k) hga (by omega) (fun x hx => (hgood v.k x hx).below b3) hth (by omega) hbb b3.size).mono ?_
    rintro e w4 ⟨u4, rfl, M4, hb4⟩
    have b4 : Below W1.heap.size W1 w4 := b3.trans hb4
    have hf4 := HU.out f (.slice va v.ds.length vc) hf
    have hgood4 : ∀ j, ∀ x ∈ upd f v.k ((f v.k).take (plc (grp vs v.k) v.t v.s) ++ XV.mk v (.slice va v.ds.length vc) :: (f v.k).drop (plc (grp vs v.k) v.t v.s)) j, GoodX w4 x := fun j x hx => by
      by_cases e : j = v.k
      · subst e
        rw [upd_same] at hx
        rcases List.mem_append.1 hx with hx | hx
        · exact (hgood _ x (List.mem_of_mem_take hx)).below b4
        · rcases List.mem_cons.1 hx with rfl | hx
          · exact ⟨va, vc, rfl, hvd.below b4, hvl⟩
          · exact (hgood _ x (List.mem_of_mem_drop hx)).below b4
      · rw [upd_other _ _ e] at hx
        exact (hgood j x hx).below b4
    clear q1 g1 V3 M3 hb4 hf
    go_wp2_with fail
    refine (all_chain w4 W1.heap.size b (vs.length + 1) _ _ (insV v vs) M4 (by omega) hf4 hgood4 hvs2 hvk2 hl2').mono ?_
    rintro e w9 ⟨u9, ys, rfl, hO, hys, hb9⟩
    go_wp2_with fail
    go_ret2
    exact ⟨_, ys, by rw [HP.out.2]; rfl, hO.mono (by have := b0.size; have := b4.size; omega), by rw [hys, HP.out.1], (b0.trans (b4.mono b0.size)).trans (hb9.mono (by have := b0.size; have := b4.size; omega))⟩
  · rw [hth] at hth0
    have HP : Hid _ := put_stay hc (putB_there (vs := vs) hth0)
    clear h hc hvd0 hP hth0
    go_enter Try.func23, Try.ntmps23
    go_wp2_with fail
    generalize (w.alloc (.cells #[.int .i64 v.k, .int .i64 v.t, .int .i64 v.s, .int .i64 v.val, .int .i64 v.cl, .int .i64 v.ca, .slice va v.ds.length vc] 28)) = W1 at *
    refine hC.mono ?_
    rintro e w2 ⟨b, f, g, rfl, hbb, hM, hf, hgood, hb2⟩
    clear hC
    have V2 := V1.below hb2 V1.lt
    obtain ⟨q1, g1⟩ := V2.rules
    go_wp2_with fail
    refine (iVer_is hv hvl (hvd.below hb2)).mono ?_
    rintro e w3 ⟨rfl, hb3⟩
    have b3 : Below W1.heap.size W1 w3 := hb2.trans (hb3.mono hb2.size)
    have M3 := hM.below hb3
    have V3 := V2.below hb3 V2.lt
    clear q1 g1 V2 hb3 hM
    obtain ⟨q1, g1⟩ := V3.rules
    go_wp2_with fail
    refine (put_there w3 W1.heap.size b vs.length f g v va vc (grp vs v.k) M3 hv (hf v.k) hga (by omega) (fun x hx => (hgood v.k x hx).below b3) hth).mono ?_
    rintro e w4 ⟨rfl, hb4⟩
    have b4 : Below W1.heap.size W1 w4 := b3.trans (hb4.mono b3.size)
    have M4 := M3.below hb4
    clear q1 g1 V3 M3 hb4
    go_wp2_with fail
    refine (all_chain w4 W1.heap.size b vs.length f g vs M4 (by omega) hf (fun j x hx => (hgood j x hx).below b4) hvs hvk hl100).mono ?_
    rintro e w9 ⟨u9, ys, rfl, hO, hys, hb9⟩
    go_wp2_with fail
    go_ret2
    exact ⟨_, ys, by rw [HP.out.2]; rfl, hO.mono (by have := b0.size; have := b4.size; omega), by rw [hys, HP.out.1], (b0.trans (b4.mono b0.size)).trans (hb9.mono (by have := b0.size; have := b4.size; omega))⟩
end Go.Proofs.Ythlmodafadfnfaa

/- The law: no more versions are taken than there is room for. -/
namespace Go.Proofs.Ythlmodafadfnfaa
open Go.ChangeShapes Go.WideShapes Go.ChangeAt Go.RowKit

theorem Few.put81 {vs : List V} (h : Few 81 vs) {v : V} (hv : v.ds.length ≤ 6) : Few 81 (cPut vs v) := by
  cases hc : chainB vs with
  | false => rw [(put_no hc).1]; exact ⟨by simp, fun x hx => (by cases hx)⟩
  | true => exact (Few.put ⟨(chainB_iff.1 hc).1, h.2⟩ hv).more (by omega)
theorem put_chain {vs : List V} (h : chainB vs = true) (v : V) : chainB (cPut vs v) = true := by
  cases hp : putB vs v with
  | false => rw [(put_stay h hp).1]; exact h
  | true =>
    rw [(put_take h hp).1]
    unfold putB at hp
    simp at hp
    obtain ⟨⟨h1, h2⟩, h3⟩ := hp
    have hc := chainB_iff.1 h
    refine chainB_iff.2 ⟨by rw [insV_len]; omega, fun x hx => ?_, insV_asc hc.2.2 h2⟩
    rcases insV_mem.1 hx with rfl | hx
    · exact h1
    · exact hc.2.1 x hx
theorem many {n : Nat} : ∀ m : List Int, (∀ i : Nat, i < n → (100 + (i : Int)) ∈ m) → n ≤ m.length := by
  induction n with
  | zero => intro m _; omega
  | succ n ih =>
    intro m h
    have hm := h n (by omega)
    have := ih (m.erase (100 + (n : Int))) fun i hi => (List.mem_erase_of_ne (by omega)).2 (h i (by omega))
    rw [List.length_erase_of_mem hm] at this
    have := List.length_pos_of_mem hm
    omega
/-- The one that is put at a turn. -/
def fullV (n : Nat) : V := ⟨3, 100 + n, 1, 0, 0, 1, []⟩
theorem fullV_ok {n : Nat} (h : n ≤ 100) : okV (fullV n) = true := by
  unfold fullV okV verB numsB inB okB
  simp [depsOk, early]
  omega
/-- Behind n turns: full, or all of them are there. -/
def Turns (n : Nat) (vs : List V) : Prop := chainB vs = true ∧ (vs.length = 80 ∨ ∀ i : Nat, i < n → ∃ v ∈ vs, v.t = 100 + (i : Int))
theorem Turns.len {n : Nat} {vs : List V} (h : Turns n vs) (hn : 80 ≤ n) : vs.length = 80 := by
  rcases h.2 with e | e
  · exact e
  · have h1 := many (vs.map V.t) (n := n) fun i hi => by obtain ⟨v, hv, e⟩ := e i hi; exact List.mem_map.2 ⟨v, hv, e⟩
    have h2 := (chainB_iff.1 h.1).1
    rw [List.length_map] at h1
    omega
theorem Turns.next {n : Nat} {vs : List V} (h : Turns n vs) (hn : n ≤ 100) : Turns (n + 1) (cPut vs (fullV n)) := by
  refine ⟨put_chain h.1 _, ?_⟩
  rcases h.2 with e | e
  · left; rw [(put_stay h.1 (putB_full (by omega))).1]; exact e
  · by_cases hl : vs.length = 80
    · left; rw [(put_stay h.1 (putB_full (by omega))).1]; exact hl
    · have hlt : vs.length < 80 := by have := (chainB_iff.1 h.1).1; omega
      right
      cases hc : cAt vs (fullV n).k (fullV n).t (fullV n).s with
      | none =>
        rw [(put_take h.1 (putB_yes (fullV_ok hn) (by rw [hc]; rfl) hlt)).1]
        intro i hi
        by_cases hin : i = n
        · subst hin; exact ⟨_, insV_mem.2 (.inl rfl), rfl⟩
        · obtain ⟨v, hv, e'⟩ := e i (by omega)
          exact ⟨v, insV_mem.2 (.inr hv), e'⟩
      | some u =>
        rw [(put_stay h.1 (putB_there (by rw [hc]; rfl))).1]
        have hu := cAt_mem hc
        intro i hi
        by_cases hin : i = n
        · subst hin; exact ⟨u, hu.1, hu.2.2.1⟩
        · exact e i (by omega)
theorem Turns.full {n : Nat} {vs : List V} (h : Turns n vs) (hn : 80 ≤ n) : cDid vs (fullV n) = false := (put_stay h.1 (putB_full (by have := h.len hn; omega))).2

set_option maxHeartbeats 4000000 in
set_option maxRecDepth 20000 in
theorem lawFull (w : World) (a : Option Addr) (len cap : Nat) (h : Code w a len cap) :
    Calls Try.prog 13 #[.slice a len cap] w fun e w' => e = .returned (.bool true) ∧ Below w.heap.size w w' := by
  have hm := h.2.1
  have hl := h.1
  unfold maxLen at hm
  by_cases hc : 1048576 < (len : Int)
  · go_enter Try.func13, Try.ntmps13
    go_wp2
    go_ret
    exact ⟨rfl, Below.refl _ _⟩
  go_enter Try.func13, Try.ntmps13
  go_wp2_with fail
  refine (drawCPut w a len cap h).mono ?_
  rintro e w1 ⟨v1, ys, vs, x, da, dc, rfl, O1, hy, hF, hxl, D1, B1⟩
  obtain ⟨va, vc, rfl, V1⟩ := O1.asD hy
  have hvl : vs.length ≤ 81 := hF.1
  have Fp := hF.put81 hxl
  have lp := Fp.1
  have dp : ∀ v ∈ cPut vs x, v.ds.length ≤ 1048576 := fun v hv => by have := Fp.2 v hv; omega
  have hI := fun W va' vc' h h' => iPutV_any va vc vs x va' vc' W (by omega) h (by omega) h'
  have hS := fun W va' vc' h h' => sPutV_any va vc vs x va' vc' W (by omega) h (by omega) h'
  have hC := fun W h => sChainOk_any va vc vs W (by omega) h
  have HT : Hid (chainB vs = true → Turns 0 (cPut vs x)) := fun hb => ⟨put_chain hb x, .inr fun i hi => by omega⟩
  generalize cPut vs x = pl at *
  generalize cDid vs x = did at *
  have b1 := (Below.refl _ w1).alloc (Nat.le_refl _) (.cells #[.int .i64 x.k, .int .i64 x.t, .int .i64 x.s, .int .i64 x.val, .int .i64 x.cl, .int .i64 x.ca, .slice da x.ds.length dc] 28)
  have A1 := Blk.new w1 #[.int .i64 x.k, .int .i64 x.t, .int .i64 x.s, .int .i64 x.val, .int .i64 x.cl, .int .i64 x.ca, .slice da x.ds.length dc] 28
  have V1' := V1.below b1
  have D1' := D1.below b1
  have B1' := B1.trans (b1.mono B1.size)
  clear h hm hl O1 hy hF hc Fp V1 D1 B1 b1
  obtain ⟨q1, g1⟩ := A1.rules
  go_wp2_with fail
  clear q1 g1
  generalize w1.alloc (.cells #[.int .i64 x.k, .int .i64 x.t, .int .i64 x.s, .int .i64 x.val, .int .i64 x.cl, .int .i64 x.ca, .slice da x.ds.length dc] 28) = w1' at *
  refine (hS _ _ _ V1' D1').mono ?_
  rintro e w2 ⟨u2, ys2, rfl, P2, hy2, hb2⟩
  obtain ⟨aP, cP, rfl, VP2⟩ := P2.asD hy2
  have V2 := V1'.below hb2
  have D2 := D1'.below hb2
  have A2 := A1.below hb2 A1.lt
  have B2 : Below w.heap.size w w2 := B1'.trans (hb2.mono B1'.size)
  clear V1' D1' B1' hb2 P2 A1 hS
  obtain ⟨q1, g1⟩ := A2.rules
  go_wp2_with fail
  clear q1 g1
  refine (hI _ _ _ V2 D2).mono ?_
  rintro e w3 ⟨u3, ys3, rfl, G3, hy3, hb3⟩
  obtain ⟨aG, cG, rfl, VG3⟩ := G3.asD hy3
  have V3 := V2.below hb3
  have VP3 := VP2.below hb3
  have B3 : Below w.heap.size w w3 := B2.trans (hb3.mono B2.size)
  clear V2 D2 B2 hb3 VP2 A2 G3 hI
  go_wp2_with fail
  refine (liVers_any aG aP pl cG cP _ (by omega) dp VG3 VP3).mono ?_
  rintro e w4 ⟨rfl, hb4⟩
  have V4 := V3.below hb4
  have VP4 := VP3.below hb4
  have VG4 := VG3.below hb4
  have B4 : Below w.heap.size w w4 := B3.trans (hb4.mono B3.size)
  clear V3 VP3 VG3 B3 hb4
  go_wp2_with fail
  refine (hC _ V4).mono ?_
  rintro e w5 ⟨rfl, hb5⟩
  have VP5 := VP4.below hb5
  have VG5 := VG4.below hb5
  have B5 : Below w.heap.size w w5 := B4.trans (hb5.mono B4.size)
  clear V4 VP4 VG4 B4 hb5 hC
  rcases hcb : chainB vs with _ | _
  · clear HT
    go_wp2_with fail
    refine (liVers_any aG aP pl cG cP _ (by omega) dp VG5 VP5).mono ?_
    rintro e w6 ⟨rfl, hb6⟩
    have B6 : Below w.heap.size w w6 := B5.trans (hb6.mono B5.size)
    clear VP5 VG5 B5 hb6
    go_wp2_with fail
    go_ret
    exact ⟨rfl, B6⟩
  · have T0 : Hid (Turns 0 pl) := HT.out hcb
    clear HT hcb VP5 dp
    go_wp2_with fail
    go_loopw [7, 8, 9] (fun l o i wr => ∃ (n : Nat) (ax : Option Addr) (cx : Nat) (us : List V) (b : Bool), n ≤ 82 ∧ i = .int .i64 n ∧ l = .slice ax us.length cx ∧ o = .bool b ∧ Vers wr ax us ∧ Turns n us ∧ (n = 82 → b = false) ∧ Below w.heap.size w wr) (fun _ _ i _ => 82 - (intOf i).toNat)
    case atStart => exact ⟨0, aG, cG, pl, did, by omega, rfl, rfl, rfl, VG5, T0.out, fun e => by omega, B5⟩
    case round =>
      obtain ⟨n, ax, cx, us, b, hn, rfl, rfl, rfl, VX, TX, hb, BX⟩ := hrel
      clear VG5 B5 T0
      have hul := (chainB_iff.1 TX.1).1
      by_cases hlt : (n : Int) < 82
      · have hIn := iPutV_any ax cx us (fullV n) none 0 wr (by omega) VX (by simp [fullV]) (.inl rfl)
        have TN := TX.next (by omega)
        have hdone : n + 1 = 82 → cDid us (fullV n) = false := fun e => TX.full (by omega)
        have HTN : Hid (Turns (n + 1) (cPut us (fullV n)) ∧ (n + 1 = 82 → cDid us (fullV n) = false)) := ⟨TN, hdone⟩
        clear TN hdone TX VX hb
        generalize cPut us (fullV n) = us2 at *
        generalize cDid us (fullV n) = b2 at *
        go_wp2_with fail
        refine hIn.mono ?_
        rintro e w8 ⟨u8, ys8, rfl, G8, hy8, hb8⟩
        obtain ⟨a8, c8, rfl, V8⟩ := G8.asD hy8
        have B8 : Below w.heap.size w w8 := BX.trans (hb8.mono BX.size)
        clear G8 hb8 BX hIn hy8
        go_wp2_with fail
        go_roundw
        case rel => exact ⟨n + 1, a8, c8, us2, b2, by omega, by go_num, rfl, rfl, V8, HTN.out.1, HTN.out.2, B8⟩
        case measure => simp [intOf]; omega
      · have hn2 : n = 82 := by omega
        subst hn2
        have hbf := hb rfl
        have h80 : us.length = 80 := TX.len (by omega)
        have hok := iChainOk_any ax cx us wr (by omega) VX
        rw [TX.1] at hok
        have h80' : (us.length : Int) = 80 := by omega
        subst hbf
        clear TX VX hb h80
        go_wp2_with fail
        refine hok.mono ?_
        rintro e w8 ⟨rfl, hb8⟩
        have B8 : Below w.heap.size w w8 := BX.trans (hb8.mono BX.size)
        clear hok hb8 BX
        go_wp2_with fail
        go_ret
        exact ⟨rfl, B8⟩
end Go.Proofs.Ythlmodafadfnfaa

/- The law: two versions can be put in either order. -/
namespace Go.Proofs.Ythlmodafadfnfaa
open Go.ChangeShapes Go.WideShapes Go.ChangeAt Go.RowKit

theorem cAt_no {vs : List V} {k t s : Int} (h : ∀ v ∈ vs, sameB v k t s = false) : cAt vs k t s = none := by
  unfold cAt
  rw [List.find?_eq_none]
  intro v hv
  simp [h v hv]
theorem turn {vs : List V} {x y : V} (h1 : cDid vs x = true) (h2 : cDid (cPut vs x) y = true) : cDid vs y = true ∧ cDid (cPut vs y) x = true ∧ cPut (cPut vs y) x = cPut (cPut vs x) y := by
  obtain ⟨hc, hp⟩ : chainB vs = true ∧ putB vs x = true := by unfold cDid at h1; simpa using h1
  obtain ⟨hc2, hp2⟩ : chainB (cPut vs x) = true ∧ putB (cPut vs x) y = true := by unfold cDid at h2; simpa using h2
  have e1 := (put_take hc hp).1
  rw [e1] at hc2 hp2
  have q1 := hp
  have q2 := hp2
  unfold putB at q1 q2
  simp at q1 q2
  obtain ⟨⟨x1, x2⟩, x3⟩ := q1
  obtain ⟨⟨y1, y2⟩, y3⟩ := q2
  rw [insV_len] at y3
  have ny : ∀ v ∈ insV x vs, sameB v y.k y.t y.s = false := cAt_none y2
  have nx : ∀ v ∈ vs, sameB v x.k x.t x.s = false := cAt_none x2
  have cy : cAt vs y.k y.t y.s = none := cAt_no fun v hv => ny v (insV_mem.2 (.inr hv))
  have hpy : putB vs y = true := putB_yes y1 (by rw [cy]; rfl) x3
  have e2 := put_take hc hpy
  have hcy := put_chain hc y
  rw [e2.1] at hcy
  have cx : cAt (insV y vs) x.k x.t x.s = none := cAt_no fun v hv => by
    rcases insV_mem.1 hv with rfl | hv
    · have := ny x (insV_mem.2 (.inl rfl))
      cases hs : sameB v x.k x.t x.s with
      | false => rfl
      | true =>
        obtain ⟨a1, a2, a3⟩ := sameB_iff.1 hs
        rw [sameB_iff.2 ⟨a1.symm, a2.symm, a3.symm⟩] at this
        cases this
    · exact nx v hv
  have hpx : putB (insV y vs) x = true := putB_yes x1 (by rw [cx]; rfl) (by rw [insV_len]; omega)
  have e3 := put_take hcy hpx
  have e4 := put_take hc2 hp2
  rw [e2.1, e1, e3.1, e4.1]
  refine ⟨e2.2, e3.2, asc_unique (insV_asc (chainB_iff.1 hcy).2.2 cx) (insV_asc (chainB_iff.1 hc2).2.2 y2) ?_⟩
  exact (insV_perm x _).trans (((insV_perm y vs).cons x).trans ((List.Perm.swap y x vs).trans (((insV_perm x vs).symm.cons y).trans (insV_perm y _).symm)))

set_option maxHeartbeats 4000000 in
set_option maxRecDepth 20000 in
theorem lawTurn (w : World) (a : Option Addr) (len cap : Nat) (c : Option Addr) (len' cap' : Nat) (h : Code w a len cap) (h' : Code w c len' cap') :
    Calls Try.prog 4 #[.slice a len cap, .slice c len' cap'] w fun e w' => e = .returned (.bool true) ∧ Below w.heap.size w w' := by
  have hm := h.2.1
  have hl := h.1
  have hm' := h'.2.1
  have hl' := h'.1
  unfold maxLen at hm hm'
  by_cases hc : 1048576 < (len : Int)
  · go_enter Try.func4, Try.ntmps4
    go_wp2
    go_ret
    exact ⟨rfl, Below.refl _ _⟩
  by_cases hc' : 1048576 < (len' : Int)
  · go_enter Try.func4, Try.ntmps4
    go_wp2
    go_ret
    exact ⟨rfl, Below.refl _ _⟩
  go_enter Try.func4, Try.ntmps4
  go_wp2_with fail
  refine (drawCPut w a len cap h).mono ?_
  rintro e w1 ⟨v1, ys, vs, x, da, dc, rfl, O1, hy, hF, hxl, D1, B1⟩
  obtain ⟨va, vc, rfl, V1⟩ := O1.asD hy
  have b1 := (Below.refl _ w1).alloc (Nat.le_refl _) (.cells #[.int .i64 x.k, .int .i64 x.t, .int .i64 x.s, .int .i64 x.val, .int .i64 x.cl, .int .i64 x.ca, .slice da x.ds.length dc] 28)
  have A1 := Blk.new w1 #[.int .i64 x.k, .int .i64 x.t, .int .i64 x.s, .int .i64 x.val, .int .i64 x.cl, .int .i64 x.ca, .slice da x.ds.length dc] 28
  have V1' := V1.below b1
  have D1' := D1.below b1
  have B1' := B1.trans (b1.mono B1.size)
  clear h hm hl O1 hy hc V1 D1 B1 b1
  go_wp2_with fail
  generalize w1.alloc (.cells #[.int .i64 x.k, .int .i64 x.t, .int .i64 x.s, .int .i64 x.val, .int .i64 x.cl, .int .i64 x.ca, .slice da x.ds.length dc] 28) = w1' at *
  refine (drawCPut w1' c len' cap' (h'.below B1')).mono ?_
  rintro e w2 ⟨v2, ys2, vs2, y, ea, ec, rfl, O2, hy2, hF2, hyl, E2, hb2⟩
  obtain ⟨va2, vc2, rfl, _⟩ := O2.asD hy2
  have b2 := (Below.refl _ w2).alloc (Nat.le_refl _) (.cells #[.int .i64 y.k, .int .i64 y.t, .int .i64 y.s, .int .i64 y.val, .int .i64 y.cl, .int .i64 y.ca, .slice ea y.ds.length ec] 28)
  have bb := hb2.trans (b2.mono hb2.size)
  have C3 := Blk.new w2 #[.int .i64 y.k, .int .i64 y.t, .int .i64 y.s, .int .i64 y.val, .int .i64 y.cl, .int .i64 y.ca, .slice ea y.ds.length ec] 28
  have A3 := A1.below bb A1.lt
  have V3 := V1'.below bb
  have D3 := D1'.below bb
  have E3 := E2.below b2
  have B3 := B1'.trans (bb.mono B1'.size)
  clear h' hm' hl' hc' O2 hy2 hF2 E2 hb2 b2 bb A1 V1' D1' B1'
  have hvl : vs.length ≤ 81 := hF.1
  have Fp := hF.put81 hxl
  have lp := Fp.1
  have dp : ∀ v ∈ cPut vs x, v.ds.length ≤ 1048576 := fun v hv => by have := Fp.2 v hv; omega
  have Fq := Fp.put81 hyl
  have lq := Fq.1
  have dq : ∀ v ∈ cPut (cPut vs x) y, v.ds.length ≤ 1048576 := fun v hv => by have := Fq.2 v hv; omega
  have Fz := hF.put81 hyl
  have lz := Fz.1
  have HT : Hid (cDid vs x = true → cDid (cPut vs x) y = true → cDid vs y = true ∧ cDid (cPut vs y) x = true ∧ cPut (cPut vs y) x = cPut (cPut vs x) y) := fun h1 h2 => turn h1 h2
  have hI1 := fun W a' c' h h' => iPutV_any va vc vs x a' c' W (by omega) h (by omega) h'
  have hS1 := fun W a' c' h h' => sPutV_any va vc vs x a' c' W (by omega) h (by omega) h'
  have hI2 := fun b cc W a' c' h h' => iPutV_any b cc (cPut vs x) y a' c' W (by omega) h (by omega) h'
  have hI3 := fun W a' c' h h' => iPutV_any va vc vs y a' c' W (by omega) h (by omega) h'
  have hI4 := fun b cc W a' c' h h' => iPutV_any b cc (cPut vs y) x a' c' W (by omega) h (by omega) h'
  generalize cPut (cPut vs y) x = ql2 at *
  generalize cPut (cPut vs x) y = ql at *
  generalize cDid (cPut vs y) x = did4 at *
  generalize cDid (cPut vs x) y = did2 at *
  generalize cPut vs x = pl at *
  generalize cPut vs y = zl at *
  generalize cDid vs x = did1 at *
  generalize cDid vs y = did3 at *
  clear hF Fp Fq Fz
  obtain ⟨q1, g1⟩ := A3.rules
  go_wp2_with fail
  clear q1 g1
  generalize w2.alloc (.cells #[.int .i64 y.k, .int .i64 y.t, .int .i64 y.s, .int .i64 y.val, .int .i64 y.cl, .int .i64 y.ca, .slice ea y.ds.length ec] 28) = w3 at *
  refine (hS1 _ _ _ V3 D3).mono ?_
  rintro e w4 ⟨u4, ys4, rfl, P4, hy4, hb4⟩
  obtain ⟨aP, cP, rfl, VP4⟩ := P4.asD hy4
  clear P4 hS1
  have V4 := V3.below hb4
  have D4 := D3.below hb4
  have E4 := E3.below hb4
  have A4 := A3.below hb4 A3.lt
  have C4 := C3.below hb4 C3.lt
  have B4 : Below w.heap.size w w4 := B3.trans (hb4.mono B3.size)
  clear V3 D3 E3 A3 C3 B3 hb4
  obtain ⟨q1, g1⟩ := A4.rules
  go_wp2_with fail
  clear q1 g1
  refine (hI1 _ _ _ V4 D4).mono ?_
  rintro e w5 ⟨u5, ys5, rfl, G5, hy5, hb5⟩
  obtain ⟨aG, cG, rfl, VG5⟩ := G5.asD hy5
  clear G5 hI1
  have V5 := V4.below hb5
  have D5 := D4.below hb5
  have E5 := E4.below hb5
  have VP5 := VP4.below hb5
  have A5 := A4.below hb5 A4.lt
  have C5 := C4.below hb5 C4.lt
  have B5 : Below w.heap.size w w5 := B4.trans (hb5.mono B4.size)
  clear V4 D4 E4 VP4 A4 C4 B4 hb5
  go_wp2_with fail
  refine (liVers_any aG aP pl cG cP _ (by omega) dp VG5 VP5).mono ?_
  rintro e w6 ⟨rfl, hb6⟩
  have V6 := V5.below hb6
  have D6 := D5.below hb6
  have E6 := E5.below hb6
  have VP6 := VP5.below hb6
  have VG6 := VG5.below hb6
  have A6 := A5.below hb6 A5.lt
  have C6 := C5.below hb6 C5.lt
  have B6 : Below w.heap.size w w6 := B5.trans (hb6.mono B5.size)
  clear V5 D5 E5 VP5 VG5 A5 C5 B5 hb6
  rcases did1 with _ | _
  · clear HT hI2 hI3 hI4
    go_wp2_with fail
    refine (liVers_any aG aP pl cG cP _ (by omega) dp VG6 VP6).mono ?_
    rintro e w7 ⟨rfl, hb7⟩
    have B7 : Below w.heap.size w w7 := B6.trans (hb7.mono B6.size)
    clear VG6 VP6 V6 D6 E6 A6 C6 B6 hb7
    go_wp2_with fail
    go_ret
    exact ⟨rfl, B7⟩
  clear VP6
  obtain ⟨q1, g1⟩ := C6.rules
  go_wp2_with fail
  clear q1 g1
  refine (hI2 aG cG _ _ _ VG6 E6).mono ?_
  rintro e w7 ⟨u7, ys7, rfl, Y7, hy7, hb7⟩
  obtain ⟨aY, cY, rfl, VY7⟩ := Y7.asD hy7
  clear Y7 hI2 VG6
  have V7 := V6.below hb7
  have D7 := D6.below hb7
  have E7 := E6.below hb7
  have A7 := A6.below hb7 A6.lt
  have C7 := C6.below hb7 C6.lt
  have B7 : Below w.heap.size w w7 := B6.trans (hb7.mono B6.size)
  clear V6 D6 E6 A6 C6 B6 hb7
  obtain ⟨q1, g1⟩ := C7.rules
  go_wp2_with fail
  clear q1 g1
  refine (hI3 _ _ _ V7 E7).mono ?_
  rintro e w8 ⟨u8, ys8, rfl, Z8, hy8, hb8⟩
  obtain ⟨aZ, cZ, rfl, VZ8⟩ := Z8.asD hy8
  clear Z8 hI3
  have D8 := D7.below hb8
  have VY8 := VY7.below hb8
  have A8 := A7.below hb8 A7.lt
  have B8 : Below w.heap.size w w8 := B7.trans (hb8.mono B7.size)
  clear D7 VY7 A7 B7 hb8
  clear V7 E7 C7
  obtain ⟨q1, g1⟩ := A8.rules
  go_wp2_with fail
  clear q1 g1
  refine (hI4 aZ cZ _ _ _ VZ8 D8).mono ?_
  rintro e w9 ⟨u9, ys9, rfl, W9, hy9, hb9⟩
  obtain ⟨aW, cW, rfl, VW9⟩ := W9.asD hy9
  clear W9 hI4
  have VY9 := VY8.below hb9
  have B9 : Below w.heap.size w w9 := B8.trans (hb9.mono B8.size)
  clear VY8 B8 hb9
  clear VZ8 D8 A8
  rcases did2 with _ | _
  · clear HT
    go_wp2_with fail
    go_ret
    exact ⟨rfl, B9⟩
  obtain ⟨r1, r2, r3⟩ := HT.out (by simp) (by simp)
  subst r1 r2 r3
  clear HT
  go_wp2_with fail
  refine (liVers_any aW aY _ cW cY _ (by omega) dq VW9 VY9).mono ?_
  rintro e w10 ⟨rfl, hb10⟩
  have B10 : Below w.heap.size w w10 := B9.trans (hb10.mono B9.size)
  clear VW9 VY9 B9 hb10
  go_wp2_with fail
  go_ret
  exact ⟨rfl, B10⟩
end Go.Proofs.Ythlmodafadfnfaa

