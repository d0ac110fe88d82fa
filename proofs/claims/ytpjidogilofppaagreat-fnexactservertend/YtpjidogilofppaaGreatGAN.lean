/- 3 texts in one: Keys, Chm, ChainOf. -/
import Derived.Test.YtpjidogilofppaaGreatKeysLay
import Derived.Test.YtpjidogilofppaaGreatGAJ
import Derived.Maps.OwnSet
/- A map's keys, sorted. -/
namespace Go.Proofs.YtpjidogilofppaaGreat
open Go.RowKit Go.Maps Go.Sort Go.Shelf

theorem sorts (m : Nat) : AnyZI.SortsIn Tryz.prog sortedA_ren Fence.wide m :=
  ⟨fun blk off cap ss W hH hblk hsz => callsIn_wide.2 (AnyM.slices_Sort_int sortA blk off cap ss W hH hblk hsz),
   fun p cap W => callsIn_wide.2 (AnyM.slices_Sort_int_none sortA p cap W)⟩

theorem keys_any (mb : Option Nat) (W : World) : Calls Tryz.prog 268 #[.map mb] W fun e w' => e = .returned (.func (.func 279) #[] #[.pointer (some ⟨W.heap.size, 0, none⟩)]) ∧ w' = W.alloc (.cells #[.map mb] 271) :=
  (callsIn_wide (n := 5)).1 (AnyZI.keys_in keysA Fence.wide 5 trivial rfl mb W)

set_option maxHeartbeats 1000000 in
theorem sorted_any {H : Type} (b nn Bm : Nat) (D0 : DataW H) (R : Value → Option (DataW H × List MemPlace)) (w : World) (hBm : Bm < w.heap.size) (hm : w.cell? ⟨Bm, 0, none⟩ = some (.map (some b))) (hown : w.ownsMap Tryz.prog 3 R b nn D0) (hmax : Maps.size D0 ≤ 1000) :
    Calls Tryz.prog 267 #[.func (.func 279) #[] #[.pointer (some ⟨Bm, 0, none⟩)]] w fun e w' => ∃ (v : Value) (ss : List Int), e = .returned v ∧ ss.Perm (intKeys D0) ∧
      w'.ownsRow w.heap.size 3 1 v ss.length ((ss.mergeSort (fun x y => decide (x ≤ y))).map encZ) ∧ Below w.heap.size w w' := by
  refine (callsIn_wide (n := 5)).1 ?_
  have hseq : SeqGives Fence.wide 2 Tryz.prog 279 #[.pointer (some ⟨Bm, 0, none⟩)] encZ (fun ss => ss.Perm (intKeys D0)) (Maps.size D0) w :=
    AnyZI.keys_gives (ρ := keysA_ren) { keysA with } Fence.wide _ trivial rfl (by omega) Bm b nn D0 _ hBm hm hown
  have cS := AnyZI.sorted_in sortedA Fence.wide 5 trivial trivial trivial trivial rfl (by omega) (sorts _) (enters_of Tryz.func278 (by kernel_rfl) rfl) 279 #[.pointer (some ⟨Bm, 0, none⟩)] trivial (enters_of Tryz.func279 (by kernel_rfl) rfl) _ _ (by unfold maxLen; omega) (by omega) _ hseq
  change CallsIn _ _ Tryz.prog 267 _ _ _ at cS
  refine cS.mono ?_
  rintro e w' ⟨v, ss, rfl, hS, hrow, hnil, hb⟩
  exact ⟨v, ss, rfl, hS, hrow, hb⟩
end Go.Proofs.YtpjidogilofppaaGreat

/- Versions by key in a map. -/
namespace Go.Proofs.YtpjidogilofppaaGreat
open Go.ChangeShapes Go.WideShapes Go.ChangeAt Go.RowKit Go.Maps

/-- A map's elements, held as they are. -/
def heldR : Value → Option (DataW Value × List MemPlace) := fun v => some (.held v, [])
theorem keyedI : Keyed Tryz.prog 3 := int_keyed Tryz.underlying3
theorem zeroVers (w : World) : (zeroValue 29).run Tryz.prog w = .ok (.slice none 0 0) w := Tryz.zeroValue29 w
/-- Another value at one key. -/
def upd {α : Type} (f : Int → α) (k : Int) (l : α) : Int → α := fun j => if j = k then l else f j
theorem upd_same {α : Type} (f : Int → α) (k : Int) (l : α) : upd f k l k = l := if_pos rfl
theorem upd_other {α : Type} (f : Int → α) {k j : Int} (l : α) (h : j ≠ k) : upd f k l j = f j := if_neg h
/-- Versions by key: the map in block b holds at each key the slice g, a row of the call's own that holds the versions f. -/
structure Chm (w : World) (base b n : Nat) (f : Int → List XV) (g : Int → Value) : Prop where
  own : ∃ D : DataW Value, w.ownsMap Tryz.prog 3 heldR b n D ∧ (∀ k, D.atKey (.int .i64 k) (.held (.slice none 0 0)) = .held (g k)) ∧ (∀ k, Maps.has D (.int .i64 k) = true ↔ f k ≠ [])
  row : ∀ k, w.ownsRow base 107 7 (g k) (f k).length (flat7 (f k))
  apart : ∀ k j, k ≠ j → ApartV (g k) (g j)
theorem Chm.lt {w : World} {base b n : Nat} {f : Int → List XV} {g : Int → Value} (h : Chm w base b n f g) : b < w.heap.size := by obtain ⟨D, hD, _⟩ := h.own; exact hD.lt
theorem Chm.below {w w' : World} {base b n : Nat} {f : Int → List XV} {g : Int → Value} (h : Chm w base b n f g) (k : Below w.heap.size w w') : Chm w' base b n f g := by
  obtain ⟨D, hD, h1, h2⟩ := h.own
  exact ⟨⟨D, hD.kept (row := none) (grown_of_below k) (by simp), h1, h2⟩, fun j => row_below (h.row j) k (Nat.le_refl _), h.apart⟩
theorem Chm.made (w : World) (base : Nat) : Chm (w.alloc (.map #[] 0)) base w.heap.size 0 (fun _ => []) (fun _ => .slice none 0 0) :=
  ⟨⟨_, World.ownsMap_made w _ _ _, fun _ => rfl, fun _ => by simp [Maps.has]⟩, fun _ => World.ownsRow_nil _ _ _ _, fun _ _ _ j hj => (by simp [Value.ownBlock] at hj)⟩
/-- What a look-up finds. -/
theorem Chm.look {w : World} {base b n : Nat} {f : Int → List XV} {g : Int → Value} (h : Chm w base b n f g) {k : Int} (hk : (Lit.int .i64 k).wf = true) : (Instr.lookup 271 (.map (some b)) (.int .i64 k) false).run Tryz.prog w = .ok (g k) w := by
  obtain ⟨D, hD, h1, _⟩ := h.own
  obtain ⟨v, ps, hr, hv⟩ := hD.lookup keyedI Tryz.underlying271 (zeroVers w) (zd := .held (.slice none 0 0)) (zp := []) rfl (keyOf_int_mk Tryz.underlying3 hk)
  rw [h1 k] at hv
  simp [heldR] at hv
  rw [hr, hv.1]
theorem wf_key {k : Int} (h0 : 0 ≤ k) (h1 : k ≤ 5) : (Lit.int .i64 k).wf = true := by simp [Lit.wf, IntKind.min, IntKind.max, IntKind.bits, IntKind.signed]; omega
/-- A map that is another at one key: what lay at that key, and new blocks, may have turned ahead. -/
theorem Chm.store {w w1 : World} {base b n : Nat} {f : Int → List XV} {g : Int → Value} (h : Chm w base b n f g) {k : Int} (hk : (Lit.int .i64 k).wf = true) {l : List XV} {v : Value} (hn : n < 1000) (hl : l ≠ [])
    (hg : w.grownBy w1 (g k).ownBlock) (hrow : w1.ownsRow base 107 7 v l.length (flat7 l)) (hloc : v.ownBlock = (g k).ownBlock ∨ ∃ j, v.ownBlock = some j ∧ w.heap.size ≤ j) :
    ∃ w2, (Instr.mapUpdate 271 (.map (some b)) (.int .i64 k) v).run Tryz.prog w1 = .ok () w2 ∧ Chm w2 base b (n + 1) (upd f k l) (upd g k v) ∧ w1.grownBy w2 (some b) := by
  obtain ⟨D, hD, h1, h2⟩ := h.own
  have hbk : some b ≠ (g k).ownBlock := fun e => by
    obtain ⟨es, clock, hb, _⟩ := hD
    rcases (h.row k).2 with ⟨e0, _⟩ | ⟨x, cap, cur, e0, _, hx, _⟩
    · rw [e0] at e; simp [Value.ownBlock] at e
    · rw [e0] at e; simp [Value.ownBlock] at e; subst e; rw [hb] at hx; cases hx
  have hD1 := hD.kept hg hbk
  obtain ⟨w2, hr, hD2, hg2⟩ := hD1.update keyedI Tryz.underlying271 (by unfold maxLen; omega) (keyOf_int_mk Tryz.underlying3 hk) (val := v) (d := .held v) (ps := []) rfl
  have hrows : ∀ (u : Value) (m : Nat) (cs : List Value), w1.ownsRow base 107 7 u m cs → w2.ownsRow base 107 7 u m cs := fun u m cs hu => hu.kept hg2 (by
    rcases hu.2 with ⟨e0, _⟩ | ⟨x, cap, cur, e0, _, hx, _⟩
    · exact .inl (by rw [e0]; rfl)
    · refine .inr fun e => ?_
      rw [e0] at e; simp [Value.ownBlock] at e; subst e
      obtain ⟨es, clock, hb, _⟩ := hD1
      rw [hb] at hx; cases hx)
  refine ⟨w2, hr, ⟨⟨_, hD2, fun j => ?_, fun j => ?_⟩, fun j => ?_, fun i j hij => ?_⟩, hg2⟩
  · by_cases e : j = k
    · subst e; rw [upd_same]; exact atKey_put_same (k := .int .i64 j) hD1.isMap trivial _ _
    · rw [upd_other _ _ e, atKey_put_other (fun h => e (by simpa using h))]; exact h1 j
  · by_cases e : j = k
    · subst e; rw [upd_same, has_put_same (k := .int .i64 j) hD1.isMap trivial]; simp [hl]
    · rw [upd_other _ _ e, has_put_other (fun h => e (by simpa using h))]; exact h2 j
  · by_cases e : j = k
    · subst e; rw [upd_same, upd_same]; exact hrows _ _ _ hrow
    · rw [upd_other _ _ e, upd_other _ _ e]
      refine hrows _ _ _ ((h.row j).kept hg ?_)
      rcases hj : (g j).ownBlock with _ | q
      · exact .inl rfl
      · exact .inr fun e2 => h.apart j k e q hj e2.symm
  · by_cases ei : i = k
    · subst ei
      have ej : j ≠ i := fun e => hij e.symm
      rw [upd_same, upd_other _ _ ej]
      intro q hq hq2
      rcases hloc with e2 | ⟨r, e2, e3⟩
      · rw [e2] at hq; exact h.apart i j hij q hq hq2
      · rw [e2] at hq; simp at hq; subst hq; have := ((h.row j).lt r hq2).2; omega
    · by_cases ej : j = k
      · subst ej
        rw [upd_same, upd_other _ _ ei]
        intro q hq hq2
        rcases hloc with e2 | ⟨r, e2, e3⟩
        · rw [e2] at hq2; exact h.apart i j hij q hq hq2
        · rw [e2] at hq2; simp at hq2; subst hq2; have := ((h.row i).lt r hq).2; omega
      · rw [upd_other _ _ ei, upd_other _ _ ej]; exact h.apart i j hij
/-- The keys of such a map, sorted. -/
theorem Chm.keys {w : World} {base b n : Nat} {f : Int → List XV} {g : Int → Value} (h : Chm w base b n f g) : ∃ D : DataW Value, w.ownsMap Tryz.prog 3 heldR b n D ∧ ∀ ss : List Int, ss.Perm (intKeys D) → (ss.mergeSort (fun x y => decide (x ≤ y))).Pairwise (· < ·) ∧ ∀ k, k ∈ ss.mergeSort (fun x y => decide (x ≤ y)) ↔ f k ≠ [] := by
  obtain ⟨D, hD, _, h2⟩ := h.own
  refine ⟨D, hD, fun ss hp => ?_⟩
  obtain ⟨es, hDe, hpw, _⟩ := hD.entries keyedI
  obtain ⟨es', hD', hko⟩ := hD.keysOf
  obtain rfl : es = es' := by rw [hDe] at hD'; simpa using hD'
  subst hDe
  have hk : ∀ p ∈ es, ∃ x, p.1 = .int .i64 x := fun p hp => by obtain ⟨v, hv⟩ := hko p hp; obtain ⟨x, _, hx, _⟩ := Maps.keyOf_i64 Tryz.underlying3 hv; exact ⟨x, hx⟩
  have hnd : (intKeys (DataW.map es)).Nodup := by
    show (es.map fun p => Go.intOf p.1).Nodup
    refine List.pairwise_map.2 (hpw.imp_of_mem fun {p q} hp' hq' hne e => hne ?_)
    obtain ⟨a, ha⟩ := hk p hp'
    obtain ⟨b, hb⟩ := hk q hq'
    rw [ha, hb] at e ⊢
    exact congrArg _ e
  have hmem : ∀ x, x ∈ intKeys (DataW.map es) ↔ Maps.has (DataW.map es) (.int .i64 x) = true := fun x => by
    rw [has_eq, List.any_eq_true]
    show x ∈ (es.map fun p => Go.intOf p.1) ↔ _
    rw [List.mem_map]
    constructor
    · rintro ⟨p, hp', rfl⟩
      obtain ⟨a, ha⟩ := hk p hp'
      exact ⟨p, hp', by rw [ha]; simp [Lit.sameKey, Go.intOf]⟩
    · rintro ⟨p, hp', hs⟩
      obtain ⟨a, ha⟩ := hk p hp'
      rw [ha] at hs
      exact ⟨p, hp', by rw [ha]; simpa [Lit.sameKey, Go.intOf] using hs⟩
  have hps := (List.mergeSort_perm ss (fun x y => decide (x ≤ y))).trans hp
  refine ⟨?_, fun k => by rw [hps.mem_iff, hmem, h2]⟩
  have tr : ∀ a b c : Int, decide (a ≤ b) = true → decide (b ≤ c) = true → decide (a ≤ c) = true := fun a b c h1 h2 => by simp only [decide_eq_true_eq] at *; omega
  have to : ∀ a b : Int, (decide (a ≤ b) || decide (b ≤ a)) = true := fun a b => by simp only [Bool.or_eq_true, decide_eq_true_eq]; omega
  have h3 := List.pairwise_mergeSort tr to ss
  have h4 : (ss.mergeSort (fun x y => decide (x ≤ y))).Nodup := hps.nodup_iff.2 hnd
  refine (List.Pairwise.and h3 h4).imp fun {a b} hab => ?_
  have h5 := hab.1
  simp only [decide_eq_true_eq] at h5
  have := hab.2
  omega
end Go.Proofs.YtpjidogilofppaaGreat

/- The program's map of versions by key. -/
namespace Go.Proofs.YtpjidogilofppaaGreat
open Go.ChangeShapes Go.WideShapes Go.ChangeAt Go.RowKit

theorem okV_key {v : V} (h : okV v = true) : 0 ≤ v.k ∧ v.k ≤ 5 := by
  unfold okV verB numsB inB at h; simp at h; omega
theorem grp_snoc (l : List V) (v : V) (j : Int) : grp (l ++ [v]) j = if j = v.k then grp l j ++ [v] else grp l j := by
  unfold grp; rw [List.filter_append]
  by_cases e : j = v.k
  · subst e; rw [if_pos rfl]; simp
  · have e2 : ¬ v.k = j := fun h => e h.symm
    rw [if_neg e]; simp [e2]
theorem grp_le (l : List V) (j : Int) : (grp l j).length ≤ l.length := List.length_filter_le _ _

/-- An append at a step of a region that draws its order, with the place where the new slice lies. -/
theorem step_append_at {P : Program} (w : World) {ops : Array Oper} {o : Oper} {a : Act} {K : Act → World → Prop} {Q : Exit → Act → World → Prop} {E : Prop} (hgd : o.guard = none) (s x : Operand) (t : TypeId)
    (ho : o.op = .call { callee := .builtin .append, args := #[s, x], argTypes := #[t, t] })
    (base : Nat) (e : TypeId) (i : TypeInfo) (z : Value) (size bytes : Nat) (ht : P.underlying t = some (.slice e)) (hi : P.info? e = some i) (hz : i.zero = some z)
    (hsize : i.size = size) (hby : i.bytes = bytes) (hzs : z.cells.size = size) (hsz : 0 < size)
    (v : Value) (n : Nat) (xs : List Value) (hs : a.eval s = v) (hown : w.ownsRow base e size v n xs)
    (ad : Addr) (m c : Nat) (news : List Value) (hx : a.eval x = .slice (some ad) m c) (hl : news.length = m * size) (hnews : ∀ j u, news[j]? = some u → w.cell? (ad.add j) = some u) (h1 : ∀ u ∈ news, u.oneCell' = true)
    (h63 : n + m ≤ maxLen) (hbytes : (n + m) * bytes ≤ 140737488355328) (hbase : base ≤ w.heap.size)
    (h : ∀ v' w', w'.ownsRow base e size v' (n + m) (xs ++ news) → w.grownBy w' v.ownBlock → (v'.ownBlock = v.ownBlock ∨ v'.ownBlock = some w.heap.size) → K (a.put o.dst v') w') :
    if Region.wanted o (yielded ops a.tmps) = true then Oper.wp P o a w K Q else E := by
  have hw : Region.wanted o (yielded ops a.tmps) = true := by simp [Region.wanted, hgd]
  rw [if_pos hw]
  obtain ⟨v', w', hr, h2, h3, _, h5⟩ := run_append_own_at (P := P) w base t o.type e i z size bytes ht hi hz hsize hby hzs hsz v n xs hown ad m c news hl hnews h1 h63 hbytes hbase
  unfold Oper.wp execOp
  simp only [ho, resolve, invoke, builtin, Sem.run_bind, Sem.run_pure, Result.andThen_ok, List.map_toArray, List.map_cons, List.map_nil, hs, hx, hr]
  exact h v' w' h2 h3 h5
/-- A store into a map at such a step. -/
theorem step_update {P : Program} (w : World) {ops : Array Oper} {o : Oper} {a : Act} {K : Act → World → Prop} {Q : Exit → Act → World → Prop} {E : Prop} (hgd : o.guard = none) (m x v : Operand) (t : TypeId)
    (hop : o.op = Op.mapUpdate t m x v) (mv kv vv : Value) (hm : a.eval m = mv) (hx : a.eval x = kv) (hv : a.eval v = vv) (w' : World) (hr : (Instr.mapUpdate t mv kv vv).run P w = .ok () w')
    (h : K (a.put o.dst undef) w') : if Region.wanted o (yielded ops a.tmps) = true then Oper.wp P o a w K Q else E := by
  have hw : Region.wanted o (yielded ops a.tmps) = true := by simp [Region.wanted, hgd]
  rw [if_pos hw]
  unfold Oper.wp
  simp [execOp, hop, hm, hx, hv, hr, Result.andThen]
  exact h

theorem iChainOf_no (a : Option Addr) (cap : Nat) (vs : List V) (w : World) (hn : vs.length ≤ 1099511627776) (h : Vers w a vs) (hc : chainB vs = false) :
    Calls Tryz.prog 240 #[.slice a vs.length cap] w fun e w' => e = .returned (.tuple #[.map none, .bool false]) ∧ Below w.heap.size w w' := by
  have hC := iChainOk_any a cap vs w hn h
  rw [hc] at hC
  go_enter Tryz.func240, Tryz.ntmps240
  go_wp2_with fail
  refine hC.mono ?_
  rintro e w1 ⟨rfl, hb1⟩
  clear hC
  go_wp2_with fail
  go_ret2
  exact ⟨rfl, hb1⟩

set_option maxHeartbeats 4000000 in
set_option maxRecDepth 100000 in
theorem iChainOf_yes (a : Option Addr) (cap : Nat) (vs : List V) (w : World) (hn : vs.length ≤ 1099511627776) (h : Vers w a vs) (hc : chainB vs = true) :
    Calls Tryz.prog 240 #[.slice a vs.length cap] w fun e w' => ∃ b f g, e = .returned (.tuple #[.map (some b), .bool true]) ∧ w.heap.size ≤ b ∧ Chm w' w.heap.size b vs.length f g ∧ (∀ j, (f j).map XV.v = grp vs j) ∧ (∀ j, ∀ x ∈ f j, GoodX w x) ∧ Below w.heap.size w w' := by
  have hC := iChainOk_any a cap vs w hn h
  obtain ⟨hl80, hP⟩ := chainB_iff.1 hc
  rw [hc] at hC
  obtain ⟨i0, hi, hz0, hz1, hz2⟩ := info_parts infoVer
  clear hc hn
  go_enter Tryz.func240, Tryz.ntmps240
  go_wp2_with fail
  refine hC.mono ?_
  rintro e w1 ⟨rfl, hb1⟩
  clear hC
  have hmm := @run_makeMap Tryz.prog
  have C0 := Chm.made w1 w.heap.size
  have B0 := hb1.alloc hb1.size (.map #[] 0)
  have hbb := hb1.size
  go_wp2_with fail
  clear hmm hb1
  generalize w1.heap.size = b at *
  go_loopw [13] (fun i wr => ∃ (k : Nat) (f : Int → List XV) (g : Int → Value), k ≤ vs.length ∧ i = .int .i64 k ∧ Chm wr w.heap.size b k f g ∧ Hid ((∀ j, (f j).map XV.v = grp (vs.take k) j) ∧ ∀ j, ∀ x ∈ f j, GoodX w x) ∧ Below w.heap.size w wr) (fun i _ => vs.length - (intOf i).toNat)
  case atStart => exact ⟨0, _, _, Nat.zero_le _, rfl, C0, ⟨fun j => rfl, fun j x hx => (by cases hx)⟩, B0⟩
  case round =>
    obtain ⟨k, f, g, hk, rfl, hM, HF, hB⟩ := hrel
    clear C0 B0
    by_cases hlt : k < vs.length
    · obtain ⟨bb, o, da, dc, rfl, hbx, hv0⟩ := h.at hlt
      have hv := hv0.below hB
      have HS : Hid (vs.take (k + 1) = vs.take k ++ [vs[k]]) := takeV vs k hlt
      obtain ⟨k0, k5⟩ := okV_key (hP.1 vs[k] (List.getElem_mem hlt))
      have hfl : (f vs[k].k).length ≤ 80 := by
        have := congrArg List.length (HF.out.1 vs[k].k)
        have h2 := grp_le (vs.take k) vs[k].k
        simp at this h2; omega
      obtain ⟨c0, c1, c2, c3, c4, c5, c6, hd, hdl⟩ := hv
      generalize vs[k] = v at *
      have hG : GoodX w ⟨v, .slice da v.ds.length dc⟩ := ⟨da, dc, rfl, hv0.ds, hdl⟩
      have hgb : ∀ j, (g v.k).ownBlock = some j → j < wr.heap.size := fun j hj => ((hM.row v.k).lt j hj).2
      have bW := (Below.refl wr.heap.size wr).alloc (Nat.le_refl _) (.cells #[.int .i64 v.k, .int .i64 v.t, .int .i64 v.s, .int .i64 v.val, .int .i64 v.cl, .int .i64 v.ca, .slice da v.ds.length dc] 107)
      have N0 := Blk.new wr #[.int .i64 v.k, .int .i64 v.t, .int .i64 v.s, .int .i64 v.val, .int .i64 v.cl, .int .i64 v.ca, .slice da v.ds.length dc] 107
      have M0 := hM.below bW
      have B1 := hB.alloc hB.size (.cells #[.int .i64 v.k, .int .i64 v.t, .int .i64 v.s, .int .i64 v.val, .int .i64 v.cl, .int .i64 v.ca, .slice da v.ds.length dc] 107)
      have lL := N0.lt
      have lw := hB.size
      go_wp2_with fail
      clear c0 c1 c2 c3 c4 c5 c6 hd hv0 hM bW hB
      generalize wr.alloc (.cells #[.int .i64 v.k, .int .i64 v.t, .int .i64 v.s, .int .i64 v.val, .int .i64 v.cl, .int .i64 v.ca, .slice da v.ds.length dc] 107) = W0 at *
      generalize wr.heap.size = LB at *
      have wf := wf_key k0 k5
      have M1 := M0.below ((Below.refl _ W0).alloc (Nat.le_refl _) (.cells #[.int .i64 v.k, .int .i64 v.t, .int .i64 v.s, .int .i64 v.val, .int .i64 v.cl, .int .i64 v.ca, .slice da v.ds.length dc] 107))
      have g1 := M0.look wf
      have g2 : (Instr.lookup 271 (.map (some b)) (.int .i64 v.k) false).run Tryz.prog W0.drew = .ok (g v.k) W0.drew := (M0.below (Below.refl _ W0).drew).look wf
      have g3 : (Instr.lookup 271 (.map (some b)) (.int .i64 v.k) false).run Tryz.prog (W0.drew.alloc (.cells #[.int .i64 v.k, .int .i64 v.t, .int .i64 v.s, .int .i64 v.val, .int .i64 v.cl, .int .i64 v.ca, .slice da v.ds.length dc] 107)) = .ok (g v.k) (W0.drew.alloc (.cells #[.int .i64 v.k, .int .i64 v.t, .int .i64 v.s, .int .i64 v.val, .int .i64 v.cl, .int .i64 v.ca, .slice da v.ds.length dc] 107)) := (M0.below ((Below.refl _ W0).drew.alloc (Nat.le_refl _) (.cells #[.int .i64 v.k, .int .i64 v.t, .int .i64 v.s, .int .i64 v.val, .int .i64 v.cl, .int .i64 v.ca, .slice da v.ds.length dc] 107))).look wf
      have g4 : (Instr.lookup 271 (.map (some b)) (.int .i64 v.k) false).run Tryz.prog (W0.alloc (.cells #[.int .i64 v.k, .int .i64 v.t, .int .i64 v.s, .int .i64 v.val, .int .i64 v.cl, .int .i64 v.ca, .slice da v.ds.length dc] 107)).drew = .ok (g v.k) (W0.alloc (.cells #[.int .i64 v.k, .int .i64 v.t, .int .i64 v.s, .int .i64 v.val, .int .i64 v.cl, .int .i64 v.ca, .slice da v.ds.length dc] 107)).drew := (M0.below ((Below.refl _ W0).alloc (Nat.le_refl _) (.cells #[.int .i64 v.k, .int .i64 v.t, .int .i64 v.s, .int .i64 v.val, .int .i64 v.cl, .int .i64 v.ca, .slice da v.ds.length dc] 107)).drew).look wf
      have g5 : (Instr.lookup 271 (.map (some b)) (.int .i64 v.k) false).run Tryz.prog (W0.alloc (.cells #[.int .i64 v.k, .int .i64 v.t, .int .i64 v.s, .int .i64 v.val, .int .i64 v.cl, .int .i64 v.ca, .slice da v.ds.length dc] 107)) = .ok (g v.k) (W0.alloc (.cells #[.int .i64 v.k, .int .i64 v.t, .int .i64 v.s, .int .i64 v.val, .int .i64 v.cl, .int .i64 v.ca, .slice da v.ds.length dc] 107)) := (M0.below ((Below.refl _ W0).alloc (Nat.le_refl _) (.cells #[.int .i64 v.k, .int .i64 v.t, .int .i64 v.s, .int .i64 v.val, .int .i64 v.cl, .int .i64 v.ca, .slice da v.ds.length dc] 107))).look wf
      have rA : (W0.drew.alloc (.cells #[.int .i64 v.k, .int .i64 v.t, .int .i64 v.s, .int .i64 v.val, .int .i64 v.cl, .int .i64 v.ca, .slice da v.ds.length dc] 107)).ownsRow w.heap.size 107 7 (g v.k) (f v.k).length (flat7 (f v.k)) := (M0.below ((Below.refl _ W0).drew.alloc (Nat.le_refl _) (.cells #[.int .i64 v.k, .int .i64 v.t, .int .i64 v.s, .int .i64 v.val, .int .i64 v.cl, .int .i64 v.ca, .slice da v.ds.length dc] 107))).row v.k
      have nA : ∀ (j : Nat) (u : Value), (flat7 [⟨v, .slice da v.ds.length dc⟩])[j]? = some u → (W0.drew.alloc (.cells #[.int .i64 v.k, .int .i64 v.t, .int .i64 v.s, .int .i64 v.val, .int .i64 v.cl, .int .i64 v.ca, .slice da v.ds.length dc] 107)).cell? ((Addr.mk W0.heap.size 0 none).add j) = some u := cells7 (x := ⟨v, .slice da v.ds.length dc⟩) (Blk.new W0.drew #[.int .i64 v.k, .int .i64 v.t, .int .i64 v.s, .int .i64 v.val, .int .i64 v.cl, .int .i64 v.ca, .slice da v.ds.length dc] 107)
      have oA : ∀ u ∈ flat7 [⟨v, .slice da v.ds.length dc⟩], u.oneCell' = true := flat7_one (fun z hz => by simp at hz; subst hz; rfl)
      have s0 : Hid (W0.cell? ⟨LB, 0, none⟩ = some (.int .i64 v.k) ∧ W0.cell? ⟨LB, 1, none⟩ = some (.int .i64 v.t) ∧ W0.cell? ⟨LB, 2, none⟩ = some (.int .i64 v.s) ∧ W0.cell? ⟨LB, 3, none⟩ = some (.int .i64 v.val) ∧ W0.cell? ⟨LB, 4, none⟩ = some (.int .i64 v.cl) ∧ W0.cell? ⟨LB, 5, none⟩ = some (.int .i64 v.ca) ∧ W0.cell? ⟨LB, 6, none⟩ = some (.slice da v.ds.length dc)) := by
        obtain ⟨q, _⟩ := N0.rules
        exact ⟨q 0, q 1, q 2, q 3, q 4, q 5, q 6⟩
      have N1 := N0.below ((Below.refl _ W0).drew.alloc (Nat.le_refl _) (.cells #[.int .i64 v.k, .int .i64 v.t, .int .i64 v.s, .int .i64 v.val, .int .i64 v.cl, .int .i64 v.ca, .slice da v.ds.length dc] 107)) lL
      have sA : Hid ((W0.alloc (.cells #[.int .i64 v.k, .int .i64 v.t, .int .i64 v.s, .int .i64 v.val, .int .i64 v.cl, .int .i64 v.ca, .slice da v.ds.length dc] 107)).cell? ⟨LB, 0, none⟩ = some (.int .i64 v.k) ∧ (W0.alloc (.cells #[.int .i64 v.k, .int .i64 v.t, .int .i64 v.s, .int .i64 v.val, .int .i64 v.cl, .int .i64 v.ca, .slice da v.ds.length dc] 107)).cell? ⟨LB, 1, none⟩ = some (.int .i64 v.t) ∧ (W0.alloc (.cells #[.int .i64 v.k, .int .i64 v.t, .int .i64 v.s, .int .i64 v.val, .int .i64 v.cl, .int .i64 v.ca, .slice da v.ds.length dc] 107)).cell? ⟨LB, 2, none⟩ = some (.int .i64 v.s) ∧ (W0.alloc (.cells #[.int .i64 v.k, .int .i64 v.t, .int .i64 v.s, .int .i64 v.val, .int .i64 v.cl, .int .i64 v.ca, .slice da v.ds.length dc] 107)).cell? ⟨LB, 3, none⟩ = some (.int .i64 v.val) ∧ (W0.alloc (.cells #[.int .i64 v.k, .int .i64 v.t, .int .i64 v.s, .int .i64 v.val, .int .i64 v.cl, .int .i64 v.ca, .slice da v.ds.length dc] 107)).cell? ⟨LB, 4, none⟩ = some (.int .i64 v.cl) ∧ (W0.alloc (.cells #[.int .i64 v.k, .int .i64 v.t, .int .i64 v.s, .int .i64 v.val, .int .i64 v.cl, .int .i64 v.ca, .slice da v.ds.length dc] 107)).cell? ⟨LB, 5, none⟩ = some (.int .i64 v.ca) ∧ (W0.alloc (.cells #[.int .i64 v.k, .int .i64 v.t, .int .i64 v.s, .int .i64 v.val, .int .i64 v.cl, .int .i64 v.ca, .slice da v.ds.length dc] 107)).cell? ⟨LB, 6, none⟩ = some (.slice da v.ds.length dc)) := by
        obtain ⟨q, _⟩ := N1.rules
        exact ⟨q 0, q 1, q 2, q 3, q 4, q 5, q 6⟩
      have sB : w.heap.size ≤ (W0.drew.alloc (.cells #[.int .i64 v.k, .int .i64 v.t, .int .i64 v.s, .int .i64 v.val, .int .i64 v.cl, .int .i64 v.ca, .slice da v.ds.length dc] 107)).heap.size := Nat.le_trans B1.size (by simp)
      have h63 : (f v.k).length + 1 ≤ maxLen := by unfold maxLen; omega
      have hby : ((f v.k).length + 1) * 72 ≤ 140737488355328 := by omega
      go_region_held3 (fun W => W.cell? ⟨LB, 0, none⟩ = some (.int .i64 v.k) ∧ W.cell? ⟨LB, 1, none⟩ = some (.int .i64 v.t) ∧ W.cell? ⟨LB, 2, none⟩ = some (.int .i64 v.s) ∧ W.cell? ⟨LB, 3, none⟩ = some (.int .i64 v.val) ∧ W.cell? ⟨LB, 4, none⟩ = some (.int .i64 v.cl) ∧ W.cell? ⟨LB, 5, none⟩ = some (.int .i64 v.ca) ∧ W.cell? ⟨LB, 6, none⟩ = some (.slice da v.ds.length dc)) (first | (rw [s3.out.1, s3.out.2.1, s3.out.2.2.1, s3.out.2.2.2.1, s3.out.2.2.2.2.1, s3.out.2.2.2.2.2.1, s3.out.2.2.2.2.2.2]; exact ⟨rfl, rfl, rfl, rfl, rfl, rfl, rfl⟩) | (rw [s2.out.1, s2.out.2.1, s2.out.2.2.1, s2.out.2.2.2.1, s2.out.2.2.2.2.1, s2.out.2.2.2.2.2.1, s2.out.2.2.2.2.2.2]; exact ⟨rfl, rfl, rfl, rfl, rfl, rfl, rfl⟩) | exact sA.out | exact s0.out)
        (first
          | (refine step_append_at _ (by rfl) _ _ 29 (by rfl) w.heap.size 107 i0 (.agg #[.int .i64 0, .int .i64 0, .int .i64 0, .int .i64 0, .int .i64 0, .int .i64 0, .slice none 0 0]) 7 72 Tryz.underlying29 hi hz0 hz1 hz2 rfl (by decide) (g v.k) (f v.k).length (flat7 (f v.k)) (by rfl) rA ⟨W0.heap.size, 0, none⟩ 1 1 (flat7 [⟨v, .slice da v.ds.length dc⟩]) (by rfl) rfl nA oA h63 hby sB ?_
             intro v1 W2 own1 grow1 loc1
             have gAll : W0.grownBy W2 (g v.k).ownBlock := (World.grownBy.mk (w := W0) (w' := W0.drew.alloc (.cells #[.int .i64 v.k, .int .i64 v.t, .int .i64 v.s, .int .i64 v.val, .int .i64 v.cl, .int .i64 v.ca, .slice da v.ds.length dc] 107)) rfl rfl rfl (by simp) (fun j hj _ => Below.heap_alloc W0.drew _ j hj)).trans grow1
             have N2 := N0.grown gAll (fun e => by have := hgb LB e.symm; omega)
             have s2 : Hid (W2.cell? ⟨LB, 0, none⟩ = some (.int .i64 v.k) ∧ W2.cell? ⟨LB, 1, none⟩ = some (.int .i64 v.t) ∧ W2.cell? ⟨LB, 2, none⟩ = some (.int .i64 v.s) ∧ W2.cell? ⟨LB, 3, none⟩ = some (.int .i64 v.val) ∧ W2.cell? ⟨LB, 4, none⟩ = some (.int .i64 v.cl) ∧ W2.cell? ⟨LB, 5, none⟩ = some (.int .i64 v.ca) ∧ W2.cell? ⟨LB, 6, none⟩ = some (.slice da v.ds.length dc)) := by
               obtain ⟨q, _⟩ := N2.rules
               exact ⟨q 0, q 1, q 2, q 3, q 4, q 5, q 6⟩
             have hrow2 : W2.ownsRow w.heap.size 107 7 v1 (f v.k ++ [XV.mk v (.slice da v.ds.length dc)]).length (flat7 (f v.k ++ [XV.mk v (.slice da v.ds.length dc)])) := by rw [flat7_append, List.length_append]; exact own1
             obtain ⟨W3, hup, M3, grow3⟩ := M0.store wf (by omega) (by simp) gAll hrow2 (loc1.imp id fun e => ⟨_, e, by simp⟩)
             have N3 := N2.grown grow3 (fun e => by simp at e; subst e; obtain ⟨D, hD, _⟩ := M0.own; obtain ⟨es, cl, hb, _⟩ := hD; have := N0; unfold Blk at this; rw [hb] at this; cases this)
             have s3 : Hid (W3.cell? ⟨LB, 0, none⟩ = some (.int .i64 v.k) ∧ W3.cell? ⟨LB, 1, none⟩ = some (.int .i64 v.t) ∧ W3.cell? ⟨LB, 2, none⟩ = some (.int .i64 v.s) ∧ W3.cell? ⟨LB, 3, none⟩ = some (.int .i64 v.val) ∧ W3.cell? ⟨LB, 4, none⟩ = some (.int .i64 v.cl) ∧ W3.cell? ⟨LB, 5, none⟩ = some (.int .i64 v.ca) ∧ W3.cell? ⟨LB, 6, none⟩ = some (.slice da v.ds.length dc)) := by
               obtain ⟨q, _⟩ := N3.rules
               exact ⟨q 0, q 1, q 2, q 3, q 4, q 5, q 6⟩
             have B3 : Below w.heap.size w W3 := (B1.grown gAll B1.size (fun j hj => ((M0.row v.k).lt j hj).1)).grown grow3 (Nat.le_trans B1.size gAll.size) (fun j hj => by simp at hj; omega)
             clear own1 grow1 loc1 gAll N2 N3 hrow2 grow3 g1 g2 g3 g4 g5 rA nA oA N1 N0 M1 sB)
          | (refine step_update _ (by rfl) _ _ _ 271 (by rfl) (.map (some b)) (.int .i64 v.k) v1 (by rfl) (by rfl) (by rfl) W3 hup ?_))
      all_goals
        clear s0 sA s2 s3
        go_wp2_with fail
        go_roundw
        case rel =>
          refine ⟨k + 1, _, _, by omega, by go_num, M3, ⟨fun j => ?_, fun j x hx => ?_⟩, B3⟩
          · rw [HS.out, grp_snoc]
            by_cases e : j = v.k
            · subst e; rw [upd_same, if_pos rfl, List.map_append, HF.out.1]; rfl
            · rw [upd_other _ _ e, if_neg e, HF.out.1]
          · by_cases e : j = v.k
            · subst e
              rw [upd_same] at hx
              rcases List.mem_append.1 hx with hx | hx
              · exact HF.out.2 _ x hx
              · simp at hx; subst hx; exact hG
            · rw [upd_other _ _ e] at hx; exact HF.out.2 j x hx
        case measure => simp [intOf]; omega
    · have hk2 : k = vs.length := by omega
      subst hk2
      rw [List.take_length] at HF
      go_wp2_with fail
      go_ret2
      exact ⟨b, f, g, rfl, hbb, hM, HF.out.1, HF.out.2, hB⟩
end Go.Proofs.YtpjidogilofppaaGreat

