/- The specification's parcel of a slot. -/
import Derived.Test.YtpjidogilofppaaGreatMvJ
import Derived.Test.YtpjidogilofppaaGreatMvR
import Derived.Test.YtpjidogilofppaaGreatSSlotC
import Derived.Deep.CutBlock
import Derived.Deep.DeepCutAuto
namespace Go.Proofs.YtpjidogilofppaaGreat
open Go.ChangeShapes Go.WideShapes Go.ChangeAt Go.RowKit

theorem step_append1 {P : Program} (w : World) {ops : Array Oper} {o : Oper} {a : Act} {K : Act → World → Prop} {Q : Exit → Act → World → Prop} {E : Prop} (hgd : o.guard = none) (s x : Operand) (t : TypeId)
    (ho : o.op = .call { callee := .builtin .append, args := #[s, x], argTypes := #[t, t] })
    (base : Nat) (e : TypeId) (i : TypeInfo) (z : Value) (size bytes : Nat) (ht : P.underlying t = some (.slice e)) (hi : P.info? e = some i) (hz : i.zero = some z)
    (hsize : i.size = size) (hby : i.bytes = bytes) (hzs : z.cells.size = size) (hsz : 0 < size)
    (v : Value) (n : Nat) (xs : List Value) (hs : a.eval s = v) (hown : w.ownsRow base e size v n xs)
    (ad : Addr) (m c : Nat) (news : List Value) (hx : a.eval x = .slice (some ad) m c) (hl : news.length = m * size) (hnews : ∀ j u, news[j]? = some u → w.cell? (ad.add j) = some u) (h1 : ∀ u ∈ news, u.oneCell' = true)
    (h63 : n + m ≤ maxLen) (hbytes : (n + m) * bytes ≤ 140737488355328) (hbase : base ≤ w.heap.size)
    (h : ∀ v' w', w'.ownsRow base e size v' (n + m) (xs ++ news) → w.grownBy w' v.ownBlock → K (a.put o.dst v') w') :
    if Region.wanted o (yielded ops a.tmps) = true then Oper.wp P o a w K Q else E := by
  have hw : Region.wanted o (yielded ops a.tmps) = true := by simp [Region.wanted, hgd]
  rw [if_pos hw]
  exact wp_append_own w s x t ho base e i z size bytes ht hi hz hsize hby hzs hsz v n xs hs hown ad m c news hx hl hnews h1 h63 hbytes hbase fun v' w' h2 h3 _ => h v' w' h2 h3

/-- A word's rows, of the call's own. -/
structure OwnH (M : World) (base : Nat) (x : Wd) (a : Wa) (ys zs : List XV) : Prop where
  d : RowD M base (.slice a.da x.ds.length a.dc) x.ds
  v : OwnV M base (.slice a.va x.vs.length a.vc) ys
  w : OwnV M base (.slice a.wa x.ws.length a.wc) zs
  o : RowD M base (.slice a.oa x.os.length a.oc) x.os
  hy : ys.map XV.v = x.vs
  hz : zs.map XV.v = x.ws
theorem OwnH.inL {w : World} {base : Nat} {x : Wd} {a : Wa} {ys zs : List XV} (h : OwnH w base x a ys zs) : InL w x a := ⟨row_deps' h.d, h.v.asV h.hy, h.w.asV h.hz, row_deps' h.o⟩
theorem OwnH.below {w w' : World} {base : Nat} {x : Wd} {a : Wa} {ys zs : List XV} (h : OwnH w base x a ys zs) {m : Nat} (k : Below m w w') (hm : w.heap.size ≤ m) : OwnH w' base x a ys zs := ⟨row_below h.d k hm, h.v.below k hm, h.w.below k hm, row_below h.o k hm, h.hy, h.hz⟩
theorem Only.ownH {w w' : World} {S : Nat → Prop} (o : Only w w' S) {base : Nat} {x : Wd} {a : Wa} {ys zs : List XV} (h : OwnH w base x a ys zs) (hS : ∀ j, base ≤ j → ¬ S j) : OwnH w' base x a ys zs :=
  ⟨o.row h.d (fun j hj => hS j (h.d.lt j hj).1), o.ownV h.v (fun j hj => hS j (h.v.lt hj).1), o.ownV h.w (fun j hj => hS j (h.w.lt hj).1), o.row h.o (fun j hj => hS j (h.o.lt j hj).1), h.hy, h.hz⟩
theorem own_half {M : World} {base : Nat} {pv pw oq : Option Addr} {pvc pwc oqc : Nat} {ys zs : List XV} {ds os : List D} {vs ws : List V} {site n e : Int} (v : OwnV M base (.slice pv ys.length pvc) ys) (w : OwnV M base (.slice pw zs.length pwc) zs) (o : RowD M base (.slice oq ds.length oqc) ds) (hy : ys.map XV.v = slotL vs n) (hz : zs.map XV.v = slotL ws n) (hd : ds = owesL os n) : OwnH M base (parcelX site n e vs ws os) ⟨none, 0, pv, pvc, pw, pwc, oq, oqc⟩ ys zs := by
  subst hd
  have e1 : ys.length = (slotL vs n).length := by rw [← hy]; simp
  have e2 : zs.length = (slotL ws n).length := by rw [← hz]; simp
  rw [e1] at v
  rw [e2] at w
  exact ⟨World.ownsRow_nil _ _ _ _, v, w, o, hy, hz⟩
theorem stwin_any (n : Int) (h0 : 0 ≤ n) (h3 : n ≤ 3) (w : World) : Calls Tryz.prog 71 #[.int .i64 n] w fun e w' => e = .returned (.int .i64 (twinX n)) ∧ w' = w := by
  have : n = 0 ∨ n = 1 ∨ n = 2 ∨ n = 3 := by omega
  rcases this with rfl | rfl | rfl | rfl
  all_goals
    go_enter Tryz.func71, Tryz.ntmps71
    go_wp2
    go_ret
    exact ⟨by rfl, rfl⟩

set_option maxHeartbeats 8000000 in
set_option maxRecDepth 20000 in
theorem sBulk0_any (x : Sv) (a : Sa) (t1 t2 t3 : Sl) (w : World) (hl : LenS x) (h : InS w x a) (he : x.sl = [t1, t2, t3]) (s0 : 0 ≤ x.site) (s3 : x.site ≤ 3) :
    Calls Tryz.prog 61 #[servV x a, .int .i64 0] w fun e w' => ∃ c ys zs, e = .returned (wordV (parcelX x.site 0 t1.ep x.vs x.ws x.os) c) ∧ OwnH w' w.heap.size (parcelX x.site 0 t1.ep x.vs x.ws x.os) c ys zs ∧ Below w.heap.size w w' := by
  have lsl : x.sl.length = 3 := by rw [he]; rfl
  obtain ⟨sb, so, hla, hsb, c0, c9⟩ := h.l.at (k := 0) (by omega)
  have c0' : w.cell? ⟨sb, so, none⟩ = some (.int .i64 t1.ep) := by
    have e1 : x.sl[0]'(by omega) = t1 := by simp [he]
    rw [e1] at c0
    simpa using c0
  obtain ⟨la, lc, va, vc, wa, wc, oa, oc, ka, kc⟩ := a
  simp only at hla
  subst hla
  show Calls Tryz.prog 61 #[.agg #[.int .i64 x.site, .bool x.up, .slice (some ⟨sb, so, none⟩) x.sl.length lc, .slice va x.vs.length vc, .slice wa x.ws.length wc, .slice oa x.os.length oc, .slice ka x.kn.length kc], .int .i64 0] w _
  rw [lsl]
  have b0 : Below w.heap.size w ((w.alloc (.cells #[.int .i64 x.site, .bool x.up, .slice (some ⟨sb, so, none⟩) 3 lc, .slice va x.vs.length vc, .slice wa x.ws.length wc, .slice oa x.os.length oc, .slice ka x.kn.length kc] 32)).alloc (.cells #[.int .i64 0, .int .i64 0, .int .i64 0, .int .i64 0, .int .i64 0, .int .i64 0, .int .i64 0, .int .i64 0, .bool false, .slice none 0 0, .int .i64 0, .int .i64 0, .slice none 0 0, .slice none 0 0, .slice none 0 0] 41)) := ((Below.refl _ _).alloc (Nat.le_refl _) _).alloc (by simp) _
  have A0 : Blk ((w.alloc (.cells #[.int .i64 x.site, .bool x.up, .slice (some ⟨sb, so, none⟩) 3 lc, .slice va x.vs.length vc, .slice wa x.ws.length wc, .slice oa x.os.length oc, .slice ka x.kn.length kc] 32)).alloc (.cells #[.int .i64 0, .int .i64 0, .int .i64 0, .int .i64 0, .int .i64 0, .int .i64 0, .int .i64 0, .int .i64 0, .bool false, .slice none 0 0, .int .i64 0, .int .i64 0, .slice none 0 0, .slice none 0 0, .slice none 0 0] 41)) w.heap.size #[.int .i64 x.site, .bool x.up, .slice (some ⟨sb, so, none⟩) 3 lc, .slice va x.vs.length vc, .slice wa x.ws.length wc, .slice oa x.os.length oc, .slice ka x.kn.length kc] 32 := (Blk.new w _ _).alloc _
  have Z0 : Blk ((w.alloc (.cells #[.int .i64 x.site, .bool x.up, .slice (some ⟨sb, so, none⟩) 3 lc, .slice va x.vs.length vc, .slice wa x.ws.length wc, .slice oa x.os.length oc, .slice ka x.kn.length kc] 32)).alloc (.cells #[.int .i64 0, .int .i64 0, .int .i64 0, .int .i64 0, .int .i64 0, .int .i64 0, .int .i64 0, .int .i64 0, .bool false, .slice none 0 0, .int .i64 0, .int .i64 0, .slice none 0 0, .slice none 0 0, .slice none 0 0] 41)) (w.heap.size + 1) #[.int .i64 0, .int .i64 0, .int .i64 0, .int .i64 0, .int .i64 0, .int .i64 0, .int .i64 0, .int .i64 0, .bool false, .slice none 0 0, .int .i64 0, .int .i64 0, .slice none 0 0, .slice none 0 0, .slice none 0 0] 41 := by have := Blk.new (w.alloc (.cells #[.int .i64 x.site, .bool x.up, .slice (some ⟨sb, so, none⟩) 3 lc, .slice va x.vs.length vc, .slice wa x.ws.length wc, .slice oa x.os.length oc, .slice ka x.kn.length kc] 32)) #[.int .i64 0, .int .i64 0, .int .i64 0, .int .i64 0, .int .i64 0, .int .i64 0, .int .i64 0, .int .i64 0, .bool false, .slice none 0 0, .int .i64 0, .int .i64 0, .slice none 0 0, .slice none 0 0, .slice none 0 0] 41; simpa using this
  have L0 := h.below b0
  have d0 := (b0.cell (p := ⟨sb, so, none⟩) hsb).trans c0'
  have i1 : (0 : Int) < (x.sl.length : Int) := by omega
  have hT := fun W => stwin_any x.site s0 s3 W
  have zsb : sb < ((w.alloc (.cells #[.int .i64 x.site, .bool x.up, .slice (some ⟨sb, so, none⟩) 3 lc, .slice va x.vs.length vc, .slice wa x.ws.length wc, .slice oa x.os.length oc, .slice ka x.kn.length kc] 32)).alloc (.cells #[.int .i64 0, .int .i64 0, .int .i64 0, .int .i64 0, .int .i64 0, .int .i64 0, .int .i64 0, .int .i64 0, .bool false, .slice none 0 0, .int .i64 0, .int .i64 0, .slice none 0 0, .slice none 0 0, .slice none 0 0] 41)).heap.size := Nat.lt_of_lt_of_le hsb b0.size
  have HLS : Hid (x.sl.length = 3) := lsl
  clear c9 he c0 c0'
  clear lsl
  go_enter Tryz.func61, Tryz.ntmps61
  go_upto_region 1 with fail
  generalize ((w.alloc (.cells #[.int .i64 x.site, .bool x.up, .slice (some ⟨sb, so, none⟩) 3 lc, .slice va x.vs.length vc, .slice wa x.ws.length wc, .slice oa x.os.length oc, .slice ka x.kn.length kc] 32)).alloc (.cells #[.int .i64 0, .int .i64 0, .int .i64 0, .int .i64 0, .int .i64 0, .int .i64 0, .int .i64 0, .int .i64 0, .bool false, .slice none 0 0, .int .i64 0, .int .i64 0, .slice none 0 0, .slice none 0 0, .slice none 0 0] 41)) = u0 at *
  have f1 : ∀ (o : Obj), Below u0.heap.size u0 (u0.alloc o).drew := fun o => ((Below.refl _ _).alloc (Nat.le_refl _) _).drew
  have k1 : (∀ j, u0.drew.cell? ⟨w.heap.size, j, none⟩ = #[.int .i64 x.site, .bool x.up, .slice (some ⟨sb, so, none⟩) 3 lc, .slice va x.vs.length vc, .slice wa x.ws.length wc, .slice oa x.os.length oc, .slice ka x.kn.length kc][j]?) ∧ u0.drew.cell? ⟨sb, so, none⟩ = some (.int .i64 t1.ep) := ⟨(A0.below (Below.refl _ _).drew A0.lt).cell, d0⟩
  have k2 : (∀ j, (u0.alloc (.cells #[.int .i64 0, .int .i64 0, .int .i64 0, .int .i64 0, .int .i64 0, .int .i64 0, .int .i64 0, .int .i64 0, .bool false, .slice none 0 0, .int .i64 0, .int .i64 0, .slice none 0 0, .slice none 0 0, .slice none 0 0] 41)).drew.cell? ⟨w.heap.size, j, none⟩ = #[.int .i64 x.site, .bool x.up, .slice (some ⟨sb, so, none⟩) 3 lc, .slice va x.vs.length vc, .slice wa x.ws.length wc, .slice oa x.os.length oc, .slice ka x.kn.length kc][j]?) ∧ (u0.alloc (.cells #[.int .i64 0, .int .i64 0, .int .i64 0, .int .i64 0, .int .i64 0, .int .i64 0, .int .i64 0, .int .i64 0, .bool false, .slice none 0 0, .int .i64 0, .int .i64 0, .slice none 0 0, .slice none 0 0, .slice none 0 0] 41)).drew.cell? ⟨sb, so, none⟩ = some (.int .i64 t1.ep) := ⟨(A0.below (f1 _) A0.lt).cell, ((f1 _).cell (p := ⟨sb, so, none⟩) zsb).trans d0⟩
  have k3 : (∀ j, (u0.alloc (.cells #[.int .i64 9, .int .i64 x.site, .int .i64 (twinX x.site), .int .i64 0, .int .i64 0, .int .i64 0, .int .i64 0, .int .i64 0, .bool false, .slice none 0 0, .int .i64 0, .int .i64 t1.ep, .slice none 0 0, .slice none 0 0, .slice none 0 0] 41)).drew.cell? ⟨w.heap.size, j, none⟩ = #[.int .i64 x.site, .bool x.up, .slice (some ⟨sb, so, none⟩) 3 lc, .slice va x.vs.length vc, .slice wa x.ws.length wc, .slice oa x.os.length oc, .slice ka x.kn.length kc][j]?) ∧ (u0.alloc (.cells #[.int .i64 9, .int .i64 x.site, .int .i64 (twinX x.site), .int .i64 0, .int .i64 0, .int .i64 0, .int .i64 0, .int .i64 0, .bool false, .slice none 0 0, .int .i64 0, .int .i64 t1.ep, .slice none 0 0, .slice none 0 0, .slice none 0 0] 41)).drew.cell? ⟨sb, so, none⟩ = some (.int .i64 t1.ep) := ⟨(A0.below (f1 _) A0.lt).cell, ((f1 _).cell (p := ⟨sb, so, none⟩) zsb).trans d0⟩
  go_cut [5] (fun s5 wx => s5 = .pointer (some ⟨u0.heap.size, 0, none⟩) ∧ wx = (u0.alloc (.cells #[.int .i64 9, .int .i64 x.site, .int .i64 (twinX x.site), .int .i64 0, .int .i64 0, .int .i64 0, .int .i64 0, .int .i64 0, .bool false, .slice none 0 0, .int .i64 0, .int .i64 t1.ep, .slice none 0 0, .slice none 0 0, .slice none 0 0] 41)).drew)
  case first =>
    go_region_held3 (fun W => (∀ j, W.cell? ⟨w.heap.size, j, none⟩ = #[.int .i64 x.site, .bool x.up, .slice (some ⟨sb, so, none⟩) 3 lc, .slice va x.vs.length vc, .slice wa x.ws.length wc, .slice oa x.os.length oc, .slice ka x.kn.length kc][j]?) ∧ W.cell? ⟨sb, so, none⟩ = some (.int .i64 t1.ep)) (with_reducible (first | exact k1 | exact k2 | exact k3)) (first | (go_at_call 71; refine (hT _).mono ?_; rintro e w3 ⟨rfl, rfl⟩))
    all_goals
      go_wp2_with fail
      go_meet
      case rel => exact ⟨rfl, rfl⟩
  case rest =>
    obtain ⟨rfl, rfl⟩ := hcut
    have b1 : Below u0.heap.size u0 (u0.alloc (.cells #[.int .i64 9, .int .i64 x.site, .int .i64 (twinX x.site), .int .i64 0, .int .i64 0, .int .i64 0, .int .i64 0, .int .i64 0, .bool false, .slice none 0 0, .int .i64 0, .int .i64 t1.ep, .slice none 0 0, .slice none 0 0, .slice none 0 0] 41)).drew := f1 _
    have D1 : Blk (u0.alloc (.cells #[.int .i64 9, .int .i64 x.site, .int .i64 (twinX x.site), .int .i64 0, .int .i64 0, .int .i64 0, .int .i64 0, .int .i64 0, .bool false, .slice none 0 0, .int .i64 0, .int .i64 t1.ep, .slice none 0 0, .slice none 0 0, .slice none 0 0] 41)).drew u0.heap.size #[.int .i64 9, .int .i64 x.site, .int .i64 (twinX x.site), .int .i64 0, .int .i64 0, .int .i64 0, .int .i64 0, .int .i64 0, .bool false, .slice none 0 0, .int .i64 0, .int .i64 t1.ep, .slice none 0 0, .slice none 0 0, .slice none 0 0] 41 := by
      have h1 := Blk.new u0 #[.int .i64 9, .int .i64 x.site, .int .i64 (twinX x.site), .int .i64 0, .int .i64 0, .int .i64 0, .int .i64 0, .int .i64 0, .bool false, .slice none 0 0, .int .i64 0, .int .i64 t1.ep, .slice none 0 0, .slice none 0 0, .slice none 0 0] 41
      exact h1.below (Below.refl _ _).drew h1.lt
    have A1 := A0.below b1 A0.lt
    have Z1 := Z0.below b1 Z0.lt
    have B1 : Below w.heap.size w (u0.alloc (.cells #[.int .i64 9, .int .i64 x.site, .int .i64 (twinX x.site), .int .i64 0, .int .i64 0, .int .i64 0, .int .i64 0, .int .i64 0, .bool false, .slice none 0 0, .int .i64 0, .int .i64 t1.ep, .slice none 0 0, .slice none 0 0, .slice none 0 0] 41)).drew := b0.trans (b1.mono b0.size)
    have n0 := b0.size
    have z0 := Z0.lt
    have zD := D1.lt
    clear k1 k2 k3 hT f1 b1 A0 Z0 L0 b0 d0
    generalize (u0.alloc (.cells #[.int .i64 9, .int .i64 x.site, .int .i64 (twinX x.site), .int .i64 0, .int .i64 0, .int .i64 0, .int .i64 0, .int .i64 0, .bool false, .slice none 0 0, .int .i64 0, .int .i64 t1.ep, .slice none 0 0, .slice none 0 0, .slice none 0 0] 41)).drew = w1 at *
    generalize u0.heap.size = dB at *
    obtain ⟨q1, g1⟩ := A1.rules
    go_wp2_with fail
    clear q1 g1
    refine (sSlotC_any va vc x.vs 0 _ hl.v (h.below B1).v).mono ?_
    rintro e w2 ⟨u, ys, u', ys', rfl, T2, hy, _, hb2⟩
    obtain ⟨pv, pvc, rfl, _⟩ := row_slice T2.a.row
    obtain ⟨pv', pvc', rfl, _⟩ := row_slice T2.b.row
    have D2 := D1.below hb2 D1.lt
    have D3 : Blk (w2.setCell ⟨dB, 12, none⟩ (.slice pv ys.length pvc)) dB #[.int .i64 9, .int .i64 x.site, .int .i64 (twinX x.site), .int .i64 0, .int .i64 0, .int .i64 0, .int .i64 0, .int .i64 0, .bool false, .slice none 0 0, .int .i64 0, .int .i64 t1.ep, .slice pv ys.length pvc, .slice none 0 0, .slice none 0 0] 41 := by have h1 := D2.set 12 (.slice pv ys.length pvc); simpa using h1
    have A3 := (A1.below hb2 A1.lt).other (a := ⟨dB, 12, none⟩) (by simp; omega) (.slice pv ys.length pvc)
    have Z3 := (Z1.below hb2 Z1.lt).other (a := ⟨dB, 12, none⟩) (by simp; omega) (.slice pv ys.length pvc)
    have V3 := T2.a.setB (Z := dB) (j := 12) (u := .slice pv ys.length pvc) zD
    have B3 := (B1.trans (hb2.mono B1.size)).setCell (p := ⟨dB, 12, none⟩) (by simp; omega) (.slice pv ys.length pvc)
    have s1 := B1.size
    have n2 := hb2.size
    have n3 : (w2.setCell ⟨dB, 12, none⟩ (.slice pv ys.length pvc)).heap.size = w2.heap.size := by simp
    have HY : Hid (ys.map XV.v = slotL x.vs 0) := hy
    obtain ⟨q1, g1⟩ := A3.rules
    obtain ⟨q2, g2⟩ := D2.rules
    clear hy T2 hb2 A1 Z1 D1
    go_wp2_with fail
    clear q1 g1 q2 g2 D2
    generalize (w2.setCell ⟨dB, 12, none⟩ (.slice pv ys.length pvc)) = w3 at *
    refine (sSlotC_any wa wc x.ws 0 _ hl.w (h.below B3).w).mono ?_
    rintro e w4 ⟨u, zs, u', zs', rfl, T4, hz, _, hb4⟩
    obtain ⟨pw, pwc, rfl, _⟩ := row_slice T4.a.row
    obtain ⟨pw', pwc', rfl, _⟩ := row_slice T4.b.row
    have D4 := D3.below hb4 D3.lt
    have D5 : Blk (w4.setCell ⟨dB, 13, none⟩ (.slice pw zs.length pwc)) dB #[.int .i64 9, .int .i64 x.site, .int .i64 (twinX x.site), .int .i64 0, .int .i64 0, .int .i64 0, .int .i64 0, .int .i64 0, .bool false, .slice none 0 0, .int .i64 0, .int .i64 t1.ep, .slice pv ys.length pvc, .slice pw zs.length pwc, .slice none 0 0] 41 := by have h1 := D4.set 13 (.slice pw zs.length pwc); simpa using h1
    have A5 := (A3.below hb4 A3.lt).other (a := ⟨dB, 13, none⟩) (by simp; omega) (.slice pw zs.length pwc)
    have Z5 := (Z3.below hb4 Z3.lt).other (a := ⟨dB, 13, none⟩) (by simp; omega) (.slice pw zs.length pwc)
    have V5 := (V3.below hb4 (Nat.le_refl _)).setB (Z := dB) (j := 13) (u := .slice pw zs.length pwc) zD
    have W5 := T4.a.setB (Z := dB) (j := 13) (u := .slice pw zs.length pwc) (by omega)
    have B5 := (B3.trans (hb4.mono B3.size)).setCell (p := ⟨dB, 13, none⟩) (by simp; omega) (.slice pw zs.length pwc)
    have n4 := hb4.size
    have n5 : (w4.setCell ⟨dB, 13, none⟩ (.slice pw zs.length pwc)).heap.size = w4.heap.size := by simp
    have HZ : Hid (zs.map XV.v = slotL x.ws 0) := hz
    obtain ⟨q1, g1⟩ := A5.rules
    obtain ⟨q2, g2⟩ := D4.rules
    clear hz T4 hb4 A3 Z3 D3 V3 B3
    go_wp2_with fail
    clear q1 g1 q2 g2 D4
    generalize (w4.setCell ⟨dB, 13, none⟩ (.slice pw zs.length pwc)) = w5 at *
    obtain ⟨i0, hi, hz0, hz1, hz2⟩ := info_parts infoDep
    have hS := fun d W => sslot_is (n := D.k d) (r := slotOf d.k) rfl W
    have rV : Hid (∀ j, inV (.slice pv ys.length pvc) ys j → dB < j ∧ j < w5.heap.size) := by show ∀ j, _; intro j hj; have := V5.lt hj; omega
    have rW : Hid (∀ j, inV (.slice pw zs.length pwc) zs j → dB < j ∧ j < w5.heap.size) := by show ∀ j, _; intro j hj; have := W5.lt hj; omega
    have zA := A5.lt
    have zZ := Z5.lt
    have s5 := B5.size
    have lo := hl.o
    go_loopw [6] (fun i wr => ∃ (k : Nat) (oq : Option Addr) (oqc : Nat) (ds : List D), k ≤ x.os.length ∧ i = .int .i64 k ∧ Hid (ds = owesL (x.os.take k) 0) ∧ RowD wr w5.heap.size (.slice oq ds.length oqc) ds ∧ ds.length ≤ k ∧ Blk wr dB #[.int .i64 9, .int .i64 x.site, .int .i64 (twinX x.site), .int .i64 0, .int .i64 0, .int .i64 0, .int .i64 0, .int .i64 0, .bool false, .slice none 0 0, .int .i64 0, .int .i64 t1.ep, .slice pv ys.length pvc, .slice pw zs.length pwc, .slice oq ds.length oqc] 41 ∧ Only w5 wr (fun b => w5.heap.size ≤ b ∨ b = dB)) (fun i _ => x.os.length - (intOf i).toNat)
    case atStart => exact ⟨0, none, 0, [], Nat.zero_le _, rfl, rfl, World.ownsRow_nil _ _ _ _, Nat.zero_le _, D5, Only.refl _ _⟩
    case round =>
      obtain ⟨k, oq, oqc, ds, hk, rfl, HD, hO, hdl, hD, on⟩ := hrel
      clear D5
      have Br : Below w.heap.size w wr := B5.trans (on.below s5 (fun j hj => by rcases hj with hj | hj <;> omega))
      have Ar := on.blk A5 (fun hS => by rcases hS with hS | hS <;> omega)
      have sr := on.size
      by_cases hlt : k < x.os.length
      · obtain ⟨b, o, e0, hb0, e1, e2, e3⟩ := h.o.at hlt
        simp only at e0
        subst e0
        have c0 := (Br.cell (p := ⟨b, o + k * 3, none⟩) hb0).trans e1
        have c1 := (Br.cell (p := ⟨b, o + k * 3 + 1, none⟩) hb0).trans e2
        have c2 := (Br.cell (p := ⟨b, o + k * 3 + 2, none⟩) hb0).trans e3
        have HS : Hid (owesL (x.os.take (k + 1)) 0 = owesL (x.os.take k) 0 ++ if (slotOf x.os[k].k == 0) = true then [x.os[k]] else []) := take_owes x.os 0 k hlt
        generalize x.os[k] = d at *
        obtain ⟨q1, g1⟩ := Ar.rules
        have i1 : (0 : Int) ≤ (k : Int) := by omega
        have i2 : (k : Int) < (x.os.length : Int) := by omega
        rcases hp : (slotOf d.k == 0) with _ | _
        · have HZ2 : Hid (ds = owesL (x.os.take (k + 1)) 0) := by show _ = _; rw [HS.out, hp]; simpa using HD.out
          go_wp2_with (first | (go_at_call 80; refine (hS d _).mono ?_; rintro e wr ⟨rfl, rfl⟩))
          go_roundw
          case rel => exact ⟨k + 1, oq, oqc, ds, by omega, by go_num, HZ2.out, hO, by omega, hD, on⟩
          case measure => simp [intOf]; omega
        · have HZ2 : Hid (ds ++ [d] = owesL (x.os.take (k + 1)) 0) := by show _ = _; rw [HS.out, hp, HD.out]; rfl
          obtain ⟨q2, g2⟩ := hD.rules
          have oA : ∀ u ∈ [Value.int .i64 d.k, Value.int .i64 d.t, Value.int .i64 d.s], u.oneCell' = true := by simp [Value.oneCell']
          have mA : ds.length + 1 ≤ maxLen := by unfold maxLen; omega
          have zB2 : (ds.length + 1) * 24 ≤ 140737488355328 := by omega
          have zd5 : dB < w5.heap.size := by omega
          clear q2 g2
          go_wp2_with (first | (go_at_call 80; refine (hS d _).mono ?_; rintro e wr ⟨rfl, rfl⟩))
          clear q1 g1 c0 c1 c2
          refine wp_region_any (by kernel_rfl) ?_
          refine wpAny_keeps (InvB w5 dB d ds (.slice oq ds.length oqc) (fun j => match j with | 0 => .pointer (some ⟨dB, 14, none⟩) | 1 => .slice oq ds.length oqc | 2 => .pointer (some ⟨w.heap.size, 5, none⟩) | 3 => .slice (some ⟨b, o, none⟩) x.os.length oc | 4 => .int .i64 k | 5 => .pointer (some ⟨b, o + k * 3, none⟩) | 6 => .agg #[.int .i64 d.k, .int .i64 d.t, .int .i64 d.s] | 9 => .pointer (some ⟨dB, 14, none⟩) | _ => undef) (fun v => #[.int .i64 9, .int .i64 x.site, .int .i64 (twinX x.site), .int .i64 0, .int .i64 0, .int .i64 0, .int .i64 0, .int .i64 0, .bool false, .slice none 0 0, .int .i64 0, .int .i64 t1.ep, .slice pv ys.length pvc, .slice pw zs.length pwc, v]) _) ?_ ?_ _ _ _ _ (by simp) ⟨by simp, by simp, rfl, fun _ _ => rfl, fun j _ _ _ hl => ?_, fun hl => ?_, fun hl => ?_, fun _ => hD, fun _ => hO, Only.drew1 on, fun hl => ?_, fun hl => ?_, fun hl => ?_⟩
          · intro l a W i hI hi'
            obtain ⟨hun, o', ho, hdep⟩ := mem_ready.1 hi'
            have t2a : a.tmps[2]? = some (.pointer (some ⟨w.heap.size, 0, none⟩)) := hI.fr 2 (by omega)
            have t5a : a.tmps[5]? = some (.pointer (some ⟨dB, 0, none⟩)) := hI.fr 5 (by omega)
            have t6a : a.tmps[6]? = some (.int .i64 k) := hI.fr 6 (by omega)
            have hls := hI.ls
            have f10 : l[8]? = some false ∨ l[1]? = some false → l[10]? = some false := fun hx => by
              rcases bit_or (l := l) (k := 10) (by omega) with e4 | e4
              · exact e4
              · have e5 := hI.oB e4
                have e6 := hI.oC e5
                rcases hx with hx | hx
                · rw [hx] at e5; cases e5
                · rw [hx] at e6; cases e6
            have BW : Below w.heap.size w W := B5.trans (hI.on.below s5 (fun j hj => by rcases hj with hj | hj <;> omega))
            have AW := hI.on.blk A5 (fun hS => by rcases hS with hS | hS <;> omega)
            have cW0 := (BW.cell (p := ⟨b, o + k * 3, none⟩) hb0).trans e1
            have cW1 := (BW.cell (p := ⟨b, o + k * 3 + 1, none⟩) hb0).trans e2
            have cW2 := (BW.cell (p := ⟨b, o + k * 3 + 2, none⟩) hb0).trans e3
            have hi11 : i < 11 := by
              rcases Nat.lt_or_ge i 11 with h | h
              · exact h
              · rw [Array.getElem?_eq_none (by simpa using h)] at ho; cases ho
            match i, hi11 with
            | 0, _ =>
              simp only [List.getElem?_toArray, List.getElem?_cons_zero, Option.some.injEq] at ho
              subst ho
              have hu := bitF hun
              refine wpOp_at rfl rfl ?_
              unfold Oper.wp
              simp [execOp, go_sem, t5a]
              exact hI.quiet (by omega) (by omega) (by omega) rfl
            | 1, _ =>
              simp only [List.getElem?_toArray, List.getElem?_cons_succ, List.getElem?_cons_zero, Option.some.injEq] at ho
              subst ho
              have hu := bitF hun
              have d0 := bitT (hdep ⟨0, .data⟩ (by simp) rfl)
              have y0 := hI.kv 0 (by omega) (by omega) (by omega) d0
              simp at y0
              refine wpOp_at rfl rfl ?_
              unfold Oper.wp
              simp [execOp, go_sem, y0, (hI.d14 (f10 (.inr hu))).cell 14]
              exact hI.quiet (by omega) (by omega) (by omega) rfl
            | 2, _ =>
              simp only [List.getElem?_toArray, List.getElem?_cons_succ, List.getElem?_cons_zero, Option.some.injEq] at ho
              subst ho
              have hu := bitF hun
              refine wpOp_at rfl rfl ?_
              unfold Oper.wp
              simp [execOp, go_sem, t2a]
              exact hI.quiet (by omega) (by omega) (by omega) rfl
            | 3, _ =>
              simp only [List.getElem?_toArray, List.getElem?_cons_succ, List.getElem?_cons_zero, Option.some.injEq] at ho
              subst ho
              have hu := bitF hun
              have d2 := bitT (hdep ⟨2, .data⟩ (by simp) rfl)
              have y2 := hI.kv 2 (by omega) (by omega) (by omega) d2
              simp at y2
              refine wpOp_at rfl rfl ?_
              unfold Oper.wp
              simp [execOp, go_sem, y2, AW.cell 5]
              exact hI.quiet (by omega) (by omega) (by omega) rfl
            | 4, _ =>
              simp only [List.getElem?_toArray, List.getElem?_cons_succ, List.getElem?_cons_zero, Option.some.injEq] at ho
              subst ho
              have hu := bitF hun
              refine wpOp_at rfl rfl ?_
              unfold Oper.wp
              simp [execOp, go_sem, t6a]
              exact hI.quiet (by omega) (by omega) (by omega) rfl
            | 5, _ =>
              simp only [List.getElem?_toArray, List.getElem?_cons_succ, List.getElem?_cons_zero, Option.some.injEq] at ho
              subst ho
              have hu := bitF hun
              have d3 := bitT (hdep ⟨3, .data⟩ (by simp) rfl)
              have y3 := hI.kv 3 (by omega) (by omega) (by omega) d3
              simp at y3
              have d4 := bitT (hdep ⟨4, .data⟩ (by simp) rfl)
              have y4 := hI.kv 4 (by omega) (by omega) (by omega) d4
              simp at y4
              refine wpOp_at rfl rfl ?_
              unfold Oper.wp
              simp [execOp, go_sem, y3, y4, i1, i2]
              exact hI.quiet (by omega) (by omega) (by omega) rfl
            | 6, _ =>
              simp only [List.getElem?_toArray, List.getElem?_cons_succ, List.getElem?_cons_zero, Option.some.injEq] at ho
              subst ho
              have hu := bitF hun
              have d5 := bitT (hdep ⟨5, .data⟩ (by simp) rfl)
              have y5 := hI.kv 5 (by omega) (by omega) (by omega) d5
              simp at y5
              refine wpOp_at rfl rfl ?_
              unfold Oper.wp
              simp [execOp, go_sem, y5, cW0, cW1, cW2]
              exact hI.quiet (by omega) (by omega) (by omega) rfl
            | 7, _ =>
              simp only [List.getElem?_toArray, List.getElem?_cons_succ, List.getElem?_cons_zero, Option.some.injEq] at ho
              subst ho
              have hu := bitF hun
              have d6 := bitT (hdep ⟨6, .data⟩ (by simp) rfl)
              have y6 := hI.kv 6 (by omega) (by omega) (by omega) d6
              simp at y6
              refine wpOp_at rfl rfl ?_
              unfold Oper.wp
              simp [execOp, go_sem, y6]
              exact hI.made hu
            | 8, _ =>
              simp only [List.getElem?_toArray, List.getElem?_cons_succ, List.getElem?_cons_zero, Option.some.injEq] at ho
              subst ho
              have hu := bitF hun
              have d1 := bitT (hdep ⟨1, .data⟩ (by simp) rfl)
              have y1 := hI.kv 1 (by omega) (by omega) (by omega) d1
              simp at y1
              have d7 := bitT (hdep ⟨7, .data⟩ (by simp) rfl)
              obtain ⟨g, y7, hg7⟩ := hI.k7 d7 hu
              refine wpOp_at rfl rfl ?_
              refine wp_append_own W _ _ 30 (by rfl) w5.heap.size 116 i0 (.agg #[.int .i64 0, .int .i64 0, .int .i64 0]) 3 24 Tryz.underlying30 hi hz0 hz1 hz2 rfl (by decide) (.slice oq ds.length oqc) ds.length (flat3 ds) (by simp [go_sem, y1]) (hI.row hu) ⟨g, 0, none⟩ 1 1 [.int .i64 d.k, .int .i64 d.t, .int .i64 d.s] (by simp [go_sem, y7]) rfl (cells3' hg7) oA mA zB2 hI.on.size ?_
              intro v' w8 own4 hg3 _
              have hO4 : RowD w8 w5.heap.size v' (ds ++ [d]) := by show w8.ownsRow _ _ 3 v' (ds ++ [d]).length (flat3 (ds ++ [d])); rw [flat3_snoc]; simpa using own4
              obtain ⟨oq', oqc', rfl, _⟩ := row_slice hO4
              exact hI.grows hu d7 d1 zd5 hO4 hg3
            | 9, _ =>
              simp only [List.getElem?_toArray, List.getElem?_cons_succ, List.getElem?_cons_zero, Option.some.injEq] at ho
              subst ho
              have hu := bitF hun
              refine wpOp_at rfl rfl ?_
              unfold Oper.wp
              simp [execOp, go_sem, t5a]
              exact hI.quiet (by omega) (by omega) (by omega) rfl
            | 10, _ =>
              simp only [List.getElem?_toArray, List.getElem?_cons_succ, List.getElem?_cons_zero, Option.some.injEq] at ho
              subst ho
              have hu := bitF hun
              have d9 := bitT (hdep ⟨9, .data⟩ (by simp) rfl)
              have y9 := hI.kv 9 (by omega) (by omega) (by omega) d9
              simp at y9
              have d8 := bitT (hdep ⟨8, .data⟩ (by simp) rfl)
              obtain ⟨oq', oqc', y8, hr8, _⟩ := hI.k8 d8
              obtain ⟨qz, gz⟩ := (hI.d14 hu).rules
              refine wpOp_at rfl rfl ?_
              unfold Oper.wp
              simp [execOp, go_sem, y9, y8, qz, gz]
              have hfin := hI.stored hu d8 y8 zd5 (fun v W hW => by have h1 := hW.set 14 v; simpa using h1)
              simpa using hfin
          · intro l a W hI hr
            have a0 : l[0]? = some true := all_up (by simp [hI.ls]) hr (i := 0) rfl (by simp [Region.binds])
            have a1 : l[1]? = some true := all_up (by simp [hI.ls]) hr (i := 1) rfl (by simp [Region.binds, a0])
            have a2 : l[2]? = some true := all_up (by simp [hI.ls]) hr (i := 2) rfl (by simp [Region.binds])
            have a3 : l[3]? = some true := all_up (by simp [hI.ls]) hr (i := 3) rfl (by simp [Region.binds, a2])
            have a4 : l[4]? = some true := all_up (by simp [hI.ls]) hr (i := 4) rfl (by simp [Region.binds])
            have a5 : l[5]? = some true := all_up (by simp [hI.ls]) hr (i := 5) rfl (by simp [Region.binds, a3, a4])
            have a6 : l[6]? = some true := all_up (by simp [hI.ls]) hr (i := 6) rfl (by simp [Region.binds, a5])
            have a7 : l[7]? = some true := all_up (by simp [hI.ls]) hr (i := 7) rfl (by simp [Region.binds, a6])
            have a8 : l[8]? = some true := all_up (by simp [hI.ls]) hr (i := 8) rfl (by simp [Region.binds, a1, a7])
            have a9 : l[9]? = some true := all_up (by simp [hI.ls]) hr (i := 9) rfl (by simp [Region.binds, a0, a1, a2, a3, a4, a5, a6, a7, a8])
            have a10 : l[10]? = some true := all_up (by simp [hI.ls]) hr (i := 10) rfl (by simp [Region.binds, a0, a1, a2, a3, a4, a5, a6, a7, a8, a9])
            obtain ⟨oq', oqc', _, hr8, hD8⟩ := hI.k8 a8
            have hD5 := hD8 a10
            have on4 := hI.on
            have hts := hI.ts
            have hdf := hI.df
            have hfr := hI.fr
            clear hI hr a0 a1 a2 a3 a4 a5 a6 a7 a8 a9 a10 hD8
            obtain ⟨tms, df⟩ := a
            simp only at hdf hts hfr
            obtain ⟨tm, rfl⟩ : ∃ tm : List Value, tms = tm.toArray := ⟨tms.toList, by simp⟩
            subst hdf
            simp at hts
            have L63 := hts
            clear hts
            obtain ⟨x0', tm0, rfl, L62⟩ := uncons1 (n := 62) L63
            obtain ⟨x1', tm1, rfl, L61⟩ := uncons1 (n := 61) L62
            obtain ⟨x2', tm2, rfl, L60⟩ := uncons1 (n := 60) L61
            obtain ⟨x3', tm3, rfl, L59⟩ := uncons1 (n := 59) L60
            obtain ⟨x4', tm4, rfl, L58⟩ := uncons1 (n := 58) L59
            obtain ⟨x5', tm5, rfl, L57⟩ := uncons1 (n := 57) L58
            obtain ⟨x6', tm6, rfl, L56⟩ := uncons1 (n := 56) L57
            obtain ⟨x7', tm7, rfl, L55⟩ := uncons1 (n := 55) L56
            obtain ⟨x8', tm8, rfl, L54⟩ := uncons1 (n := 54) L55
            obtain ⟨x9', tm9, rfl, L53⟩ := uncons1 (n := 53) L54
            obtain ⟨x10', tm10, rfl, L52⟩ := uncons1 (n := 52) L53
            obtain ⟨x11', tm11, rfl, L51⟩ := uncons1 (n := 51) L52
            obtain ⟨x12', tm12, rfl, L50⟩ := uncons1 (n := 50) L51
            obtain ⟨x13', tm13, rfl, L49⟩ := uncons1 (n := 49) L50
            obtain ⟨x14', tm14, rfl, L48⟩ := uncons1 (n := 48) L49
            obtain ⟨x15', tm15, rfl, L47⟩ := uncons1 (n := 47) L48
            obtain ⟨x16', tm16, rfl, L46⟩ := uncons1 (n := 46) L47
            obtain ⟨x17', tm17, rfl, L45⟩ := uncons1 (n := 45) L46
            obtain ⟨x18', tm18, rfl, L44⟩ := uncons1 (n := 44) L45
            obtain ⟨x19', tm19, rfl, L43⟩ := uncons1 (n := 43) L44
            obtain ⟨x20', tm20, rfl, L42⟩ := uncons1 (n := 42) L43
            obtain ⟨x21', tm21, rfl, L41⟩ := uncons1 (n := 41) L42
            obtain ⟨x22', tm22, rfl, L40⟩ := uncons1 (n := 40) L41
            obtain ⟨x23', tm23, rfl, L39⟩ := uncons1 (n := 39) L40
            obtain ⟨x24', tm24, rfl, L38⟩ := uncons1 (n := 38) L39
            obtain ⟨x25', tm25, rfl, L37⟩ := uncons1 (n := 37) L38
            obtain ⟨x26', tm26, rfl, L36⟩ := uncons1 (n := 36) L37
            obtain ⟨x27', tm27, rfl, L35⟩ := uncons1 (n := 35) L36
            obtain ⟨x28', tm28, rfl, L34⟩ := uncons1 (n := 34) L35
            obtain ⟨x29', tm29, rfl, L33⟩ := uncons1 (n := 33) L34
            obtain ⟨x30', tm30, rfl, L32⟩ := uncons1 (n := 32) L33
            obtain ⟨x31', tm31, rfl, L31⟩ := uncons1 (n := 31) L32
            obtain ⟨x32', tm32, rfl, L30⟩ := uncons1 (n := 30) L31
            obtain ⟨x33', tm33, rfl, L29⟩ := uncons1 (n := 29) L30
            obtain ⟨x34', tm34, rfl, L28⟩ := uncons1 (n := 28) L29
            obtain ⟨x35', tm35, rfl, L27⟩ := uncons1 (n := 27) L28
            obtain ⟨x36', tm36, rfl, L26⟩ := uncons1 (n := 26) L27
            obtain ⟨x37', tm37, rfl, L25⟩ := uncons1 (n := 25) L26
            obtain ⟨x38', tm38, rfl, L24⟩ := uncons1 (n := 24) L25
            obtain ⟨x39', tm39, rfl, L23⟩ := uncons1 (n := 23) L24
            obtain ⟨x40', tm40, rfl, L22⟩ := uncons1 (n := 22) L23
            obtain ⟨x41', tm41, rfl, L21⟩ := uncons1 (n := 21) L22
            obtain ⟨x42', tm42, rfl, L20⟩ := uncons1 (n := 20) L21
            obtain ⟨x43', tm43, rfl, L19⟩ := uncons1 (n := 19) L20
            obtain ⟨x44', tm44, rfl, L18⟩ := uncons1 (n := 18) L19
            obtain ⟨x45', tm45, rfl, L17⟩ := uncons1 (n := 17) L18
            obtain ⟨x46', tm46, rfl, L16⟩ := uncons1 (n := 16) L17
            obtain ⟨x47', tm47, rfl, L15⟩ := uncons1 (n := 15) L16
            obtain ⟨x48', tm48, rfl, L14⟩ := uncons1 (n := 14) L15
            obtain ⟨x49', tm49, rfl, L13⟩ := uncons1 (n := 13) L14
            obtain ⟨x50', tm50, rfl, L12⟩ := uncons1 (n := 12) L13
            obtain ⟨x51', tm51, rfl, L11⟩ := uncons1 (n := 11) L12
            obtain ⟨x52', tm52, rfl, L10⟩ := uncons1 (n := 10) L11
            obtain ⟨x53', tm53, rfl, L9⟩ := uncons1 (n := 9) L10
            obtain ⟨x54', tm54, rfl, L8⟩ := uncons1 (n := 8) L9
            obtain ⟨x55', tm55, rfl, L7⟩ := uncons1 (n := 7) L8
            obtain ⟨x56', tm56, rfl, L6⟩ := uncons1 (n := 6) L7
            obtain ⟨x57', tm57, rfl, L5⟩ := uncons1 (n := 5) L6
            obtain ⟨x58', tm58, rfl, L4⟩ := uncons1 (n := 4) L5
            obtain ⟨x59', tm59, rfl, L3⟩ := uncons1 (n := 3) L4
            obtain ⟨x60', tm60, rfl, L2⟩ := uncons1 (n := 2) L3
            obtain ⟨x61', tm61, rfl, L1⟩ := uncons1 (n := 1) L2
            obtain ⟨x62', tm62, rfl, L0⟩ := uncons1 (n := 0) L1
            obtain rfl := List.length_eq_zero_iff.1 L0
            have f0 := hfr 0 (by omega)
            simp at f0
            subst f0
            have f1 := hfr 1 (by omega)
            simp at f1
            subst f1
            have f2 := hfr 2 (by omega)
            simp at f2
            subst f2
            have f3 := hfr 3 (by omega)
            simp at f3
            subst f3
            have f4 := hfr 4 (by omega)
            simp at f4
            subst f4
            have f5 := hfr 5 (by omega)
            simp at f5
            subst f5
            have f6 := hfr 6 (by omega)
            simp at f6
            subst f6
            have f7 := hfr 7 (by omega)
            simp at f7
            subst f7
            have f8 := hfr 8 (by omega)
            simp at f8
            subst f8
            have f9 := hfr 9 (by omega)
            simp at f9
            subst f9
            have f10 := hfr 10 (by omega)
            simp at f10
            subst f10
            have f11 := hfr 11 (by omega)
            simp at f11
            subst f11
            have f12 := hfr 12 (by omega)
            simp at f12
            subst f12
            have f13 := hfr 13 (by omega)
            simp at f13
            subst f13
            have f14 := hfr 14 (by omega)
            simp at f14
            subst f14
            have f15 := hfr 15 (by omega)
            simp at f15
            subst f15
            have f16 := hfr 16 (by omega)
            simp at f16
            subst f16
            have f17 := hfr 17 (by omega)
            simp at f17
            subst f17
            have f18 := hfr 18 (by omega)
            simp at f18
            subst f18
            have f19 := hfr 19 (by omega)
            simp at f19
            subst f19
            have f20 := hfr 20 (by omega)
            simp at f20
            subst f20
            have f21 := hfr 21 (by omega)
            simp at f21
            subst f21
            have f22 := hfr 22 (by omega)
            simp at f22
            subst f22
            have f23 := hfr 23 (by omega)
            simp at f23
            subst f23
            have f24 := hfr 24 (by omega)
            simp at f24
            subst f24
            have f25 := hfr 25 (by omega)
            simp at f25
            subst f25
            have f26 := hfr 26 (by omega)
            simp at f26
            subst f26
            have f27 := hfr 27 (by omega)
            simp at f27
            subst f27
            have f28 := hfr 28 (by omega)
            simp at f28
            subst f28
            have f29 := hfr 29 (by omega)
            simp at f29
            subst f29
            have f30 := hfr 30 (by omega)
            simp at f30
            subst f30
            have f31 := hfr 31 (by omega)
            simp at f31
            subst f31
            have f32 := hfr 32 (by omega)
            simp at f32
            subst f32
            have f33 := hfr 33 (by omega)
            simp at f33
            subst f33
            have f34 := hfr 34 (by omega)
            simp at f34
            subst f34
            have f35 := hfr 35 (by omega)
            simp at f35
            subst f35
            have f36 := hfr 36 (by omega)
            simp at f36
            subst f36
            have f37 := hfr 37 (by omega)
            simp at f37
            subst f37
            have f38 := hfr 38 (by omega)
            simp at f38
            subst f38
            have f39 := hfr 39 (by omega)
            simp at f39
            subst f39
            have f40 := hfr 40 (by omega)
            simp at f40
            subst f40
            have f41 := hfr 41 (by omega)
            simp at f41
            subst f41
            have f42 := hfr 42 (by omega)
            simp at f42
            subst f42
            have f43 := hfr 43 (by omega)
            simp at f43
            subst f43
            have f44 := hfr 44 (by omega)
            simp at f44
            subst f44
            have f45 := hfr 45 (by omega)
            simp at f45
            subst f45
            have f46 := hfr 46 (by omega)
            simp at f46
            subst f46
            have f47 := hfr 47 (by omega)
            simp at f47
            subst f47
            have f48 := hfr 48 (by omega)
            simp at f48
            subst f48
            have f49 := hfr 49 (by omega)
            simp at f49
            subst f49
            have f50 := hfr 50 (by omega)
            simp at f50
            subst f50
            have f51 := hfr 51 (by omega)
            simp at f51
            subst f51
            have f62 := hfr 62 (by omega)
            simp at f62
            subst f62
            clear hfr
            go_wp2_with fail
            go_roundw
            case rel => exact ⟨k + 1, oq', oqc', ds ++ [d], by omega, by go_num, HZ2.out, hr8, by simp; omega, hD5, on4⟩
            case measure => simp [intOf]; omega
          · rw [Array.getElem?_replicate] at hl
            split at hl <;> simp at hl
          · rw [Array.getElem?_replicate] at hl
            split at hl <;> simp at hl
          · rw [Array.getElem?_replicate] at hl
            split at hl <;> simp at hl
          · rw [Array.getElem?_replicate] at hl
            split at hl <;> simp at hl
          · rw [Array.getElem?_replicate] at hl
            split at hl <;> simp at hl
          · rw [Array.getElem?_replicate] at hl
            split at hl <;> simp at hl
      · have hk2 : k = x.os.length := by omega
        subst hk2
        rw [List.take_length] at HD
        have Zr := on.blk Z5 (fun hS => by rcases hS with hS | hS <;> omega)
        have Vr := on.ownV V5 (fun j hj hS => by have := rV.out j hj; rcases hS with hS | hS <;> omega)
        have Wr := on.ownV W5 (fun j hj hS => by have := rW.out j hj; rcases hS with hS | hS <;> omega)
        obtain ⟨q1, g1⟩ := Ar.rules
        obtain ⟨q2, g2⟩ := hD.rules
        obtain ⟨q3, g3⟩ := Zr.rules
        go_wp2_with fail
        have ly : ys.length = (slotL x.vs 0).length := by rw [← HY.out]; simp
        have lz : zs.length = (slotL x.ws 0).length := by rw [← HZ.out]; simp
        have ld : ds.length = (owesL x.os 0).length := by rw [HD.out]
        have zw1 : w.heap.size + 1 < w1.heap.size := by omega
        have hOf := rowFill15 (Z := w.heap.size + 1) (v0 := .int .i64 9) (v1 := .int .i64 x.site) (v2 := .int .i64 (twinX x.site)) (v3 := .int .i64 0) (v4 := .int .i64 0) (v5 := .int .i64 0) (v6 := .int .i64 0) (v7 := .int .i64 0) (v8 := .bool false) (v9 := .slice none 0 0) (v10 := .int .i64 0) (v11 := .int .i64 t1.ep) (v12 := .slice pv ys.length pvc) (v13 := .slice pw zs.length pwc) (v14 := .slice oq ds.length oqc) hO (by omega)
        have vF := (Vr.fill15 (Z := w.heap.size + 1) (v0 := .int .i64 9) (v1 := .int .i64 x.site) (v2 := .int .i64 (twinX x.site)) (v3 := .int .i64 0) (v4 := .int .i64 0) (v5 := .int .i64 0) (v6 := .int .i64 0) (v7 := .int .i64 0) (v8 := .bool false) (v9 := .slice none 0 0) (v10 := .int .i64 0) (v11 := .int .i64 t1.ep) (v12 := .slice pv ys.length pvc) (v13 := .slice pw zs.length pwc) (v14 := .slice oq ds.length oqc) (by omega)).mono (base' := w.heap.size) (by omega)
        have wF := (Wr.fill15 (Z := w.heap.size + 1) (v0 := .int .i64 9) (v1 := .int .i64 x.site) (v2 := .int .i64 (twinX x.site)) (v3 := .int .i64 0) (v4 := .int .i64 0) (v5 := .int .i64 0) (v6 := .int .i64 0) (v7 := .int .i64 0) (v8 := .bool false) (v9 := .slice none 0 0) (v10 := .int .i64 0) (v11 := .int .i64 t1.ep) (v12 := .slice pv ys.length pvc) (v13 := .slice pw zs.length pwc) (v14 := .slice oq ds.length oqc) (by omega)).mono (base' := w.heap.size) (by omega)
        have oF := row_mono hOf (base' := w.heap.size) (by omega)
        refine bodyPost_ret (v := .agg #[.int .i64 9, .int .i64 x.site, .int .i64 (twinX x.site), .int .i64 0, .int .i64 0, .int .i64 0, .int .i64 0, .int .i64 0, .bool false, .slice none 0 0, .int .i64 0, .int .i64 t1.ep, .slice pv ys.length pvc, .slice pw zs.length pwc, .slice oq ds.length oqc]) ?_ rfl ⟨⟨none, 0, pv, pvc, pw, pwc, oq, oqc⟩, ys, zs, ?_, own_half vF wF oF HY.out HZ.out HD.out, fill15_below Br (by omega)⟩
        · refine Blk.gen (B := w.heap.size + 1) (vs := #[.int .i64 9, .int .i64 x.site, .int .i64 (twinX x.site), .int .i64 0, .int .i64 0, .int .i64 0, .int .i64 0, .int .i64 0, .bool false, .slice none 0 0, .int .i64 0, .int .i64 t1.ep, .slice pv ys.length pvc, .slice pw zs.length pwc, .slice oq ds.length oqc]) (T := 41) ?_ (P := fun W => (results Tryz.f61 _).run Tryz.prog W = .ok _ W) ?_
          · exact Blk.fill15 Zr
          intro W hW
          obtain ⟨k, f⟩ := hW.rules
          simp [results, Tryz.results61, go_sem, k]
        · show Ending.returned (Value.agg #[.int .i64 9, .int .i64 x.site, .int .i64 (twinX x.site), .int .i64 0, .int .i64 0, .int .i64 0, .int .i64 0, .int .i64 0, .bool false, .slice none 0 0, .int .i64 0, .int .i64 t1.ep, .slice pv ys.length pvc, .slice pw zs.length pwc, .slice oq ds.length oqc]) = Ending.returned (Value.agg #[.int .i64 9, .int .i64 x.site, .int .i64 (twinX x.site), .int .i64 0, .int .i64 0, .int .i64 0, .int .i64 0, .int .i64 0, .bool false, .slice none 0 0, .int .i64 0, .int .i64 t1.ep, .slice pv (slotL x.vs 0).length pvc, .slice pw (slotL x.ws 0).length pwc, .slice oq (owesL x.os 0).length oqc])
          rw [ly, lz, ld]
end Go.Proofs.YtpjidogilofppaaGreat
