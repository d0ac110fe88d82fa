/- The exact law of ServerMove. -/
import Derived.Test.YtpjidogilofppaaGreatXSMoveA
namespace Go.Proofs.YtpjidogilofppaaGreat
open Go.ChangeShapes Go.WideShapes Go.ChangeAt Go.RowKit Go.Deep

set_option maxHeartbeats 16000000 in
set_option maxRecDepth 20000 in
theorem lawXServerMove (x : Sv) (a : Sa) (n : Int) (w : World) (h : InJ w x a) :
    Calls Tryz.prog 4 #[servV x a, .int .i64 n] w fun e w' => e = .returned (.bool true) ∧ Below w.heap.size w w' := by
  have b0 : Below w.heap.size w (w.alloc (.cells #[.int .i64 x.site, .bool x.up, .slice a.la x.sl.length a.lc, .slice a.va x.vs.length a.vc, .slice a.wa x.ws.length a.wc, .slice a.oa x.os.length a.oc, .slice a.ka x.kn.length a.kc] 26)) := (Below.refl _ _).alloc (Nat.le_refl _) _
  have A0 := Blk.new w #[.int .i64 x.site, .bool x.up, .slice a.la x.sl.length a.lc, .slice a.va x.vs.length a.vc, .slice a.wa x.ws.length a.wc, .slice a.oa x.os.length a.oc, .slice a.ka x.kn.length a.kc] 26
  have I0 := h.below b0
  go_enter Tryz.func4, Tryz.ntmps4
  go_wp2_with fail
  generalize w.alloc (.cells #[.int .i64 x.site, .bool x.up, .slice a.la x.sl.length a.lc, .slice a.va x.vs.length a.vc, .slice a.wa x.ws.length a.wc, .slice a.oa x.os.length a.oc, .slice a.ka x.kn.length a.kc] 26) = w0 at *
  refine (szServer_any x a _ I0).mono ?_
  rintro e w1 ⟨r, rfl, hr, hb1⟩
  have A1 := A0.below hb1 A0.lt
  have I1 := I0.below hb1
  have B1 : Below w.heap.size w w1 := b0.trans (hb1.mono b0.size)
  clear A0 I0 b0 hb1
  rcases hr with hr | ⟨hr, hs⟩
  · have d1 : decide (r < 0) = true := by simpa using hr
    clear A1 I1 hr h
    go_wp2_with fail
    go_ret
    exact ⟨rfl, B1⟩
  have d1 : decide (r < 0) = false := by simp; omega
  have hF := Fit.of hs
  have L1 := I1.inS hs
  have hT := fun W h => toServer_any x a W hF h
  have hS := fun b W h => sMove_any x b n W hF.len h
  have hI := fun b W h => iMove_any x b n W hF.len h
  have hEx := fun c b W h h' => eqServer_any x c b W hF h h'
  obtain ⟨f1, f2, f3, f4⟩ := move_fit x n hs
  have hMx := fun c ys zs base W h => markServer_any x c ys zs base 1 W hs (by omega) (end_size' x hs).2 h
  have ex0 : 0 ≤ endS 1 x := (end_size' x hs).1
  generalize moveS x n = y at *
  generalize moveW x n = z at *
  generalize moveB x n = rb at *
  have ey0 : 0 ≤ endS 1 y := (end_size' y f1).1
  have hEy := fun c b W h h' => eqServer_any y c b W (Fit.of f1) h h'
  obtain ⟨z1, z2, z3, z4, z5, z6⟩ := fitW f2
  have hEz := fun c b W h h' => eqWord_any z c b W h h' z1 z2 z3 z4 z5 z6
  have hMy := fun c ys zs base W h => markServerO_any y c ys zs base 1 W f1 (by omega) (end_size' y f1).2 h
  have hHy := fun c W h => heldServer_any y c 1 W f1 (by omega) (end_size' y f1).2 h
  have hMz := fun c ys zs base W h => markWord_any z c ys zs base (endS 1 y) W f2 ey0 f3 h
  have hHz := fun c W h => heldWord_any z c (endS 1 y) W f2 ey0 f3 h
  generalize endW (endS 1 y) z = ez at *
  generalize hey : endS 1 y = ey at *
  generalize endS 1 x = ex at *
  have dx0 : decide (ex < 0) = false := by simp; omega
  have dy0 : decide (ey < 0) = false := by simp; omega
  have dz0 : decide (ez < 0) = false := by simp; omega
  clear I1 h hs hF f1 f2 f3 z1 z2 z3 z4 z5 z6
  obtain ⟨q1, g1⟩ := A1.rules
  go_wp2_with fail
  clear q1 g1 d1
  -- the specification's answer
  refine (hT _ L1).mono ?_
  rintro e w2 ⟨b0, ys0, zs0, rfl, M2, hb2⟩
  have A2 := A1.below hb2 A1.lt
  have L2 := L1.below hb2
  have B2 : Below w.heap.size w w2 := B1.trans (hb2.mono B1.size)
  have N2 := M2.inS
  clear A1 L1 B1 hb2 M2
  go_wp2_with fail
  refine (hS b0 _ N2).mono ?_
  rintro e w3 ⟨b, c, rfl, J3, JL3, hb3⟩
  have bw : Below w3.heap.size w3 ((w3.alloc (.cells #[.int .i64 y.site, .bool y.up, .slice b.la y.sl.length b.lc, .slice b.va y.vs.length b.vc, .slice b.wa y.ws.length b.wc, .slice b.oa y.os.length b.oc, .slice b.ka y.kn.length b.kc] 32)).alloc (.cells #[.int .i64 z.kind, .int .i64 z.fr, .int .i64 z.to, .int .i64 z.call, .int .i64 z.key, .int .i64 z.t, .int .i64 z.s, .int .i64 z.val, .bool z.yes, .slice c.da z.ds.length c.dc, .int .i64 z.slot, .int .i64 z.ep, .slice c.va z.vs.length c.vc, .slice c.wa z.ws.length c.wc, .slice c.oa z.os.length c.oc] 41)) := ((Below.refl _ _).alloc (Nat.le_refl _) _).alloc (by simp) _
  have bb3 := hb3.trans (bw.mono hb3.size)
  have A3 := A2.below bb3 A2.lt
  have L3 := L2.below bb3
  have B3 : Below w.heap.size w ((w3.alloc (.cells #[.int .i64 y.site, .bool y.up, .slice b.la y.sl.length b.lc, .slice b.va y.vs.length b.vc, .slice b.wa y.ws.length b.wc, .slice b.oa y.os.length b.oc, .slice b.ka y.kn.length b.kc] 32)).alloc (.cells #[.int .i64 z.kind, .int .i64 z.fr, .int .i64 z.to, .int .i64 z.call, .int .i64 z.key, .int .i64 z.t, .int .i64 z.s, .int .i64 z.val, .bool z.yes, .slice c.da z.ds.length c.dc, .int .i64 z.slot, .int .i64 z.ep, .slice c.va z.vs.length c.vc, .slice c.wa z.ws.length c.wc, .slice c.oa z.os.length c.oc] 41)) := B2.trans (bb3.mono B2.size)
  have J3' := J3.below bw
  have JL3' := JL3.below bw
  have E3 : Blk ((w3.alloc (.cells #[.int .i64 y.site, .bool y.up, .slice b.la y.sl.length b.lc, .slice b.va y.vs.length b.vc, .slice b.wa y.ws.length b.wc, .slice b.oa y.os.length b.oc, .slice b.ka y.kn.length b.kc] 32)).alloc (.cells #[.int .i64 z.kind, .int .i64 z.fr, .int .i64 z.to, .int .i64 z.call, .int .i64 z.key, .int .i64 z.t, .int .i64 z.s, .int .i64 z.val, .bool z.yes, .slice c.da z.ds.length c.dc, .int .i64 z.slot, .int .i64 z.ep, .slice c.va z.vs.length c.vc, .slice c.wa z.ws.length c.wc, .slice c.oa z.os.length c.oc] 41)) w3.heap.size #[.int .i64 y.site, .bool y.up, .slice b.la y.sl.length b.lc, .slice b.va y.vs.length b.vc, .slice b.wa y.ws.length b.wc, .slice b.oa y.os.length b.oc, .slice b.ka y.kn.length b.kc] 32 := (Blk.new w3 _ _).alloc _
  have R3 : Blk ((w3.alloc (.cells #[.int .i64 y.site, .bool y.up, .slice b.la y.sl.length b.lc, .slice b.va y.vs.length b.vc, .slice b.wa y.ws.length b.wc, .slice b.oa y.os.length b.oc, .slice b.ka y.kn.length b.kc] 32)).alloc (.cells #[.int .i64 z.kind, .int .i64 z.fr, .int .i64 z.to, .int .i64 z.call, .int .i64 z.key, .int .i64 z.t, .int .i64 z.s, .int .i64 z.val, .bool z.yes, .slice c.da z.ds.length c.dc, .int .i64 z.slot, .int .i64 z.ep, .slice c.va z.vs.length c.vc, .slice c.wa z.ws.length c.wc, .slice c.oa z.os.length c.oc] 41)) (w3.heap.size + 1) #[.int .i64 z.kind, .int .i64 z.fr, .int .i64 z.to, .int .i64 z.call, .int .i64 z.key, .int .i64 z.t, .int .i64 z.s, .int .i64 z.val, .bool z.yes, .slice c.da z.ds.length c.dc, .int .i64 z.slot, .int .i64 z.ep, .slice c.va z.vs.length c.vc, .slice c.wa z.ws.length c.wc, .slice c.oa z.os.length c.oc] 41 := by have := Blk.new (w3.alloc (.cells #[.int .i64 y.site, .bool y.up, .slice b.la y.sl.length b.lc, .slice b.va y.vs.length b.vc, .slice b.wa y.ws.length b.wc, .slice b.oa y.os.length b.oc, .slice b.ka y.kn.length b.kc] 32)) #[.int .i64 z.kind, .int .i64 z.fr, .int .i64 z.to, .int .i64 z.call, .int .i64 z.key, .int .i64 z.t, .int .i64 z.s, .int .i64 z.val, .bool z.yes, .slice c.da z.ds.length c.dc, .int .i64 z.slot, .int .i64 z.ep, .slice c.va z.vs.length c.vc, .slice c.wa z.ws.length c.wc, .slice c.oa z.os.length c.oc] 41; simpa using this
  have zA3 : w.heap.size < w3.heap.size := Nat.lt_of_lt_of_le A2.lt hb3.size
  have A3' := A2.below hb3 A2.lt
  obtain ⟨q1, g1⟩ := A3'.rules
  clear A2 L2 B2 hb3 N2 hS J3 JL3 bw bb3 A3'
  go_wp2_with fail
  clear q1 g1
  generalize hU3 : ((w3.alloc (.cells #[.int .i64 y.site, .bool y.up, .slice b.la y.sl.length b.lc, .slice b.va y.vs.length b.vc, .slice b.wa y.ws.length b.wc, .slice b.oa y.os.length b.oc, .slice b.ka y.kn.length b.kc] 32)).alloc (.cells #[.int .i64 z.kind, .int .i64 z.fr, .int .i64 z.to, .int .i64 z.call, .int .i64 z.key, .int .i64 z.t, .int .i64 z.s, .int .i64 z.val, .bool z.yes, .slice c.da z.ds.length c.dc, .int .i64 z.slot, .int .i64 z.ep, .slice c.va z.vs.length c.vc, .slice c.wa z.ws.length c.wc, .slice c.oa z.os.length c.oc] 41)) = U3 at *
  have zU3 : w3.heap.size + 1 < U3.heap.size := R3.lt
  clear hU3
  refine (hT _ L3).mono ?_
  rintro e w4 ⟨c4, ysx, zsx, rfl, X4, hb4⟩
  have bx4 : Below w4.heap.size w4 (w4.alloc (.cells #[.int .i64 x.site, .bool x.up, .slice c4.la x.sl.length c4.lc, .slice c4.va x.vs.length c4.vc, .slice c4.wa x.ws.length c4.wc, .slice c4.oa x.os.length c4.oc, .slice c4.ka x.kn.length c4.kc] 32)) := (Below.refl _ _).alloc (Nat.le_refl _) _
  have bb4 := hb4.trans (bx4.mono hb4.size)
  have A4 := A3.below bb4 A3.lt
  have E4 := E3.below bb4 E3.lt
  have R4 := R3.below bb4 R3.lt
  have kJ : Below U3.heap.size U3 (w4.alloc (.cells #[.int .i64 x.site, .bool x.up, .slice c4.la x.sl.length c4.lc, .slice c4.va x.vs.length c4.vc, .slice c4.wa x.ws.length c4.wc, .slice c4.oa x.os.length c4.oc, .slice c4.ka x.kn.length c4.kc] 32)) := bb4
  have Xlt : Hid (∀ j, inSv x c4 ysx zsx j → U3.heap.size ≤ j ∧ j < w4.heap.size) := by show ∀ j, _; intro j hj; exact X4.lt hj
  have X4' := X4.below bx4 (Nat.le_refl _)
  have F4 := Blk.new w4 #[.int .i64 x.site, .bool x.up, .slice c4.la x.sl.length c4.lc, .slice c4.va x.vs.length c4.vc, .slice c4.wa x.ws.length c4.wc, .slice c4.oa x.os.length c4.oc, .slice c4.ka x.kn.length c4.kc] 32
  have nU3 := hb4.size
  clear A3 E3 R3 hb4 X4 bx4 bb4
  obtain ⟨q1, g1⟩ := F4.rules
  go_wp2_with fail
  clear q1 g1
  generalize hU4 : w4.alloc (.cells #[.int .i64 x.site, .bool x.up, .slice c4.la x.sl.length c4.lc, .slice c4.va x.vs.length c4.vc, .slice c4.wa x.ws.length c4.wc, .slice c4.oa x.os.length c4.oc, .slice c4.ka x.kn.length c4.kc] 32) = U4 at *
  have nU4 : w4.heap.size < U4.heap.size := F4.lt
  clear hU4
  refine (hI c4 _ X4'.inS).mono ?_
  rintro e w5 ⟨g, ysg, zsg, gw, us, ts, rfl, G5, GW5, gap, hb5⟩
  have bg5 : Below w5.heap.size w5 ((w5.alloc (.cells #[.int .i64 y.site, .bool y.up, .slice g.la y.sl.length g.lc, .slice g.va y.vs.length g.vc, .slice g.wa y.ws.length g.wc, .slice g.oa y.os.length g.oc, .slice g.ka y.kn.length g.kc] 32)).alloc (.cells #[.int .i64 z.kind, .int .i64 z.fr, .int .i64 z.to, .int .i64 z.call, .int .i64 z.key, .int .i64 z.t, .int .i64 z.s, .int .i64 z.val, .bool z.yes, .slice gw.da z.ds.length gw.dc, .int .i64 z.slot, .int .i64 z.ep, .slice gw.va z.vs.length gw.vc, .slice gw.wa z.ws.length gw.wc, .slice gw.oa z.os.length gw.oc] 41)) := ((Below.refl _ _).alloc (Nat.le_refl _) _).alloc (by simp) _
  have bb5 := hb5.trans (bg5.mono hb5.size)
  have A5 := A4.below bb5 A4.lt
  have E5 := E4.below bb5 E4.lt
  have R5 := R4.below bb5 R4.lt
  have F5 := F4.below bb5 F4.lt
  have X5 := X4'.below bb5 (Nat.le_refl _)
  have kJ5 := kJ.trans (bb5.mono kJ.size)
  have Glt : Hid (∀ j, inSv y g ysg zsg j → U4.heap.size ≤ j ∧ j < w5.heap.size) := by show ∀ j, _; intro j hj; exact G5.lt hj
  have Wlt : Hid (∀ j, inWd z gw us ts j → U4.heap.size ≤ j ∧ j < w5.heap.size) := by show ∀ j, _; intro j hj; exact GW5.lt hj
  have Gap : Hid (∀ j, inSv y g ysg zsg j → ¬ inWd z gw us ts j) := gap
  have G5' := G5.below bg5 (Nat.le_refl _)
  have GW5' := GW5.below bg5 (Nat.le_refl _)
  have H5 : Blk ((w5.alloc (.cells #[.int .i64 y.site, .bool y.up, .slice g.la y.sl.length g.lc, .slice g.va y.vs.length g.vc, .slice g.wa y.ws.length g.wc, .slice g.oa y.os.length g.oc, .slice g.ka y.kn.length g.kc] 32)).alloc (.cells #[.int .i64 z.kind, .int .i64 z.fr, .int .i64 z.to, .int .i64 z.call, .int .i64 z.key, .int .i64 z.t, .int .i64 z.s, .int .i64 z.val, .bool z.yes, .slice gw.da z.ds.length gw.dc, .int .i64 z.slot, .int .i64 z.ep, .slice gw.va z.vs.length gw.vc, .slice gw.wa z.ws.length gw.wc, .slice gw.oa z.os.length gw.oc] 41)) w5.heap.size #[.int .i64 y.site, .bool y.up, .slice g.la y.sl.length g.lc, .slice g.va y.vs.length g.vc, .slice g.wa y.ws.length g.wc, .slice g.oa y.os.length g.oc, .slice g.ka y.kn.length g.kc] 32 := (Blk.new w5 _ _).alloc _
  have P5 : Blk ((w5.alloc (.cells #[.int .i64 y.site, .bool y.up, .slice g.la y.sl.length g.lc, .slice g.va y.vs.length g.vc, .slice g.wa y.ws.length g.wc, .slice g.oa y.os.length g.oc, .slice g.ka y.kn.length g.kc] 32)).alloc (.cells #[.int .i64 z.kind, .int .i64 z.fr, .int .i64 z.to, .int .i64 z.call, .int .i64 z.key, .int .i64 z.t, .int .i64 z.s, .int .i64 z.val, .bool z.yes, .slice gw.da z.ds.length gw.dc, .int .i64 z.slot, .int .i64 z.ep, .slice gw.va z.vs.length gw.vc, .slice gw.wa z.ws.length gw.wc, .slice gw.oa z.os.length gw.oc] 41)) (w5.heap.size + 1) #[.int .i64 z.kind, .int .i64 z.fr, .int .i64 z.to, .int .i64 z.call, .int .i64 z.key, .int .i64 z.t, .int .i64 z.s, .int .i64 z.val, .bool z.yes, .slice gw.da z.ds.length gw.dc, .int .i64 z.slot, .int .i64 z.ep, .slice gw.va z.vs.length gw.vc, .slice gw.wa z.ws.length gw.wc, .slice gw.oa z.os.length gw.oc] 41 := by have := Blk.new (w5.alloc (.cells #[.int .i64 y.site, .bool y.up, .slice g.la y.sl.length g.lc, .slice g.va y.vs.length g.vc, .slice g.wa y.ws.length g.wc, .slice g.oa y.os.length g.oc, .slice g.ka y.kn.length g.kc] 32)) #[.int .i64 z.kind, .int .i64 z.fr, .int .i64 z.to, .int .i64 z.call, .int .i64 z.key, .int .i64 z.t, .int .i64 z.s, .int .i64 z.val, .bool z.yes, .slice gw.da z.ds.length gw.dc, .int .i64 z.slot, .int .i64 z.ep, .slice gw.va z.vs.length gw.vc, .slice gw.wa z.ws.length gw.wc, .slice gw.oa z.os.length gw.oc] 41; simpa using this
  have n5 := hb5.size
  have zE5 : w3.heap.size + 1 < w5.heap.size := Nat.lt_of_lt_of_le R4.lt hb5.size
  have HZE : Hid (w3.heap.size + 1 < w5.heap.size) := zE5
  have zE5b : w3.heap.size < w5.heap.size := by omega
  have zE5c : w3.heap.size < w5.heap.size + 1 := by omega
  clear zE5
  have E5' := E4.below hb5 E4.lt
  have R5' := R4.below hb5 R4.lt
  obtain ⟨q1, g1⟩ := E5'.rules
  obtain ⟨q2, g2⟩ := H5.rules
  clear A4 E4 R4 F4 X4' kJ hb5 G5 GW5 bg5 bb5 E5' R5' gap
  go_wp2_with fail
  clear q1 g1 q2 g2
  generalize hU5 : ((w5.alloc (.cells #[.int .i64 y.site, .bool y.up, .slice g.la y.sl.length g.lc, .slice g.va y.vs.length g.vc, .slice g.wa y.ws.length g.wc, .slice g.oa y.os.length g.oc, .slice g.ka y.kn.length g.kc] 32)).alloc (.cells #[.int .i64 z.kind, .int .i64 z.fr, .int .i64 z.to, .int .i64 z.call, .int .i64 z.key, .int .i64 z.t, .int .i64 z.s, .int .i64 z.val, .bool z.yes, .slice gw.da z.ds.length gw.dc, .int .i64 z.slot, .int .i64 z.ep, .slice gw.va z.vs.length gw.vc, .slice gw.wa z.ws.length gw.wc, .slice gw.oa z.os.length gw.oc] 41)) = U5 at *
  have HO : Hid (w.heap.size < w3.heap.size ∧ w3.heap.size + 1 < U3.heap.size ∧ U3.heap.size ≤ w4.heap.size ∧ w4.heap.size < U4.heap.size ∧ U4.heap.size ≤ w5.heap.size ∧ w5.heap.size + 1 < U5.heap.size) := ⟨zA3, zU3, nU3, nU4, n5, P5.lt⟩
  clear hU5 HZE zU3 zE5b zE5c zA3 nU3 nU4 n5
  generalize hpB : w5.heap.size + 1 = pB at *
  generalize hrB : w3.heap.size + 1 = rB at *
  have HP : Hid (w5.heap.size + 1 = pB ∧ w3.heap.size + 1 = rB) := ⟨hpB, hrB⟩
  clear hpB hrB
  have G5 := G5'
  have GW5 := GW5'
  clear G5' GW5'
  as_aux_lemma =>
  refine (hEy g b _ G5.inS (J3'.below kJ5)).mono ?_
  rintro e w6 ⟨rfl, hb6⟩
  have A6 := A5.below hb6 A5.lt
  have E6 := E5.below hb6 E5.lt
  have R6 := R5.below hb6 R5.lt
  have F6 := F5.below hb6 F5.lt
  have H6 := H5.below hb6 H5.lt
  have P6 := P5.below hb6 P5.lt
  have X6 := X5.below hb6 (Nat.le_refl _)
  have G6 := G5.below hb6 (Nat.le_refl _)
  have GW6 := GW5.below hb6 (Nat.le_refl _)
  have kJ6 := kJ5.trans (hb6.mono kJ5.size)
  clear A5 E5 R5 F5 H5 P5 X5 G5 GW5 kJ5 hb6
  obtain ⟨q1, g1⟩ := P6.rules
  obtain ⟨q2, g2⟩ := R6.rules
  have PK : Hid _ := And.intro hT (And.intro hI (And.intro hEx (And.intro hMx (And.intro hEy (And.intro hEz (And.intro hMy (And.intro hHy (And.intro hMz (And.intro hHz (And.intro J3' (And.intro JL3' (And.intro L3 (And.intro B3 (And.intro ex0 (And.intro ey0 (And.intro hey (And.intro A6 (And.intro E6 (And.intro R6 (And.intro F6 (And.intro H6 (And.intro P6 (And.intro X6 (And.intro G6 (And.intro GW6 (kJ6))))))))))))))))))))))))))
  clear kJ6 GW6 G6 X6 P6 H6 F6 R6 E6 A6 hey ey0 ex0 B3 L3 JL3' J3' hHz hMz hHy hMy hEz hEy hMx hEx hI hT
  go_wp2_with fail
  obtain ⟨hT, hI, hEx, hMx, hEy, hEz, hMy, hHy, hMz, hHz, J3', JL3', L3, B3, ex0, ey0, hey, A6, E6, R6, F6, H6, P6, X6, G6, GW6, kJ6⟩ := PK.out
  clear PK
  clear q1 g1 q2 g2
  refine (hEz gw c _ GW6.inL (JL3'.below kJ6)).mono ?_
  rintro e w7 ⟨rfl, hb7⟩
  have A7 := A6.below hb7 A6.lt
  have E7 := E6.below hb7 E6.lt
  have R7 := R6.below hb7 R6.lt
  have F7 := F6.below hb7 F6.lt
  have H7 := H6.below hb7 H6.lt
  have P7 := P6.below hb7 P6.lt
  have X7 := X6.below hb7 (Nat.le_refl _)
  have G7 := G6.below hb7 (Nat.le_refl _)
  have GW7 := GW6.below hb7 (Nat.le_refl _)
  have kJ7 := kJ6.trans (hb7.mono kJ6.size)
  clear A6 E6 R6 F6 H6 P6 X6 G6 GW6 kJ6 hb7
  have I7 : InV w7 w.heap.size w4.heap.size _ _ w7 := ⟨Below.refl _ _, ⟨A7.lt, A7.cell⟩, ⟨F7.lt, F7.cell⟩⟩
  have L7 := L3.below kJ7
  have M7 := X7.inS
  have PK : Hid _ := And.intro hI (And.intro hMx (And.intro hEy (And.intro hEz (And.intro hMy (And.intro hHy (And.intro hMz (And.intro hHz (And.intro J3' (And.intro JL3' (And.intro L3 (And.intro B3 (And.intro ex0 (And.intro ey0 (And.intro hey (And.intro A7 (And.intro E7 (And.intro R7 (And.intro F7 (And.intro H7 (And.intro P7 (And.intro X7 (And.intro G7 (And.intro GW7 (kJ7))))))))))))))))))))))))
  clear kJ7 GW7 G7 X7 P7 H7 F7 R7 E7 A7 hey ey0 ex0 B3 L3 JL3' J3' hHz hMz hHy hMy hEz hEy hMx hI
  go_wp2_with fail
  go_region_held3 (fun W => Below w7.heap.size w7 W ∧ (w.heap.size < W.heap.size ∧ ∀ j, W.cell? ⟨w.heap.size, j, none⟩ = #[.int .i64 x.site, .bool x.up, .slice a.la x.sl.length a.lc, .slice a.va x.vs.length a.vc, .slice a.wa x.ws.length a.wc, .slice a.oa x.os.length a.oc, .slice a.ka x.kn.length a.kc][j]?) ∧ (w4.heap.size < W.heap.size ∧ ∀ j, W.cell? ⟨w4.heap.size, j, none⟩ = #[.int .i64 x.site, .bool x.up, .slice c4.la x.sl.length c4.lc, .slice c4.va x.vs.length c4.vc, .slice c4.wa x.ws.length c4.wc, .slice c4.oa x.os.length c4.oc, .slice c4.ka x.kn.length c4.kc][j]?)) (first | exact InV.drew (by assumption) | exact InV.below (by assumption) (by assumption)) (first | (go_at_call 11; refine (hT _ (L7.below (InV.drew I7).1)).mono ?_; rintro e w8 ⟨d, ys8, zs8, rfl, M8, h8⟩) | (go_at_call 13; refine (hEx c4 d _ ((M7.below (InV.drew I7).1).below h8) M8.inS).mono ?_; rintro e w9 ⟨rfl, h9⟩))
  rename_i I9
  obtain ⟨hI, hMx, hEy, hEz, hMy, hHy, hMz, hHz, J3', JL3', L3, B3, ex0, ey0, hey, A7, E7, R7, F7, H7, P7, X7, G7, GW7, kJ7⟩ := PK.out
  clear PK
  have k9 : Below w7.heap.size w7 w9 := I9.1
  have A9 := A7.below k9 A7.lt
  have E9 := E7.below k9 E7.lt
  have R9 := R7.below k9 R7.lt
  have F9 := F7.below k9 F7.lt
  have H9 := H7.below k9 H7.lt
  have P9 := P7.below k9 P7.lt
  have X9 := X7.below k9 (Nat.le_refl _)
  have G9 := G7.below k9 (Nat.le_refl _)
  have GW9 := GW7.below k9 (Nat.le_refl _)
  have kJ9 := kJ7.trans (k9.mono kJ7.size)
  clear A7 E7 R7 F7 H7 P7 X7 G7 GW7 kJ7 k9
  clear I7 I9 M7 M8 h8 h9 L7 hEx
  obtain ⟨q1, g1⟩ := F9.rules
  have PK : Hid _ := And.intro hT (And.intro hI (And.intro hMx (And.intro hEy (And.intro hEz (And.intro hMy (And.intro hHy (And.intro hMz (And.intro hHz (And.intro J3' (And.intro JL3' (And.intro L3 (And.intro B3 (And.intro ex0 (And.intro ey0 (And.intro hey (And.intro A9 (And.intro E9 (And.intro R9 (And.intro F9 (And.intro H9 (And.intro P9 (And.intro X9 (And.intro G9 (And.intro GW9 (kJ9)))))))))))))))))))))))))
  clear kJ9 GW9 G9 X9 P9 H9 F9 R9 E9 A9 hey ey0 ex0 B3 L3 JL3' J3' hHz hMz hHy hMy hEz hEy hMx hI hT
  go_wp2_with fail
  obtain ⟨hT, hI, hMx, hEy, hEz, hMy, hHy, hMz, hHz, J3', JL3', L3, B3, ex0, ey0, hey, A9, E9, R9, F9, H9, P9, X9, G9, GW9, kJ9⟩ := PK.out
  clear PK
  clear q1 g1
  as_aux_lemma =>
  refine (hMx c4 ysx zsx U3.heap.size _ X9).mono ?_
  rintro e w10 ⟨rfl, _, o10⟩
  have A10 := o10.blk A9 (fun hs => by have hoo := HO.out; have hpp := HP.out; have hp := P9.lt; rcases hs with hs | hs; omega; have := Xlt.out _ hs; omega)
  have E10 := o10.blk E9 (fun hs => by have hoo := HO.out; have hpp := HP.out; have hp := P9.lt; rcases hs with hs | hs; omega; have := Xlt.out _ hs; omega)
  have R10 := o10.blk R9 (fun hs => by have hoo := HO.out; have hpp := HP.out; have hp := P9.lt; rcases hs with hs | hs; omega; have := Xlt.out _ hs; omega)
  have H10 := o10.blk H9 (fun hs => by have hoo := HO.out; have hpp := HP.out; have hp := P9.lt; rcases hs with hs | hs; omega; have := Xlt.out _ hs; omega)
  have P10 := o10.blk P9 (fun hs => by have hoo := HO.out; have hpp := HP.out; have hp := P9.lt; rcases hs with hs | hs; omega; have := Xlt.out _ hs; omega)
  have G10 := o10.ownS G9 (fun j hj hs => by have hoo := HO.out; have hpp := HP.out; have hp := P9.lt; have := Glt.out j hj; rcases hs with hs | hs; omega; have := Xlt.out _ hs; omega)
  have GW10 := o10.ownW GW9 (fun j hj hs => by have hoo := HO.out; have hpp := HP.out; have hp := P9.lt; have := Wlt.out j hj; rcases hs with hs | hs; omega; have := Xlt.out _ hs; omega)
  have kJ10 := kJ9.trans (o10.below kJ9.size (fun j hj => by have hoo := HO.out; have hpp := HP.out; have := kJ9.size; rcases hj with hj | hj; omega; exact (Xlt.out j hj).1))
  clear A9 E9 R9 F9 H9 P9 X9 G9 GW9 kJ9 o10 hMx Xlt
  obtain ⟨q1, g1⟩ := E10.rules
  obtain ⟨q2, g2⟩ := H10.rules
  have PK : Hid _ := And.intro hT (And.intro hI (And.intro hEy (And.intro hEz (And.intro hMy (And.intro hHy (And.intro hMz (And.intro hHz (And.intro J3' (And.intro JL3' (And.intro L3 (And.intro B3 (And.intro ex0 (And.intro ey0 (And.intro hey (And.intro A10 (And.intro E10 (And.intro R10 (And.intro H10 (And.intro P10 (And.intro G10 (And.intro GW10 (kJ10))))))))))))))))))))))
  clear kJ10 GW10 G10 P10 H10 R10 E10 A10 hey ey0 ex0 B3 L3 JL3' J3' hHz hMz hHy hMy hEz hEy hI hT
  go_wp2_with fail
  obtain ⟨hT, hI, hEy, hEz, hMy, hHy, hMz, hHz, J3', JL3', L3, B3, ex0, ey0, hey, A10, E10, R10, H10, P10, G10, GW10, kJ10⟩ := PK.out
  clear PK
  clear q1 g1 q2 g2
  as_aux_lemma =>
  refine (hEy g b _ G10.inS (J3'.below kJ10)).mono ?_
  rintro e w11 ⟨rfl, hb11⟩
  have A11 := A10.below hb11 A10.lt
  have E11 := E10.below hb11 E10.lt
  have R11 := R10.below hb11 R10.lt
  have H11 := H10.below hb11 H10.lt
  have P11 := P10.below hb11 P10.lt
  have G11 := G10.below hb11 (Nat.le_refl _)
  have GW11 := GW10.below hb11 (Nat.le_refl _)
  have kJ11 := kJ10.trans (hb11.mono kJ10.size)
  clear A10 E10 R10 H10 P10 G10 GW10 kJ10 hb11
  obtain ⟨q1, g1⟩ := P11.rules
  obtain ⟨q2, g2⟩ := R11.rules
  have PK : Hid _ := And.intro hT (And.intro hI (And.intro hEy (And.intro hEz (And.intro hMy (And.intro hHy (And.intro hMz (And.intro hHz (And.intro J3' (And.intro JL3' (And.intro L3 (And.intro B3 (And.intro ex0 (And.intro ey0 (And.intro hey (And.intro A11 (And.intro E11 (And.intro R11 (And.intro H11 (And.intro P11 (And.intro G11 (And.intro GW11 (kJ11))))))))))))))))))))))
  clear kJ11 GW11 G11 P11 H11 R11 E11 A11 hey ey0 ex0 B3 L3 JL3' J3' hHz hMz hHy hMy hEz hEy hI hT
  go_wp2_with fail
  obtain ⟨hT, hI, hEy, hEz, hMy, hHy, hMz, hHz, J3', JL3', L3, B3, ex0, ey0, hey, A11, E11, R11, H11, P11, G11, GW11, kJ11⟩ := PK.out
  clear PK
  clear q1 g1 q2 g2
  refine (hEz gw c _ GW11.inL (JL3'.below kJ11)).mono ?_
  rintro e w12 ⟨rfl, hb12⟩
  have A12 := A11.below hb12 A11.lt
  have E12 := E11.below hb12 E11.lt
  have R12 := R11.below hb12 R11.lt
  have H12 := H11.below hb12 H11.lt
  have P12 := P11.below hb12 P11.lt
  have G12 := G11.below hb12 (Nat.le_refl _)
  have GW12 := GW11.below hb12 (Nat.le_refl _)
  have kJ12 := kJ11.trans (hb12.mono kJ11.size)
  clear A11 E11 R11 H11 P11 G11 GW11 kJ11 hb12
  obtain ⟨q1, g1⟩ := H12.rules
  have PK : Hid _ := And.intro hT (And.intro hI (And.intro hEy (And.intro hEz (And.intro hMy (And.intro hHy (And.intro hMz (And.intro hHz (And.intro J3' (And.intro JL3' (And.intro L3 (And.intro B3 (And.intro ex0 (And.intro ey0 (And.intro hey (And.intro A12 (And.intro E12 (And.intro R12 (And.intro H12 (And.intro P12 (And.intro G12 (And.intro GW12 (kJ12))))))))))))))))))))))
  clear kJ12 GW12 G12 P12 H12 R12 E12 A12 hey ey0 ex0 B3 L3 JL3' J3' hHz hMz hHy hMy hEz hEy hI hT
  go_wp2_with fail
  obtain ⟨hT, hI, hEy, hEz, hMy, hHy, hMz, hHz, J3', JL3', L3, B3, ex0, ey0, hey, A12, E12, R12, H12, P12, G12, GW12, kJ12⟩ := PK.out
  clear PK
  clear q1 g1
  as_aux_lemma =>
  refine (hMy g ysg zsg U4.heap.size _ G12).mono ?_
  rintro e w13 ⟨rfl, ⟨ysm, zsm, Q13, sub⟩, o13⟩
  have A13 := o13.blk A12 (fun hs => by have hoo := HO.out; have hpp := HP.out; have hp := P12.lt; rcases hs with hs | hs; omega; have := Glt.out _ hs; omega)
  have E13 := o13.blk E12 (fun hs => by have hoo := HO.out; have hpp := HP.out; have hp := P12.lt; rcases hs with hs | hs; omega; have := Glt.out _ hs; omega)
  have R13 := o13.blk R12 (fun hs => by have hoo := HO.out; have hpp := HP.out; have hp := P12.lt; rcases hs with hs | hs; omega; have := Glt.out _ hs; omega)
  have H13 := o13.blk H12 (fun hs => by have hoo := HO.out; have hpp := HP.out; have hp := P12.lt; rcases hs with hs | hs; omega; have := Glt.out _ hs; omega)
  have P13 := o13.blk P12 (fun hs => by have hoo := HO.out; have hpp := HP.out; have hp := P12.lt; rcases hs with hs | hs; omega; have := Glt.out _ hs; omega)
  have Sub : Hid (∀ j, inSv (markSv 1 y) g ysm zsm j → inSv y g ysg zsg j) := sub
  have GW13 := o13.ownW GW12 (fun j hj hs => by have hoo := HO.out; have hpp := HP.out; have hp := P12.lt; have := Wlt.out j hj; rcases hs with hs | hs; omega; exact Gap.out _ hs hj)
  have kJ13 := kJ12.trans (o13.below kJ12.size (fun j hj => by have hoo := HO.out; have hpp := HP.out; have := kJ12.size; rcases hj with hj | hj; omega; have := Glt.out j hj; omega))
  clear A12 E12 R12 H12 P12 G12 GW12 kJ12 o13 hMy sub
  obtain ⟨q1, g1⟩ := P13.rules
  have PK : Hid _ := And.intro hT (And.intro hI (And.intro hEy (And.intro hEz (And.intro hHy (And.intro hMz (And.intro hHz (And.intro J3' (And.intro JL3' (And.intro L3 (And.intro B3 (And.intro ex0 (And.intro ey0 (And.intro hey (And.intro A13 (And.intro E13 (And.intro R13 (And.intro H13 (And.intro P13 (And.intro Q13 (And.intro GW13 (kJ13)))))))))))))))))))))
  clear kJ13 GW13 Q13 P13 H13 R13 E13 A13 hey ey0 ex0 B3 L3 JL3' J3' hHz hMz hHy hEz hEy hI hT
  go_wp2_with fail
  obtain ⟨hT, hI, hEy, hEz, hHy, hMz, hHz, J3', JL3', L3, B3, ex0, ey0, hey, A13, E13, R13, H13, P13, Q13, GW13, kJ13⟩ := PK.out
  clear PK
  clear q1 g1
  refine (hMz gw us ts U4.heap.size _ GW13).mono ?_
  rintro e w14 ⟨rfl, V14, o14⟩
  have A14 := o14.blk A13 (fun hs => by have hoo := HO.out; have hpp := HP.out; have hp := P13.lt; rcases hs with hs | hs; omega; have := Wlt.out _ hs; omega)
  have E14 := o14.blk E13 (fun hs => by have hoo := HO.out; have hpp := HP.out; have hp := P13.lt; rcases hs with hs | hs; omega; have := Wlt.out _ hs; omega)
  have R14 := o14.blk R13 (fun hs => by have hoo := HO.out; have hpp := HP.out; have hp := P13.lt; rcases hs with hs | hs; omega; have := Wlt.out _ hs; omega)
  have H14 := o14.blk H13 (fun hs => by have hoo := HO.out; have hpp := HP.out; have hp := P13.lt; rcases hs with hs | hs; omega; have := Wlt.out _ hs; omega)
  have P14 := o14.blk P13 (fun hs => by have hoo := HO.out; have hpp := HP.out; have hp := P13.lt; rcases hs with hs | hs; omega; have := Wlt.out _ hs; omega)
  have Q14' := o14.ownS Q13 (fun j hj hs => by have hoo := HO.out; have hpp := HP.out; have hp := P13.lt; have := Glt.out j (Sub.out j hj); rcases hs with hs | hs; omega; exact Gap.out _ (Sub.out j hj) hs)
  have Q14 := Q14'.inS
  have kJ14 := kJ13.trans (o14.below kJ13.size (fun j hj => by have hoo := HO.out; have hpp := HP.out; have := kJ13.size; rcases hj with hj | hj; omega; have := Wlt.out j hj; omega))
  clear A13 E13 R13 H13 P13 GW13 kJ13 o14 hMz Q13 Q14' Sub Gap Glt Wlt
  obtain ⟨q1, g1⟩ := H14.rules
  have PK : Hid _ := And.intro hT (And.intro hI (And.intro hEy (And.intro hEz (And.intro hHy (And.intro hHz (And.intro J3' (And.intro JL3' (And.intro L3 (And.intro B3 (And.intro ex0 (And.intro ey0 (And.intro hey (And.intro A14 (And.intro E14 (And.intro R14 (And.intro H14 (And.intro P14 (And.intro Q14 (And.intro V14 (kJ14))))))))))))))))))))
  clear kJ14 V14 Q14 P14 H14 R14 E14 A14 hey ey0 ex0 B3 L3 JL3' J3' hHz hHy hEz hEy hI hT
  go_wp2_with fail
  obtain ⟨hT, hI, hEy, hEz, hHy, hHz, J3', JL3', L3, B3, ex0, ey0, hey, A14, E14, R14, H14, P14, Q14, V14, kJ14⟩ := PK.out
  clear PK
  clear q1 g1
  as_aux_lemma =>
  refine (hHy g _ Q14).mono ?_
  rintro e w15 ⟨rfl, hb15⟩
  have A15 := A14.below hb15 A14.lt
  have E15 := E14.below hb15 E14.lt
  have R15 := R14.below hb15 R14.lt
  have H15 := H14.below hb15 H14.lt
  have P15 := P14.below hb15 P14.lt
  have Q15 := Q14.below hb15
  have V15 := V14.below hb15
  have kJ15 := kJ14.trans (hb15.mono kJ14.size)
  clear A14 E14 R14 H14 P14 Q14 V14 kJ14 hb15
  obtain ⟨q1, g1⟩ := P15.rules
  have PK : Hid _ := And.intro hT (And.intro hI (And.intro hEy (And.intro hEz (And.intro hHy (And.intro hHz (And.intro J3' (And.intro JL3' (And.intro L3 (And.intro B3 (And.intro ex0 (And.intro ey0 (And.intro hey (And.intro A15 (And.intro E15 (And.intro R15 (And.intro H15 (And.intro P15 (And.intro Q15 (And.intro V15 (kJ15))))))))))))))))))))
  clear kJ15 V15 Q15 P15 H15 R15 E15 A15 hey ey0 ex0 B3 L3 JL3' J3' hHz hHy hEz hEy hI hT
  go_wp2_with fail
  obtain ⟨hT, hI, hEy, hEz, hHy, hHz, J3', JL3', L3, B3, ex0, ey0, hey, A15, E15, R15, H15, P15, Q15, V15, kJ15⟩ := PK.out
  clear PK
  clear q1 g1
  refine (hHz gw _ V15).mono ?_
  rintro e w16 ⟨rfl, hb16⟩
  have A16 := A15.below hb16 A15.lt
  have E16 := E15.below hb16 E15.lt
  have R16 := R15.below hb16 R15.lt
  have H16 := H15.below hb16 H15.lt
  have P16 := P15.below hb16 P15.lt
  have Q16 := Q15.below hb16
  have V16 := V15.below hb16
  have kJ16 := kJ15.trans (hb16.mono kJ15.size)
  clear A15 E15 R15 H15 P15 Q15 V15 kJ15 hb16
  obtain ⟨q1, g1⟩ := A16.rules
  have PK : Hid _ := And.intro hT (And.intro hI (And.intro hEy (And.intro hEz (And.intro hHy (And.intro hHz (And.intro J3' (And.intro JL3' (And.intro L3 (And.intro B3 (And.intro ex0 (And.intro ey0 (And.intro hey (And.intro A16 (And.intro E16 (And.intro R16 (And.intro H16 (And.intro P16 (And.intro Q16 (And.intro V16 (kJ16))))))))))))))))))))
  clear kJ16 V16 Q16 P16 H16 R16 E16 A16 hey ey0 ex0 B3 L3 JL3' J3' hHz hHy hEz hEy hI hT
  go_wp2_with fail
  obtain ⟨hT, hI, hEy, hEz, hHy, hHz, J3', JL3', L3, B3, ex0, ey0, hey, A16, E16, R16, H16, P16, Q16, V16, kJ16⟩ := PK.out
  clear PK
  clear q1 g1
  as_aux_lemma =>
  refine (hT _ (L3.below kJ16)).mono ?_
  rintro e w17 ⟨d, ysd, zsd, rfl, M17, hb17⟩
  have E17 := E16.below hb17 E16.lt
  have R17 := R16.below hb17 R16.lt
  have H17 := H16.below hb17 H16.lt
  have P17 := P16.below hb17 P16.lt
  have Q17 := Q16.below hb17
  have V17 := V16.below hb17
  have kJ17 := kJ16.trans (hb17.mono kJ16.size)
  clear E16 R16 H16 P16 Q16 V16 kJ16 hb17
  clear hT
  have PK : Hid _ := And.intro hI (And.intro hEy (And.intro hEz (And.intro hHy (And.intro hHz (And.intro J3' (And.intro JL3' (And.intro L3 (And.intro B3 (And.intro ex0 (And.intro ey0 (And.intro hey (And.intro E17 (And.intro R17 (And.intro H17 (And.intro P17 (And.intro Q17 (And.intro V17 (kJ17))))))))))))))))))
  clear kJ17 V17 Q17 P17 H17 R17 E17 hey ey0 ex0 B3 L3 JL3' J3' hHz hHy hEz hEy hI
  go_wp2_with fail
  obtain ⟨hI, hEy, hEz, hHy, hHz, J3', JL3', L3, B3, ex0, ey0, hey, E17, R17, H17, P17, Q17, V17, kJ17⟩ := PK.out
  clear PK
  as_aux_lemma =>
  refine (hI d _ M17.inS).mono ?_
  rintro e w18 ⟨hh, ysh, zsh, hw, uh, th, rfl, G18, GW18, _, hb18⟩
  have bh : Below w18.heap.size w18 ((w18.alloc (.cells #[.int .i64 y.site, .bool y.up, .slice hh.la y.sl.length hh.lc, .slice hh.va y.vs.length hh.vc, .slice hh.wa y.ws.length hh.wc, .slice hh.oa y.os.length hh.oc, .slice hh.ka y.kn.length hh.kc] 32)).alloc (.cells #[.int .i64 z.kind, .int .i64 z.fr, .int .i64 z.to, .int .i64 z.call, .int .i64 z.key, .int .i64 z.t, .int .i64 z.s, .int .i64 z.val, .bool z.yes, .slice hw.da z.ds.length hw.dc, .int .i64 z.slot, .int .i64 z.ep, .slice hw.va z.vs.length hw.vc, .slice hw.wa z.ws.length hw.wc, .slice hw.oa z.os.length hw.oc] 41)) := ((Below.refl _ _).alloc (Nat.le_refl _) _).alloc (by simp) _
  have bb18 := hb18.trans (bh.mono hb18.size)
  have zE18b : w3.heap.size < w18.heap.size := Nat.lt_of_lt_of_le E17.lt hb18.size
  have zE18c : w3.heap.size < w18.heap.size + 1 := by omega
  have E18' := E17.below hb18 E17.lt
  have R18' := R17.below hb18 R17.lt
  have R18 := R17.below bb18 R17.lt
  have H18 := H17.below bb18 H17.lt
  have P18 := P17.below bb18 P17.lt
  have Q18 := Q17.below bb18
  have V18 := V17.below bb18
  have kJ18 := kJ17.trans (bb18.mono kJ17.size)
  have N18 := G18.inS.below bh
  have NW18 := GW18.inL.below bh
  have S18 : Blk ((w18.alloc (.cells #[.int .i64 y.site, .bool y.up, .slice hh.la y.sl.length hh.lc, .slice hh.va y.vs.length hh.vc, .slice hh.wa y.ws.length hh.wc, .slice hh.oa y.os.length hh.oc, .slice hh.ka y.kn.length hh.kc] 32)).alloc (.cells #[.int .i64 z.kind, .int .i64 z.fr, .int .i64 z.to, .int .i64 z.call, .int .i64 z.key, .int .i64 z.t, .int .i64 z.s, .int .i64 z.val, .bool z.yes, .slice hw.da z.ds.length hw.dc, .int .i64 z.slot, .int .i64 z.ep, .slice hw.va z.vs.length hw.vc, .slice hw.wa z.ws.length hw.wc, .slice hw.oa z.os.length hw.oc] 41)) w18.heap.size #[.int .i64 y.site, .bool y.up, .slice hh.la y.sl.length hh.lc, .slice hh.va y.vs.length hh.vc, .slice hh.wa y.ws.length hh.wc, .slice hh.oa y.os.length hh.oc, .slice hh.ka y.kn.length hh.kc] 32 := (Blk.new w18 _ _).alloc _
  have T18 : Blk ((w18.alloc (.cells #[.int .i64 y.site, .bool y.up, .slice hh.la y.sl.length hh.lc, .slice hh.va y.vs.length hh.vc, .slice hh.wa y.ws.length hh.wc, .slice hh.oa y.os.length hh.oc, .slice hh.ka y.kn.length hh.kc] 32)).alloc (.cells #[.int .i64 z.kind, .int .i64 z.fr, .int .i64 z.to, .int .i64 z.call, .int .i64 z.key, .int .i64 z.t, .int .i64 z.s, .int .i64 z.val, .bool z.yes, .slice hw.da z.ds.length hw.dc, .int .i64 z.slot, .int .i64 z.ep, .slice hw.va z.vs.length hw.vc, .slice hw.wa z.ws.length hw.wc, .slice hw.oa z.os.length hw.oc] 41)) (w18.heap.size + 1) #[.int .i64 z.kind, .int .i64 z.fr, .int .i64 z.to, .int .i64 z.call, .int .i64 z.key, .int .i64 z.t, .int .i64 z.s, .int .i64 z.val, .bool z.yes, .slice hw.da z.ds.length hw.dc, .int .i64 z.slot, .int .i64 z.ep, .slice hw.va z.vs.length hw.vc, .slice hw.wa z.ws.length hw.wc, .slice hw.oa z.os.length hw.oc] 41 := by have := Blk.new (w18.alloc (.cells #[.int .i64 y.site, .bool y.up, .slice hh.la y.sl.length hh.lc, .slice hh.va y.vs.length hh.vc, .slice hh.wa y.ws.length hh.wc, .slice hh.oa y.os.length hh.oc, .slice hh.ka y.kn.length hh.kc] 32)) #[.int .i64 z.kind, .int .i64 z.fr, .int .i64 z.to, .int .i64 z.call, .int .i64 z.key, .int .i64 z.t, .int .i64 z.s, .int .i64 z.val, .bool z.yes, .slice hw.da z.ds.length hw.dc, .int .i64 z.slot, .int .i64 z.ep, .slice hw.va z.vs.length hw.vc, .slice hw.wa z.ws.length hw.wc, .slice hw.oa z.os.length hw.oc] 41; simpa using this
  obtain ⟨q1, g1⟩ := E18'.rules
  obtain ⟨q2, g2⟩ := S18.rules
  clear E17 R17 H17 P17 Q17 V17 kJ17 hb18 M17 G18 GW18 bh bb18 hI E18' R18'
  have PK : Hid _ := And.intro hEy (And.intro hEz (And.intro hHy (And.intro hHz (And.intro J3' (And.intro JL3' (And.intro L3 (And.intro B3 (And.intro ex0 (And.intro ey0 (And.intro hey (And.intro R18 (And.intro H18 (And.intro P18 (And.intro Q18 (And.intro V18 (And.intro N18 (And.intro NW18 (And.intro S18 (And.intro T18 (kJ18))))))))))))))))))))
  clear kJ18 T18 S18 NW18 N18 V18 Q18 P18 H18 R18 hey ey0 ex0 B3 L3 JL3' J3' hHz hHy hEz hEy
  go_wp2_with fail
  obtain ⟨hEy, hEz, hHy, hHz, J3', JL3', L3, B3, ex0, ey0, hey, R18, H18, P18, Q18, V18, N18, NW18, S18, T18, kJ18⟩ := PK.out
  clear PK
  clear q1 g1 q2 g2
  generalize ((w18.alloc (.cells #[.int .i64 y.site, .bool y.up, .slice hh.la y.sl.length hh.lc, .slice hh.va y.vs.length hh.vc, .slice hh.wa y.ws.length hh.wc, .slice hh.oa y.os.length hh.oc, .slice hh.ka y.kn.length hh.kc] 32)).alloc (.cells #[.int .i64 z.kind, .int .i64 z.fr, .int .i64 z.to, .int .i64 z.call, .int .i64 z.key, .int .i64 z.t, .int .i64 z.s, .int .i64 z.val, .bool z.yes, .slice hw.da z.ds.length hw.dc, .int .i64 z.slot, .int .i64 z.ep, .slice hw.va z.vs.length hw.vc, .slice hw.wa z.ws.length hw.wc, .slice hw.oa z.os.length hw.oc] 41)) = U18 at *
  clear zE18b zE18c
  generalize w18.heap.size + 1 = tB at *
  as_aux_lemma =>
  refine (hEy hh b _ N18 (J3'.below kJ18)).mono ?_
  rintro e w19 ⟨rfl, hb19⟩
  have NW19 := NW18.below hb19
  have T19 := T18.below hb19 T18.lt
  have R19 := R18.below hb19 R18.lt
  have H19 := H18.below hb19 H18.lt
  have P19 := P18.below hb19 P18.lt
  have Q19 := Q18.below hb19
  have V19 := V18.below hb19
  have kJ19 := kJ18.trans (hb19.mono kJ18.size)
  clear H18 P18 Q18 V18 kJ18 hb19
  clear N18 NW18 S18 T18 R18 hEy
  obtain ⟨q1, g1⟩ := T19.rules
  obtain ⟨q2, g2⟩ := R19.rules
  have PK : Hid _ := And.intro hEz (And.intro hHy (And.intro hHz (And.intro J3' (And.intro JL3' (And.intro L3 (And.intro B3 (And.intro ex0 (And.intro ey0 (And.intro hey (And.intro T19 (And.intro R19 (And.intro H19 (And.intro P19 (And.intro Q19 (And.intro V19 (And.intro NW19 (kJ19)))))))))))))))))
  clear kJ19 NW19 V19 Q19 P19 H19 R19 T19 hey ey0 ex0 B3 L3 JL3' J3' hHz hHy hEz
  go_wp2_with fail
  obtain ⟨hEz, hHy, hHz, J3', JL3', L3, B3, ex0, ey0, hey, T19, R19, H19, P19, Q19, V19, NW19, kJ19⟩ := PK.out
  clear PK
  clear q1 g1 q2 g2
  refine (hEz hw c _ NW19 (JL3'.below kJ19)).mono ?_
  rintro e w20 ⟨rfl, hb20⟩
  have H20 := H19.below hb20 H19.lt
  have P20 := P19.below hb20 P19.lt
  have Q20 := Q19.below hb20
  have V20 := V19.below hb20
  have kJ20 := kJ19.trans (hb20.mono kJ19.size)
  clear H19 P19 Q19 V19 kJ19 hb20
  clear NW19 T19 R19 hEz
  obtain ⟨q1, g1⟩ := H20.rules
  have PK : Hid _ := And.intro hHy (And.intro hHz (And.intro J3' (And.intro JL3' (And.intro L3 (And.intro B3 (And.intro ex0 (And.intro ey0 (And.intro hey (And.intro H20 (And.intro P20 (And.intro Q20 (And.intro V20 (kJ20)))))))))))))
  clear kJ20 V20 Q20 P20 H20 hey ey0 ex0 B3 L3 JL3' J3' hHz hHy
  go_wp2_with fail
  obtain ⟨hHy, hHz, J3', JL3', L3, B3, ex0, ey0, hey, H20, P20, Q20, V20, kJ20⟩ := PK.out
  clear PK
  clear q1 g1
  refine (hHy g _ Q20).mono ?_
  rintro e w21 ⟨rfl, hb21⟩
  have H21 := H20.below hb21 H20.lt
  have P21 := P20.below hb21 P20.lt
  have Q21 := Q20.below hb21
  have V21 := V20.below hb21
  have kJ21 := kJ20.trans (hb21.mono kJ20.size)
  clear H20 P20 Q20 V20 kJ20 hb21
  obtain ⟨q1, g1⟩ := P21.rules
  have PK : Hid _ := And.intro hHy (And.intro hHz (And.intro J3' (And.intro JL3' (And.intro L3 (And.intro B3 (And.intro ex0 (And.intro ey0 (And.intro hey (And.intro H21 (And.intro P21 (And.intro Q21 (And.intro V21 (kJ21)))))))))))))
  clear kJ21 V21 Q21 P21 H21 hey ey0 ex0 B3 L3 JL3' J3' hHz hHy
  go_wp2_with fail
  obtain ⟨hHy, hHz, J3', JL3', L3, B3, ex0, ey0, hey, H21, P21, Q21, V21, kJ21⟩ := PK.out
  clear PK
  clear q1 g1
  refine (hHz gw _ V21).mono ?_
  rintro e w22 ⟨rfl, hb22⟩
  have kJ22 := kJ21.trans (hb22.mono kJ21.size)
  have B22 : Below w.heap.size w w22 := B3.trans (kJ22.mono B3.size)
  clear H21 P21 Q21 V21 kJ21 hb22 hHy hHz kJ22 B3 J3' JL3' L3
  go_wp2_with fail
  go_ret
  exact ⟨rfl, B22⟩
end Go.Proofs.YtpjidogilofppaaGreat
