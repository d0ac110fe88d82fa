/- The exact law of ServerStart. -/
import Derived.Test.YtgdkoangpinieaaSvStS
namespace Go.Proofs.Ytgdkoangpinieaa
open Go.ChangeShapes Go.WideShapes Go.ChangeAt Go.RowKit

theorem start_size (n : Int) : sizeS (startX n) ≤ 3 := by
  unfold startX
  split
  · split <;> simp [sizeS, tot]
  · simp [sizeS, tot]
theorem start_end (n : Int) : 0 ≤ endS 1 (startX n) ∧ endS 1 (startX n) ≤ 10000000 := by
  unfold startX
  split
  · split <;> simp [endS, endV, tot]
  · simp [endS, endV, tot]

set_option maxHeartbeats 8000000 in
set_option maxRecDepth 20000 in
theorem lawXStart (n : Int) (w : World) :
    Calls Try.prog 17 #[.int .i64 n] w fun e w' => e = .returned (.bool true) ∧ Below w.heap.size w w' := by
  have hS := fun W => sStart_any n W
  have hI := fun W => iStart_any n W
  have hs0 := start_size n
  have he := start_end n
  generalize startX n = x at *
  have hs : sizeS x ≤ 1048576 := by omega
  have hF := Fit.of hs
  have hE := fun c b W h h' => eqServer_any x c b W hF h h'
  have hM := fun a base W h => markServer_any x a [] [] base 1 W hs (by omega) he.2 h
  have hH := fun a W h => heldServer_any x a 1 W hs (by omega) he.2 h
  have e0 : 0 ≤ endS 1 x := he.1
  generalize endS 1 x = en at *
  clear hs0 he hs hF
  go_enter Try.func17, Try.ntmps17
  go_wp2_with fail
  refine (hS _).mono ?_
  rintro e w1 ⟨b, rfl, M1, hb1⟩
  have N1 := M1.inS.below ((Below.refl _ w1).alloc (Nat.le_refl _) (.cells #[.int .i64 x.site, .bool x.up, .slice b.la x.sl.length b.lc, .slice b.va x.vs.length b.vc, .slice b.wa x.ws.length b.wc, .slice b.oa x.os.length b.oc, .slice b.ka x.kn.length b.kc] 63))
  have E1 := Blk.new w1 #[.int .i64 x.site, .bool x.up, .slice b.la x.sl.length b.lc, .slice b.va x.vs.length b.vc, .slice b.wa x.ws.length b.wc, .slice b.oa x.os.length b.oc, .slice b.ka x.kn.length b.kc] 63
  have B1 : Below w.heap.size w (w1.alloc (.cells #[.int .i64 x.site, .bool x.up, .slice b.la x.sl.length b.lc, .slice b.va x.vs.length b.vc, .slice b.wa x.ws.length b.wc, .slice b.oa x.os.length b.oc, .slice b.ka x.kn.length b.kc] 63)) := hb1.alloc hb1.size _
  have z1 : w1.heap.size < (w1.alloc (.cells #[.int .i64 x.site, .bool x.up, .slice b.la x.sl.length b.lc, .slice b.va x.vs.length b.vc, .slice b.wa x.ws.length b.wc, .slice b.oa x.os.length b.oc, .slice b.ka x.kn.length b.kc] 63)).heap.size := by simp
  clear M1 hb1 hS
  go_wp2_with fail
  generalize w1.alloc (.cells #[.int .i64 x.site, .bool x.up, .slice b.la x.sl.length b.lc, .slice b.va x.vs.length b.vc, .slice b.wa x.ws.length b.wc, .slice b.oa x.os.length b.oc, .slice b.ka x.kn.length b.kc] 63) = U1 at *
  refine (hI _).mono ?_
  rintro e w2 ⟨g, rfl, G2, hb2⟩
  have b2 : Below w2.heap.size w2 (w2.alloc (.cells #[.int .i64 x.site, .bool x.up, .slice g.la x.sl.length g.lc, .slice g.va x.vs.length g.vc, .slice g.wa x.ws.length g.wc, .slice g.oa x.os.length g.oc, .slice g.ka x.kn.length g.kc] 63)) := (Below.refl _ w2).alloc (Nat.le_refl _) _
  have k2 : Below U1.heap.size U1 (w2.alloc (.cells #[.int .i64 x.site, .bool x.up, .slice g.la x.sl.length g.lc, .slice g.va x.vs.length g.vc, .slice g.wa x.ws.length g.wc, .slice g.oa x.os.length g.oc, .slice g.ka x.kn.length g.kc] 63)) := hb2.trans (b2.mono hb2.size)
  have E2 := E1.below k2 E1.lt
  have F2 := Blk.new w2 #[.int .i64 x.site, .bool x.up, .slice g.la x.sl.length g.lc, .slice g.va x.vs.length g.vc, .slice g.wa x.ws.length g.wc, .slice g.oa x.os.length g.oc, .slice g.ka x.kn.length g.kc] 63
  have hlt : Hid (∀ j, inSv x g [] [] j → U1.heap.size ≤ j ∧ j < w2.heap.size) := by show ∀ j, _; intro j hj; exact G2.lt hj
  have G3 := G2.below b2 (Nat.le_refl _)
  clear G2 b2 hb2 E1
  have ze2 := E2.lt
  obtain ⟨q1, g1⟩ := E2.rules
  obtain ⟨q2, g2⟩ := F2.rules
  go_wp2_with fail
  clear q1 g1 q2 g2
  generalize w2.alloc (.cells #[.int .i64 x.site, .bool x.up, .slice g.la x.sl.length g.lc, .slice g.va x.vs.length g.vc, .slice g.wa x.ws.length g.wc, .slice g.oa x.os.length g.oc, .slice g.ka x.kn.length g.kc] 63) = U2 at *
  refine (hE g b _ G3.inS (N1.below k2)).mono ?_
  rintro e w3 ⟨rfl, hb3⟩
  have E3 := E2.below hb3 E2.lt
  have F3 := F2.below hb3 F2.lt
  have G4 := G3.below hb3 (Nat.le_refl _)
  have k3 : Below U1.heap.size U1 w3 := k2.trans (hb3.mono k2.size)
  clear E2 F2 G3 k2 hb3
  obtain ⟨q2, g2⟩ := F3.rules
  go_wp2_with fail
  clear q2 g2
  refine (hM g U1.heap.size _ G4).mono ?_
  rintro e w4 ⟨rfl, H4, o4⟩
  have z3 := F3.lt
  have zz3 := k3.size
  have E4 := o4.blk E3 (fun hs => by rcases hs with hs | hs; omega; have := hlt.out _ hs; omega)
  have F4 := o4.blk F3 (fun hs => by rcases hs with hs | hs; omega; have := hlt.out _ hs; omega)
  have k4 : Below U1.heap.size U1 w4 := k3.trans (o4.below k3.size (fun j hj => by rcases hj with hj | hj; omega; exact (hlt.out j hj).1))
  clear E3 F3 G4 k3 o4 hM hlt
  obtain ⟨q2, g2⟩ := F4.rules
  go_wp2_with fail
  clear q2 g2
  refine (hH g _ H4).mono ?_
  rintro e w5 ⟨rfl, hb5⟩
  have E5 := E4.below hb5 E4.lt
  have F5 := F4.below hb5 F4.lt
  have H5 := H4.below hb5
  have k5 : Below U1.heap.size U1 w5 := k4.trans (hb5.mono k4.size)
  have d0 : decide (en < 0) = false := by simp; omega
  clear E4 F4 H4 k4 hb5
  go_wp2_with fail
  refine (hI _).mono ?_
  rintro e w6 ⟨h, rfl, G6, hb6⟩
  have E6' : w1.heap.size < w6.heap.size := Nat.lt_of_lt_of_le E5.lt hb6.size
  have b6 : Below w6.heap.size w6 (w6.alloc (.cells #[.int .i64 x.site, .bool x.up, .slice h.la x.sl.length h.lc, .slice h.va x.vs.length h.vc, .slice h.wa x.ws.length h.wc, .slice h.oa x.os.length h.oc, .slice h.ka x.kn.length h.kc] 63)) := (Below.refl _ w6).alloc (Nat.le_refl _) _
  have bb6 := hb6.trans (b6.mono hb6.size)
  have E6 := E5.below bb6 E5.lt
  have F6 := F5.below bb6 F5.lt
  have H6 := H5.below bb6
  have k6 : Below U1.heap.size U1 (w6.alloc (.cells #[.int .i64 x.site, .bool x.up, .slice h.la x.sl.length h.lc, .slice h.va x.vs.length h.vc, .slice h.wa x.ws.length h.wc, .slice h.oa x.os.length h.oc, .slice h.ka x.kn.length h.kc] 63)) := k5.trans (bb6.mono k5.size)
  have J6 := Blk.new w6 #[.int .i64 x.site, .bool x.up, .slice h.la x.sl.length h.lc, .slice h.va x.vs.length h.vc, .slice h.wa x.ws.length h.wc, .slice h.oa x.os.length h.oc, .slice h.ka x.kn.length h.kc] 63
  have N6 := G6.inS.below b6
  clear E5 F5 H5 k5 hb6 b6 bb6 G6 hI
  have ze6 := E6.lt
  obtain ⟨q1, g1⟩ := E6.rules
  obtain ⟨q2, g2⟩ := J6.rules
  go_wp2_with fail
  clear q1 g1 q2 g2
  generalize w6.alloc (.cells #[.int .i64 x.site, .bool x.up, .slice h.la x.sl.length h.lc, .slice h.va x.vs.length h.vc, .slice h.wa x.ws.length h.wc, .slice h.oa x.os.length h.oc, .slice h.ka x.kn.length h.kc] 63) = U6 at *
  refine (hE h b _ N6 (N1.below k6)).mono ?_
  rintro e w7 ⟨rfl, hb7⟩
  have F7 := F6.below hb7 F6.lt
  have H7 := H6.below hb7
  have k7 : Below U1.heap.size U1 w7 := k6.trans (hb7.mono k6.size)
  clear E6 F6 H6 k6 hb7 J6 N6
  obtain ⟨q2, g2⟩ := F7.rules
  go_wp2_with fail
  clear q2 g2
  refine (hH g _ H7).mono ?_
  rintro e w8 ⟨rfl, hb8⟩
  have B8 : Below w.heap.size w w8 := B1.trans ((k7.trans (hb8.mono k7.size)).mono B1.size)
  clear F7 H7 k7 hb8 B1 N1 hE hH
  go_wp2_with fail
  go_ret
  exact ⟨rfl, B8⟩
end Go.Proofs.Ytgdkoangpinieaa
