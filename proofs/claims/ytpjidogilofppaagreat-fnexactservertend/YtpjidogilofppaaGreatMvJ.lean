/- The program's ServerMove of a slot that leaves. -/
import Derived.Test.YtpjidogilofppaaGreatMvI
namespace Go.Proofs.YtpjidogilofppaaGreat
open Go.ChangeShapes Go.WideShapes Go.ChangeAt Go.RowKit

theorem goes0 {x : Sv} {t1 t2 t3 : Sl} (hs : servB x = true) (hg : goB x 0 = true) (he : x.sl = [t1, t2, t3]) : 0 ≤ x.site ∧ x.site ≤ 3 ∧ x.up = true ∧ ownsB [t1, t2, t3] 0 = true ∧ t1.ep < 9999 ∧ 0 ≤ t1.ep := by
  have h1 : inB x.site 0 3 = true := by unfold servB at hs; simp at hs; exact hs.1.1.1.1.1.1.2
  have h2 : slotsB x.sl = true := by unfold servB at hs; simp at hs; exact hs.1.1.1.1.1.1.1
  rw [he] at h2
  have h3 := (slotsB_iff.1 h2).2 t1 (by simp)
  unfold goB at hg
  rw [he] at hg
  simp at hg
  obtain ⟨⟨g1, g2⟩, g3⟩ := hg
  have e1 : epAt [t1, t2, t3] 0 = t1.ep := rfl
  unfold slB inB at h3
  unfold inB at h1
  simp at h1 h3
  exact ⟨by omega, by omega, g1, g2, by omega, by omega⟩
theorem goes1 {x : Sv} {t1 t2 t3 : Sl} (hs : servB x = true) (hg : goB x 1 = true) (he : x.sl = [t1, t2, t3]) : 0 ≤ x.site ∧ x.site ≤ 3 ∧ x.up = true ∧ ownsB [t1, t2, t3] 1 = true ∧ t2.ep < 9999 ∧ 0 ≤ t2.ep := by
  have h1 : inB x.site 0 3 = true := by unfold servB at hs; simp at hs; exact hs.1.1.1.1.1.1.2
  have h2 : slotsB x.sl = true := by unfold servB at hs; simp at hs; exact hs.1.1.1.1.1.1.1
  rw [he] at h2
  have h3 := (slotsB_iff.1 h2).2 t2 (by simp)
  unfold goB at hg
  rw [he] at hg
  simp at hg
  obtain ⟨⟨g1, g2⟩, g3⟩ := hg
  have e1 : epAt [t1, t2, t3] 1 = t2.ep := rfl
  unfold slB inB at h3
  unfold inB at h1
  simp at h1 h3
  exact ⟨by omega, by omega, g1, g2, by omega, by omega⟩
theorem goes2 {x : Sv} {t1 t2 t3 : Sl} (hs : servB x = true) (hg : goB x 2 = true) (he : x.sl = [t1, t2, t3]) : 0 ≤ x.site ∧ x.site ≤ 3 ∧ x.up = true ∧ ownsB [t1, t2, t3] 2 = true ∧ t3.ep < 9999 ∧ 0 ≤ t3.ep := by
  have h1 : inB x.site 0 3 = true := by unfold servB at hs; simp at hs; exact hs.1.1.1.1.1.1.2
  have h2 : slotsB x.sl = true := by unfold servB at hs; simp at hs; exact hs.1.1.1.1.1.1.1
  rw [he] at h2
  have h3 := (slotsB_iff.1 h2).2 t3 (by simp)
  unfold goB at hg
  rw [he] at hg
  simp at hg
  obtain ⟨⟨g1, g2⟩, g3⟩ := hg
  have e1 : epAt [t1, t2, t3] 2 = t3.ep := rfl
  unfold slB inB at h3
  unfold inB at h1
  simp at h1 h3
  exact ⟨by omega, by omega, g1, g2, by omega, by omega⟩

set_option maxHeartbeats 8000000 in
set_option maxRecDepth 20000 in
theorem iMove_goes0 (x : Sv) (a : Sa) (w : World) (hl : LenS x) (h : InS w x a) (hs : servB x = true) (hg : goB x 0 = true) : Calls Tryz.prog 17 #[servV x a, .int .i64 0] w fun e w' => ∃ b ys zs c us ts, e = .returned (.tuple #[servV (moveS x 0) b, wordV (moveW x 0) c, .bool (moveB x 0)]) ∧ OwnS w' w.heap.size (moveS x 0) b ys zs ∧ OwnW w' w.heap.size (moveW x 0) c us ts ∧ (∀ j, inSv (moveS x 0) b ys zs j → ¬ inWd (moveW x 0) c us ts j) ∧ Below w.heap.size w w' := by
  have b0 : Below w.heap.size w (((w.alloc (.cells #[.int .i64 x.site, .bool x.up, .slice a.la x.sl.length a.lc, .slice a.va x.vs.length a.vc, .slice a.wa x.ws.length a.wc, .slice a.oa x.os.length a.oc, .slice a.ka x.kn.length a.kc] 32)).alloc (.cells #[.int .i64 0, .bool false, .slice none 0 0, .slice none 0 0, .slice none 0 0, .slice none 0 0, .slice none 0 0] 32)).alloc (.cells #[.int .i64 0, .int .i64 0, .int .i64 0, .int .i64 0, .int .i64 0, .int .i64 0, .int .i64 0, .int .i64 0, .bool false, .slice none 0 0, .int .i64 0, .int .i64 0, .slice none 0 0, .slice none 0 0, .slice none 0 0] 41)) := (((Below.refl _ _).alloc (Nat.le_refl _) _).alloc (by simp) _).alloc (by simp; omega) _
  have S0 : Blk (((w.alloc (.cells #[.int .i64 x.site, .bool x.up, .slice a.la x.sl.length a.lc, .slice a.va x.vs.length a.vc, .slice a.wa x.ws.length a.wc, .slice a.oa x.os.length a.oc, .slice a.ka x.kn.length a.kc] 32)).alloc (.cells #[.int .i64 0, .bool false, .slice none 0 0, .slice none 0 0, .slice none 0 0, .slice none 0 0, .slice none 0 0] 32)).alloc (.cells #[.int .i64 0, .int .i64 0, .int .i64 0, .int .i64 0, .int .i64 0, .int .i64 0, .int .i64 0, .int .i64 0, .bool false, .slice none 0 0, .int .i64 0, .int .i64 0, .slice none 0 0, .slice none 0 0, .slice none 0 0] 41)) (w.heap.size + 1) #[.int .i64 0, .bool false, .slice none 0 0, .slice none 0 0, .slice none 0 0, .slice none 0 0, .slice none 0 0] 32 := by have := (Blk.new (w.alloc (.cells #[.int .i64 x.site, .bool x.up, .slice a.la x.sl.length a.lc, .slice a.va x.vs.length a.vc, .slice a.wa x.ws.length a.wc, .slice a.oa x.os.length a.oc, .slice a.ka x.kn.length a.kc] 32)) #[.int .i64 0, .bool false, .slice none 0 0, .slice none 0 0, .slice none 0 0, .slice none 0 0, .slice none 0 0] 32).alloc (.cells #[.int .i64 0, .int .i64 0, .int .i64 0, .int .i64 0, .int .i64 0, .int .i64 0, .int .i64 0, .int .i64 0, .bool false, .slice none 0 0, .int .i64 0, .int .i64 0, .slice none 0 0, .slice none 0 0, .slice none 0 0] 41); simpa using this
  have W0 : Blk (((w.alloc (.cells #[.int .i64 x.site, .bool x.up, .slice a.la x.sl.length a.lc, .slice a.va x.vs.length a.vc, .slice a.wa x.ws.length a.wc, .slice a.oa x.os.length a.oc, .slice a.ka x.kn.length a.kc] 32)).alloc (.cells #[.int .i64 0, .bool false, .slice none 0 0, .slice none 0 0, .slice none 0 0, .slice none 0 0, .slice none 0 0] 32)).alloc (.cells #[.int .i64 0, .int .i64 0, .int .i64 0, .int .i64 0, .int .i64 0, .int .i64 0, .int .i64 0, .int .i64 0, .bool false, .slice none 0 0, .int .i64 0, .int .i64 0, .slice none 0 0, .slice none 0 0, .slice none 0 0] 41)) (w.heap.size + 1 + 1) #[.int .i64 0, .int .i64 0, .int .i64 0, .int .i64 0, .int .i64 0, .int .i64 0, .int .i64 0, .int .i64 0, .bool false, .slice none 0 0, .int .i64 0, .int .i64 0, .slice none 0 0, .slice none 0 0, .slice none 0 0] 41 := by have := Blk.new ((w.alloc (.cells #[.int .i64 x.site, .bool x.up, .slice a.la x.sl.length a.lc, .slice a.va x.vs.length a.vc, .slice a.wa x.ws.length a.wc, .slice a.oa x.os.length a.oc, .slice a.ka x.kn.length a.kc] 32)).alloc (.cells #[.int .i64 0, .bool false, .slice none 0 0, .slice none 0 0, .slice none 0 0, .slice none 0 0, .slice none 0 0] 32)) #[.int .i64 0, .int .i64 0, .int .i64 0, .int .i64 0, .int .i64 0, .int .i64 0, .int .i64 0, .int .i64 0, .bool false, .slice none 0 0, .int .i64 0, .int .i64 0, .slice none 0 0, .slice none 0 0, .slice none 0 0] 41; simpa using this
  have L0 := h.below b0
  clear h
  obtain ⟨m1, m2, m3⟩ := move_goes hs hg
  obtain ⟨t1, t2, t3, he⟩ := slotsB_three (xs := x.sl) (by unfold servB at hs; simp at hs; exact hs.1.1.1.1.1.1.1)
  obtain ⟨s0, s3, hu, hw1, he1, hz1⟩ := goes0 hs hg he
  have HU : Hid (x.up = true) := hu
  clear hu
  have HSL : Hid (x.sl = [t1, t2, t3]) := he
  have HN : leftX x 0 = ⟨x.site, x.up, [⟨t1.ep + 1, 2⟩, t2, t3], x.vs, x.ws, x.os, x.kn⟩ ∧ bulkX (leftX x 0) 0 = parcelX x.site 0 (t1.ep + 1) x.vs x.ws x.os := by
    unfold leftX bulkX parcelX
    rw [he]
    exact ⟨rfl, rfl⟩
  rw [m1, m2, m3, HN.2, HN.1]
  clear m1 m2 m3 HN
  have hL := fun B v wv o kk W h => leave_yes0 B x.site v wv o kk t1 t2 t3 W h hw1 he1 hz1
  have hP := fun B va wa oa vc wk oc kv W h1 h2 h3 h4 => parcel0_any B x.site true va wa oa vc wk oc kv x.vs x.ws x.os ⟨t1.ep + 1, 2⟩ t2 t3 W h1 h2 h3 h4 hl.v hl.w hl.o s0 s3
  dsimp only at hP
  generalize parcelX x.site 0 (t1.ep + 1) x.vs x.ws x.os = z at *
  clear he hg hw1 he1 hz1
  go_enter Tryz.func17, Tryz.ntmps17
  go_wp2_with fail
  generalize (((w.alloc (.cells #[.int .i64 x.site, .bool x.up, .slice a.la x.sl.length a.lc, .slice a.va x.vs.length a.vc, .slice a.wa x.ws.length a.wc, .slice a.oa x.os.length a.oc, .slice a.ka x.kn.length a.kc] 32)).alloc (.cells #[.int .i64 0, .bool false, .slice none 0 0, .slice none 0 0, .slice none 0 0, .slice none 0 0, .slice none 0 0] 32)).alloc (.cells #[.int .i64 0, .int .i64 0, .int .i64 0, .int .i64 0, .int .i64 0, .int .i64 0, .int .i64 0, .int .i64 0, .bool false, .slice none 0 0, .int .i64 0, .int .i64 0, .slice none 0 0, .slice none 0 0, .slice none 0 0] 41)) = v0 at *
  refine (hostOf_yes x a t1 t2 t3 _ hl L0 hs HSL.out).mono ?_
  rintro e w1 ⟨va, vc, wa, wc, oa, oc, ka, kc, ys, zs, rfl, K1, hb⟩
  have bt : Below w1.heap.size w1 (w1.alloc (.cells #[.slice va x.vs.length vc, .slice wa x.ws.length wc, .slice oa x.os.length oc, .int .i64 x.site, .bool x.up, .int .i64 t1.ep, .int .i64 t1.st, .int .i64 t2.ep, .int .i64 t2.st, .int .i64 t3.ep, .int .i64 t3.st, .slice ka x.kn.length kc] 88)) := (Below.refl _ _).alloc (Nat.le_refl _) _
  have H1 := Blk.new w1 #[.slice va x.vs.length vc, .slice wa x.ws.length wc, .slice oa x.os.length oc, .int .i64 x.site, .bool x.up, .int .i64 t1.ep, .int .i64 t1.st, .int .i64 t2.ep, .int .i64 t2.st, .int .i64 t3.ep, .int .i64 t3.st, .slice ka x.kn.length kc] 88
  have S1 := (S0.below hb S0.lt).below bt (S0.below hb S0.lt).lt
  have W1 := (W0.below hb W0.lt).below bt (W0.below hb W0.lt).lt
  have K2 := K1.below bt (Nat.le_refl _)
  have kl : Hid (∀ j, inSv x ⟨none, 0, va, vc, wa, wc, oa, oc, ka, kc⟩ ys zs j → j < w1.heap.size) := by show ∀ j, _; intro j hj; exact K1.lt hj
  have B1 : Below w.heap.size w (w1.alloc (.cells #[.slice va x.vs.length vc, .slice wa x.ws.length wc, .slice oa x.os.length oc, .int .i64 x.site, .bool x.up, .int .i64 t1.ep, .int .i64 t1.st, .int .i64 t2.ep, .int .i64 t2.st, .int .i64 t3.ep, .int .i64 t3.st, .slice ka x.kn.length kc] 88)) := (b0.trans (hb.mono b0.size)).trans (bt.mono (by have := b0.size; have := hb.size; omega))
  have n0 := b0.size
  have n1 := hb.size
  have z0 := W0.lt
  have zS := S1.lt
  have zW := W1.lt
  have zu : w1.heap.size < (w1.alloc (.cells #[.slice va x.vs.length vc, .slice wa x.ws.length wc, .slice oa x.os.length oc, .int .i64 x.site, .bool x.up, .int .i64 t1.ep, .int .i64 t1.st, .int .i64 t2.ep, .int .i64 t2.st, .int .i64 t3.ep, .int .i64 t3.st, .slice ka x.kn.length kc] 88)).heap.size := H1.lt
  clear S0 W0 b0 hb L0 hs K1 bt
  go_wp2_with fail
  generalize (w1.alloc (.cells #[.slice va x.vs.length vc, .slice wa x.ws.length wc, .slice oa x.os.length oc, .int .i64 x.site, .bool x.up, .int .i64 t1.ep, .int .i64 t1.st, .int .i64 t2.ep, .int .i64 t2.st, .int .i64 t3.ep, .int .i64 t3.st, .slice ka x.kn.length kc] 88)) = u1 at *
  have H1' := H1
  rw [HU.out] at H1'
  refine (hL _ _ _ _ _ _ H1').mono ?_
  rintro e w2 ⟨rfl, H2, o2⟩
  have S2 := o2.blk S1 (fun hS => by rcases hS with hS | hS <;> omega)
  have W2 := o2.blk W1 (fun hS => by rcases hS with hS | hS <;> omega)
  have K3 := K2.of_only o2 (fun j hj hS => by have := kl.out j hj; rcases hS with hS | hS <;> omega)
  have B2 : Below w.heap.size w w2 := B1.trans (o2.below B1.size (fun j hj => by have := B1.size; rcases hj with hj | hj <;> omega))
  have n2 := o2.size
  clear hL H1 H1' S1 W1 K2 B1 o2
  obtain ⟨q1, g1⟩ := H2.rules
  go_wp2_with fail
  clear q1 g1
  refine (hP w1.heap.size va wa oa vc wc oc (.slice ka x.kn.length kc) _ H2 (K3.v.asV K3.hy) (K3.w.asV K3.hz) (row_deps' K3.o)).mono ?_
  rintro e w3 ⟨c, us, ts, rfl, OW, hb3⟩
  have n3 := hb3.size
  have bt3 : Below w3.heap.size w3 (w3.alloc (.cells #[.int .i64 z.kind, .int .i64 z.fr, .int .i64 z.to, .int .i64 z.call, .int .i64 z.key, .int .i64 z.t, .int .i64 z.s, .int .i64 z.val, .bool z.yes, .slice c.da z.ds.length c.dc, .int .i64 z.slot, .int .i64 z.ep, .slice c.va z.vs.length c.vc, .slice c.wa z.ws.length c.wc, .slice c.oa z.os.length c.oc] 41)) := (Below.refl _ _).alloc (Nat.le_refl _) _
  have X3 := Blk.new w3 #[.int .i64 z.kind, .int .i64 z.fr, .int .i64 z.to, .int .i64 z.call, .int .i64 z.key, .int .i64 z.t, .int .i64 z.s, .int .i64 z.val, .bool z.yes, .slice c.da z.ds.length c.dc, .int .i64 z.slot, .int .i64 z.ep, .slice c.va z.vs.length c.vc, .slice c.wa z.ws.length c.wc, .slice c.oa z.os.length c.oc] 41
  have H3 := (H2.below hb3 H2.lt).below bt3 (H2.below hb3 H2.lt).lt
  have S3 := (S2.below hb3 S2.lt).below bt3 (S2.below hb3 S2.lt).lt
  have W3 := (W2.below hb3 W2.lt).below bt3 (W2.below hb3 W2.lt).lt
  have K4 := (K3.below hb3 (Nat.le_refl _)).below bt3 (Nat.le_refl _)
  have OW3 := OW.below bt3 (Nat.le_refl _)
  have B3 : Below w.heap.size w (w3.alloc (.cells #[.int .i64 z.kind, .int .i64 z.fr, .int .i64 z.to, .int .i64 z.call, .int .i64 z.key, .int .i64 z.t, .int .i64 z.s, .int .i64 z.val, .bool z.yes, .slice c.da z.ds.length c.dc, .int .i64 z.slot, .int .i64 z.ep, .slice c.va z.vs.length c.vc, .slice c.wa z.ws.length c.wc, .slice c.oa z.os.length c.oc] 41)) := (B2.trans (hb3.mono B2.size)).trans (bt3.mono (by have := B2.size; omega))
  have OWl : Hid (∀ j, inWd z c us ts j → w2.heap.size ≤ j ∧ j < w3.heap.size) := by show ∀ j, _; intro j hj; exact OW.lt hj
  have zu3 : w3.heap.size < (w3.alloc (.cells #[.int .i64 z.kind, .int .i64 z.fr, .int .i64 z.to, .int .i64 z.call, .int .i64 z.key, .int .i64 z.t, .int .i64 z.s, .int .i64 z.val, .bool z.yes, .slice c.da z.ds.length c.dc, .int .i64 z.slot, .int .i64 z.ep, .slice c.va z.vs.length c.vc, .slice c.wa z.ws.length c.wc, .slice c.oa z.os.length c.oc] 41)).heap.size := X3.lt
  clear S2 W2 K3 B2 hb3 H2 OW bt3
  go_wp2_with fail
  generalize (w3.alloc (.cells #[.int .i64 z.kind, .int .i64 z.fr, .int .i64 z.to, .int .i64 z.call, .int .i64 z.key, .int .i64 z.t, .int .i64 z.s, .int .i64 z.val, .bool z.yes, .slice c.da z.ds.length c.dc, .int .i64 z.slot, .int .i64 z.ep, .slice c.va z.vs.length c.vc, .slice c.wa z.ws.length c.wc, .slice c.oa z.os.length c.oc] 41)) = u3 at *
  have k1 : (∀ j, u3.drew.cell? ⟨w1.heap.size, j, none⟩ = (hostC x.site true (.slice va x.vs.length vc) (.slice wa x.ws.length wc) (.slice oa x.os.length oc) (.slice ka x.kn.length kc) ⟨t1.ep + 1, 2⟩ t2 t3)[j]?) ∧ (∀ j, u3.drew.cell? ⟨w3.heap.size, j, none⟩ = #[.int .i64 z.kind, .int .i64 z.fr, .int .i64 z.to, .int .i64 z.call, .int .i64 z.key, .int .i64 z.t, .int .i64 z.s, .int .i64 z.val, .bool z.yes, .slice c.da z.ds.length c.dc, .int .i64 z.slot, .int .i64 z.ep, .slice c.va z.vs.length c.vc, .slice c.wa z.ws.length c.wc, .slice c.oa z.os.length c.oc][j]?) := ⟨(H3.below (Below.refl _ _).drew H3.lt).cell, (X3.below (Below.refl _ _).drew X3.lt).cell⟩
  have hV := fun W => server_any x.site true va wa oa ka x.vs.length vc x.ws.length wc x.os.length oc x.kn.length kc ⟨t1.ep + 1, 2⟩ t2 t3 W
  have zS3 := S3.lt
  have zW3 := W3.lt
  go_region_held3 (fun W => (∀ j, W.cell? ⟨w1.heap.size, j, none⟩ = (hostC x.site true (.slice va x.vs.length vc) (.slice wa x.ws.length wc) (.slice oa x.os.length oc) (.slice ka x.kn.length kc) ⟨t1.ep + 1, 2⟩ t2 t3)[j]?) ∧ (∀ j, W.cell? ⟨w3.heap.size, j, none⟩ = #[.int .i64 z.kind, .int .i64 z.fr, .int .i64 z.to, .int .i64 z.call, .int .i64 z.key, .int .i64 z.t, .int .i64 z.s, .int .i64 z.val, .bool z.yes, .slice c.da z.ds.length c.dc, .int .i64 z.slot, .int .i64 z.ep, .slice c.va z.vs.length c.vc, .slice c.wa z.ws.length c.wc, .slice c.oa z.os.length c.oc][j]?)) (with_reducible (first | exact k1 | exact k2 | exact k3 | exact k4)) (first | (go_at_call 50; refine (hV _).mono ?_; rintro e w4 ⟨pa, pc, rfl, RS, hb4⟩; have b4 : Below u3.heap.size u3 w4 := ((Below.refl u3.heap.size u3).drew).trans hb4; have S4 := S3.below b4 S3.lt; have W4 := W3.below b4 W3.lt; have H4 := H3.below b4 H3.lt; have X4 := X3.below b4 X3.lt; have k2 : (∀ j, w4.cell? ⟨w1.heap.size, j, none⟩ = (hostC x.site true (.slice va x.vs.length vc) (.slice wa x.ws.length wc) (.slice oa x.os.length oc) (.slice ka x.kn.length kc) ⟨t1.ep + 1, 2⟩ t2 t3)[j]?) ∧ (∀ j, w4.cell? ⟨w3.heap.size, j, none⟩ = #[.int .i64 z.kind, .int .i64 z.fr, .int .i64 z.to, .int .i64 z.call, .int .i64 z.key, .int .i64 z.t, .int .i64 z.s, .int .i64 z.val, .bool z.yes, .slice c.da z.ds.length c.dc, .int .i64 z.slot, .int .i64 z.ep, .slice c.va z.vs.length c.vc, .slice c.wa z.ws.length c.wc, .slice c.oa z.os.length c.oc][j]?) := ⟨H4.cell, X4.cell⟩; have k3 : (∀ j, (((((((w4.setCell ⟨w.heap.size + 1, 0, none⟩ (.int .i64 x.site)).setCell ⟨w.heap.size + 1, 1, none⟩ (.bool true)).setCell ⟨w.heap.size + 1, 2, none⟩ (.slice pa 3 pc)).setCell ⟨w.heap.size + 1, 3, none⟩ (.slice va x.vs.length vc)).setCell ⟨w.heap.size + 1, 4, none⟩ (.slice wa x.ws.length wc)).setCell ⟨w.heap.size + 1, 5, none⟩ (.slice oa x.os.length oc)).setCell ⟨w.heap.size + 1, 6, none⟩ (.slice ka x.kn.length kc)).cell? ⟨w1.heap.size, j, none⟩ = (hostC x.site true (.slice va x.vs.length vc) (.slice wa x.ws.length wc) (.slice oa x.os.length oc) (.slice ka x.kn.length kc) ⟨t1.ep + 1, 2⟩ t2 t3)[j]?) ∧ (∀ j, (((((((w4.setCell ⟨w.heap.size + 1, 0, none⟩ (.int .i64 x.site)).setCell ⟨w.heap.size + 1, 1, none⟩ (.bool true)).setCell ⟨w.heap.size + 1, 2, none⟩ (.slice pa 3 pc)).setCell ⟨w.heap.size + 1, 3, none⟩ (.slice va x.vs.length vc)).setCell ⟨w.heap.size + 1, 4, none⟩ (.slice wa x.ws.length wc)).setCell ⟨w.heap.size + 1, 5, none⟩ (.slice oa x.os.length oc)).setCell ⟨w.heap.size + 1, 6, none⟩ (.slice ka x.kn.length kc)).cell? ⟨w3.heap.size, j, none⟩ = #[.int .i64 z.kind, .int .i64 z.fr, .int .i64 z.to, .int .i64 z.call, .int .i64 z.key, .int .i64 z.t, .int .i64 z.s, .int .i64 z.val, .bool z.yes, .slice c.da z.ds.length c.dc, .int .i64 z.slot, .int .i64 z.ep, .slice c.va z.vs.length c.vc, .slice c.wa z.ws.length c.wc, .slice c.oa z.os.length c.oc][j]?) := ⟨(fill7_only.blk H4 (by omega)).cell, (fill7_only.blk X4 (by omega)).cell⟩; have k4 : (∀ j, ((((((((((((((((((((((w4.setCell ⟨w.heap.size + 1, 0, none⟩ (.int .i64 x.site)).setCell ⟨w.heap.size + 1, 1, none⟩ (.bool true)).setCell ⟨w.heap.size + 1, 2, none⟩ (.slice pa 3 pc)).setCell ⟨w.heap.size + 1, 3, none⟩ (.slice va x.vs.length vc)).setCell ⟨w.heap.size + 1, 4, none⟩ (.slice wa x.ws.length wc)).setCell ⟨w.heap.size + 1, 5, none⟩ (.slice oa x.os.length oc)).setCell ⟨w.heap.size + 1, 6, none⟩ (.slice ka x.kn.length kc)).setCell ⟨w.heap.size + 1 + 1, 0, none⟩ (.int .i64 z.kind)).setCell ⟨w.heap.size + 1 + 1, 1, none⟩ (.int .i64 z.fr)).setCell ⟨w.heap.size + 1 + 1, 2, none⟩ (.int .i64 z.to)).setCell ⟨w.heap.size + 1 + 1, 3, none⟩ (.int .i64 z.call)).setCell ⟨w.heap.size + 1 + 1, 4, none⟩ (.int .i64 z.key)).setCell ⟨w.heap.size + 1 + 1, 5, none⟩ (.int .i64 z.t)).setCell ⟨w.heap.size + 1 + 1, 6, none⟩ (.int .i64 z.s)).setCell ⟨w.heap.size + 1 + 1, 7, none⟩ (.int .i64 z.val)).setCell ⟨w.heap.size + 1 + 1, 8, none⟩ (.bool z.yes)).setCell ⟨w.heap.size + 1 + 1, 9, none⟩ (.slice c.da z.ds.length c.dc)).setCell ⟨w.heap.size + 1 + 1, 10, none⟩ (.int .i64 z.slot)).setCell ⟨w.heap.size + 1 + 1, 11, none⟩ (.int .i64 z.ep)).setCell ⟨w.heap.size + 1 + 1, 12, none⟩ (.slice c.va z.vs.length c.vc)).setCell ⟨w.heap.size + 1 + 1, 13, none⟩ (.slice c.wa z.ws.length c.wc)).setCell ⟨w.heap.size + 1 + 1, 14, none⟩ (.slice c.oa z.os.length c.oc)).cell? ⟨w1.heap.size, j, none⟩ = (hostC x.site true (.slice va x.vs.length vc) (.slice wa x.ws.length wc) (.slice oa x.os.length oc) (.slice ka x.kn.length kc) ⟨t1.ep + 1, 2⟩ t2 t3)[j]?) ∧ (∀ j, ((((((((((((((((((((((w4.setCell ⟨w.heap.size + 1, 0, none⟩ (.int .i64 x.site)).setCell ⟨w.heap.size + 1, 1, none⟩ (.bool true)).setCell ⟨w.heap.size + 1, 2, none⟩ (.slice pa 3 pc)).setCell ⟨w.heap.size + 1, 3, none⟩ (.slice va x.vs.length vc)).setCell ⟨w.heap.size + 1, 4, none⟩ (.slice wa x.ws.length wc)).setCell ⟨w.heap.size + 1, 5, none⟩ (.slice oa x.os.length oc)).setCell ⟨w.heap.size + 1, 6, none⟩ (.slice ka x.kn.length kc)).setCell ⟨w.heap.size + 1 + 1, 0, none⟩ (.int .i64 z.kind)).setCell ⟨w.heap.size + 1 + 1, 1, none⟩ (.int .i64 z.fr)).setCell ⟨w.heap.size + 1 + 1, 2, none⟩ (.int .i64 z.to)).setCell ⟨w.heap.size + 1 + 1, 3, none⟩ (.int .i64 z.call)).setCell ⟨w.heap.size + 1 + 1, 4, none⟩ (.int .i64 z.key)).setCell ⟨w.heap.size + 1 + 1, 5, none⟩ (.int .i64 z.t)).setCell ⟨w.heap.size + 1 + 1, 6, none⟩ (.int .i64 z.s)).setCell ⟨w.heap.size + 1 + 1, 7, none⟩ (.int .i64 z.val)).setCell ⟨w.heap.size + 1 + 1, 8, none⟩ (.bool z.yes)).setCell ⟨w.heap.size + 1 + 1, 9, none⟩ (.slice c.da z.ds.length c.dc)).setCell ⟨w.heap.size + 1 + 1, 10, none⟩ (.int .i64 z.slot)).setCell ⟨w.heap.size + 1 + 1, 11, none⟩ (.int .i64 z.ep)).setCell ⟨w.heap.size + 1 + 1, 12, none⟩ (.slice c.va z.vs.length c.vc)).setCell ⟨w.heap.size + 1 + 1, 13, none⟩ (.slice c.wa z.ws.length c.wc)).setCell ⟨w.heap.size + 1 + 1, 14, none⟩ (.slice c.oa z.os.length c.oc)).cell? ⟨w3.heap.size, j, none⟩ = #[.int .i64 z.kind, .int .i64 z.fr, .int .i64 z.to, .int .i64 z.call, .int .i64 z.key, .int .i64 z.t, .int .i64 z.s, .int .i64 z.val, .bool z.yes, .slice c.da z.ds.length c.dc, .int .i64 z.slot, .int .i64 z.ep, .slice c.va z.vs.length c.vc, .slice c.wa z.ws.length c.wc, .slice c.oa z.os.length c.oc][j]?) := ⟨(fill22_only.blk H4 (by omega)).cell, (fill22_only.blk X4 (by omega)).cell⟩; obtain ⟨qs, gs⟩ := S4.rules; obtain ⟨qw, gw⟩ := W4.rules))
  all_goals go_wp2_with fail
  all_goals
    have K5 := K4.below b4 (Nat.le_refl _)
    have OW5 := OW3.below b4 (Nat.le_refl _)
    have B5 : Below w.heap.size w w4 := B3.trans (b4.mono B3.size)
    have OS : OwnS w4 v0.heap.size ⟨x.site, x.up, [⟨t1.ep + 1, 2⟩, t2, t3], x.vs, x.ws, x.os, x.kn⟩ ⟨pa, pc, va, vc, wa, wc, oa, oc, ka, kc⟩ ys zs := ⟨row_mono RS (by show _ ≤ u3.heap.size; omega), K5.v, K5.w, K5.o, K5.k, K5.hy, K5.hz, K5.vw, K5.vo, K5.vk, K5.wo, K5.wk, K5.ok⟩
    have OSl : ∀ j, inSv ⟨x.site, x.up, [⟨t1.ep + 1, 2⟩, t2, t3], x.vs, x.ws, x.os, x.kn⟩ ⟨pa, pc, va, vc, wa, wc, oa, oc, ka, kc⟩ ys zs j → v0.heap.size ≤ j ∧ (j < w1.heap.size ∨ u3.heap.size ≤ j) := fun j hj => by
      refine ⟨(OS.lt hj).1, ?_⟩
      rcases hj with hj | hj | hj | hj | hj
      · exact .inr (RS.lt j hj).1
      · exact .inl (kl.out j (.inr (.inl hj)))
      · exact .inl (kl.out j (.inr (.inr (.inl hj))))
      · exact .inl (kl.out j (.inr (.inr (.inr (.inl hj)))))
      · exact .inl (kl.out j (.inr (.inr (.inr (.inr hj)))))
    have OWl2 := OWl.out
    refine bodyPost_ret (v := .tuple #[.agg #[.int .i64 x.site, .bool true, .slice pa 3 pc, .slice va x.vs.length vc, .slice wa x.ws.length wc, .slice oa x.os.length oc, .slice ka x.kn.length kc], .agg #[.int .i64 z.kind, .int .i64 z.fr, .int .i64 z.to, .int .i64 z.call, .int .i64 z.key, .int .i64 z.t, .int .i64 z.s, .int .i64 z.val, .bool z.yes, .slice c.da z.ds.length c.dc, .int .i64 z.slot, .int .i64 z.ep, .slice c.va z.vs.length c.vc, .slice c.wa z.ws.length c.wc, .slice c.oa z.os.length c.oc], .bool true]) ?_ rfl ⟨⟨pa, pc, va, vc, wa, wc, oa, oc, ka, kc⟩, ys, zs, c, us, ts, by show Ending.returned _ = Ending.returned (Value.tuple #[Value.agg #[.int .i64 x.site, .bool x.up, .slice pa 3 pc, .slice va x.vs.length vc, .slice wa x.ws.length wc, .slice oa x.os.length oc, .slice ka x.kn.length kc], _, _]); rw [HU.out], ?_, ?_, fun j hj hj' => by have := OSl j hj; have := OWl2 j hj'; omega, fill22_below B5 (by omega) (by omega)⟩
    · refine Blk.gen2 (A := w.heap.size + 1) (B := w.heap.size + 1 + 1) (vs := #[.int .i64 x.site, .bool true, .slice pa 3 pc, .slice va x.vs.length vc, .slice wa x.ws.length wc, .slice oa x.os.length oc, .slice ka x.kn.length kc]) (us := #[.int .i64 z.kind, .int .i64 z.fr, .int .i64 z.to, .int .i64 z.call, .int .i64 z.key, .int .i64 z.t, .int .i64 z.s, .int .i64 z.val, .bool z.yes, .slice c.da z.ds.length c.dc, .int .i64 z.slot, .int .i64 z.ep, .slice c.va z.vs.length c.vc, .slice c.wa z.ws.length c.wc, .slice c.oa z.os.length c.oc]) (T := 32) (T' := 41) (P := fun W => (results Tryz.f17 _).run Tryz.prog W = .ok _ W) (fill22 S4 W4 (by omega)).1 (fill22 S4 W4 (by omega)).2 ?_
      intro W hA hB
      obtain ⟨k1, f1⟩ := hA.rules
      obtain ⟨k2, f2⟩ := hB.rules
      simp [results, Tryz.results17, go_sem, k1, k2]
    · exact (fill22_only.ownS OS (fun j hj hS => by have := OSl j hj; rcases hS with hS | hS <;> omega)).mono (by omega)
    · exact (fill22_only.ownW OW5 (fun j hj hS => by have := OWl2 j hj; rcases hS with hS | hS <;> omega)).mono (by omega)

set_option maxHeartbeats 8000000 in
set_option maxRecDepth 20000 in
theorem iMove_goes1 (x : Sv) (a : Sa) (w : World) (hl : LenS x) (h : InS w x a) (hs : servB x = true) (hg : goB x 1 = true) : Calls Tryz.prog 17 #[servV x a, .int .i64 1] w fun e w' => ∃ b ys zs c us ts, e = .returned (.tuple #[servV (moveS x 1) b, wordV (moveW x 1) c, .bool (moveB x 1)]) ∧ OwnS w' w.heap.size (moveS x 1) b ys zs ∧ OwnW w' w.heap.size (moveW x 1) c us ts ∧ (∀ j, inSv (moveS x 1) b ys zs j → ¬ inWd (moveW x 1) c us ts j) ∧ Below w.heap.size w w' := by
  have b0 : Below w.heap.size w (((w.alloc (.cells #[.int .i64 x.site, .bool x.up, .slice a.la x.sl.length a.lc, .slice a.va x.vs.length a.vc, .slice a.wa x.ws.length a.wc, .slice a.oa x.os.length a.oc, .slice a.ka x.kn.length a.kc] 32)).alloc (.cells #[.int .i64 0, .bool false, .slice none 0 0, .slice none 0 0, .slice none 0 0, .slice none 0 0, .slice none 0 0] 32)).alloc (.cells #[.int .i64 0, .int .i64 0, .int .i64 0, .int .i64 0, .int .i64 0, .int .i64 0, .int .i64 0, .int .i64 0, .bool false, .slice none 0 0, .int .i64 0, .int .i64 0, .slice none 0 0, .slice none 0 0, .slice none 0 0] 41)) := (((Below.refl _ _).alloc (Nat.le_refl _) _).alloc (by simp) _).alloc (by simp; omega) _
  have S0 : Blk (((w.alloc (.cells #[.int .i64 x.site, .bool x.up, .slice a.la x.sl.length a.lc, .slice a.va x.vs.length a.vc, .slice a.wa x.ws.length a.wc, .slice a.oa x.os.length a.oc, .slice a.ka x.kn.length a.kc] 32)).alloc (.cells #[.int .i64 0, .bool false, .slice none 0 0, .slice none 0 0, .slice none 0 0, .slice none 0 0, .slice none 0 0] 32)).alloc (.cells #[.int .i64 0, .int .i64 0, .int .i64 0, .int .i64 0, .int .i64 0, .int .i64 0, .int .i64 0, .int .i64 0, .bool false, .slice none 0 0, .int .i64 0, .int .i64 0, .slice none 0 0, .slice none 0 0, .slice none 0 0] 41)) (w.heap.size + 1) #[.int .i64 0, .bool false, .slice none 0 0, .slice none 0 0, .slice none 0 0, .slice none 0 0, .slice none 0 0] 32 := by have := (Blk.new (w.alloc (.cells #[.int .i64 x.site, .bool x.up, .slice a.la x.sl.length a.lc, .slice a.va x.vs.length a.vc, .slice a.wa x.ws.length a.wc, .slice a.oa x.os.length a.oc, .slice a.ka x.kn.length a.kc] 32)) #[.int .i64 0, .bool false, .slice none 0 0, .slice none 0 0, .slice none 0 0, .slice none 0 0, .slice none 0 0] 32).alloc (.cells #[.int .i64 0, .int .i64 0, .int .i64 0, .int .i64 0, .int .i64 0, .int .i64 0, .int .i64 0, .int .i64 0, .bool false, .slice none 0 0, .int .i64 0, .int .i64 0, .slice none 0 0, .slice none 0 0, .slice none 0 0] 41); simpa using this
  have W0 : Blk (((w.alloc (.cells #[.int .i64 x.site, .bool x.up, .slice a.la x.sl.length a.lc, .slice a.va x.vs.length a.vc, .slice a.wa x.ws.length a.wc, .slice a.oa x.os.length a.oc, .slice a.ka x.kn.length a.kc] 32)).alloc (.cells #[.int .i64 0, .bool false, .slice none 0 0, .slice none 0 0, .slice none 0 0, .slice none 0 0, .slice none 0 0] 32)).alloc (.cells #[.int .i64 0, .int .i64 0, .int .i64 0, .int .i64 0, .int .i64 0, .int .i64 0, .int .i64 0, .int .i64 0, .bool false, .slice none 0 0, .int .i64 0, .int .i64 0, .slice none 0 0, .slice none 0 0, .slice none 0 0] 41)) (w.heap.size + 1 + 1) #[.int .i64 0, .int .i64 0, .int .i64 0, .int .i64 0, .int .i64 0, .int .i64 0, .int .i64 0, .int .i64 0, .bool false, .slice none 0 0, .int .i64 0, .int .i64 0, .slice none 0 0, .slice none 0 0, .slice none 0 0] 41 := by have := Blk.new ((w.alloc (.cells #[.int .i64 x.site, .bool x.up, .slice a.la x.sl.length a.lc, .slice a.va x.vs.length a.vc, .slice a.wa x.ws.length a.wc, .slice a.oa x.os.length a.oc, .slice a.ka x.kn.length a.kc] 32)).alloc (.cells #[.int .i64 0, .bool false, .slice none 0 0, .slice none 0 0, .slice none 0 0, .slice none 0 0, .slice none 0 0] 32)) #[.int .i64 0, .int .i64 0, .int .i64 0, .int .i64 0, .int .i64 0, .int .i64 0, .int .i64 0, .int .i64 0, .bool false, .slice none 0 0, .int .i64 0, .int .i64 0, .slice none 0 0, .slice none 0 0, .slice none 0 0] 41; simpa using this
  have L0 := h.below b0
  clear h
  obtain ⟨m1, m2, m3⟩ := move_goes hs hg
  obtain ⟨t1, t2, t3, he⟩ := slotsB_three (xs := x.sl) (by unfold servB at hs; simp at hs; exact hs.1.1.1.1.1.1.1)
  obtain ⟨s0, s3, hu, hw1, he1, hz1⟩ := goes1 hs hg he
  have HU : Hid (x.up = true) := hu
  clear hu
  have HSL : Hid (x.sl = [t1, t2, t3]) := he
  have HN : leftX x 1 = ⟨x.site, x.up, [t1, ⟨t2.ep + 1, 2⟩, t3], x.vs, x.ws, x.os, x.kn⟩ ∧ bulkX (leftX x 1) 1 = parcelX x.site 1 (t2.ep + 1) x.vs x.ws x.os := by
    unfold leftX bulkX parcelX
    rw [he]
    exact ⟨rfl, rfl⟩
  rw [m1, m2, m3, HN.2, HN.1]
  clear m1 m2 m3 HN
  have hL := fun B v wv o kk W h => leave_yes1 B x.site v wv o kk t1 t2 t3 W h hw1 he1 hz1
  have hP := fun B va wa oa vc wk oc kv W h1 h2 h3 h4 => parcel1_any B x.site true va wa oa vc wk oc kv x.vs x.ws x.os t1 ⟨t2.ep + 1, 2⟩ t3 W h1 h2 h3 h4 hl.v hl.w hl.o s0 s3
  dsimp only at hP
  generalize parcelX x.site 1 (t2.ep + 1) x.vs x.ws x.os = z at *
  clear he hg hw1 he1 hz1
  go_enter Tryz.func17, Tryz.ntmps17
  go_wp2_with fail
  generalize (((w.alloc (.cells #[.int .i64 x.site, .bool x.up, .slice a.la x.sl.length a.lc, .slice a.va x.vs.length a.vc, .slice a.wa x.ws.length a.wc, .slice a.oa x.os.length a.oc, .slice a.ka x.kn.length a.kc] 32)).alloc (.cells #[.int .i64 0, .bool false, .slice none 0 0, .slice none 0 0, .slice none 0 0, .slice none 0 0, .slice none 0 0] 32)).alloc (.cells #[.int .i64 0, .int .i64 0, .int .i64 0, .int .i64 0, .int .i64 0, .int .i64 0, .int .i64 0, .int .i64 0, .bool false, .slice none 0 0, .int .i64 0, .int .i64 0, .slice none 0 0, .slice none 0 0, .slice none 0 0] 41)) = v0 at *
  refine (hostOf_yes x a t1 t2 t3 _ hl L0 hs HSL.out).mono ?_
  rintro e w1 ⟨va, vc, wa, wc, oa, oc, ka, kc, ys, zs, rfl, K1, hb⟩
  have bt : Below w1.heap.size w1 (w1.alloc (.cells #[.slice va x.vs.length vc, .slice wa x.ws.length wc, .slice oa x.os.length oc, .int .i64 x.site, .bool x.up, .int .i64 t1.ep, .int .i64 t1.st, .int .i64 t2.ep, .int .i64 t2.st, .int .i64 t3.ep, .int .i64 t3.st, .slice ka x.kn.length kc] 88)) := (Below.refl _ _).alloc (Nat.le_refl _) _
  have H1 := Blk.new w1 #[.slice va x.vs.length vc, .slice wa x.ws.length wc, .slice oa x.os.length oc, .int .i64 x.site, .bool x.up, .int .i64 t1.ep, .int .i64 t1.st, .int .i64 t2.ep, .int .i64 t2.st, .int .i64 t3.ep, .int .i64 t3.st, .slice ka x.kn.length kc] 88
  have S1 := (S0.below hb S0.lt).below bt (S0.below hb S0.lt).lt
  have W1 := (W0.below hb W0.lt).below bt (W0.below hb W0.lt).lt
  have K2 := K1.below bt (Nat.le_refl _)
  have kl : Hid (∀ j, inSv x ⟨none, 0, va, vc, wa, wc, oa, oc, ka, kc⟩ ys zs j → j < w1.heap.size) := by show ∀ j, _; intro j hj; exact K1.lt hj
  have B1 : Below w.heap.size w (w1.alloc (.cells #[.slice va x.vs.length vc, .slice wa x.ws.length wc, .slice oa x.os.length oc, .int .i64 x.site, .bool x.up, .int .i64 t1.ep, .int .i64 t1.st, .int .i64 t2.ep, .int .i64 t2.st, .int .i64 t3.ep, .int .i64 t3.st, .slice ka x.kn.length kc] 88)) := (b0.trans (hb.mono b0.size)).trans (bt.mono (by have := b0.size; have := hb.size; omega))
  have n0 := b0.size
  have n1 := hb.size
  have z0 := W0.lt
  have zS := S1.lt
  have zW := W1.lt
  have zu : w1.heap.size < (w1.alloc (.cells #[.slice va x.vs.length vc, .slice wa x.ws.length wc, .slice oa x.os.length oc, .int .i64 x.site, .bool x.up, .int .i64 t1.ep, .int .i64 t1.st, .int .i64 t2.ep, .int .i64 t2.st, .int .i64 t3.ep, .int .i64 t3.st, .slice ka x.kn.length kc] 88)).heap.size := H1.lt
  clear S0 W0 b0 hb L0 hs K1 bt
  go_wp2_with fail
  generalize (w1.alloc (.cells #[.slice va x.vs.length vc, .slice wa x.ws.length wc, .slice oa x.os.length oc, .int .i64 x.site, .bool x.up, .int .i64 t1.ep, .int .i64 t1.st, .int .i64 t2.ep, .int .i64 t2.st, .int .i64 t3.ep, .int .i64 t3.st, .slice ka x.kn.length kc] 88)) = u1 at *
  have H1' := H1
  rw [HU.out] at H1'
  refine (hL _ _ _ _ _ _ H1').mono ?_
  rintro e w2 ⟨rfl, H2, o2⟩
  have S2 := o2.blk S1 (fun hS => by rcases hS with hS | hS <;> omega)
  have W2 := o2.blk W1 (fun hS => by rcases hS with hS | hS <;> omega)
  have K3 := K2.of_only o2 (fun j hj hS => by have := kl.out j hj; rcases hS with hS | hS <;> omega)
  have B2 : Below w.heap.size w w2 := B1.trans (o2.below B1.size (fun j hj => by have := B1.size; rcases hj with hj | hj <;> omega))
  have n2 := o2.size
  clear hL H1 H1' S1 W1 K2 B1 o2
  obtain ⟨q1, g1⟩ := H2.rules
  go_wp2_with fail
  clear q1 g1
  refine (hP w1.heap.size va wa oa vc wc oc (.slice ka x.kn.length kc) _ H2 (K3.v.asV K3.hy) (K3.w.asV K3.hz) (row_deps' K3.o)).mono ?_
  rintro e w3 ⟨c, us, ts, rfl, OW, hb3⟩
  have n3 := hb3.size
  have bt3 : Below w3.heap.size w3 (w3.alloc (.cells #[.int .i64 z.kind, .int .i64 z.fr, .int .i64 z.to, .int .i64 z.call, .int .i64 z.key, .int .i64 z.t, .int .i64 z.s, .int .i64 z.val, .bool z.yes, .slice c.da z.ds.length c.dc, .int .i64 z.slot, .int .i64 z.ep, .slice c.va z.vs.length c.vc, .slice c.wa z.ws.length c.wc, .slice c.oa z.os.length c.oc] 41)) := (Below.refl _ _).alloc (Nat.le_refl _) _
  have X3 := Blk.new w3 #[.int .i64 z.kind, .int .i64 z.fr, .int .i64 z.to, .int .i64 z.call, .int .i64 z.key, .int .i64 z.t, .int .i64 z.s, .int .i64 z.val, .bool z.yes, .slice c.da z.ds.length c.dc, .int .i64 z.slot, .int .i64 z.ep, .slice c.va z.vs.length c.vc, .slice c.wa z.ws.length c.wc, .slice c.oa z.os.length c.oc] 41
  have H3 := (H2.below hb3 H2.lt).below bt3 (H2.below hb3 H2.lt).lt
  have S3 := (S2.below hb3 S2.lt).below bt3 (S2.below hb3 S2.lt).lt
  have W3 := (W2.below hb3 W2.lt).below bt3 (W2.below hb3 W2.lt).lt
  have K4 := (K3.below hb3 (Nat.le_refl _)).below bt3 (Nat.le_refl _)
  have OW3 := OW.below bt3 (Nat.le_refl _)
  have B3 : Below w.heap.size w (w3.alloc (.cells #[.int .i64 z.kind, .int .i64 z.fr, .int .i64 z.to, .int .i64 z.call, .int .i64 z.key, .int .i64 z.t, .int .i64 z.s, .int .i64 z.val, .bool z.yes, .slice c.da z.ds.length c.dc, .int .i64 z.slot, .int .i64 z.ep, .slice c.va z.vs.length c.vc, .slice c.wa z.ws.length c.wc, .slice c.oa z.os.length c.oc] 41)) := (B2.trans (hb3.mono B2.size)).trans (bt3.mono (by have := B2.size; omega))
  have OWl : Hid (∀ j, inWd z c us ts j → w2.heap.size ≤ j ∧ j < w3.heap.size) := by show ∀ j, _; intro j hj; exact OW.lt hj
  have zu3 : w3.heap.size < (w3.alloc (.cells #[.int .i64 z.kind, .int .i64 z.fr, .int .i64 z.to, .int .i64 z.call, .int .i64 z.key, .int .i64 z.t, .int .i64 z.s, .int .i64 z.val, .bool z.yes, .slice c.da z.ds.length c.dc, .int .i64 z.slot, .int .i64 z.ep, .slice c.va z.vs.length c.vc, .slice c.wa z.ws.length c.wc, .slice c.oa z.os.length c.oc] 41)).heap.size := X3.lt
  clear S2 W2 K3 B2 hb3 H2 OW bt3
  go_wp2_with fail
  generalize (w3.alloc (.cells #[.int .i64 z.kind, .int .i64 z.fr, .int .i64 z.to, .int .i64 z.call, .int .i64 z.key, .int .i64 z.t, .int .i64 z.s, .int .i64 z.val, .bool z.yes, .slice c.da z.ds.length c.dc, .int .i64 z.slot, .int .i64 z.ep, .slice c.va z.vs.length c.vc, .slice c.wa z.ws.length c.wc, .slice c.oa z.os.length c.oc] 41)) = u3 at *
  have k1 : (∀ j, u3.drew.cell? ⟨w1.heap.size, j, none⟩ = (hostC x.site true (.slice va x.vs.length vc) (.slice wa x.ws.length wc) (.slice oa x.os.length oc) (.slice ka x.kn.length kc) t1 ⟨t2.ep + 1, 2⟩ t3)[j]?) ∧ (∀ j, u3.drew.cell? ⟨w3.heap.size, j, none⟩ = #[.int .i64 z.kind, .int .i64 z.fr, .int .i64 z.to, .int .i64 z.call, .int .i64 z.key, .int .i64 z.t, .int .i64 z.s, .int .i64 z.val, .bool z.yes, .slice c.da z.ds.length c.dc, .int .i64 z.slot, .int .i64 z.ep, .slice c.va z.vs.length c.vc, .slice c.wa z.ws.length c.wc, .slice c.oa z.os.length c.oc][j]?) := ⟨(H3.below (Below.refl _ _).drew H3.lt).cell, (X3.below (Below.refl _ _).drew X3.lt).cell⟩
  have hV := fun W => server_any x.site true va wa oa ka x.vs.length vc x.ws.length wc x.os.length oc x.kn.length kc t1 ⟨t2.ep + 1, 2⟩ t3 W
  have zS3 := S3.lt
  have zW3 := W3.lt
  go_region_held3 (fun W => (∀ j, W.cell? ⟨w1.heap.size, j, none⟩ = (hostC x.site true (.slice va x.vs.length vc) (.slice wa x.ws.length wc) (.slice oa x.os.length oc) (.slice ka x.kn.length kc) t1 ⟨t2.ep + 1, 2⟩ t3)[j]?) ∧ (∀ j, W.cell? ⟨w3.heap.size, j, none⟩ = #[.int .i64 z.kind, .int .i64 z.fr, .int .i64 z.to, .int .i64 z.call, .int .i64 z.key, .int .i64 z.t, .int .i64 z.s, .int .i64 z.val, .bool z.yes, .slice c.da z.ds.length c.dc, .int .i64 z.slot, .int .i64 z.ep, .slice c.va z.vs.length c.vc, .slice c.wa z.ws.length c.wc, .slice c.oa z.os.length c.oc][j]?)) (with_reducible (first | exact k1 | exact k2 | exact k3 | exact k4)) (first | (go_at_call 50; refine (hV _).mono ?_; rintro e w4 ⟨pa, pc, rfl, RS, hb4⟩; have b4 : Below u3.heap.size u3 w4 := ((Below.refl u3.heap.size u3).drew).trans hb4; have S4 := S3.below b4 S3.lt; have W4 := W3.below b4 W3.lt; have H4 := H3.below b4 H3.lt; have X4 := X3.below b4 X3.lt; have k2 : (∀ j, w4.cell? ⟨w1.heap.size, j, none⟩ = (hostC x.site true (.slice va x.vs.length vc) (.slice wa x.ws.length wc) (.slice oa x.os.length oc) (.slice ka x.kn.length kc) t1 ⟨t2.ep + 1, 2⟩ t3)[j]?) ∧ (∀ j, w4.cell? ⟨w3.heap.size, j, none⟩ = #[.int .i64 z.kind, .int .i64 z.fr, .int .i64 z.to, .int .i64 z.call, .int .i64 z.key, .int .i64 z.t, .int .i64 z.s, .int .i64 z.val, .bool z.yes, .slice c.da z.ds.length c.dc, .int .i64 z.slot, .int .i64 z.ep, .slice c.va z.vs.length c.vc, .slice c.wa z.ws.length c.wc, .slice c.oa z.os.length c.oc][j]?) := ⟨H4.cell, X4.cell⟩; have k3 : (∀ j, (((((((w4.setCell ⟨w.heap.size + 1, 0, none⟩ (.int .i64 x.site)).setCell ⟨w.heap.size + 1, 1, none⟩ (.bool true)).setCell ⟨w.heap.size + 1, 2, none⟩ (.slice pa 3 pc)).setCell ⟨w.heap.size + 1, 3, none⟩ (.slice va x.vs.length vc)).setCell ⟨w.heap.size + 1, 4, none⟩ (.slice wa x.ws.length wc)).setCell ⟨w.heap.size + 1, 5, none⟩ (.slice oa x.os.length oc)).setCell ⟨w.heap.size + 1, 6, none⟩ (.slice ka x.kn.length kc)).cell? ⟨w1.heap.size, j, none⟩ = (hostC x.site true (.slice va x.vs.length vc) (.slice wa x.ws.length wc) (.slice oa x.os.length oc) (.slice ka x.kn.length kc) t1 ⟨t2.ep + 1, 2⟩ t3)[j]?) ∧ (∀ j, (((((((w4.setCell ⟨w.heap.size + 1, 0, none⟩ (.int .i64 x.site)).setCell ⟨w.heap.size + 1, 1, none⟩ (.bool true)).setCell ⟨w.heap.size + 1, 2, none⟩ (.slice pa 3 pc)).setCell ⟨w.heap.size + 1, 3, none⟩ (.slice va x.vs.length vc)).setCell ⟨w.heap.size + 1, 4, none⟩ (.slice wa x.ws.length wc)).setCell ⟨w.heap.size + 1, 5, none⟩ (.slice oa x.os.length oc)).setCell ⟨w.heap.size + 1, 6, none⟩ (.slice ka x.kn.length kc)).cell? ⟨w3.heap.size, j, none⟩ = #[.int .i64 z.kind, .int .i64 z.fr, .int .i64 z.to, .int .i64 z.call, .int .i64 z.key, .int .i64 z.t, .int .i64 z.s, .int .i64 z.val, .bool z.yes, .slice c.da z.ds.length c.dc, .int .i64 z.slot, .int .i64 z.ep, .slice c.va z.vs.length c.vc, .slice c.wa z.ws.length c.wc, .slice c.oa z.os.length c.oc][j]?) := ⟨(fill7_only.blk H4 (by omega)).cell, (fill7_only.blk X4 (by omega)).cell⟩; have k4 : (∀ j, ((((((((((((((((((((((w4.setCell ⟨w.heap.size + 1, 0, none⟩ (.int .i64 x.site)).setCell ⟨w.heap.size + 1, 1, none⟩ (.bool true)).setCell ⟨w.heap.size + 1, 2, none⟩ (.slice pa 3 pc)).setCell ⟨w.heap.size + 1, 3, none⟩ (.slice va x.vs.length vc)).setCell ⟨w.heap.size + 1, 4, none⟩ (.slice wa x.ws.length wc)).setCell ⟨w.heap.size + 1, 5, none⟩ (.slice oa x.os.length oc)).setCell ⟨w.heap.size + 1, 6, none⟩ (.slice ka x.kn.length kc)).setCell ⟨w.heap.size + 1 + 1, 0, none⟩ (.int .i64 z.kind)).setCell ⟨w.heap.size + 1 + 1, 1, none⟩ (.int .i64 z.fr)).setCell ⟨w.heap.size + 1 + 1, 2, none⟩ (.int .i64 z.to)).setCell ⟨w.heap.size + 1 + 1, 3, none⟩ (.int .i64 z.call)).setCell ⟨w.heap.size + 1 + 1, 4, none⟩ (.int .i64 z.key)).setCell ⟨w.heap.size + 1 + 1, 5, none⟩ (.int .i64 z.t)).setCell ⟨w.heap.size + 1 + 1, 6, none⟩ (.int .i64 z.s)).setCell ⟨w.heap.size + 1 + 1, 7, none⟩ (.int .i64 z.val)).setCell ⟨w.heap.size + 1 + 1, 8, none⟩ (.bool z.yes)).setCell ⟨w.heap.size + 1 + 1, 9, none⟩ (.slice c.da z.ds.length c.dc)).setCell ⟨w.heap.size + 1 + 1, 10, none⟩ (.int .i64 z.slot)).setCell ⟨w.heap.size + 1 + 1, 11, none⟩ (.int .i64 z.ep)).setCell ⟨w.heap.size + 1 + 1, 12, none⟩ (.slice c.va z.vs.length c.vc)).setCell ⟨w.heap.size + 1 + 1, 13, none⟩ (.slice c.wa z.ws.length c.wc)).setCell ⟨w.heap.size + 1 + 1, 14, none⟩ (.slice c.oa z.os.length c.oc)).cell? ⟨w1.heap.size, j, none⟩ = (hostC x.site true (.slice va x.vs.length vc) (.slice wa x.ws.length wc) (.slice oa x.os.length oc) (.slice ka x.kn.length kc) t1 ⟨t2.ep + 1, 2⟩ t3)[j]?) ∧ (∀ j, ((((((((((((((((((((((w4.setCell ⟨w.heap.size + 1, 0, none⟩ (.int .i64 x.site)).setCell ⟨w.heap.size + 1, 1, none⟩ (.bool true)).setCell ⟨w.heap.size + 1, 2, none⟩ (.slice pa 3 pc)).setCell ⟨w.heap.size + 1, 3, none⟩ (.slice va x.vs.length vc)).setCell ⟨w.heap.size + 1, 4, none⟩ (.slice wa x.ws.length wc)).setCell ⟨w.heap.size + 1, 5, none⟩ (.slice oa x.os.length oc)).setCell ⟨w.heap.size + 1, 6, none⟩ (.slice ka x.kn.length kc)).setCell ⟨w.heap.size + 1 + 1, 0, none⟩ (.int .i64 z.kind)).setCell ⟨w.heap.size + 1 + 1, 1, none⟩ (.int .i64 z.fr)).setCell ⟨w.heap.size + 1 + 1, 2, none⟩ (.int .i64 z.to)).setCell ⟨w.heap.size + 1 + 1, 3, none⟩ (.int .i64 z.call)).setCell ⟨w.heap.size + 1 + 1, 4, none⟩ (.int .i64 z.key)).setCell ⟨w.heap.size + 1 + 1, 5, none⟩ (.int .i64 z.t)).setCell ⟨w.heap.size + 1 + 1, 6, none⟩ (.int .i64 z.s)).setCell ⟨w.heap.size + 1 + 1, 7, none⟩ (.int .i64 z.val)).setCell ⟨w.heap.size + 1 + 1, 8, none⟩ (.bool z.yes)).setCell ⟨w.heap.size + 1 + 1, 9, none⟩ (.slice c.da z.ds.length c.dc)).setCell ⟨w.heap.size + 1 + 1, 10, none⟩ (.int .i64 z.slot)).setCell ⟨w.heap.size + 1 + 1, 11, none⟩ (.int .i64 z.ep)).setCell ⟨w.heap.size + 1 + 1, 12, none⟩ (.slice c.va z.vs.length c.vc)).setCell ⟨w.heap.size + 1 + 1, 13, none⟩ (.slice c.wa z.ws.length c.wc)).setCell ⟨w.heap.size + 1 + 1, 14, none⟩ (.slice c.oa z.os.length c.oc)).cell? ⟨w3.heap.size, j, none⟩ = #[.int .i64 z.kind, .int .i64 z.fr, .int .i64 z.to, .int .i64 z.call, .int .i64 z.key, .int .i64 z.t, .int .i64 z.s, .int .i64 z.val, .bool z.yes, .slice c.da z.ds.length c.dc, .int .i64 z.slot, .int .i64 z.ep, .slice c.va z.vs.length c.vc, .slice c.wa z.ws.length c.wc, .slice c.oa z.os.length c.oc][j]?) := ⟨(fill22_only.blk H4 (by omega)).cell, (fill22_only.blk X4 (by omega)).cell⟩; obtain ⟨qs, gs⟩ := S4.rules; obtain ⟨qw, gw⟩ := W4.rules))
  all_goals go_wp2_with fail
  all_goals
    have K5 := K4.below b4 (Nat.le_refl _)
    have OW5 := OW3.below b4 (Nat.le_refl _)
    have B5 : Below w.heap.size w w4 := B3.trans (b4.mono B3.size)
    have OS : OwnS w4 v0.heap.size ⟨x.site, x.up, [t1, ⟨t2.ep + 1, 2⟩, t3], x.vs, x.ws, x.os, x.kn⟩ ⟨pa, pc, va, vc, wa, wc, oa, oc, ka, kc⟩ ys zs := ⟨row_mono RS (by show _ ≤ u3.heap.size; omega), K5.v, K5.w, K5.o, K5.k, K5.hy, K5.hz, K5.vw, K5.vo, K5.vk, K5.wo, K5.wk, K5.ok⟩
    have OSl : ∀ j, inSv ⟨x.site, x.up, [t1, ⟨t2.ep + 1, 2⟩, t3], x.vs, x.ws, x.os, x.kn⟩ ⟨pa, pc, va, vc, wa, wc, oa, oc, ka, kc⟩ ys zs j → v0.heap.size ≤ j ∧ (j < w1.heap.size ∨ u3.heap.size ≤ j) := fun j hj => by
      refine ⟨(OS.lt hj).1, ?_⟩
      rcases hj with hj | hj | hj | hj | hj
      · exact .inr (RS.lt j hj).1
      · exact .inl (kl.out j (.inr (.inl hj)))
      · exact .inl (kl.out j (.inr (.inr (.inl hj))))
      · exact .inl (kl.out j (.inr (.inr (.inr (.inl hj)))))
      · exact .inl (kl.out j (.inr (.inr (.inr (.inr hj)))))
    have OWl2 := OWl.out
    refine bodyPost_ret (v := .tuple #[.agg #[.int .i64 x.site, .bool true, .slice pa 3 pc, .slice va x.vs.length vc, .slice wa x.ws.length wc, .slice oa x.os.length oc, .slice ka x.kn.length kc], .agg #[.int .i64 z.kind, .int .i64 z.fr, .int .i64 z.to, .int .i64 z.call, .int .i64 z.key, .int .i64 z.t, .int .i64 z.s, .int .i64 z.val, .bool z.yes, .slice c.da z.ds.length c.dc, .int .i64 z.slot, .int .i64 z.ep, .slice c.va z.vs.length c.vc, .slice c.wa z.ws.length c.wc, .slice c.oa z.os.length c.oc], .bool true]) ?_ rfl ⟨⟨pa, pc, va, vc, wa, wc, oa, oc, ka, kc⟩, ys, zs, c, us, ts, by show Ending.returned _ = Ending.returned (Value.tuple #[Value.agg #[.int .i64 x.site, .bool x.up, .slice pa 3 pc, .slice va x.vs.length vc, .slice wa x.ws.length wc, .slice oa x.os.length oc, .slice ka x.kn.length kc], _, _]); rw [HU.out], ?_, ?_, fun j hj hj' => by have := OSl j hj; have := OWl2 j hj'; omega, fill22_below B5 (by omega) (by omega)⟩
    · refine Blk.gen2 (A := w.heap.size + 1) (B := w.heap.size + 1 + 1) (vs := #[.int .i64 x.site, .bool true, .slice pa 3 pc, .slice va x.vs.length vc, .slice wa x.ws.length wc, .slice oa x.os.length oc, .slice ka x.kn.length kc]) (us := #[.int .i64 z.kind, .int .i64 z.fr, .int .i64 z.to, .int .i64 z.call, .int .i64 z.key, .int .i64 z.t, .int .i64 z.s, .int .i64 z.val, .bool z.yes, .slice c.da z.ds.length c.dc, .int .i64 z.slot, .int .i64 z.ep, .slice c.va z.vs.length c.vc, .slice c.wa z.ws.length c.wc, .slice c.oa z.os.length c.oc]) (T := 32) (T' := 41) (P := fun W => (results Tryz.f17 _).run Tryz.prog W = .ok _ W) (fill22 S4 W4 (by omega)).1 (fill22 S4 W4 (by omega)).2 ?_
      intro W hA hB
      obtain ⟨k1, f1⟩ := hA.rules
      obtain ⟨k2, f2⟩ := hB.rules
      simp [results, Tryz.results17, go_sem, k1, k2]
    · exact (fill22_only.ownS OS (fun j hj hS => by have := OSl j hj; rcases hS with hS | hS <;> omega)).mono (by omega)
    · exact (fill22_only.ownW OW5 (fun j hj hS => by have := OWl2 j hj; rcases hS with hS | hS <;> omega)).mono (by omega)

set_option maxHeartbeats 8000000 in
set_option maxRecDepth 20000 in
theorem iMove_goes2 (x : Sv) (a : Sa) (w : World) (hl : LenS x) (h : InS w x a) (hs : servB x = true) (hg : goB x 2 = true) : Calls Tryz.prog 17 #[servV x a, .int .i64 2] w fun e w' => ∃ b ys zs c us ts, e = .returned (.tuple #[servV (moveS x 2) b, wordV (moveW x 2) c, .bool (moveB x 2)]) ∧ OwnS w' w.heap.size (moveS x 2) b ys zs ∧ OwnW w' w.heap.size (moveW x 2) c us ts ∧ (∀ j, inSv (moveS x 2) b ys zs j → ¬ inWd (moveW x 2) c us ts j) ∧ Below w.heap.size w w' := by
  have b0 : Below w.heap.size w (((w.alloc (.cells #[.int .i64 x.site, .bool x.up, .slice a.la x.sl.length a.lc, .slice a.va x.vs.length a.vc, .slice a.wa x.ws.length a.wc, .slice a.oa x.os.length a.oc, .slice a.ka x.kn.length a.kc] 32)).alloc (.cells #[.int .i64 0, .bool false, .slice none 0 0, .slice none 0 0, .slice none 0 0, .slice none 0 0, .slice none 0 0] 32)).alloc (.cells #[.int .i64 0, .int .i64 0, .int .i64 0, .int .i64 0, .int .i64 0, .int .i64 0, .int .i64 0, .int .i64 0, .bool false, .slice none 0 0, .int .i64 0, .int .i64 0, .slice none 0 0, .slice none 0 0, .slice none 0 0] 41)) := (((Below.refl _ _).alloc (Nat.le_refl _) _).alloc (by simp) _).alloc (by simp; omega) _
  have S0 : Blk (((w.alloc (.cells #[.int .i64 x.site, .bool x.up, .slice a.la x.sl.length a.lc, .slice a.va x.vs.length a.vc, .slice a.wa x.ws.length a.wc, .slice a.oa x.os.length a.oc, .slice a.ka x.kn.length a.kc] 32)).alloc (.cells #[.int .i64 0, .bool false, .slice none 0 0, .slice none 0 0, .slice none 0 0, .slice none 0 0, .slice none 0 0] 32)).alloc (.cells #[.int .i64 0, .int .i64 0, .int .i64 0, .int .i64 0, .int .i64 0, .int .i64 0, .int .i64 0, .int .i64 0, .bool false, .slice none 0 0, .int .i64 0, .int .i64 0, .slice none 0 0, .slice none 0 0, .slice none 0 0] 41)) (w.heap.size + 1) #[.int .i64 0, .bool false, .slice none 0 0, .slice none 0 0, .slice none 0 0, .slice none 0 0, .slice none 0 0] 32 := by have := (Blk.new (w.alloc (.cells #[.int .i64 x.site, .bool x.up, .slice a.la x.sl.length a.lc, .slice a.va x.vs.length a.vc, .slice a.wa x.ws.length a.wc, .slice a.oa x.os.length a.oc, .slice a.ka x.kn.length a.kc] 32)) #[.int .i64 0, .bool false, .slice none 0 0, .slice none 0 0, .slice none 0 0, .slice none 0 0, .slice none 0 0] 32).alloc (.cells #[.int .i64 0, .int .i64 0, .int .i64 0, .int .i64 0, .int .i64 0, .int .i64 0, .int .i64 0, .int .i64 0, .bool false, .slice none 0 0, .int .i64 0, .int .i64 0, .slice none 0 0, .slice none 0 0, .slice none 0 0] 41); simpa using this
  have W0 : Blk (((w.alloc (.cells #[.int .i64 x.site, .bool x.up, .slice a.la x.sl.length a.lc, .slice a.va x.vs.length a.vc, .slice a.wa x.ws.length a.wc, .slice a.oa x.os.length a.oc, .slice a.ka x.kn.length a.kc] 32)).alloc (.cells #[.int .i64 0, .bool false, .slice none 0 0, .slice none 0 0, .slice none 0 0, .slice none 0 0, .slice none 0 0] 32)).alloc (.cells #[.int .i64 0, .int .i64 0, .int .i64 0, .int .i64 0, .int .i64 0, .int .i64 0, .int .i64 0, .int .i64 0, .bool false, .slice none 0 0, .int .i64 0, .int .i64 0, .slice none 0 0, .slice none 0 0, .slice none 0 0] 41)) (w.heap.size + 1 + 1) #[.int .i64 0, .int .i64 0, .int .i64 0, .int .i64 0, .int .i64 0, .int .i64 0, .int .i64 0, .int .i64 0, .bool false, .slice none 0 0, .int .i64 0, .int .i64 0, .slice none 0 0, .slice none 0 0, .slice none 0 0] 41 := by have := Blk.new ((w.alloc (.cells #[.int .i64 x.site, .bool x.up, .slice a.la x.sl.length a.lc, .slice a.va x.vs.length a.vc, .slice a.wa x.ws.length a.wc, .slice a.oa x.os.length a.oc, .slice a.ka x.kn.length a.kc] 32)).alloc (.cells #[.int .i64 0, .bool false, .slice none 0 0, .slice none 0 0, .slice none 0 0, .slice none 0 0, .slice none 0 0] 32)) #[.int .i64 0, .int .i64 0, .int .i64 0, .int .i64 0, .int .i64 0, .int .i64 0, .int .i64 0, .int .i64 0, .bool false, .slice none 0 0, .int .i64 0, .int .i64 0, .slice none 0 0, .slice none 0 0, .slice none 0 0] 41; simpa using this
  have L0 := h.below b0
  clear h
  obtain ⟨m1, m2, m3⟩ := move_goes hs hg
  obtain ⟨t1, t2, t3, he⟩ := slotsB_three (xs := x.sl) (by unfold servB at hs; simp at hs; exact hs.1.1.1.1.1.1.1)
  obtain ⟨s0, s3, hu, hw1, he1, hz1⟩ := goes2 hs hg he
  have HU : Hid (x.up = true) := hu
  clear hu
  have HSL : Hid (x.sl = [t1, t2, t3]) := he
  have HN : leftX x 2 = ⟨x.site, x.up, [t1, t2, ⟨t3.ep + 1, 2⟩], x.vs, x.ws, x.os, x.kn⟩ ∧ bulkX (leftX x 2) 2 = parcelX x.site 2 (t3.ep + 1) x.vs x.ws x.os := by
    unfold leftX bulkX parcelX
    rw [he]
    exact ⟨rfl, rfl⟩
  rw [m1, m2, m3, HN.2, HN.1]
  clear m1 m2 m3 HN
  have hL := fun B v wv o kk W h => leave_yes2 B x.site v wv o kk t1 t2 t3 W h hw1 he1 hz1
  have hP := fun B va wa oa vc wk oc kv W h1 h2 h3 h4 => parcel2_any B x.site true va wa oa vc wk oc kv x.vs x.ws x.os t1 t2 ⟨t3.ep + 1, 2⟩ W h1 h2 h3 h4 hl.v hl.w hl.o s0 s3
  dsimp only at hP
  generalize parcelX x.site 2 (t3.ep + 1) x.vs x.ws x.os = z at *
  clear he hg hw1 he1 hz1
  go_enter Tryz.func17, Tryz.ntmps17
  go_wp2_with fail
  generalize (((w.alloc (.cells #[.int .i64 x.site, .bool x.up, .slice a.la x.sl.length a.lc, .slice a.va x.vs.length a.vc, .slice a.wa x.ws.length a.wc, .slice a.oa x.os.length a.oc, .slice a.ka x.kn.length a.kc] 32)).alloc (.cells #[.int .i64 0, .bool false, .slice none 0 0, .slice none 0 0, .slice none 0 0, .slice none 0 0, .slice none 0 0] 32)).alloc (.cells #[.int .i64 0, .int .i64 0, .int .i64 0, .int .i64 0, .int .i64 0, .int .i64 0, .int .i64 0, .int .i64 0, .bool false, .slice none 0 0, .int .i64 0, .int .i64 0, .slice none 0 0, .slice none 0 0, .slice none 0 0] 41)) = v0 at *
  refine (hostOf_yes x a t1 t2 t3 _ hl L0 hs HSL.out).mono ?_
  rintro e w1 ⟨va, vc, wa, wc, oa, oc, ka, kc, ys, zs, rfl, K1, hb⟩
  have bt : Below w1.heap.size w1 (w1.alloc (.cells #[.slice va x.vs.length vc, .slice wa x.ws.length wc, .slice oa x.os.length oc, .int .i64 x.site, .bool x.up, .int .i64 t1.ep, .int .i64 t1.st, .int .i64 t2.ep, .int .i64 t2.st, .int .i64 t3.ep, .int .i64 t3.st, .slice ka x.kn.length kc] 88)) := (Below.refl _ _).alloc (Nat.le_refl _) _
  have H1 := Blk.new w1 #[.slice va x.vs.length vc, .slice wa x.ws.length wc, .slice oa x.os.length oc, .int .i64 x.site, .bool x.up, .int .i64 t1.ep, .int .i64 t1.st, .int .i64 t2.ep, .int .i64 t2.st, .int .i64 t3.ep, .int .i64 t3.st, .slice ka x.kn.length kc] 88
  have S1 := (S0.below hb S0.lt).below bt (S0.below hb S0.lt).lt
  have W1 := (W0.below hb W0.lt).below bt (W0.below hb W0.lt).lt
  have K2 := K1.below bt (Nat.le_refl _)
  have kl : Hid (∀ j, inSv x ⟨none, 0, va, vc, wa, wc, oa, oc, ka, kc⟩ ys zs j → j < w1.heap.size) := by show ∀ j, _; intro j hj; exact K1.lt hj
  have B1 : Below w.heap.size w (w1.alloc (.cells #[.slice va x.vs.length vc, .slice wa x.ws.length wc, .slice oa x.os.length oc, .int .i64 x.site, .bool x.up, .int .i64 t1.ep, .int .i64 t1.st, .int .i64 t2.ep, .int .i64 t2.st, .int .i64 t3.ep, .int .i64 t3.st, .slice ka x.kn.length kc] 88)) := (b0.trans (hb.mono b0.size)).trans (bt.mono (by have := b0.size; have := hb.size; omega))
  have n0 := b0.size
  have n1 := hb.size
  have z0 := W0.lt
  have zS := S1.lt
  have zW := W1.lt
  have zu : w1.heap.size < (w1.alloc (.cells #[.slice va x.vs.length vc, .slice wa x.ws.length wc, .slice oa x.os.length oc, .int .i64 x.site, .bool x.up, .int .i64 t1.ep, .int .i64 t1.st, .int .i64 t2.ep, .int .i64 t2.st, .int .i64 t3.ep, .int .i64 t3.st, .slice ka x.kn.length kc] 88)).heap.size := H1.lt
  clear S0 W0 b0 hb L0 hs K1 bt
  go_wp2_with fail
  generalize (w1.alloc (.cells #[.slice va x.vs.length vc, .slice wa x.ws.length wc, .slice oa x.os.length oc, .int .i64 x.site, .bool x.up, .int .i64 t1.ep, .int .i64 t1.st, .int .i64 t2.ep, .int .i64 t2.st, .int .i64 t3.ep, .int .i64 t3.st, .slice ka x.kn.length kc] 88)) = u1 at *
  have H1' := H1
  rw [HU.out] at H1'
  refine (hL _ _ _ _ _ _ H1').mono ?_
  rintro e w2 ⟨rfl, H2, o2⟩
  have S2 := o2.blk S1 (fun hS => by rcases hS with hS | hS <;> omega)
  have W2 := o2.blk W1 (fun hS => by rcases hS with hS | hS <;> omega)
  have K3 := K2.of_only o2 (fun j hj hS => by have := kl.out j hj; rcases hS with hS | hS <;> omega)
  have B2 : Below w.heap.size w w2 := B1.trans (o2.below B1.size (fun j hj => by have := B1.size; rcases hj with hj | hj <;> omega))
  have n2 := o2.size
  clear hL H1 H1' S1 W1 K2 B1 o2
  obtain ⟨q1, g1⟩ := H2.rules
  go_wp2_with fail
  clear q1 g1
  refine (hP w1.heap.size va wa oa vc wc oc (.slice ka x.kn.length kc) _ H2 (K3.v.asV K3.hy) (K3.w.asV K3.hz) (row_deps' K3.o)).mono ?_
  rintro e w3 ⟨c, us, ts, rfl, OW, hb3⟩
  have n3 := hb3.size
  have bt3 : Below w3.heap.size w3 (w3.alloc (.cells #[.int .i64 z.kind, .int .i64 z.fr, .int .i64 z.to, .int .i64 z.call, .int .i64 z.key, .int .i64 z.t, .int .i64 z.s, .int .i64 z.val, .bool z.yes, .slice c.da z.ds.length c.dc, .int .i64 z.slot, .int .i64 z.ep, .slice c.va z.vs.length c.vc, .slice c.wa z.ws.length c.wc, .slice c.oa z.os.length c.oc] 41)) := (Below.refl _ _).alloc (Nat.le_refl _) _
  have X3 := Blk.new w3 #[.int .i64 z.kind, .int .i64 z.fr, .int .i64 z.to, .int .i64 z.call, .int .i64 z.key, .int .i64 z.t, .int .i64 z.s, .int .i64 z.val, .bool z.yes, .slice c.da z.ds.length c.dc, .int .i64 z.slot, .int .i64 z.ep, .slice c.va z.vs.length c.vc, .slice c.wa z.ws.length c.wc, .slice c.oa z.os.length c.oc] 41
  have H3 := (H2.below hb3 H2.lt).below bt3 (H2.below hb3 H2.lt).lt
  have S3 := (S2.below hb3 S2.lt).below bt3 (S2.below hb3 S2.lt).lt
  have W3 := (W2.below hb3 W2.lt).below bt3 (W2.below hb3 W2.lt).lt
  have K4 := (K3.below hb3 (Nat.le_refl _)).below bt3 (Nat.le_refl _)
  have OW3 := OW.below bt3 (Nat.le_refl _)
  have B3 : Below w.heap.size w (w3.alloc (.cells #[.int .i64 z.kind, .int .i64 z.fr, .int .i64 z.to, .int .i64 z.call, .int .i64 z.key, .int .i64 z.t, .int .i64 z.s, .int .i64 z.val, .bool z.yes, .slice c.da z.ds.length c.dc, .int .i64 z.slot, .int .i64 z.ep, .slice c.va z.vs.length c.vc, .slice c.wa z.ws.length c.wc, .slice c.oa z.os.length c.oc] 41)) := (B2.trans (hb3.mono B2.size)).trans (bt3.mono (by have := B2.size; omega))
  have OWl : Hid (∀ j, inWd z c us ts j → w2.heap.size ≤ j ∧ j < w3.heap.size) := by show ∀ j, _; intro j hj; exact OW.lt hj
  have zu3 : w3.heap.size < (w3.alloc (.cells #[.int .i64 z.kind, .int .i64 z.fr, .int .i64 z.to, .int .i64 z.call, .int .i64 z.key, .int .i64 z.t, .int .i64 z.s, .int .i64 z.val, .bool z.yes, .slice c.da z.ds.length c.dc, .int .i64 z.slot, .int .i64 z.ep, .slice c.va z.vs.length c.vc, .slice c.wa z.ws.length c.wc, .slice c.oa z.os.length c.oc] 41)).heap.size := X3.lt
  clear S2 W2 K3 B2 hb3 H2 OW bt3
  go_wp2_with fail
  generalize (w3.alloc (.cells #[.int .i64 z.kind, .int .i64 z.fr, .int .i64 z.to, .int .i64 z.call, .int .i64 z.key, .int .i64 z.t, .int .i64 z.s, .int .i64 z.val, .bool z.yes, .slice c.da z.ds.length c.dc, .int .i64 z.slot, .int .i64 z.ep, .slice c.va z.vs.length c.vc, .slice c.wa z.ws.length c.wc, .slice c.oa z.os.length c.oc] 41)) = u3 at *
  have k1 : (∀ j, u3.drew.cell? ⟨w1.heap.size, j, none⟩ = (hostC x.site true (.slice va x.vs.length vc) (.slice wa x.ws.length wc) (.slice oa x.os.length oc) (.slice ka x.kn.length kc) t1 t2 ⟨t3.ep + 1, 2⟩)[j]?) ∧ (∀ j, u3.drew.cell? ⟨w3.heap.size, j, none⟩ = #[.int .i64 z.kind, .int .i64 z.fr, .int .i64 z.to, .int .i64 z.call, .int .i64 z.key, .int .i64 z.t, .int .i64 z.s, .int .i64 z.val, .bool z.yes, .slice c.da z.ds.length c.dc, .int .i64 z.slot, .int .i64 z.ep, .slice c.va z.vs.length c.vc, .slice c.wa z.ws.length c.wc, .slice c.oa z.os.length c.oc][j]?) := ⟨(H3.below (Below.refl _ _).drew H3.lt).cell, (X3.below (Below.refl _ _).drew X3.lt).cell⟩
  have hV := fun W => server_any x.site true va wa oa ka x.vs.length vc x.ws.length wc x.os.length oc x.kn.length kc t1 t2 ⟨t3.ep + 1, 2⟩ W
  have zS3 := S3.lt
  have zW3 := W3.lt
  go_region_held3 (fun W => (∀ j, W.cell? ⟨w1.heap.size, j, none⟩ = (hostC x.site true (.slice va x.vs.length vc) (.slice wa x.ws.length wc) (.slice oa x.os.length oc) (.slice ka x.kn.length kc) t1 t2 ⟨t3.ep + 1, 2⟩)[j]?) ∧ (∀ j, W.cell? ⟨w3.heap.size, j, none⟩ = #[.int .i64 z.kind, .int .i64 z.fr, .int .i64 z.to, .int .i64 z.call, .int .i64 z.key, .int .i64 z.t, .int .i64 z.s, .int .i64 z.val, .bool z.yes, .slice c.da z.ds.length c.dc, .int .i64 z.slot, .int .i64 z.ep, .slice c.va z.vs.length c.vc, .slice c.wa z.ws.length c.wc, .slice c.oa z.os.length c.oc][j]?)) (with_reducible (first | exact k1 | exact k2 | exact k3 | exact k4)) (first | (go_at_call 50; refine (hV _).mono ?_; rintro e w4 ⟨pa, pc, rfl, RS, hb4⟩; have b4 : Below u3.heap.size u3 w4 := ((Below.refl u3.heap.size u3).drew).trans hb4; have S4 := S3.below b4 S3.lt; have W4 := W3.below b4 W3.lt; have H4 := H3.below b4 H3.lt; have X4 := X3.below b4 X3.lt; have k2 : (∀ j, w4.cell? ⟨w1.heap.size, j, none⟩ = (hostC x.site true (.slice va x.vs.length vc) (.slice wa x.ws.length wc) (.slice oa x.os.length oc) (.slice ka x.kn.length kc) t1 t2 ⟨t3.ep + 1, 2⟩)[j]?) ∧ (∀ j, w4.cell? ⟨w3.heap.size, j, none⟩ = #[.int .i64 z.kind, .int .i64 z.fr, .int .i64 z.to, .int .i64 z.call, .int .i64 z.key, .int .i64 z.t, .int .i64 z.s, .int .i64 z.val, .bool z.yes, .slice c.da z.ds.length c.dc, .int .i64 z.slot, .int .i64 z.ep, .slice c.va z.vs.length c.vc, .slice c.wa z.ws.length c.wc, .slice c.oa z.os.length c.oc][j]?) := ⟨H4.cell, X4.cell⟩; have k3 : (∀ j, (((((((w4.setCell ⟨w.heap.size + 1, 0, none⟩ (.int .i64 x.site)).setCell ⟨w.heap.size + 1, 1, none⟩ (.bool true)).setCell ⟨w.heap.size + 1, 2, none⟩ (.slice pa 3 pc)).setCell ⟨w.heap.size + 1, 3, none⟩ (.slice va x.vs.length vc)).setCell ⟨w.heap.size + 1, 4, none⟩ (.slice wa x.ws.length wc)).setCell ⟨w.heap.size + 1, 5, none⟩ (.slice oa x.os.length oc)).setCell ⟨w.heap.size + 1, 6, none⟩ (.slice ka x.kn.length kc)).cell? ⟨w1.heap.size, j, none⟩ = (hostC x.site true (.slice va x.vs.length vc) (.slice wa x.ws.length wc) (.slice oa x.os.length oc) (.slice ka x.kn.length kc) t1 t2 ⟨t3.ep + 1, 2⟩)[j]?) ∧ (∀ j, (((((((w4.setCell ⟨w.heap.size + 1, 0, none⟩ (.int .i64 x.site)).setCell ⟨w.heap.size + 1, 1, none⟩ (.bool true)).setCell ⟨w.heap.size + 1, 2, none⟩ (.slice pa 3 pc)).setCell ⟨w.heap.size + 1, 3, none⟩ (.slice va x.vs.length vc)).setCell ⟨w.heap.size + 1, 4, none⟩ (.slice wa x.ws.length wc)).setCell ⟨w.heap.size + 1, 5, none⟩ (.slice oa x.os.length oc)).setCell ⟨w.heap.size + 1, 6, none⟩ (.slice ka x.kn.length kc)).cell? ⟨w3.heap.size, j, none⟩ = #[.int .i64 z.kind, .int .i64 z.fr, .int .i64 z.to, .int .i64 z.call, .int .i64 z.key, .int .i64 z.t, .int .i64 z.s, .int .i64 z.val, .bool z.yes, .slice c.da z.ds.length c.dc, .int .i64 z.slot, .int .i64 z.ep, .slice c.va z.vs.length c.vc, .slice c.wa z.ws.length c.wc, .slice c.oa z.os.length c.oc][j]?) := ⟨(fill7_only.blk H4 (by omega)).cell, (fill7_only.blk X4 (by omega)).cell⟩; have k4 : (∀ j, ((((((((((((((((((((((w4.setCell ⟨w.heap.size + 1, 0, none⟩ (.int .i64 x.site)).setCell ⟨w.heap.size + 1, 1, none⟩ (.bool true)).setCell ⟨w.heap.size + 1, 2, none⟩ (.slice pa 3 pc)).setCell ⟨w.heap.size + 1, 3, none⟩ (.slice va x.vs.length vc)).setCell ⟨w.heap.size + 1, 4, none⟩ (.slice wa x.ws.length wc)).setCell ⟨w.heap.size + 1, 5, none⟩ (.slice oa x.os.length oc)).setCell ⟨w.heap.size + 1, 6, none⟩ (.slice ka x.kn.length kc)).setCell ⟨w.heap.size + 1 + 1, 0, none⟩ (.int .i64 z.kind)).setCell ⟨w.heap.size + 1 + 1, 1, none⟩ (.int .i64 z.fr)).setCell ⟨w.heap.size + 1 + 1, 2, none⟩ (.int .i64 z.to)).setCell ⟨w.heap.size + 1 + 1, 3, none⟩ (.int .i64 z.call)).setCell ⟨w.heap.size + 1 + 1, 4, none⟩ (.int .i64 z.key)).setCell ⟨w.heap.size + 1 + 1, 5, none⟩ (.int .i64 z.t)).setCell ⟨w.heap.size + 1 + 1, 6, none⟩ (.int .i64 z.s)).setCell ⟨w.heap.size + 1 + 1, 7, none⟩ (.int .i64 z.val)).setCell ⟨w.heap.size + 1 + 1, 8, none⟩ (.bool z.yes)).setCell ⟨w.heap.size + 1 + 1, 9, none⟩ (.slice c.da z.ds.length c.dc)).setCell ⟨w.heap.size + 1 + 1, 10, none⟩ (.int .i64 z.slot)).setCell ⟨w.heap.size + 1 + 1, 11, none⟩ (.int .i64 z.ep)).setCell ⟨w.heap.size + 1 + 1, 12, none⟩ (.slice c.va z.vs.length c.vc)).setCell ⟨w.heap.size + 1 + 1, 13, none⟩ (.slice c.wa z.ws.length c.wc)).setCell ⟨w.heap.size + 1 + 1, 14, none⟩ (.slice c.oa z.os.length c.oc)).cell? ⟨w1.heap.size, j, none⟩ = (hostC x.site true (.slice va x.vs.length vc) (.slice wa x.ws.length wc) (.slice oa x.os.length oc) (.slice ka x.kn.length kc) t1 t2 ⟨t3.ep + 1, 2⟩)[j]?) ∧ (∀ j, ((((((((((((((((((((((w4.setCell ⟨w.heap.size + 1, 0, none⟩ (.int .i64 x.site)).setCell ⟨w.heap.size + 1, 1, none⟩ (.bool true)).setCell ⟨w.heap.size + 1, 2, none⟩ (.slice pa 3 pc)).setCell ⟨w.heap.size + 1, 3, none⟩ (.slice va x.vs.length vc)).setCell ⟨w.heap.size + 1, 4, none⟩ (.slice wa x.ws.length wc)).setCell ⟨w.heap.size + 1, 5, none⟩ (.slice oa x.os.length oc)).setCell ⟨w.heap.size + 1, 6, none⟩ (.slice ka x.kn.length kc)).setCell ⟨w.heap.size + 1 + 1, 0, none⟩ (.int .i64 z.kind)).setCell ⟨w.heap.size + 1 + 1, 1, none⟩ (.int .i64 z.fr)).setCell ⟨w.heap.size + 1 + 1, 2, none⟩ (.int .i64 z.to)).setCell ⟨w.heap.size + 1 + 1, 3, none⟩ (.int .i64 z.call)).setCell ⟨w.heap.size + 1 + 1, 4, none⟩ (.int .i64 z.key)).setCell ⟨w.heap.size + 1 + 1, 5, none⟩ (.int .i64 z.t)).setCell ⟨w.heap.size + 1 + 1, 6, none⟩ (.int .i64 z.s)).setCell ⟨w.heap.size + 1 + 1, 7, none⟩ (.int .i64 z.val)).setCell ⟨w.heap.size + 1 + 1, 8, none⟩ (.bool z.yes)).setCell ⟨w.heap.size + 1 + 1, 9, none⟩ (.slice c.da z.ds.length c.dc)).setCell ⟨w.heap.size + 1 + 1, 10, none⟩ (.int .i64 z.slot)).setCell ⟨w.heap.size + 1 + 1, 11, none⟩ (.int .i64 z.ep)).setCell ⟨w.heap.size + 1 + 1, 12, none⟩ (.slice c.va z.vs.length c.vc)).setCell ⟨w.heap.size + 1 + 1, 13, none⟩ (.slice c.wa z.ws.length c.wc)).setCell ⟨w.heap.size + 1 + 1, 14, none⟩ (.slice c.oa z.os.length c.oc)).cell? ⟨w3.heap.size, j, none⟩ = #[.int .i64 z.kind, .int .i64 z.fr, .int .i64 z.to, .int .i64 z.call, .int .i64 z.key, .int .i64 z.t, .int .i64 z.s, .int .i64 z.val, .bool z.yes, .slice c.da z.ds.length c.dc, .int .i64 z.slot, .int .i64 z.ep, .slice c.va z.vs.length c.vc, .slice c.wa z.ws.length c.wc, .slice c.oa z.os.length c.oc][j]?) := ⟨(fill22_only.blk H4 (by omega)).cell, (fill22_only.blk X4 (by omega)).cell⟩; obtain ⟨qs, gs⟩ := S4.rules; obtain ⟨qw, gw⟩ := W4.rules))
  all_goals go_wp2_with fail
  all_goals
    have K5 := K4.below b4 (Nat.le_refl _)
    have OW5 := OW3.below b4 (Nat.le_refl _)
    have B5 : Below w.heap.size w w4 := B3.trans (b4.mono B3.size)
    have OS : OwnS w4 v0.heap.size ⟨x.site, x.up, [t1, t2, ⟨t3.ep + 1, 2⟩], x.vs, x.ws, x.os, x.kn⟩ ⟨pa, pc, va, vc, wa, wc, oa, oc, ka, kc⟩ ys zs := ⟨row_mono RS (by show _ ≤ u3.heap.size; omega), K5.v, K5.w, K5.o, K5.k, K5.hy, K5.hz, K5.vw, K5.vo, K5.vk, K5.wo, K5.wk, K5.ok⟩
    have OSl : ∀ j, inSv ⟨x.site, x.up, [t1, t2, ⟨t3.ep + 1, 2⟩], x.vs, x.ws, x.os, x.kn⟩ ⟨pa, pc, va, vc, wa, wc, oa, oc, ka, kc⟩ ys zs j → v0.heap.size ≤ j ∧ (j < w1.heap.size ∨ u3.heap.size ≤ j) := fun j hj => by
      refine ⟨(OS.lt hj).1, ?_⟩
      rcases hj with hj | hj | hj | hj | hj
      · exact .inr (RS.lt j hj).1
      · exact .inl (kl.out j (.inr (.inl hj)))
      · exact .inl (kl.out j (.inr (.inr (.inl hj))))
      · exact .inl (kl.out j (.inr (.inr (.inr (.inl hj)))))
      · exact .inl (kl.out j (.inr (.inr (.inr (.inr hj)))))
    have OWl2 := OWl.out
    refine bodyPost_ret (v := .tuple #[.agg #[.int .i64 x.site, .bool true, .slice pa 3 pc, .slice va x.vs.length vc, .slice wa x.ws.length wc, .slice oa x.os.length oc, .slice ka x.kn.length kc], .agg #[.int .i64 z.kind, .int .i64 z.fr, .int .i64 z.to, .int .i64 z.call, .int .i64 z.key, .int .i64 z.t, .int .i64 z.s, .int .i64 z.val, .bool z.yes, .slice c.da z.ds.length c.dc, .int .i64 z.slot, .int .i64 z.ep, .slice c.va z.vs.length c.vc, .slice c.wa z.ws.length c.wc, .slice c.oa z.os.length c.oc], .bool true]) ?_ rfl ⟨⟨pa, pc, va, vc, wa, wc, oa, oc, ka, kc⟩, ys, zs, c, us, ts, by show Ending.returned _ = Ending.returned (Value.tuple #[Value.agg #[.int .i64 x.site, .bool x.up, .slice pa 3 pc, .slice va x.vs.length vc, .slice wa x.ws.length wc, .slice oa x.os.length oc, .slice ka x.kn.length kc], _, _]); rw [HU.out], ?_, ?_, fun j hj hj' => by have := OSl j hj; have := OWl2 j hj'; omega, fill22_below B5 (by omega) (by omega)⟩
    · refine Blk.gen2 (A := w.heap.size + 1) (B := w.heap.size + 1 + 1) (vs := #[.int .i64 x.site, .bool true, .slice pa 3 pc, .slice va x.vs.length vc, .slice wa x.ws.length wc, .slice oa x.os.length oc, .slice ka x.kn.length kc]) (us := #[.int .i64 z.kind, .int .i64 z.fr, .int .i64 z.to, .int .i64 z.call, .int .i64 z.key, .int .i64 z.t, .int .i64 z.s, .int .i64 z.val, .bool z.yes, .slice c.da z.ds.length c.dc, .int .i64 z.slot, .int .i64 z.ep, .slice c.va z.vs.length c.vc, .slice c.wa z.ws.length c.wc, .slice c.oa z.os.length c.oc]) (T := 32) (T' := 41) (P := fun W => (results Tryz.f17 _).run Tryz.prog W = .ok _ W) (fill22 S4 W4 (by omega)).1 (fill22 S4 W4 (by omega)).2 ?_
      intro W hA hB
      obtain ⟨k1, f1⟩ := hA.rules
      obtain ⟨k2, f2⟩ := hB.rules
      simp [results, Tryz.results17, go_sem, k1, k2]
    · exact (fill22_only.ownS OS (fun j hj hS => by have := OSl j hj; rcases hS with hS | hS <;> omega)).mono (by omega)
    · exact (fill22_only.ownW OW5 (fun j hj hS => by have := OWl2 j hj; rcases hS with hS | hS <;> omega)).mono (by omega)
end Go.Proofs.YtpjidogilofppaaGreat
