/- The law: what is less than a word that is ok is ok. -/
import Derived.Test.YtgdkoangpinieaaWDraw
import Derived.Test.YtgdkoangpinieaaWOkI
import Derived.Test.YtgdkoangpinieaaWOkS
namespace Go.Proofs.Ytgdkoangpinieaa
open Go.ChangeShapes Go.WideShapes Go.ChangeAt Go.RowKit

theorem WLs.len {W : World} {base : Nat} {x : Wd} {a : Wa} (h : WLs W base x a) : LenL x := ⟨by have := h.dl; omega, by have := h.vl.1; omega, by have := h.wl.1; omega, by have := h.ol; omega⟩
set_option maxHeartbeats 1000000 in
theorem drawWOk (w : World) (a : Option Addr) (len cap : Nat) (h : Code w a len cap) :
    Calls Try.prog 51 #[.slice a len cap] w fun e w' => ∃ (x : Wd) (b : Wa), e = .returned (wordV x b) ∧ InL w' x b ∧ LenL x ∧ Below w.heap.size w w' := by
  have k0 : Below w.heap.size w (w.alloc (.cells (wz 0 0 0 0 0 0 false 0 0) 56)) := (Below.refl _ _).alloc (Nat.le_refl _) _
  go_enter Try.func51, Try.ntmps51
  go_wp2_with fail
  refine (open_any _ a len cap (h.below k0)).mono ?_
  rintro e w1 ⟨rfl, hr, hb, hs⟩
  have Z1 := (Blk.new w (wz 0 0 0 0 0 0 false 0 0) 56).below hb (by simp)
  simp only [World.size_alloc] at hr hs ⊢
  have n0 : w.heap.size ≠ w.heap.size + 1 := by omega
  have B1 : Below w.heap.size w w1 := k0.trans (hb.mono (by simp))
  have z1 := hr.1
  clear hb h k0
  go_wp2_with fail
  refine (drawWord _ 0 w1 hr (by omega)).mono ?_
  rintro e w2 ⟨x, b, p', rfl, L2, _, r2, hs2⟩
  have Z2 := Z1.stp hs2 n0
  have B2 : Below w.heap.size w w2 := hs2.below B1 (by omega)
  clear hs2 hr Z1 B1 r2
  obtain ⟨q1, g1⟩ := Z2.rules
  go_wp2_with fail
  refine bodyPost_ret (v := wordV x b) ?_ rfl ⟨x, b, rfl, (L2.fill15 (by omega)).inL, L2.len, fill15_below B2 (by omega)⟩
  refine Blk.gen (B := w.heap.size) (vs := wordC x b) (T := 56) ?_ (P := fun W => (results Try.f51 _).run Try.prog W = .ok _ W) ?_
  · exact Blk.fill15 Z2
  intro W hW
  obtain ⟨k, f⟩ := hW.rules
  simp [results, Try.results51, go_sem, k]
/-- Without its lists a word that is ok is ok. -/
theorem wordB_bare {x : Wd} (h : wordB x = true) : wordB ⟨x.kind, x.fr, x.to, x.call, x.key, x.t, x.s, x.val, x.yes, [], x.slot, x.ep, [], [], []⟩ = true := by
  unfold wordB numsW listsW at *
  simp only [Bool.and_eq_true] at *
  refine ⟨⟨⟨h.1.1.1, h.1.1.2⟩, h.1.2⟩, ⟨⟨⟨ok_nil, chainB_nil⟩, chainB_nil⟩, owesB_nil⟩⟩
theorem wordB_to {x : Wd} {t : Int} (h0 : 4 ≤ t) (h1 : t ≤ 9) : wordB ⟨x.kind, x.fr, t, x.call, x.key, x.t, x.s, x.val, x.yes, x.ds, x.slot, x.ep, x.vs, x.ws, x.os⟩ = false := by
  have : placeB t = false := by
    unfold placeB inB
    simp
    omega
  unfold wordB
  simp [this]

set_option maxHeartbeats 4000000 in
set_option maxRecDepth 20000 in
theorem lawWord (w : World) (c : Option Addr) (len cap : Nat) (h : Code w c len cap) :
    Calls Try.prog 10 #[.slice c len cap] w fun e w' => e = .returned (.bool true) ∧ Below w.heap.size w w' := by
  have hm := h.2.1
  have hl := h.1
  unfold maxLen at hm
  by_cases hc : 1048576 < (len : Int)
  · go_enter Try.func10, Try.ntmps10
    go_wp2
    go_ret
    exact ⟨rfl, Below.refl _ _⟩
  go_enter Try.func10, Try.ntmps10
  go_wp2_with fail
  refine (drawWOk w c len cap h).mono ?_
  rintro e w1 ⟨x, a, rfl, L1, hL, B1⟩
  have b1 := (Below.refl _ w1).alloc (Nat.le_refl _) (.cells (wordC x a) 56)
  have X1 := Blk.new w1 (wordC x a) 56
  have L1' := L1.below b1
  have B1' := B1.trans (b1.mono B1.size)
  have hI := fun W h => iWord_any x a W hL h
  have hS := fun W h => sWord_any x a W hL h
  have HB : Hid (wordB x = true → wordB ⟨x.kind, x.fr, x.to, x.call, x.key, x.t, x.s, x.val, x.yes, [], x.slot, x.ep, [], [], []⟩ = true) := fun hb => wordB_bare hb
  generalize wordB x = q at *
  have hl2 : (len : Int) ≤ 1048576 := by omega
  clear h hm hl L1 B1 b1 hc
  obtain ⟨q1, g1⟩ := X1.rules
  go_wp2_with fail
  clear q1 g1
  generalize w1.alloc (.cells (wordC x a) 56) = w1' at *
  refine (hI _ L1').mono ?_
  rintro e w2 ⟨rfl, hb2⟩
  have X2 := X1.below hb2 X1.lt
  have L2 := L1'.below hb2
  have B2 : Below w.heap.size w w2 := B1'.trans (hb2.mono B1'.size)
  clear X1 L1' B1' hb2 hI
  obtain ⟨q1, g1⟩ := X2.rules
  go_wp2_with fail
  clear q1 g1
  refine (hS _ L2).mono ?_
  rintro e w3 ⟨rfl, hb3⟩
  have X3 := X2.below hb3 X2.lt
  have L3 := L2.below hb3
  have B3 : Below w.heap.size w w3 := B2.trans (hb3.mono B2.size)
  clear X2 L2 B2 hb3
  rcases q with _ | _
  · clear HB
    obtain ⟨q1, g1⟩ := X3.rules
    go_wp2_with fail
    clear q1 g1
    refine (hS _ L3).mono ?_
    rintro e w4 ⟨rfl, hb4⟩
    have B4 : Below w.heap.size w w4 := B3.trans (hb4.mono B3.size)
    clear X3 L3 B3 hb4 hS
    go_wp2_with fail
    go_ret
    exact ⟨rfl, B4⟩
  have hbare := HB.out rfl
  obtain ⟨tt, ht⟩ : ∃ tt : Int, 4 + (len : Int) % 6 = tt := ⟨_, rfl⟩
  have HT : Hid (4 + (len : Int) % 6 = tt) := ht
  have t0 : 4 ≤ tt := by omega
  have t9 : tt ≤ 9 := by omega
  have hto := wordB_to (x := x) t0 t9
  have hI1 := fun W h => iWord_any ⟨x.kind, x.fr, x.to, x.call, x.key, x.t, x.s, x.val, x.yes, [], x.slot, x.ep, [], [], []⟩ ⟨none, 0, none, 0, none, 0, none, 0⟩ W ⟨by simp, by simp, by simp, by simp⟩ h
  have hI2 := fun W h => iWord_any ⟨x.kind, x.fr, tt, x.call, x.key, x.t, x.s, x.val, x.yes, x.ds, x.slot, x.ep, x.vs, x.ws, x.os⟩ a W ⟨hL.d, hL.v, hL.w, hL.o⟩ h
  rw [hbare] at hI1
  rw [hto] at hI2
  have Y4 : Blk ((w3.alloc (.cells #[.int .i64 x.kind, .int .i64 x.fr, .int .i64 x.to, .int .i64 x.call, .int .i64 x.key, .int .i64 x.t, .int .i64 x.s, .int .i64 x.val, .bool x.yes, .slice none 0 0, .int .i64 x.slot, .int .i64 x.ep, .slice none 0 0, .slice none 0 0, .slice none 0 0] 56)).alloc (.cells #[.int .i64 x.kind, .int .i64 x.fr, .int .i64 tt, .int .i64 x.call, .int .i64 x.key, .int .i64 x.t, .int .i64 x.s, .int .i64 x.val, .bool x.yes, .slice a.da x.ds.length a.dc, .int .i64 x.slot, .int .i64 x.ep, .slice a.va x.vs.length a.vc, .slice a.wa x.ws.length a.wc, .slice a.oa x.os.length a.oc] 56)) (w3.heap.size + 1) #[.int .i64 x.kind, .int .i64 x.fr, .int .i64 tt, .int .i64 x.call, .int .i64 x.key, .int .i64 x.t, .int .i64 x.s, .int .i64 x.val, .bool x.yes, .slice a.da x.ds.length a.dc, .int .i64 x.slot, .int .i64 x.ep, .slice a.va x.vs.length a.vc, .slice a.wa x.ws.length a.wc, .slice a.oa x.os.length a.oc] 56 := by have := Blk.new (w3.alloc (.cells #[.int .i64 x.kind, .int .i64 x.fr, .int .i64 x.to, .int .i64 x.call, .int .i64 x.key, .int .i64 x.t, .int .i64 x.s, .int .i64 x.val, .bool x.yes, .slice none 0 0, .int .i64 x.slot, .int .i64 x.ep, .slice none 0 0, .slice none 0 0, .slice none 0 0] 56)) #[.int .i64 x.kind, .int .i64 x.fr, .int .i64 tt, .int .i64 x.call, .int .i64 x.key, .int .i64 x.t, .int .i64 x.s, .int .i64 x.val, .bool x.yes, .slice a.da x.ds.length a.dc, .int .i64 x.slot, .int .i64 x.ep, .slice a.va x.vs.length a.vc, .slice a.wa x.ws.length a.wc, .slice a.oa x.os.length a.oc] 56; simpa using this
  have b4 : Below w3.heap.size w3 ((w3.alloc (.cells #[.int .i64 x.kind, .int .i64 x.fr, .int .i64 x.to, .int .i64 x.call, .int .i64 x.key, .int .i64 x.t, .int .i64 x.s, .int .i64 x.val, .bool x.yes, .slice none 0 0, .int .i64 x.slot, .int .i64 x.ep, .slice none 0 0, .slice none 0 0, .slice none 0 0] 56)).alloc (.cells #[.int .i64 x.kind, .int .i64 x.fr, .int .i64 tt, .int .i64 x.call, .int .i64 x.key, .int .i64 x.t, .int .i64 x.s, .int .i64 x.val, .bool x.yes, .slice a.da x.ds.length a.dc, .int .i64 x.slot, .int .i64 x.ep, .slice a.va x.vs.length a.vc, .slice a.wa x.ws.length a.wc, .slice a.oa x.os.length a.oc] 56)) := ((Below.refl _ w3).alloc (Nat.le_refl _) _).alloc (by simp) _
  have L4 := L3.below b4
  have B4 := B3.trans (b4.mono B3.size)
  clear hbare hto HB hS ht t0 t9 b4
  obtain ⟨q1, g1⟩ := X3.rules
  obtain ⟨q2, g2⟩ := (X3.alloc (.cells #[.int .i64 x.kind, .int .i64 x.fr, .int .i64 x.to, .int .i64 x.call, .int .i64 x.key, .int .i64 x.t, .int .i64 x.s, .int .i64 x.val, .bool x.yes, .slice none 0 0, .int .i64 x.slot, .int .i64 x.ep, .slice none 0 0, .slice none 0 0, .slice none 0 0] 56)).rules
  go_wp2_with fail
  rw [HT.out]
  clear q1 g1 q2 g2 X3 L3 B3
  generalize ((w3.alloc (.cells #[.int .i64 x.kind, .int .i64 x.fr, .int .i64 x.to, .int .i64 x.call, .int .i64 x.key, .int .i64 x.t, .int .i64 x.s, .int .i64 x.val, .bool x.yes, .slice none 0 0, .int .i64 x.slot, .int .i64 x.ep, .slice none 0 0, .slice none 0 0, .slice none 0 0] 56)).alloc (.cells #[.int .i64 x.kind, .int .i64 x.fr, .int .i64 tt, .int .i64 x.call, .int .i64 x.key, .int .i64 x.t, .int .i64 x.s, .int .i64 x.val, .bool x.yes, .slice a.da x.ds.length a.dc, .int .i64 x.slot, .int .i64 x.ep, .slice a.va x.vs.length a.vc, .slice a.wa x.ws.length a.wc, .slice a.oa x.os.length a.oc] 56)) = w4 at *
  refine (hI1 _ ⟨.inl rfl, .inl rfl, .inl rfl, .inl rfl⟩).mono ?_
  rintro e w5 ⟨rfl, hb5⟩
  have Y5 := Y4.below hb5 Y4.lt
  have L5 := L4.below hb5
  have B5 : Below w.heap.size w w5 := B4.trans (hb5.mono B4.size)
  clear Y4 L4 B4 hb5 hI1
  obtain ⟨q1, g1⟩ := Y5.rules
  go_wp2_with fail
  clear q1 g1
  refine (hI2 _ ⟨L5.d, L5.v, L5.w, L5.o⟩).mono ?_
  rintro e w6 ⟨rfl, hb6⟩
  have B6 : Below w.heap.size w w6 := B5.trans (hb6.mono B5.size)
  clear Y5 L5 B5 hb6 hI2
  go_wp2_with fail
  go_ret
  exact ⟨rfl, B6⟩
end Go.Proofs.Ytgdkoangpinieaa
