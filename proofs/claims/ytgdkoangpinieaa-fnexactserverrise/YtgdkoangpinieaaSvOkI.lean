/- The program's ServerOk. -/
import Derived.Test.YtgdkoangpinieaaSvWt
namespace Go.Proofs.Ytgdkoangpinieaa
open Go.ChangeShapes Go.WideShapes Go.ChangeAt Go.RowKit

theorem side_neg (n : Int) : decide (sideOf n < 0) = !(inB n 0 3) := by
  unfold sideOf inB
  by_cases h : n < 0 ∨ 4 ≤ n
  · rw [if_pos h]; simp; omega
  · rw [if_neg h]
    have h1 : decide (n / 2 < 0) = false := by simp; omega
    rw [h1]; simp; omega

set_option maxHeartbeats 4000000 in
set_option maxRecDepth 20000 in
theorem iServerOk_any (x : Sv) (a : Sa) (w : World) (hl : LenS x) (h : InS w x a) : Calls Try.prog 70 #[servV x a] w fun e w' => e = .returned (.bool (servB x)) ∧ Below w.heap.size w w' := by
  have b0 : Below w.heap.size w (w.alloc (.cells #[.int .i64 x.site, .bool x.up, .slice a.la x.sl.length a.lc, .slice a.va x.vs.length a.vc, .slice a.wa x.ws.length a.wc, .slice a.oa x.os.length a.oc, .slice a.ka x.kn.length a.kc] 63)) := (Below.refl _ _).alloc (Nat.le_refl _) _
  have A0 := Blk.new w #[.int .i64 x.site, .bool x.up, .slice a.la x.sl.length a.lc, .slice a.va x.vs.length a.vc, .slice a.wa x.ws.length a.wc, .slice a.oa x.os.length a.oc, .slice a.ka x.kn.length a.kc] 63
  have L0 := h.below b0
  have hT := fun W h => slotsTab_any a.la a.lc x.sl W hl.l h
  have HE : Hid (servB x = (slotsB x.sl && inB x.site 0 3 && listsS x && (x.up || decide (x.kn.length = 0)) && allHere x.sl x.vs && allHere x.sl x.ws && waitsB x && owedB x)) := by show _ = _; unfold servB; rfl
  generalize servB x = r at *
  clear h
  rcases hs : slotsB x.sl with _ | _
  · rw [hs, tabV_no hs] at hT
    rw [hs] at HE
    clear hs
    go_enter Try.func70, Try.ntmps70
    go_wp2_with fail
    generalize (w.alloc (.cells #[.int .i64 x.site, .bool x.up, .slice a.la x.sl.length a.lc, .slice a.va x.vs.length a.vc, .slice a.wa x.ws.length a.wc, .slice a.oa x.os.length a.oc, .slice a.ka x.kn.length a.kc] 63)) = w0 at *
    refine (hT _ L0.l).mono ?_
    rintro e w1 ⟨rfl, hb1⟩
    have B1 : Below w.heap.size w w1 := b0.trans (hb1.mono b0.size)
    clear hb1 b0 L0 hT A0
    go_wp2_with fail
    go_ret
    exact ⟨by rw [HE.out]; simp, B1.alloc B1.size _⟩
  obtain ⟨s1, s2, s3, he⟩ := slotsB_three hs
  have ht : tabV x.sl = tab6 s1 s2 s3 := by rw [he]; exact tabV_yes (by rw [← he]; exact hs)
  rw [hs, ht] at hT
  rw [hs] at HE
  have hS : ∀ W, Calls Try.prog 134 #[.int .i64 x.site] W fun e w' => e = .returned (.int .i64 (sideOf x.site)) ∧ w' = W := fun W => side_is rfl W
  have hng := side_neg x.site
  have h3 := fun W h => listsS_any x a W hl h
  have h4 : ∀ W, chainB x.vs = true → Vers W a.va x.vs → _ := fun W hc h => holdsAll_any s1 s2 s3 a.va a.vc x.vs W hc h
  have h5 : ∀ W, chainB x.ws = true → Vers W a.wa x.ws → _ := fun W hc h => holdsAll_any s1 s2 s3 a.wa a.wc x.ws W hc h
  have h6 : ∀ W, chainB x.vs = true → InS W x a → _ := fun W hc h => waitsOk_any x a W hc hl.w h
  have h7 : ∀ W, chainB x.vs = true → InS W x a → _ := fun W hc h => owesOk_any x a W hc hl.o h
  have HL : Hid (listsS x = true → chainB x.vs = true ∧ chainB x.ws = true) := by show _ → _; intro hh; unfold listsS at hh; simp at hh; exact ⟨hh.1.1.1, hh.1.1.2⟩
  have HA1 : Hid (allHere [s1, s2, s3] x.vs = allHere x.sl x.vs) := by show _ = _; rw [he]
  have HA2 : Hid (allHere [s1, s2, s3] x.ws = allHere x.sl x.ws) := by show _ = _; rw [he]
  rw [HA1.out] at h4
  rw [HA2.out] at h5
  clear HA1 HA2 hs ht he
  generalize inB x.site 0 3 = r1 at *
  generalize sideOf x.site = sd at *
  generalize listsS x = r2 at *
  generalize allHere x.sl x.vs = r3 at *
  generalize allHere x.sl x.ws = r4 at *
  generalize waitsB x = r5 at *
  generalize owedB x = r6 at *
  have HR : Hid (r = (r1 && r2 && (x.up || decide (x.kn.length = 0)) && r3 && r4 && r5 && r6)) := by have := HE.out; rw [Bool.true_and] at this; exact this
  clear HE
  have kl := hl.k
  clear hl
  go_enter Try.func70, Try.ntmps70
  go_wp2_with fail
  generalize (w.alloc (.cells #[.int .i64 x.site, .bool x.up, .slice a.la x.sl.length a.lc, .slice a.va x.vs.length a.vc, .slice a.wa x.ws.length a.wc, .slice a.oa x.os.length a.oc, .slice a.ka x.kn.length a.kc] 63)) = w0 at *
  refine (hT _ L0.l).mono ?_
  rintro e w1 ⟨rfl, hb1⟩
  have bt : Below w1.heap.size w1 (w1.alloc (.cells (tab6 s1 s2 s3) 137)) := (Below.refl _ _).alloc (Nat.le_refl _) _
  have bb := hb1.trans (bt.mono hb1.size)
  have A1 := A0.below bb A0.lt
  have L1 := L0.below bb
  have T1 := Blk.new w1 (tab6 s1 s2 s3) 137
  have B1 : Below w.heap.size w (w1.alloc (.cells (tab6 s1 s2 s3) 137)) := b0.trans (bb.mono b0.size)
  have A1' := A0.below hb1 A0.lt
  have za := A1'.lt
  obtain ⟨q1, g1⟩ := A1'.rules
  clear A0 L0 b0 hb1 hT bt bb
  rcases r1 with _ | _
  · have hneg : decide (sd < 0) = true := by simpa using hng
    clear hng A1 L1 T1
    go_wp2_with (first | (go_at_call 134; refine (hS _).mono ?_; rintro e w' ⟨rfl, rfl⟩))
    go_ret
    exact ⟨by rw [HR.out]; simp, B1⟩
  have hneg : decide (sd < 0) = false := by simpa using hng
  clear hng
  go_wp2_with (first | (go_at_call 134; refine (hS _).mono ?_; rintro e w' ⟨rfl, rfl⟩))
  clear q1 g1 A1' hS hneg
  generalize w1.alloc (.cells (tab6 s1 s2 s3) 137) = W1 at *
  refine (h3 _ L1).mono ?_
  rintro e w3 ⟨rfl, hb3⟩
  have A3 := A1.below hb3 A1.lt
  have L3 := L1.below hb3
  have T3 := T1.below hb3 T1.lt
  have B3 : Below w.heap.size w w3 := B1.trans (hb3.mono B1.size)
  clear A1 L1 T1 B1 hb3 h3
  rcases r2 with _ | _
  · clear A3 L3 T3 h4 h5 h6 h7
    go_wp2_with fail
    go_ret
    exact ⟨by rw [HR.out]; simp, B3⟩
  obtain ⟨hc1, hc2⟩ := HL.out rfl
  obtain ⟨q2, g2⟩ := T3.rules
  have y1 := A3.lt
  have y2 := T3.lt
  simp only [servV, servC] at h6 h7
  rcases hxu : x.up with _ | _
  · rw [hxu] at A3 HR
    simp only [hxu] at h6 h7
    obtain ⟨q1, g1⟩ := A3.rules
    by_cases hk0 : x.kn.length = 0
    · have HR2 : Hid (r = (true && true && true && r3 && r4 && r5 && r6)) := by rw [hk0] at HR; exact HR.out
      have hd0 : decide ((0 : Int) < (x.kn.length : Int)) = false := by simp [hk0]
      have hd1 : decide (0 < x.kn.length) = false := by simp [hk0]
      have hd2 : ¬ 0 < x.kn.length := by omega
      clear HR hk0 hxu
      have HR := HR2
      clear HR2
      go_wp2_with fail
      clear q1 g1 q2 g2 y1 y2
      refine (h4 _ hc1 L3.v).mono ?_
      rintro e w4 ⟨rfl, hb4⟩
      have A4 := A3.below hb4 A3.lt
      have L4 := L3.below hb4
      have T4 := T3.below hb4 T3.lt
      have B4 : Below w.heap.size w w4 := B3.trans (hb4.mono B3.size)
      clear A3 L3 T3 B3 hb4 h4
      rcases r3 with _ | _
      · clear A4 L4 T4 h5 h6 h7
        go_wp2_with fail
        go_ret
        exact ⟨by rw [HR.out]; simp, B4⟩
      obtain ⟨q1, g1⟩ := A4.rules
      obtain ⟨q2, g2⟩ := T4.rules
      have y1 := A4.lt
      have y2 := T4.lt
      go_wp2_with fail
      clear q1 g1 q2 g2 y1 y2
      refine (h5 _ hc2 L4.w).mono ?_
      rintro e w5 ⟨rfl, hb5⟩
      have A5 := A4.below hb5 A4.lt
      have L5 := L4.below hb5
      have B5 : Below w.heap.size w w5 := B4.trans (hb5.mono B4.size)
      clear A4 L4 T4 B4 hb5 h5
      rcases r4 with _ | _
      · clear A5 L5 h6 h7
        go_wp2_with fail
        go_ret
        exact ⟨by rw [HR.out]; simp, B5⟩
      obtain ⟨q1, g1⟩ := A5.rules
      have y1 := A5.lt
      go_wp2_with fail
      clear q1 g1 y1
      refine (h6 _ hc1 L5).mono ?_
      rintro e w6 ⟨rfl, hb6⟩
      have A6 := A5.below hb6 A5.lt
      have L6 := L5.below hb6
      have B6 : Below w.heap.size w w6 := B5.trans (hb6.mono B5.size)
      clear A5 L5 B5 hb6 h6
      rcases r5 with _ | _
      · clear A6 L6 h7
        go_wp2_with fail
        go_ret
        exact ⟨by rw [HR.out]; simp, B6⟩
      obtain ⟨q1, g1⟩ := A6.rules
      have y1 := A6.lt
      go_wp2_with fail
      clear q1 g1 y1
      refine (h7 _ hc1 L6).mono ?_
      rintro e w7 ⟨rfl, hb7⟩
      have B7 : Below w.heap.size w w7 := B6.trans (hb7.mono B6.size)
      clear A6 L6 B6 hb7 h7
      go_wp2_with fail
      go_ret
      exact ⟨by rw [HR.out]; simp, B7⟩
    · have hd0 : decide ((0 : Int) < (x.kn.length : Int)) = true := by simp; omega
      have hd1 : decide (0 < x.kn.length) = true := by simp; omega
      have hd2 : 0 < x.kn.length := by omega
      have hd3 : (0 : Int) < (x.kn.length : Int) := by omega
      have HR2 : Hid (decide (x.kn.length = 0) = false) := by show _ = _; simpa using hk0
      rw [HR2.out] at HR
      clear h4 h5 h6 h7 L3 hk0 hxu
      go_wp2_with fail
      go_ret
      exact ⟨by rw [HR.out]; simp, B3⟩
  · rw [hxu] at A3 HR
    simp only [hxu] at h6 h7
    obtain ⟨q1, g1⟩ := A3.rules
    have HR2 : Hid (r = (true && true && true && r3 && r4 && r5 && r6)) := HR.out
    clear HR hxu
    have HR := HR2
    clear HR2
    go_wp2_with fail
    clear q1 g1 q2 g2 y1 y2
    refine (h4 _ hc1 L3.v).mono ?_
    rintro e w4 ⟨rfl, hb4⟩
    have A4 := A3.below hb4 A3.lt
    have L4 := L3.below hb4
    have T4 := T3.below hb4 T3.lt
    have B4 : Below w.heap.size w w4 := B3.trans (hb4.mono B3.size)
    clear A3 L3 T3 B3 hb4 h4
    rcases r3 with _ | _
    · clear A4 L4 T4 h5 h6 h7
      go_wp2_with fail
      go_ret
      exact ⟨by rw [HR.out]; simp, B4⟩
    obtain ⟨q1, g1⟩ := A4.rules
    obtain ⟨q2, g2⟩ := T4.rules
    have y1 := A4.lt
    have y2 := T4.lt
    go_wp2_with fail
    clear q1 g1 q2 g2 y1 y2
    refine (h5 _ hc2 L4.w).mono ?_
    rintro e w5 ⟨rfl, hb5⟩
    have A5 := A4.below hb5 A4.lt
    have L5 := L4.below hb5
    have B5 : Below w.heap.size w w5 := B4.trans (hb5.mono B4.size)
    clear A4 L4 T4 B4 hb5 h5
    rcases r4 with _ | _
    · clear A5 L5 h6 h7
      go_wp2_with fail
      go_ret
      exact ⟨by rw [HR.out]; simp, B5⟩
    obtain ⟨q1, g1⟩ := A5.rules
    have y1 := A5.lt
    go_wp2_with fail
    clear q1 g1 y1
    refine (h6 _ hc1 L5).mono ?_
    rintro e w6 ⟨rfl, hb6⟩
    have A6 := A5.below hb6 A5.lt
    have L6 := L5.below hb6
    have B6 : Below w.heap.size w w6 := B5.trans (hb6.mono B5.size)
    clear A5 L5 B5 hb6 h6
    rcases r5 with _ | _
    · clear A6 L6 h7
      go_wp2_with fail
      go_ret
      exact ⟨by rw [HR.out]; simp, B6⟩
    obtain ⟨q1, g1⟩ := A6.rules
    have y1 := A6.lt
    go_wp2_with fail
    clear q1 g1 y1
    refine (h7 _ hc1 L6).mono ?_
    rintro e w7 ⟨rfl, hb7⟩
    have B7 : Below w.heap.size w w7 := B6.trans (hb7.mono B6.size)
    clear A6 L6 B6 hb7 h7
    go_wp2_with fail
    go_ret
    exact ⟨by rw [HR.out]; simp, B7⟩
end Go.Proofs.Ytgdkoangpinieaa
