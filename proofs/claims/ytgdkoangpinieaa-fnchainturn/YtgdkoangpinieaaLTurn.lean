/- The law: two versions can be put in either order. -/
import Derived.Test.YtgdkoangpinieaaLFull
namespace Go.Proofs.Ytgdkoangpinieaa
open Go.ChangeShapes Go.WideShapes Go.ChangeAt Go.RowKit

theorem cAt_no {vs : List V} {k t s : Int} (h : ∀ v ∈ vs, sameB v k t s = false) : cAt vs k t s = none := by
  unfold cAt
  rw [List.find?_eq_none]
  intro v hv
  simp [h v hv]
theorem turn {vs : List V} {x y : V} (h1 : cDid vs x = true) (h2 : cDid (cPut vs x) y = true) : cDid vs y = true ∧ cDid (cPut vs y) x = true ∧ cPut (cPut vs y) x = cPut (cPut vs x) y := by
  obtain ⟨hc, hp⟩ : chainB vs = true ∧ putB vs x = true := by unfold cDid at h1; simpa using h1
  obtain ⟨hc2, hp2⟩ : chainB (cPut vs x) = true ∧ putB (cPut vs x) y = true := by unfold cDid at h2; simpa using h2
  have e1 := (put_take hc hp).1
  rw [e1] at hc2 hp2
  have q1 := hp
  have q2 := hp2
  unfold putB at q1 q2
  simp at q1 q2
  obtain ⟨⟨x1, x2⟩, x3⟩ := q1
  obtain ⟨⟨y1, y2⟩, y3⟩ := q2
  rw [insV_len] at y3
  have ny : ∀ v ∈ insV x vs, sameB v y.k y.t y.s = false := cAt_none y2
  have nx : ∀ v ∈ vs, sameB v x.k x.t x.s = false := cAt_none x2
  have cy : cAt vs y.k y.t y.s = none := cAt_no fun v hv => ny v (insV_mem.2 (.inr hv))
  have hpy : putB vs y = true := putB_yes y1 (by rw [cy]; rfl) x3
  have e2 := put_take hc hpy
  have hcy := put_chain hc y
  rw [e2.1] at hcy
  have cx : cAt (insV y vs) x.k x.t x.s = none := cAt_no fun v hv => by
    rcases insV_mem.1 hv with rfl | hv
    · have := ny x (insV_mem.2 (.inl rfl))
      cases hs : sameB v x.k x.t x.s with
      | false => rfl
      | true =>
        obtain ⟨a1, a2, a3⟩ := sameB_iff.1 hs
        rw [sameB_iff.2 ⟨a1.symm, a2.symm, a3.symm⟩] at this
        cases this
    · exact nx v hv
  have hpx : putB (insV y vs) x = true := putB_yes x1 (by rw [cx]; rfl) (by rw [insV_len]; omega)
  have e3 := put_take hcy hpx
  have e4 := put_take hc2 hp2
  rw [e2.1, e1, e3.1, e4.1]
  refine ⟨e2.2, e3.2, asc_unique (insV_asc (chainB_iff.1 hcy).2.2 cx) (insV_asc (chainB_iff.1 hc2).2.2 y2) ?_⟩
  exact (insV_perm x _).trans (((insV_perm y vs).cons x).trans ((List.Perm.swap y x vs).trans (((insV_perm x vs).symm.cons y).trans (insV_perm y _).symm)))

set_option maxHeartbeats 4000000 in
set_option maxRecDepth 20000 in
theorem lawTurn (w : World) (a : Option Addr) (len cap : Nat) (c : Option Addr) (len' cap' : Nat) (h : Code w a len cap) (h' : Code w c len' cap') :
    Calls Try.prog 4 #[.slice a len cap, .slice c len' cap'] w fun e w' => e = .returned (.bool true) ∧ Below w.heap.size w w' := by
  have hm := h.2.1
  have hl := h.1
  have hm' := h'.2.1
  have hl' := h'.1
  unfold maxLen at hm hm'
  by_cases hc : 1048576 < (len : Int)
  · go_enter Try.func4, Try.ntmps4
    go_wp2
    go_ret
    exact ⟨rfl, Below.refl _ _⟩
  by_cases hc' : 1048576 < (len' : Int)
  · go_enter Try.func4, Try.ntmps4
    go_wp2
    go_ret
    exact ⟨rfl, Below.refl _ _⟩
  go_enter Try.func4, Try.ntmps4
  go_wp2_with fail
  refine (drawCPut w a len cap h).mono ?_
  rintro e w1 ⟨v1, ys, vs, x, da, dc, rfl, O1, hy, hF, hxl, D1, B1⟩
  obtain ⟨va, vc, rfl, V1⟩ := O1.asD hy
  have b1 := (Below.refl _ w1).alloc (Nat.le_refl _) (.cells #[.int .i64 x.k, .int .i64 x.t, .int .i64 x.s, .int .i64 x.val, .int .i64 x.cl, .int .i64 x.ca, .slice da x.ds.length dc] 28)
  have A1 := Blk.new w1 #[.int .i64 x.k, .int .i64 x.t, .int .i64 x.s, .int .i64 x.val, .int .i64 x.cl, .int .i64 x.ca, .slice da x.ds.length dc] 28
  have V1' := V1.below b1
  have D1' := D1.below b1
  have B1' := B1.trans (b1.mono B1.size)
  clear h hm hl O1 hy hc V1 D1 B1 b1
  go_wp2_with fail
  generalize w1.alloc (.cells #[.int .i64 x.k, .int .i64 x.t, .int .i64 x.s, .int .i64 x.val, .int .i64 x.cl, .int .i64 x.ca, .slice da x.ds.length dc] 28) = w1' at *
  refine (drawCPut w1' c len' cap' (h'.below B1')).mono ?_
  rintro e w2 ⟨v2, ys2, vs2, y, ea, ec, rfl, O2, hy2, hF2, hyl, E2, hb2⟩
  obtain ⟨va2, vc2, rfl, _⟩ := O2.asD hy2
  have b2 := (Below.refl _ w2).alloc (Nat.le_refl _) (.cells #[.int .i64 y.k, .int .i64 y.t, .int .i64 y.s, .int .i64 y.val, .int .i64 y.cl, .int .i64 y.ca, .slice ea y.ds.length ec] 28)
  have bb := hb2.trans (b2.mono hb2.size)
  have C3 := Blk.new w2 #[.int .i64 y.k, .int .i64 y.t, .int .i64 y.s, .int .i64 y.val, .int .i64 y.cl, .int .i64 y.ca, .slice ea y.ds.length ec] 28
  have A3 := A1.below bb A1.lt
  have V3 := V1'.below bb
  have D3 := D1'.below bb
  have E3 := E2.below b2
  have B3 := B1'.trans (bb.mono B1'.size)
  clear h' hm' hl' hc' O2 hy2 hF2 E2 hb2 b2 bb A1 V1' D1' B1'
  have hvl : vs.length ≤ 81 := hF.1
  have Fp := hF.put81 hxl
  have lp := Fp.1
  have dp : ∀ v ∈ cPut vs x, v.ds.length ≤ 1048576 := fun v hv => by have := Fp.2 v hv; omega
  have Fq := Fp.put81 hyl
  have lq := Fq.1
  have dq : ∀ v ∈ cPut (cPut vs x) y, v.ds.length ≤ 1048576 := fun v hv => by have := Fq.2 v hv; omega
  have Fz := hF.put81 hyl
  have lz := Fz.1
  have HT : Hid (cDid vs x = true → cDid (cPut vs x) y = true → cDid vs y = true ∧ cDid (cPut vs y) x = true ∧ cPut (cPut vs y) x = cPut (cPut vs x) y) := fun h1 h2 => turn h1 h2
  have hI1 := fun W a' c' h h' => iPutV_any va vc vs x a' c' W (by omega) h (by omega) h'
  have hS1 := fun W a' c' h h' => sPutV_any va vc vs x a' c' W (by omega) h (by omega) h'
  have hI2 := fun b cc W a' c' h h' => iPutV_any b cc (cPut vs x) y a' c' W (by omega) h (by omega) h'
  have hI3 := fun W a' c' h h' => iPutV_any va vc vs y a' c' W (by omega) h (by omega) h'
  have hI4 := fun b cc W a' c' h h' => iPutV_any b cc (cPut vs y) x a' c' W (by omega) h (by omega) h'
  generalize cPut (cPut vs y) x = ql2 at *
  generalize cPut (cPut vs x) y = ql at *
  generalize cDid (cPut vs y) x = did4 at *
  generalize cDid (cPut vs x) y = did2 at *
  generalize cPut vs x = pl at *
  generalize cPut vs y = zl at *
  generalize cDid vs x = did1 at *
  generalize cDid vs y = did3 at *
  clear hF Fp Fq Fz
  obtain ⟨q1, g1⟩ := A3.rules
  go_wp2_with fail
  clear q1 g1
  generalize w2.alloc (.cells #[.int .i64 y.k, .int .i64 y.t, .int .i64 y.s, .int .i64 y.val, .int .i64 y.cl, .int .i64 y.ca, .slice ea y.ds.length ec] 28) = w3 at *
  refine (hS1 _ _ _ V3 D3).mono ?_
  rintro e w4 ⟨u4, ys4, rfl, P4, hy4, hb4⟩
  obtain ⟨aP, cP, rfl, VP4⟩ := P4.asD hy4
  clear P4 hS1
  have V4 := V3.below hb4
  have D4 := D3.below hb4
  have E4 := E3.below hb4
  have A4 := A3.below hb4 A3.lt
  have C4 := C3.below hb4 C3.lt
  have B4 : Below w.heap.size w w4 := B3.trans (hb4.mono B3.size)
  clear V3 D3 E3 A3 C3 B3 hb4
  obtain ⟨q1, g1⟩ := A4.rules
  go_wp2_with fail
  clear q1 g1
  refine (hI1 _ _ _ V4 D4).mono ?_
  rintro e w5 ⟨u5, ys5, rfl, G5, hy5, hb5⟩
  obtain ⟨aG, cG, rfl, VG5⟩ := G5.asD hy5
  clear G5 hI1
  have V5 := V4.below hb5
  have D5 := D4.below hb5
  have E5 := E4.below hb5
  have VP5 := VP4.below hb5
  have A5 := A4.below hb5 A4.lt
  have C5 := C4.below hb5 C4.lt
  have B5 : Below w.heap.size w w5 := B4.trans (hb5.mono B4.size)
  clear V4 D4 E4 VP4 A4 C4 B4 hb5
  go_wp2_with fail
  refine (liVers_any aG aP pl cG cP _ (by omega) dp VG5 VP5).mono ?_
  rintro e w6 ⟨rfl, hb6⟩
  have V6 := V5.below hb6
  have D6 := D5.below hb6
  have E6 := E5.below hb6
  have VP6 := VP5.below hb6
  have VG6 := VG5.below hb6
  have A6 := A5.below hb6 A5.lt
  have C6 := C5.below hb6 C5.lt
  have B6 : Below w.heap.size w w6 := B5.trans (hb6.mono B5.size)
  clear V5 D5 E5 VP5 VG5 A5 C5 B5 hb6
  rcases did1 with _ | _
  · clear HT hI2 hI3 hI4
    go_wp2_with fail
    refine (liVers_any aG aP pl cG cP _ (by omega) dp VG6 VP6).mono ?_
    rintro e w7 ⟨rfl, hb7⟩
    have B7 : Below w.heap.size w w7 := B6.trans (hb7.mono B6.size)
    clear VG6 VP6 V6 D6 E6 A6 C6 B6 hb7
    go_wp2_with fail
    go_ret
    exact ⟨rfl, B7⟩
  clear VP6
  obtain ⟨q1, g1⟩ := C6.rules
  go_wp2_with fail
  clear q1 g1
  refine (hI2 aG cG _ _ _ VG6 E6).mono ?_
  rintro e w7 ⟨u7, ys7, rfl, Y7, hy7, hb7⟩
  obtain ⟨aY, cY, rfl, VY7⟩ := Y7.asD hy7
  clear Y7 hI2 VG6
  have V7 := V6.below hb7
  have D7 := D6.below hb7
  have E7 := E6.below hb7
  have A7 := A6.below hb7 A6.lt
  have C7 := C6.below hb7 C6.lt
  have B7 : Below w.heap.size w w7 := B6.trans (hb7.mono B6.size)
  clear V6 D6 E6 A6 C6 B6 hb7
  obtain ⟨q1, g1⟩ := C7.rules
  go_wp2_with fail
  clear q1 g1
  refine (hI3 _ _ _ V7 E7).mono ?_
  rintro e w8 ⟨u8, ys8, rfl, Z8, hy8, hb8⟩
  obtain ⟨aZ, cZ, rfl, VZ8⟩ := Z8.asD hy8
  clear Z8 hI3
  have D8 := D7.below hb8
  have VY8 := VY7.below hb8
  have A8 := A7.below hb8 A7.lt
  have B8 : Below w.heap.size w w8 := B7.trans (hb8.mono B7.size)
  clear D7 VY7 A7 B7 hb8
  clear V7 E7 C7
  obtain ⟨q1, g1⟩ := A8.rules
  go_wp2_with fail
  clear q1 g1
  refine (hI4 aZ cZ _ _ _ VZ8 D8).mono ?_
  rintro e w9 ⟨u9, ys9, rfl, W9, hy9, hb9⟩
  obtain ⟨aW, cW, rfl, VW9⟩ := W9.asD hy9
  clear W9 hI4
  have VY9 := VY8.below hb9
  have B9 : Below w.heap.size w w9 := B8.trans (hb9.mono B8.size)
  clear VY8 B8 hb9
  clear VZ8 D8 A8
  rcases did2 with _ | _
  · clear HT
    go_wp2_with fail
    go_ret
    exact ⟨rfl, B9⟩
  obtain ⟨r1, r2, r3⟩ := HT.out (by simp) (by simp)
  subst r1 r2 r3
  clear HT
  go_wp2_with fail
  refine (liVers_any aW aY _ cW cY _ (by omega) dq VW9 VY9).mono ?_
  rintro e w10 ⟨rfl, hb10⟩
  have B10 : Below w.heap.size w w10 := B9.trans (hb10.mono B9.size)
  clear VW9 VY9 B9 hb10
  go_wp2_with fail
  go_ret
  exact ⟨rfl, B10⟩
end Go.Proofs.Ytgdkoangpinieaa
