/- The exact law of ServerTend. -/
import Derived.Test.YtpjidogilofppaaGreatTA1
import Derived.Test.YtpjidogilofppaaGreatGAQ
import Derived.Test.YtpjidogilofppaaGreatGSX
import Derived.Test.YtpjidogilofppaaGreatTA4
namespace Go.Proofs.YtpjidogilofppaaGreat
open Go.ChangeShapes Go.WideShapes Go.ChangeAt Go.RowKit Go.Deep

theorem end_sizeT (x : Sv) (h : sizeS x ≤ 1048576) : 0 ≤ endS 1 x ∧ endS 1 x ≤ 10000000 := by
  unfold sizeS at h
  unfold endS endV
  omega
set_option maxHeartbeats 16000000 in
set_option maxRecDepth 20000 in
theorem lawXServerTend (x : Sv) (a : Sa) (w : World) (h : InJ w x a) :
    Calls Tryz.prog 6 #[servV x a] w fun e w' => e = .returned (.bool true) ∧ Below w.heap.size w w' := by
  have b0 : Below w.heap.size w (w.alloc (.cells #[.int .i64 x.site, .bool x.up, .slice a.la x.sl.length a.lc, .slice a.va x.vs.length a.vc, .slice a.wa x.ws.length a.wc, .slice a.oa x.os.length a.oc, .slice a.ka x.kn.length a.kc] 26)) := (Below.refl _ _).alloc (Nat.le_refl _) _
  have A0 := Blk.new w #[.int .i64 x.site, .bool x.up, .slice a.la x.sl.length a.lc, .slice a.va x.vs.length a.vc, .slice a.wa x.ws.length a.wc, .slice a.oa x.os.length a.oc, .slice a.ka x.kn.length a.kc] 26
  have I0 := h.below b0
  go_enter Tryz.func6, Tryz.ntmps6
  go_wp2_with fail
  generalize w.alloc (.cells #[.int .i64 x.site, .bool x.up, .slice a.la x.sl.length a.lc, .slice a.va x.vs.length a.vc, .slice a.wa x.ws.length a.wc, .slice a.oa x.os.length a.oc, .slice a.ka x.kn.length a.kc] 26) = w0 at *
  refine (szServer_any x a _ I0).mono ?_
  rintro e w1 ⟨r, rfl, hr, hb1⟩
  have A1 := A0.below hb1 A0.lt
  have I1 := I0.below hb1
  have B1 : Below w.heap.size w w1 := b0.trans (hb1.mono b0.size)
  clear A0 I0 b0 hb1
  rcases hr with hr | ⟨hr, hs⟩
  · have d1 : decide (r < 0) = true := by simpa using hr
    clear A1 I1 hr h
    go_wp2_with fail
    go_ret
    exact ⟨rfl, B1⟩
  have d1 : decide (r < 0) = false := by simp; omega
  have hF := Fit.of hs
  have L1 := I1.inS hs
  have hT := fun W h => toServer_any x a W hF h
  have hS := fun b W h => sTend_any x b W hF.len h
  have hI := fun b W h => iTend_any x b W hF.len h
  have hEx := fun c b W h h' => eqServer_any x c b W hF h h'
  have hMx := fun c ys zs base W h => markServer_any x c ys zs base 1 W hs (by omega) (end_sizeT x hs).2 h
  have ex0 : 0 ≤ endS 1 x := (end_sizeT x hs).1
  obtain ⟨hSm, hLn⟩ := tendL_small x
  have hFt : ∀ X ∈ tendL x, FitWd X := fun X hX => (hSm X hX).fit
  have hen : endWs 1 (tendL x) ≤ 10000000 := by have := ends_small hSm 1; omega
  have hen0 : 0 ≤ endWs 1 (tendL x) := Int.le_trans (by omega) (endWs_mono (tendL x) 1)
  have hEw := fun p q cp cq W h h' => eqWords_any p q (tendL x) cp cq W (by omega) hFt h h'
  have hMw := fun v base Xs W (hx : Xs.map XW.x = tendL x) h => markWords_any v base Xs (tendL x) 1 W hx (by omega) hFt (by omega) hen h
  have hHw := fun p cp W h => heldWords_any p cp (tendL x) 1 W (by omega) hFt (by omega) hen h
  generalize tendL x = z at *
  generalize endWs 1 z = ez at *
  generalize endS 1 x = ex at *
  have dx0 : decide (ex < 0) = false := by simp; omega
  have dz0 : decide (ez < 0) = false := by simp; omega
  clear I1 h hs hF hSm hLn hFt hen hen0
  obtain ⟨q1, g1⟩ := A1.rules
  go_wp2_with fail
  clear q1 g1 d1
  refine (hT _ L1).mono ?_
  rintro e w2 ⟨b0, ys0, zs0, rfl, M2, hb2⟩
  have A2 := A1.below hb2 A1.lt
  have L2 := L1.below hb2
  have B2 : Below w.heap.size w w2 := B1.trans (hb2.mono B1.size)
  have N2 := M2.inS
  clear A1 L1 B1 hb2 M2
  go_wp2_with fail
  refine (hS b0 _ N2).mono ?_
  rintro e w3 ⟨u3, Ys, rfl, hJ3, mY, hb3⟩
  obtain ⟨ua, uc, rfl, hJw⟩ := hJ3.slice
  have hYl : Ys.length = z.length := by rw [← mY, List.length_map]
  rw [mY] at hJw
  have J3 := hJw
  have A3 := A2.below hb3 A2.lt
  have L3 := L2.below hb3
  have B3 : Below w.heap.size w w3 := B2.trans (hb3.mono B2.size)
  have HA3 : Hid (w.heap.size < w3.heap.size) := A3.lt
  rw [hYl]
  clear A2 L2 B2 hb3 N2 hS hJ3 hJw mY hYl
  obtain ⟨q1, g1⟩ := A3.rules
  go_wp2_with fail
  clear q1 g1
  refine (hT _ L3).mono ?_
  rintro e w4 ⟨c4, ysx, zsx, rfl, X4, hb4⟩
  have bx4 : Below w4.heap.size w4 (w4.alloc (.cells #[.int .i64 x.site, .bool x.up, .slice c4.la x.sl.length c4.lc, .slice c4.va x.vs.length c4.vc, .slice c4.wa x.ws.length c4.wc, .slice c4.oa x.os.length c4.oc, .slice c4.ka x.kn.length c4.kc] 32)) := (Below.refl _ _).alloc (Nat.le_refl _) _
  have bb4 := hb4.trans (bx4.mono hb4.size)
  have A4 := A3.below bb4 A3.lt
  have Xlt : Hid (∀ j, inSv x c4 ysx zsx j → w3.heap.size ≤ j ∧ j < w4.heap.size) := by show ∀ j, _; intro j hj; exact X4.lt hj
  have X4' := X4.below bx4 (Nat.le_refl _)
  have F4 := Blk.new w4 #[.int .i64 x.site, .bool x.up, .slice c4.la x.sl.length c4.lc, .slice c4.va x.vs.length c4.vc, .slice c4.wa x.ws.length c4.wc, .slice c4.oa x.os.length c4.oc, .slice c4.ka x.kn.length c4.kc] 32
  have HN4 : Hid (w3.heap.size ≤ w4.heap.size) := hb4.size
  have kJ4 : Below w3.heap.size w3 (w4.alloc (.cells #[.int .i64 x.site, .bool x.up, .slice c4.la x.sl.length c4.lc, .slice c4.va x.vs.length c4.vc, .slice c4.wa x.ws.length c4.wc, .slice c4.oa x.os.length c4.oc, .slice c4.ka x.kn.length c4.kc] 32)) := bb4
  clear A3 hb4 X4 bx4 bb4
  obtain ⟨q1, g1⟩ := F4.rules
  go_wp2_with fail
  clear q1 g1
  generalize hU4 : w4.alloc (.cells #[.int .i64 x.site, .bool x.up, .slice c4.la x.sl.length c4.lc, .slice c4.va x.vs.length c4.vc, .slice c4.wa x.ws.length c4.wc, .slice c4.oa x.os.length c4.oc, .slice c4.ka x.kn.length c4.kc] 32) = U4 at *
  have HF4 : Hid (w4.heap.size < U4.heap.size) := F4.lt
  clear hU4
  refine (hI c4 _ X4'.inS).mono ?_
  rintro e w5 ⟨g5, Xs, rfl, G5, mX, hb5⟩
  obtain ⟨ga, gc, rfl, _⟩ := row_slice G5.row
  have hXl : Xs.length = z.length := by rw [← mX, List.length_map]
  rw [hXl] at G5 ⊢
  have HMX := hidOf mX
  clear mX hXl
  have A5 := A4.below hb5 A4.lt
  have F5 := F4.below hb5 F4.lt
  have X5 := X4'.below hb5 (Nat.le_refl _)
  have kJ5 := kJ4.trans (hb5.mono kJ4.size)
  have Glt : Hid (∀ j, inWs (.slice ga z.length gc) Xs j → U4.heap.size ≤ j ∧ j < w5.heap.size) := by show ∀ j, _; intro j hj; exact G5.lt hj
  clear A4 F4 X4' kJ4 hb5
  have W5 : Wds w5 ga z := by have h1 := G5.wds; rw [HMX.out] at h1; exact h1
  have PK : Hid _ := And.intro hT (And.intro hI (And.intro hEx (And.intro hEw (And.intro hMx (And.intro hMw (And.intro hHw (And.intro L3 (And.intro J3 (And.intro B3 (And.intro A5 (And.intro F5 (And.intro X5 (And.intro G5 (And.intro kJ5 (And.intro W5 (ex0))))))))))))))))
  clear ex0 W5 kJ5 G5 X5 F5 A5 B3 J3 L3 hHw hMw hMx hEw hEx hI hT
  go_wp2_with fail
  obtain ⟨hT, hI, hEx, hEw, hMx, hMw, hHw, L3, J3, B3, A5, F5, X5, G5, kJ5, W5, ex0⟩ := PK.out
  clear PK
  refine (hEw ga ua gc uc _ W5 (J3.below kJ5)).mono ?_
  rintro e w6 ⟨rfl, hb6⟩
  clear W5
  have A6 := A5.below hb6 A5.lt
  have F6 := F5.below hb6 F5.lt
  have X6 := X5.below hb6 (Nat.le_refl _)
  have G6 := G5.below hb6 (Nat.le_refl _)
  have kJ6 := kJ5.trans (hb6.mono kJ5.size)
  clear A5 F5 X5 G5 kJ5 hb6
  have I6 : InV w6 w.heap.size w4.heap.size _ _ w6 := ⟨Below.refl _ _, ⟨A6.lt, A6.cell⟩, ⟨F6.lt, F6.cell⟩⟩
  have L6 := L3.below kJ6
  have M6 := X6.inS
  have PK : Hid _ := And.intro hI (And.intro hEw (And.intro hMx (And.intro hMw (And.intro hHw (And.intro L3 (And.intro J3 (And.intro B3 (And.intro A6 (And.intro F6 (And.intro X6 (And.intro G6 (And.intro kJ6 (ex0)))))))))))))
  clear ex0 kJ6 G6 X6 F6 A6 B3 J3 L3 hHw hMw hMx hEw hI
  go_wp2_with fail
  go_region_held3 (fun W => Below w6.heap.size w6 W ∧ (w.heap.size < W.heap.size ∧ ∀ j, W.cell? ⟨w.heap.size, j, none⟩ = #[.int .i64 x.site, .bool x.up, .slice a.la x.sl.length a.lc, .slice a.va x.vs.length a.vc, .slice a.wa x.ws.length a.wc, .slice a.oa x.os.length a.oc, .slice a.ka x.kn.length a.kc][j]?) ∧ (w4.heap.size < W.heap.size ∧ ∀ j, W.cell? ⟨w4.heap.size, j, none⟩ = #[.int .i64 x.site, .bool x.up, .slice c4.la x.sl.length c4.lc, .slice c4.va x.vs.length c4.vc, .slice c4.wa x.ws.length c4.wc, .slice c4.oa x.os.length c4.oc, .slice c4.ka x.kn.length c4.kc][j]?)) (first | exact InV.drew (by assumption) | exact InV.below (by assumption) (by assumption)) (first | (go_at_call 11; refine (hT _ (L6.below (InV.drew I6).1)).mono ?_; rintro e w8 ⟨d, ys8, zs8, rfl, M8, h8⟩) | (go_at_call 13; refine (hEx c4 d _ ((M6.below (InV.drew I6).1).below h8) M8.inS).mono ?_; rintro e w9 ⟨rfl, h9⟩))
  rename_i I9
  obtain ⟨hI, hEw, hMx, hMw, hHw, L3, J3, B3, A6, F6, X6, G6, kJ6, ex0⟩ := PK.out
  clear PK
  have k9 : Below w6.heap.size w6 w9 := I9.1
  have A9 := A6.below k9 A6.lt
  have F9 := F6.below k9 F6.lt
  have X9 := X6.below k9 (Nat.le_refl _)
  have G9 := G6.below k9 (Nat.le_refl _)
  have kJ9 := kJ6.trans (k9.mono kJ6.size)
  clear A6 F6 X6 G6 kJ6 k9
  clear I6 I9 M6 M8 h8 h9 L6 hEx
  obtain ⟨q1, g1⟩ := F9.rules
  have PK : Hid _ := And.intro hT (And.intro hI (And.intro hEw (And.intro hMx (And.intro hMw (And.intro hHw (And.intro L3 (And.intro J3 (And.intro B3 (And.intro A9 (And.intro F9 (And.intro X9 (And.intro G9 (And.intro kJ9 (ex0))))))))))))))
  clear ex0 kJ9 G9 X9 F9 A9 B3 J3 L3 hHw hMw hMx hEw hI hT
  go_wp2_with fail
  obtain ⟨hT, hI, hEw, hMx, hMw, hHw, L3, J3, B3, A9, F9, X9, G9, kJ9, ex0⟩ := PK.out
  clear PK
  clear q1 g1
  refine (hMx c4 ysx zsx w3.heap.size _ X9).mono ?_
  rintro e w10 ⟨rfl, _, o10⟩
  have A10 := o10.blk A9 (fun hs => by have h1 := HA3.out; have h2 := A9.lt; rcases hs with hs | hs; omega; have := Xlt.out _ hs; omega)
  have G10 := o10.ownWs G9 (fun j hj hs => by have h1 := HF4.out; have h2 := Glt.out j hj; have h3 := G9.lt hj; rcases hs with hs | hs; omega; have := Xlt.out _ hs; omega)
  have kJ10 := kJ9.trans (o10.below kJ9.size (fun j hj => by have h2 := kJ9.size; rcases hj with hj | hj; omega; exact (Xlt.out j hj).1))
  clear A9 F9 X9 G9 kJ9 o10 hMx
  have W10 : Wds w10 ga z := by have h1 := G10.wds; rw [HMX.out] at h1; exact h1
  have PK : Hid _ := And.intro hT (And.intro hI (And.intro hEw (And.intro hMw (And.intro hHw (And.intro L3 (And.intro J3 (And.intro B3 (And.intro A10 (And.intro G10 (And.intro kJ10 (W10)))))))))))
  clear W10 kJ10 G10 A10 B3 J3 L3 hHw hMw hEw hI hT
  go_wp2_with fail
  obtain ⟨hT, hI, hEw, hMw, hHw, L3, J3, B3, A10, G10, kJ10, W10⟩ := PK.out
  clear PK
  refine (hEw ga ua gc uc _ W10 (J3.below kJ10)).mono ?_
  rintro e w11 ⟨rfl, hb11⟩
  clear W10
  have A11 := A10.below hb11 A10.lt
  have G11 := G10.below hb11 (Nat.le_refl _)
  have kJ11 := kJ10.trans (hb11.mono kJ10.size)
  clear A10 G10 kJ10 hb11
  have PK : Hid _ := And.intro hT (And.intro hI (And.intro hEw (And.intro hMw (And.intro hHw (And.intro L3 (And.intro J3 (And.intro B3 (And.intro A11 (And.intro G11 (kJ11))))))))))
  clear kJ11 G11 A11 B3 J3 L3 hHw hMw hEw hI hT
  go_wp2_with fail
  obtain ⟨hT, hI, hEw, hMw, hHw, L3, J3, B3, A11, G11, kJ11⟩ := PK.out
  clear PK
  refine (hMw _ U4.heap.size Xs _ HMX.out G11).mono ?_
  rintro e w12 ⟨rfl, ⟨zs12, Q12, mQ, sub⟩, o12⟩
  have A12 := o12.blk A11 (fun hs => by have h1 := HA3.out; have h2 := HN4.out; have h3 := HF4.out; have := Glt.out _ hs; omega)
  have kJ12 := kJ11.trans (o12.below kJ11.size (fun j hj => by have h1 := HN4.out; have h2 := HF4.out; have := Glt.out j hj; omega))
  have V12 : Wds w12 ga (markWs 1 z) := by have h1 := Q12.wds; rw [mQ] at h1; exact h1
  clear A11 G11 kJ11 o12 hMw sub Q12 mQ Glt HMX
  have PK : Hid _ := And.intro hT (And.intro hI (And.intro hEw (And.intro hHw (And.intro L3 (And.intro J3 (And.intro B3 (And.intro A12 (And.intro kJ12 (V12)))))))))
  clear V12 kJ12 A12 B3 J3 L3 hHw hEw hI hT
  go_wp2_with fail
  obtain ⟨hT, hI, hEw, hHw, L3, J3, B3, A12, kJ12, V12⟩ := PK.out
  clear PK
  refine (hHw ga gc _ V12).mono ?_
  rintro e w13 ⟨rfl, rfl⟩
  obtain ⟨q1, g1⟩ := A12.rules
  have PK : Hid _ := And.intro hT (And.intro hI (And.intro hEw (And.intro hHw (And.intro L3 (And.intro J3 (And.intro B3 (And.intro A12 (And.intro kJ12 (V12)))))))))
  clear V12 kJ12 A12 B3 J3 L3 hHw hEw hI hT
  go_wp2_with fail
  obtain ⟨hT, hI, hEw, hHw, L3, J3, B3, A12, kJ12, V12⟩ := PK.out
  clear PK
  clear q1 g1
  refine (hT _ (L3.below kJ12)).mono ?_
  rintro e w14 ⟨d, ysd, zsd, rfl, M14, hb14⟩
  have kJ14 := kJ12.trans (hb14.mono kJ12.size)
  have V14 := V12.below hb14
  have N14 := M14.inS
  clear A12 kJ12 V12 hb14 M14 hT
  have PK : Hid _ := And.intro hI (And.intro hEw (And.intro hHw (And.intro L3 (And.intro J3 (And.intro B3 (And.intro kJ14 (And.intro V14 (N14))))))))
  clear N14 V14 kJ14 B3 J3 L3 hHw hEw hI
  go_wp2_with fail
  obtain ⟨hI, hEw, hHw, L3, J3, B3, kJ14, V14, N14⟩ := PK.out
  clear PK
  refine (hI d _ N14).mono ?_
  rintro e w15 ⟨g15, Xs15, rfl, G15, m15, hb15⟩
  obtain ⟨pa, pc, rfl, _⟩ := row_slice G15.row
  have hl15 : Xs15.length = z.length := by rw [← m15, List.length_map]
  have W15 : Wds w15 pa z := by have h1 := G15.wds; rw [m15] at h1; exact h1
  rw [hl15]
  have kJ15 := kJ14.trans (hb15.mono kJ14.size)
  have V15 := V14.below hb15
  clear kJ14 V14 N14 hb15 G15 m15 hl15 hI
  have PK : Hid _ := And.intro hEw (And.intro hHw (And.intro L3 (And.intro J3 (And.intro B3 (And.intro kJ15 (And.intro V15 (W15)))))))
  clear W15 V15 kJ15 B3 J3 L3 hHw hEw
  go_wp2_with fail
  obtain ⟨hEw, hHw, L3, J3, B3, kJ15, V15, W15⟩ := PK.out
  clear PK
  refine (hEw pa ua pc uc _ W15 (J3.below kJ15)).mono ?_
  rintro e w16 ⟨rfl, hb16⟩
  have V16 := V15.below hb16
  have kJ16 := kJ15.trans (hb16.mono kJ15.size)
  clear V15 kJ15 hb16 W15
  have PK : Hid _ := And.intro hEw (And.intro hHw (And.intro L3 (And.intro J3 (And.intro B3 (And.intro kJ16 (V16))))))
  clear V16 kJ16 B3 J3 L3 hHw hEw
  go_wp2_with fail
  obtain ⟨hEw, hHw, L3, J3, B3, kJ16, V16⟩ := PK.out
  clear PK
  refine (hHw ga gc _ V16).mono ?_
  rintro e w17 ⟨rfl, rfl⟩
  have HF := hidOf (B3.trans (kJ16.mono B3.size))
  clear V16 kJ16 hHw hEw B3 J3 L3
  go_wp2_with fail
  go_ret
  exact ⟨rfl, HF.out⟩
end Go.Proofs.YtpjidogilofppaaGreat
