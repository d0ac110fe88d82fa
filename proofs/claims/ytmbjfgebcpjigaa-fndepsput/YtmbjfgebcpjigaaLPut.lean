/- The law: of two versions of a key the newer one counts. -/
import Derived.Test.YtmbjfgebcpjigaaThree
namespace Go.Proofs.Ytmbjfgebcpjigaa
open Go.ChangeShapes Go.WideShapes Go.ChangeAt Go.RowKit

set_option maxHeartbeats 4000000 in
set_option maxRecDepth 100000 in
theorem lawPut (w : World) (a : Option Addr) (len cap : Nat) (h : Code w a len cap) :
    Calls Try.prog 5 #[.slice a len cap] w fun e w' => e = .returned (.bool true) ∧ Below w.heap.size w w' := by
  have hm := h.2.1
  have hl := h.1
  unfold maxLen at hm
  by_cases hc : 1048576 < (len : Int)
  · go_enter Try.func5, Try.ntmps5
    go_wp2
    go_ret
    exact ⟨rfl, Below.refl _ _⟩
  go_enter Try.func5, Try.ntmps5
  go_wp2_with fail
  refine (drawDPut w a len cap h).mono ?_
  rintro e w1 ⟨v1, xs, d, rfl, hx, R, B_0⟩
  obtain ⟨va, vc, rfl, _⟩ := row_slice R
  have hx1 : xs.length ≤ 1000 := by omega
  have hp : (putL xs d).length ≤ 1000 := by have := putL_len xs d; omega
  clear h hm hl
  have R_1 := R.alloc (.cells #[.int .i64 d.k, .int .i64 d.t, .int .i64 d.s] 32)
  have B_1 := B_0.alloc B_0.size (.cells #[.int .i64 d.k, .int .i64 d.t, .int .i64 d.s] 32)
  have D_1 := Blk.new w1 #[.int .i64 d.k, .int .i64 d.t, .int .i64 d.s] 32
  clear R B_0
  obtain ⟨q2, g2⟩ := D_1.rules
  have l2 := D_1.lt
  go_wp2_with fail
  refine (sPut_row d hx1 R_1).mono ?_
  rintro e w_3 ⟨u_3, rfl, N_3, hb_3⟩
  obtain ⟨a_3, c_3, rfl, _⟩ := row_slice N_3
  clear q2 g2 l2
  have R_4 := row_below R_1 hb_3 (Nat.le_refl _)
  have D_4 := D_1.below hb_3 D_1.lt
  have B_4 : Below w.heap.size w w_3 := B_1.trans (hb_3.mono B_1.size)
  clear hb_3 R_1 D_1 B_1
  have bb := B_4.size
  obtain ⟨q5, g5⟩ := D_4.rules
  have l5 := D_4.lt
  go_wp2_with fail
  refine (iPut_row d hx1 R_4).mono ?_
  rintro e w_6 ⟨u_6, rfl, N_6, hb_6⟩
  obtain ⟨a_6, c_6, rfl, _⟩ := row_slice N_6
  clear q5 g5 l5
  have R_7 := row_below R_4 hb_6 (Nat.le_refl _)
  have W_7 := row_below N_3 hb_6 (Nat.le_refl _)
  have D_7 := D_4.below hb_6 D_4.lt
  have B_7 : Below w.heap.size w w_6 := B_4.trans (hb_6.mono B_4.size)
  clear hb_6 R_4 N_3 D_4 B_4
  have XX := row_mono N_6 bb
  clear N_6 bb
  obtain ⟨q8, g8⟩ := D_7.rules
  have l8 := D_7.lt
  go_wp2_with fail
  refine (li_row hp rfl XX W_7).mono ?_
  rintro e w_9 ⟨rfl, hb_9⟩
  clear q8 g8 l8
  have R_10 := row_below R_7 hb_9 (Nat.le_refl _)
  have W_10 := row_below W_7 hb_9 (Nat.le_refl _)
  have X_10 := row_below XX hb_9 (Nat.le_refl _)
  have D_10 := D_7.below hb_9 D_7.lt
  have B_10 : Below w.heap.size w w_9 := B_7.trans (hb_9.mono B_7.size)
  clear hb_9 R_7 W_7 XX D_7 B_7
  have hokx : ∃ b, depsOk xs = b := ⟨_, rfl⟩
  obtain ⟨bx, hbx⟩ := hokx
  have HOx : Hid (depsOk xs = bx) := hbx
  clear hbx
  obtain ⟨q11, g11⟩ := D_10.rules
  have l11 := D_10.lt
  go_wp2_with fail
  refine (iOk_row hx1 R_10).mono ?_
  rw [HOx.out]
  rintro e w_12 ⟨rfl, hb_12⟩
  clear q11 g11 l11
  have R_13 := row_below R_10 hb_12 (Nat.le_refl _)
  have W_13 := row_below W_10 hb_12 (Nat.le_refl _)
  have X_13 := row_below X_10 hb_12 (Nat.le_refl _)
  have D_13 := D_10.below hb_12 D_10.lt
  have B_13 : Below w.heap.size w w_12 := B_10.trans (hb_12.mono B_10.size)
  clear hb_12 R_10 W_10 X_10 D_10 B_10
  obtain ⟨q14, g14⟩ := D_13.rules
  have l14 := D_13.lt
  go_wp2_with fail
  refine (sOk_row hx1 R_13).mono ?_
  rw [HOx.out]
  rintro e w_15 ⟨rfl, hb_15⟩
  clear q14 g14 l14
  have R_16 := row_below R_13 hb_15 (Nat.le_refl _)
  have W_16 := row_below W_13 hb_15 (Nat.le_refl _)
  have X_16 := row_below X_13 hb_15 (Nat.le_refl _)
  have D_16 := D_13.below hb_15 D_13.lt
  have B_16 : Below w.heap.size w w_15 := B_13.trans (hb_15.mono B_13.size)
  clear hb_15 R_13 W_13 X_13 D_13 B_13
  by_cases hb : depsOk xs = true ∧ okD d = true
  · obtain ⟨hok, hd⟩ := hb
    have hne : (((putL xs d).length : Int) == 0) = false := by have := put_some hok hd; rw [beq_eq_false_iff_ne]; omega
    have TT := three_of B_16 R_16 R_16 X_16
    have hz := B_16.size
    have hDZ := D_16.lt
    have DD := D_16
    clear B_16 R_16 W_16 X_16 D_16
    generalize hZ : w_15.heap.size = Z at *
    clear hZ
    generalize hE : w1.heap.size = E at *
    clear hE
    go_wp2_with fail
    generalize hux : Value.slice va xs.length vc = u at *
    generalize hxx : Value.slice _ (putL xs d).length _ = x at *
    clear hux hxx hne
    go_loopw [7] (fun i wr => ∃ k : Nat, k ≤ 6 ∧ i = .int .i64 k ∧ Three w Z u u x xs xs (putL xs d) wr ∧ Blk wr E #[.int .i64 d.k, .int .i64 d.t, .int .i64 d.s] 32) (fun i _ => 6 - (intOf i).toNat)
    case atStart => exact ⟨0, by omega, rfl, TT, DD⟩
    case round =>
      obtain ⟨k, hk, rfl, T, D⟩ := hrel
      clear TT DD
      by_cases hlt : k < 6
      · have HP : Hid _ := atC_put hok hd (k := k) (by omega) (by omega)
        have hbd := okD_bounds hd
        have hC : 0 ≤ codeD d := by simp only [codeD]; omega
        have hc4 : codeD d / 4 = d.t := by simp only [codeD]; omega
        have hc5 : codeD d % 4 = d.s := by simp only [codeD]; omega
        have HL0 := less_code (atC xs k) (codeD d)
        rw [hc4, hc5] at HL0
        have HL : Hid _ := HL0
        have hIx := fun (W9 : World) h => iAt_row (w := W9) (v := u) (base := w.heap.size) (k : Int) hx1 h
        have hIj := fun (W9 : World) h => iAt_row (w := W9) (v := x) (base := w.heap.size) (k : Int) hp h
        have hjj : atV (putL xs d) k = stampV ((if d.k = (k : Int) ∧ atC xs k < codeD d then codeD d else atC xs k) / 4) ((if d.k = (k : Int) ∧ atC xs k < codeD d then codeD d else atC xs k) % 4) := by simp only [atV, HP.out]
        rw [hjj] at hIj
        clear hjj HP HL0
        simp only [atV] at hIx
        generalize atC xs k = A at *
        go_wp2_with fail
        refine (hIx _ T.2.2.1.1).mono ?_
        rintro e wa ⟨rfl, hba⟩
        have Ta := (T.below hba).alloc (.cells #[.int .i64 (A / 4), .int .i64 (A % 4)] 24)
        have Za := (T.below hba).2.1
        have Da := (D.below hba D.lt).alloc (.cells #[.int .i64 (A / 4), .int .i64 (A % 4)] 24)
        have Ds := Blk.new wa #[.int .i64 (A / 4), .int .i64 (A % 4)] 24
        clear T D hba
        by_cases hkd : d.k = (k : Int)
        · have hkd' : ((k : Int) == d.k) = true := by simp [hkd]
          have HK : Hid (d.k = (k : Int)) := hkd
          clear hkd
          obtain ⟨q1, g1⟩ := Da.rules
          obtain ⟨q2, g2⟩ := Ds.rules
          have l1 : E < wa.heap.size := by omega
          go_wp2_with fail
          refine (iLess_any (A / 4) (A % 4) d.t d.s _).mono ?_
          rw [HL.out]
          rintro e wc ⟨rfl, hbc⟩
          have Tc := Ta.below hbc
          have Dc := Da.below hbc Da.lt
          have Dsc := Ds.below hbc Ds.lt
          clear Ta Da Ds hbc q1 g1 q2 g2 HL hkd'
          by_cases hAC : A < codeD d
          · rw [if_pos ⟨HK.out, hAC⟩, hc4, hc5] at hIj
            have dAC : decide (A < codeD d) = true := by simpa using hAC
            have Td := (Tc.set (A := wa.heap.size) (i := 0) Za (by omega) (.int .i64 d.t)).set (A := wa.heap.size) (i := 1) Za (by omega) (.int .i64 d.s)
            have Dsd := Blk.fill2 (v0 := .int .i64 d.t) (v1 := .int .i64 d.s) Dsc
            have Dd := (Dc.other (a := ⟨wa.heap.size, 0, none⟩) (by simp; omega) (.int .i64 d.t)).other (a := ⟨wa.heap.size, 1, none⟩) (by simp; omega) (.int .i64 d.s)
            obtain ⟨q1, g1⟩ := Dsc.rules
            obtain ⟨q2, g2⟩ := Dc.rules
            clear Tc Dsc Dc
            go_wp2_with fail
            generalize ((wc.setCell ⟨wa.heap.size, 0, none⟩ (.int .i64 d.t)).setCell ⟨wa.heap.size, 1, none⟩ (.int .i64 d.s)) = W at *
            clear q1 g1 q2 g2
            have r1 := since_rules Dsd
            have ne := since_ne W
            refine wp_region_class (S := Since W) (by kernel_rfl) (by kernel_rfl) (Below.refl _ _).drew ?_
            repeat (go_big_quiet_step ((rename_i n; first | (go_at_call 32; exact Calls.inClass (hIj _ (Td.below n.h).2.2.2.2.1) Since.keep))))
            refine wpQuiet_nil ?_
            rintro W2 ⟨n, hnW⟩
            have R2 := n.h
            rw [← hnW] at R2
            have T2 := Td.below R2
            have D2 := Dd.below R2 Dd.lt
            clear R2 r1 ne hnW n Td Dsd Dd
            go_wp2_with fail
            go_roundw
            case rel => exact ⟨k + 1, by omega, by go_num, T2, D2⟩
            case measure => simp [intOf]; omega
          · rw [if_neg (fun h => hAC h.2)] at hIj
            have dAC : decide (A < codeD d) = false := by simpa using hAC
            have Td := Tc
            have Dsd := Dsc
            have Dd := Dc
            clear Tc Dsc Dc
            go_wp2_with fail
            generalize wc = W at *
            have r1 := since_rules Dsd
            have ne := since_ne W
            refine wp_region_class (S := Since W) (by kernel_rfl) (by kernel_rfl) (Below.refl _ _).drew ?_
            repeat (go_big_quiet_step ((rename_i n; first | (go_at_call 32; exact Calls.inClass (hIj _ (Td.below n.h).2.2.2.2.1) Since.keep))))
            refine wpQuiet_nil ?_
            rintro W2 ⟨n, hnW⟩
            have R2 := n.h
            rw [← hnW] at R2
            have T2 := Td.below R2
            have D2 := Dd.below R2 Dd.lt
            clear R2 r1 ne hnW n Td Dsd Dd
            go_wp2_with fail
            go_roundw
            case rel => exact ⟨k + 1, by omega, by go_num, T2, D2⟩
            case measure => simp [intOf]; omega
        · rw [if_neg (fun h => hkd h.1)] at hIj
          have hkd' : ((k : Int) == d.k) = false := by rw [beq_eq_false_iff_ne]; exact fun h => hkd h.symm
          have hkd2 : decide ((k : Int) = d.k) = false := by rw [decide_eq_false_iff_not]; exact fun h => hkd h.symm
          obtain ⟨q1, g1⟩ := Da.rules
          have l1 : E < wa.heap.size := by omega
          have Td := Ta
          have Dsd := Ds
          have Dd := Da
          clear Ta Ds Da HL hkd
          go_wp2_with fail
          generalize (wa.alloc (.cells #[.int .i64 (A / 4), .int .i64 (A % 4)] 24)) = W at *
          clear q1 g1
          have r1 := since_rules Dsd
          have ne := since_ne W
          refine wp_region_class (S := Since W) (by kernel_rfl) (by kernel_rfl) (Below.refl _ _).drew ?_
          repeat (go_big_quiet_step ((rename_i n; first | (go_at_call 32; exact Calls.inClass (hIj _ (Td.below n.h).2.2.2.2.1) Since.keep))))
          refine wpQuiet_nil ?_
          rintro W2 ⟨n, hnW⟩
          have R2 := n.h
          rw [← hnW] at R2
          have T2 := Td.below R2
          have D2 := Dd.below R2 Dd.lt
          clear R2 r1 ne hnW n Td Dsd Dd
          go_wp2_with fail
          go_roundw
          case rel => exact ⟨k + 1, by omega, by go_num, T2, D2⟩
          case measure => simp [intOf]; omega
      · have hk2 : k = 6 := by omega
        subst hk2
        go_wp2_with fail
        refine (iOk_row hp T.2.2.2.2.1).mono ?_
        rw [putL_ok]
        rintro e wa ⟨rfl, hba⟩
        have BB := (T.below hba).1
        clear T hba D
        go_wp2
        go_ret
        exact ⟨rfl, BB⟩
  · have E0 : putL xs d = [] := if_neg hb
    have hne : (((putL xs d).length : Int) == 0) = true := by rw [E0]; rfl
    clear E0 hb
    obtain ⟨q17, g17⟩ := D_16.rules
    have l17 := D_16.lt
    go_wp2_with fail
    refine (li_row hp rfl X_16 W_16).mono ?_
    rintro e w_18 ⟨rfl, hb_18⟩
    clear q17 g17 l17
    have R_19 := row_below R_16 hb_18 (Nat.le_refl _)
    have W_19 := row_below W_16 hb_18 (Nat.le_refl _)
    have X_19 := row_below X_16 hb_18 (Nat.le_refl _)
    have D_19 := D_16.below hb_18 D_16.lt
    have B_19 : Below w.heap.size w w_18 := B_16.trans (hb_18.mono B_16.size)
    clear hb_18 R_16 W_16 X_16 D_16 B_16
    obtain ⟨q20, g20⟩ := D_19.rules
    have l20 := D_19.lt
    go_wp2_with fail
    refine (iOk_row hx1 R_19).mono ?_
    rw [HOx.out]
    rintro e w_21 ⟨rfl, hb_21⟩
    clear q20 g20 l20
    have R_22 := row_below R_19 hb_21 (Nat.le_refl _)
    have W_22 := row_below W_19 hb_21 (Nat.le_refl _)
    have X_22 := row_below X_19 hb_21 (Nat.le_refl _)
    have D_22 := D_19.below hb_21 D_19.lt
    have B_22 : Below w.heap.size w w_21 := B_19.trans (hb_21.mono B_19.size)
    clear hb_21 R_19 W_19 X_19 D_19 B_19
    obtain ⟨q23, g23⟩ := D_22.rules
    have l23 := D_22.lt
    go_wp2_with fail
    refine (sOk_row hx1 R_22).mono ?_
    rw [HOx.out]
    rintro e w_24 ⟨rfl, hb_24⟩
    clear q23 g23 l23
    have R_25 := row_below R_22 hb_24 (Nat.le_refl _)
    have W_25 := row_below W_22 hb_24 (Nat.le_refl _)
    have X_25 := row_below X_22 hb_24 (Nat.le_refl _)
    have D_25 := D_22.below hb_24 D_22.lt
    have B_25 : Below w.heap.size w w_24 := B_22.trans (hb_24.mono B_22.size)
    clear hb_24 R_22 W_22 X_22 D_22 B_22
    clear R_25 W_25 X_25 D_25
    go_wp2
    go_ret
    exact ⟨rfl, B_25⟩
end Go.Proofs.Ytmbjfgebcpjigaa
