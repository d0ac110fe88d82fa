/- The law: joined deps have for each key the newer of both, joined either way. -/
import Derived.Test.YtmbjfgebcpjigaaThree
namespace Go.Proofs.Ytmbjfgebcpjigaa
open Go.ChangeShapes Go.WideShapes Go.ChangeAt Go.RowKit

set_option maxHeartbeats 4000000 in
set_option maxRecDepth 100000 in
theorem lawJoin (w : World) (a : Option Addr) (len cap : Nat) (h : Code w a len cap) :
    Calls Try.prog 7 #[.slice a len cap] w fun e w' => e = .returned (.bool true) ∧ Below w.heap.size w w' := by
  have hm := h.2.1
  have hl := h.1
  unfold maxLen at hm
  by_cases hc : 1048576 < (len : Int)
  · go_enter Try.func7, Try.ntmps7
    go_wp2
    go_ret
    exact ⟨rfl, Below.refl _ _⟩
  go_enter Try.func7, Try.ntmps7
  go_wp2_with fail
  refine (drawDJoin w a len cap h).mono ?_
  rintro e w1 ⟨v1, v2, xs, ys, rfl, hx, hy, R, S, B_0⟩
  obtain ⟨va, vc, rfl, _⟩ := row_slice R
  obtain ⟨ua, uc, rfl, _⟩ := row_slice S
  have hx1 : xs.length ≤ 1000 := by omega
  have hy1 : ys.length ≤ 1000 := by omega
  have hj : (joinL xs ys).length ≤ 1000 := by have := joinL_len xs ys; omega
  have hj' : (joinL ys xs).length ≤ 1000 := by have := joinL_len ys xs; omega
  clear h hm hl
  go_wp2_with fail
  refine (sJoin_row hx1 hy1 R S).mono ?_
  rintro e w_1 ⟨u_1, rfl, N_1, hb_1⟩
  obtain ⟨a_1, c_1, rfl, _⟩ := row_slice N_1
  have R_2 := row_below R hb_1 (Nat.le_refl _)
  have S_2 := row_below S hb_1 (Nat.le_refl _)
  have B_2 : Below w.heap.size w w_1 := B_0.trans (hb_1.mono B_0.size)
  clear hb_1 R S B_0
  have bb := B_2.size
  go_wp2_with fail
  refine (iJoin_row hx1 hy1 R_2 S_2).mono ?_
  rintro e w_3 ⟨u_3, rfl, N_3, hb_3⟩
  obtain ⟨a_3, c_3, rfl, _⟩ := row_slice N_3
  have R_4 := row_below R_2 hb_3 (Nat.le_refl _)
  have S_4 := row_below S_2 hb_3 (Nat.le_refl _)
  have W_4 := row_below N_1 hb_3 (Nat.le_refl _)
  have B_4 : Below w.heap.size w w_3 := B_2.trans (hb_3.mono B_2.size)
  clear hb_3 R_2 S_2 N_1 B_2
  have XX := row_mono N_3 bb
  clear N_3 bb
  go_wp2_with fail
  refine (li_row hj rfl XX W_4).mono ?_
  rintro e w_5 ⟨rfl, hb_5⟩
  have R_6 := row_below R_4 hb_5 (Nat.le_refl _)
  have S_6 := row_below S_4 hb_5 (Nat.le_refl _)
  have W_6 := row_below W_4 hb_5 (Nat.le_refl _)
  have X_6 := row_below XX hb_5 (Nat.le_refl _)
  have B_6 : Below w.heap.size w w_5 := B_4.trans (hb_5.mono B_4.size)
  clear hb_5 R_4 S_4 W_4 XX B_4
  rcases hok : depsOk xs with _ | _
  · go_wp2_with fail
    refine (sOk_row hx1 R_6).mono ?_
    rw [hok]
    rintro e w_7 ⟨rfl, hb_7⟩
    have R_8 := row_below R_6 hb_7 (Nat.le_refl _)
    have S_8 := row_below S_6 hb_7 (Nat.le_refl _)
    have W_8 := row_below W_6 hb_7 (Nat.le_refl _)
    have X_8 := row_below X_6 hb_7 (Nat.le_refl _)
    have B_8 : Below w.heap.size w w_7 := B_6.trans (hb_7.mono B_6.size)
    clear hb_7 R_6 S_6 W_6 X_6 B_6
    go_wp2_with fail
    refine (li_row hj rfl X_8 W_8).mono ?_
    rintro e w_9 ⟨rfl, hb_9⟩
    have R_10 := row_below R_8 hb_9 (Nat.le_refl _)
    have S_10 := row_below S_8 hb_9 (Nat.le_refl _)
    have W_10 := row_below W_8 hb_9 (Nat.le_refl _)
    have X_10 := row_below X_8 hb_9 (Nat.le_refl _)
    have B_10 : Below w.heap.size w w_9 := B_8.trans (hb_9.mono B_8.size)
    clear hb_9 R_8 S_8 W_8 X_8 B_8
    clear R_10 S_10 W_10 X_10
    go_wp2
    go_ret
    exact ⟨rfl, B_10⟩
  · go_wp2_with fail
    refine (sOk_row hx1 R_6).mono ?_
    rw [hok]
    rintro e w_7 ⟨rfl, hb_7⟩
    have R_8 := row_below R_6 hb_7 (Nat.le_refl _)
    have S_8 := row_below S_6 hb_7 (Nat.le_refl _)
    have W_8 := row_below W_6 hb_7 (Nat.le_refl _)
    have X_8 := row_below X_6 hb_7 (Nat.le_refl _)
    have B_8 : Below w.heap.size w w_7 := B_6.trans (hb_7.mono B_6.size)
    clear hb_7 R_6 S_6 W_6 X_6 B_6
    rcases hok2 : depsOk ys with _ | _
    · go_wp2_with fail
      refine (sOk_row hy1 S_8).mono ?_
      rw [hok2]
      rintro e w_9 ⟨rfl, hb_9⟩
      have R_10 := row_below R_8 hb_9 (Nat.le_refl _)
      have S_10 := row_below S_8 hb_9 (Nat.le_refl _)
      have W_10 := row_below W_8 hb_9 (Nat.le_refl _)
      have X_10 := row_below X_8 hb_9 (Nat.le_refl _)
      have B_10 : Below w.heap.size w w_9 := B_8.trans (hb_9.mono B_8.size)
      clear hb_9 R_8 S_8 W_8 X_8 B_8
      go_wp2_with fail
      refine (li_row hj rfl X_10 W_10).mono ?_
      rintro e w_11 ⟨rfl, hb_11⟩
      have R_12 := row_below R_10 hb_11 (Nat.le_refl _)
      have S_12 := row_below S_10 hb_11 (Nat.le_refl _)
      have W_12 := row_below W_10 hb_11 (Nat.le_refl _)
      have X_12 := row_below X_10 hb_11 (Nat.le_refl _)
      have B_12 : Below w.heap.size w w_11 := B_10.trans (hb_11.mono B_10.size)
      clear hb_11 R_10 S_10 W_10 X_10 B_10
      clear R_12 S_12 W_12 X_12
      go_wp2
      go_ret
      exact ⟨rfl, B_12⟩
    · go_wp2_with fail
      refine (sOk_row hy1 S_8).mono ?_
      rw [hok2]
      rintro e w_9 ⟨rfl, hb_9⟩
      have R_10 := row_below R_8 hb_9 (Nat.le_refl _)
      have S_10 := row_below S_8 hb_9 (Nat.le_refl _)
      have W_10 := row_below W_8 hb_9 (Nat.le_refl _)
      have X_10 := row_below X_8 hb_9 (Nat.le_refl _)
      have B_10 : Below w.heap.size w w_9 := B_8.trans (hb_9.mono B_8.size)
      clear hb_9 R_8 S_8 W_8 X_8 B_8
      have TT := three_of B_10 R_10 S_10 X_10
      have hz := B_10.size
      clear B_10 R_10 S_10 W_10 X_10
      generalize hZ : w_9.heap.size = Z at *
      clear hZ
      generalize hux : Value.slice va xs.length vc = u at *
      generalize hvy : Value.slice ua ys.length uc = v at *
      generalize hxx : Value.slice _ (joinL xs ys).length _ = x at *
      clear hux hvy hxx
      go_wp2_with fail
      go_loopw [7] (fun i wr => ∃ k : Nat, k ≤ 6 ∧ i = .int .i64 k ∧ Three w Z u v x xs ys (joinL xs ys) wr) (fun i _ => 6 - (intOf i).toNat)
      case atStart => exact ⟨0, by omega, rfl, TT⟩
      case round =>
        obtain ⟨k, hk, rfl, T⟩ := hrel
        clear TT
        by_cases hlt : k < 6
        · have HJ : Hid _ := atC_join hok hok2 (k := k) (by omega) (by omega)
          have HL : Hid _ := less_code (atC xs k) (atC ys k)
          have hIx := fun (W9 : World) h => iAt_row (w := W9) (v := u) (base := w.heap.size) (k : Int) hx1 h
          have hIy := fun (W9 : World) h => iAt_row (w := W9) (v := v) (base := w.heap.size) (k : Int) hy1 h
          have hIj := fun (W9 : World) h => iAt_row (w := W9) (v := x) (base := w.heap.size) (k : Int) hj h
          have hjj : atV (joinL xs ys) k = stampV ((if atC xs k < atC ys k then atC ys k else atC xs k) / 4) ((if atC xs k < atC ys k then atC ys k else atC xs k) % 4) := by simp only [atV, HJ.out]
          rw [hjj] at hIj
          clear hjj HJ
          simp only [atV] at hIx hIy
          have hT0 : w.heap.size ≤ Z := hz
          generalize atC xs k = A at *
          generalize atC ys k = C at *
          go_wp2_with fail
          refine (hIx _ T.2.2.1.1).mono ?_
          rintro e wa ⟨rfl, hba⟩
          have Ta := (T.below hba).alloc (.cells #[.int .i64 (A / 4), .int .i64 (A % 4)] 24)
          have Za := (T.below hba).2.1
          clear T hba
          go_wp2_with fail
          refine (hIy _ Ta.2.2.2.1.1).mono ?_
          rintro e wb ⟨rfl, hbb⟩
          have Tb := (Ta.below hbb).alloc (.cells #[.int .i64 (C / 4), .int .i64 (C % 4)] 24)
          have Ds := ((Blk.new wa _ _).below hbb (by simp)).alloc (.cells #[.int .i64 (C / 4), .int .i64 (C % 4)] 24)
          have Dt := Blk.new wb #[.int .i64 (C / 4), .int .i64 (C % 4)] 24
          have l1 := ((Blk.new wa _ _).below hbb (by simp)).lt
          clear Ta hbb
          obtain ⟨q1, g1⟩ := Ds.rules
          obtain ⟨q2, g2⟩ := Dt.rules
          go_wp2_with fail
          refine (iLess_any (A / 4) (A % 4) (C / 4) (C % 4) _).mono ?_
          rw [HL.out]
          rintro e wc ⟨rfl, hbc⟩
          have Tc := Tb.below hbc
          have Dsc := Ds.below hbc Ds.lt
          have Dtc := Dt.below hbc Dt.lt
          clear Tb Ds Dt hbc q1 g1 q2 g2 HL
          by_cases hAC : A < C
          · rw [if_pos hAC] at hIj
            have dAC : decide (A < C) = true := by simpa using hAC
            have Td := (Tc.set (A := wa.heap.size) (i := 0) Za (by omega) (.int .i64 (C / 4))).set (A := wa.heap.size) (i := 1) Za (by omega) (.int .i64 (C % 4))
            have Dsd := Blk.fill2 (v0 := .int .i64 (C / 4)) (v1 := .int .i64 (C % 4)) Dsc
            obtain ⟨q1, g1⟩ := Dsc.rules
            obtain ⟨q2, g2⟩ := Dtc.rules
            clear Tc Dsc Dtc
            go_wp2_with fail
            generalize ((wc.setCell ⟨wa.heap.size, 0, none⟩ (.int .i64 (C / 4))).setCell ⟨wa.heap.size, 1, none⟩ (.int .i64 (C % 4))) = W at *
            clear q1 g1 q2 g2
            have r1 := since_rules Dsd
            have ne := since_ne W
            refine wp_region_class (S := Since W) (by kernel_rfl) (by kernel_rfl) (Below.refl _ _).drew ?_
            repeat (go_big_quiet_step ((rename_i n; first | (go_at_call 32; exact Calls.inClass (hIj _ (Td.below n.h).2.2.2.2.1) Since.keep))))
            refine wpQuiet_nil ?_
            rintro W2 ⟨n, hnW⟩
            have R2 := n.h
            rw [← hnW] at R2
            have T2 := Td.below R2
            clear R2 r1 ne hnW n Td Dsd
            go_wp2_with fail
            go_roundw
            case rel => exact ⟨k + 1, by omega, by go_num, T2⟩
            case measure => simp [intOf]; omega
          · rw [if_neg hAC] at hIj
            have dAC : decide (A < C) = false := by simpa using hAC
            have Td := Tc
            have Dsd := Dsc
            clear Tc Dsc Dtc
            go_wp2_with fail
            generalize wc = W at *
            have r1 := since_rules Dsd
            have ne := since_ne W
            refine wp_region_class (S := Since W) (by kernel_rfl) (by kernel_rfl) (Below.refl _ _).drew ?_
            repeat (go_big_quiet_step ((rename_i n; first | (go_at_call 32; exact Calls.inClass (hIj _ (Td.below n.h).2.2.2.2.1) Since.keep))))
            refine wpQuiet_nil ?_
            rintro W2 ⟨n, hnW⟩
            have R2 := n.h
            rw [← hnW] at R2
            have T2 := Td.below R2
            clear R2 r1 ne hnW n Td Dsd
            go_wp2_with fail
            go_roundw
            case rel => exact ⟨k + 1, by omega, by go_num, T2⟩
            case measure => simp [intOf]; omega
        · have hk2 : k = 6 := by omega
          subst hk2
          have E : Hid (joinL ys xs = joinL xs ys) := join_comm ys xs
          go_wp2_with fail
          refine (iOk_row hj T.2.2.2.2.1).mono ?_
          rw [joinL_ok]
          rintro e wa ⟨rfl, hba⟩
          have Ta := T.below hba
          clear T hba
          go_wp2_with fail
          refine (iJoin_row hy1 hx1 Ta.2.2.2.1.1 Ta.2.2.1.1).mono ?_
          rintro e wb ⟨v9, rfl, N9, hbb⟩
          obtain ⟨a9, c9, rfl, _⟩ := row_slice N9
          have Tb := Ta.below hbb
          clear Ta hbb
          go_wp2_with fail
          refine (li_row hj E.out N9 Tb.2.2.2.2.1).mono ?_
          rintro e wc ⟨rfl, hbc⟩
          have BB := (Tb.below hbc).1
          clear Tb N9 hbc
          go_wp2
          go_ret
          exact ⟨rfl, BB⟩
end Go.Proofs.Ytmbjfgebcpjigaa
