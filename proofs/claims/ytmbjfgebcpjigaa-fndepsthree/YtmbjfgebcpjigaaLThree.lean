/- The law: three are joined as two, and then the third. -/
import Derived.Test.YtmbjfgebcpjigaaLawKit
namespace Go.Proofs.Ytmbjfgebcpjigaa
open Go.ChangeShapes Go.WideShapes Go.ChangeAt Go.RowKit

set_option maxHeartbeats 4000000 in
set_option maxRecDepth 100000 in
theorem lawThree (w : World) (a c : Option Addr) (len cap len1 cap1 : Nat) (h : Code w a len cap) (h' : Code w c len1 cap1) :
    Calls Try.prog 8 #[.slice a len cap, .slice c len1 cap1] w fun e w' => e = .returned (.bool true) ∧ Below w.heap.size w w' := by
  have hm := h.2.1
  have hl := h.1
  have hm' := h'.2.1
  have hl' := h'.1
  unfold maxLen at hm hm'
  by_cases hc : 1048576 < (len : Int)
  · go_enter Try.func8, Try.ntmps8
    go_wp2
    go_ret
    exact ⟨rfl, Below.refl _ _⟩
  by_cases hc' : 1048576 < (len1 : Int)
  · go_enter Try.func8, Try.ntmps8
    go_wp2
    go_ret
    exact ⟨rfl, Below.refl _ _⟩
  go_enter Try.func8, Try.ntmps8
  go_wp2_with fail
  refine (drawDJoin w a len cap h).mono ?_
  rintro e w1 ⟨v1, v2, xs, ys, rfl, hx, hy, R, S, B_0⟩
  obtain ⟨va, vc, rfl, _⟩ := row_slice R
  obtain ⟨ua, uc, rfl, _⟩ := row_slice S
  have hx1 : xs.length ≤ 1000 := by omega
  have hy1 : ys.length ≤ 1000 := by omega
  have hj : (joinL xs ys).length ≤ 1000 := by have := joinL_len xs ys; omega
  go_wp2_with fail
  refine (drawDOk w1 c len1 cap1 (h'.below B_0)).mono ?_
  rintro e w2 ⟨v3, zs, rfl, hz, T, hb2⟩
  obtain ⟨ta, tc, rfl, _⟩ := row_slice T
  have hz1 : zs.length ≤ 1000 := by omega
  clear h hm hl h' hm' hl'
  have R_1 := row_below R hb2 (Nat.le_refl _)
  have S_1 := row_below S hb2 (Nat.le_refl _)
  have B_1 : Below w.heap.size w w2 := B_0.trans (hb2.mono B_0.size)
  clear hb2 R S B_0
  go_wp2_with fail
  refine (iJoin_row hx1 hy1 R_1 S_1).mono ?_
  rintro e w_2 ⟨u_2, rfl, N_2, hb_2⟩
  obtain ⟨a_2, c_2, rfl, _⟩ := row_slice N_2
  have R_3 := row_below R_1 hb_2 (Nat.le_refl _)
  have S_3 := row_below S_1 hb_2 (Nat.le_refl _)
  have T_3 := row_below T hb_2 (Nat.le_refl _)
  have B_3 : Below w.heap.size w w_2 := B_1.trans (hb_2.mono B_1.size)
  clear hb_2 R_1 S_1 T B_1
  go_wp2_with fail
  refine (sJoin_row hx1 hy1 R_3 S_3).mono ?_
  rintro e w_4 ⟨u_4, rfl, N_4, hb_4⟩
  obtain ⟨a_4, c_4, rfl, _⟩ := row_slice N_4
  have R_5 := row_below R_3 hb_4 (Nat.le_refl _)
  have S_5 := row_below S_3 hb_4 (Nat.le_refl _)
  have T_5 := row_below T_3 hb_4 (Nat.le_refl _)
  have X_5 := row_below N_2 hb_4 (Nat.le_refl _)
  have B_5 : Below w.heap.size w w_4 := B_3.trans (hb_4.mono B_3.size)
  clear hb_4 R_3 S_3 T_3 N_2 B_3
  go_wp2_with fail
  refine (li_row hj rfl X_5 N_4).mono ?_
  rintro e w_6 ⟨rfl, hb_6⟩
  have R_7 := row_below R_5 hb_6 (Nat.le_refl _)
  have S_7 := row_below S_5 hb_6 (Nat.le_refl _)
  have T_7 := row_below T_5 hb_6 (Nat.le_refl _)
  have X_7 := row_below X_5 hb_6 (Nat.le_refl _)
  have W_7 := row_below N_4 hb_6 (Nat.le_refl _)
  have B_7 : Below w.heap.size w w_6 := B_5.trans (hb_6.mono B_5.size)
  clear hb_6 R_5 S_5 T_5 X_5 N_4 B_5
  rcases hok : depsOk xs with _ | _
  · go_wp2_with fail
    refine (sOk_row hx1 R_7).mono ?_
    rw [hok]
    rintro e w_8 ⟨rfl, hb_8⟩
    have R_9 := row_below R_7 hb_8 (Nat.le_refl _)
    have S_9 := row_below S_7 hb_8 (Nat.le_refl _)
    have T_9 := row_below T_7 hb_8 (Nat.le_refl _)
    have X_9 := row_below X_7 hb_8 (Nat.le_refl _)
    have B_9 : Below w.heap.size w w_8 := B_7.trans (hb_8.mono B_7.size)
    clear hb_8 R_7 S_7 T_7 X_7 B_7
    go_wp2_with fail
    refine (sJoin_row hx1 hy1 R_9 S_9).mono ?_
    rintro e w_10 ⟨u_10, rfl, N_10, hb_10⟩
    obtain ⟨a_10, c_10, rfl, _⟩ := row_slice N_10
    have R_11 := row_below R_9 hb_10 (Nat.le_refl _)
    have S_11 := row_below S_9 hb_10 (Nat.le_refl _)
    have T_11 := row_below T_9 hb_10 (Nat.le_refl _)
    have X_11 := row_below X_9 hb_10 (Nat.le_refl _)
    have B_11 : Below w.heap.size w w_10 := B_9.trans (hb_10.mono B_9.size)
    clear hb_10 R_9 S_9 T_9 X_9 B_9
    go_wp2_with fail
    refine (li_row hj rfl X_11 N_10).mono ?_
    rintro e w_12 ⟨rfl, hb_12⟩
    have R_13 := row_below R_11 hb_12 (Nat.le_refl _)
    have S_13 := row_below S_11 hb_12 (Nat.le_refl _)
    have T_13 := row_below T_11 hb_12 (Nat.le_refl _)
    have X_13 := row_below X_11 hb_12 (Nat.le_refl _)
    have W_13 := row_below N_10 hb_12 (Nat.le_refl _)
    have B_13 : Below w.heap.size w w_12 := B_11.trans (hb_12.mono B_11.size)
    clear hb_12 R_11 S_11 T_11 X_11 N_10 B_11
    clear R_13 S_13 T_13 X_13 W_13
    go_wp2
    go_ret
    exact ⟨rfl, B_13⟩
  · go_wp2_with fail
    refine (sOk_row hx1 R_7).mono ?_
    rw [hok]
    rintro e w_8 ⟨rfl, hb_8⟩
    have R_9 := row_below R_7 hb_8 (Nat.le_refl _)
    have S_9 := row_below S_7 hb_8 (Nat.le_refl _)
    have T_9 := row_below T_7 hb_8 (Nat.le_refl _)
    have X_9 := row_below X_7 hb_8 (Nat.le_refl _)
    have B_9 : Below w.heap.size w w_8 := B_7.trans (hb_8.mono B_7.size)
    clear hb_8 R_7 S_7 T_7 X_7 B_7
    rcases hok2 : depsOk ys with _ | _
    · go_wp2_with fail
      refine (sOk_row hy1 S_9).mono ?_
      rw [hok2]
      rintro e w_10 ⟨rfl, hb_10⟩
      have R_11 := row_below R_9 hb_10 (Nat.le_refl _)
      have S_11 := row_below S_9 hb_10 (Nat.le_refl _)
      have T_11 := row_below T_9 hb_10 (Nat.le_refl _)
      have X_11 := row_below X_9 hb_10 (Nat.le_refl _)
      have B_11 : Below w.heap.size w w_10 := B_9.trans (hb_10.mono B_9.size)
      clear hb_10 R_9 S_9 T_9 X_9 B_9
      go_wp2_with fail
      refine (sJoin_row hx1 hy1 R_11 S_11).mono ?_
      rintro e w_12 ⟨u_12, rfl, N_12, hb_12⟩
      obtain ⟨a_12, c_12, rfl, _⟩ := row_slice N_12
      have R_13 := row_below R_11 hb_12 (Nat.le_refl _)
      have S_13 := row_below S_11 hb_12 (Nat.le_refl _)
      have T_13 := row_below T_11 hb_12 (Nat.le_refl _)
      have X_13 := row_below X_11 hb_12 (Nat.le_refl _)
      have B_13 : Below w.heap.size w w_12 := B_11.trans (hb_12.mono B_11.size)
      clear hb_12 R_11 S_11 T_11 X_11 B_11
      go_wp2_with fail
      refine (li_row hj rfl X_13 N_12).mono ?_
      rintro e w_14 ⟨rfl, hb_14⟩
      have R_15 := row_below R_13 hb_14 (Nat.le_refl _)
      have S_15 := row_below S_13 hb_14 (Nat.le_refl _)
      have T_15 := row_below T_13 hb_14 (Nat.le_refl _)
      have X_15 := row_below X_13 hb_14 (Nat.le_refl _)
      have W_15 := row_below N_12 hb_14 (Nat.le_refl _)
      have B_15 : Below w.heap.size w w_14 := B_13.trans (hb_14.mono B_13.size)
      clear hb_14 R_13 S_13 T_13 X_13 N_12 B_13
      clear R_15 S_15 T_15 X_15 W_15
      go_wp2
      go_ret
      exact ⟨rfl, B_15⟩
    · go_wp2_with fail
      refine (sOk_row hy1 S_9).mono ?_
      rw [hok2]
      rintro e w_10 ⟨rfl, hb_10⟩
      have R_11 := row_below R_9 hb_10 (Nat.le_refl _)
      have S_11 := row_below S_9 hb_10 (Nat.le_refl _)
      have T_11 := row_below T_9 hb_10 (Nat.le_refl _)
      have X_11 := row_below X_9 hb_10 (Nat.le_refl _)
      have B_11 : Below w.heap.size w w_10 := B_9.trans (hb_10.mono B_9.size)
      clear hb_10 R_9 S_9 T_9 X_9 B_9
      rcases hok3 : depsOk zs with _ | _
      · go_wp2_with fail
        refine (sOk_row hz1 T_11).mono ?_
        rw [hok3]
        rintro e w_12 ⟨rfl, hb_12⟩
        have R_13 := row_below R_11 hb_12 (Nat.le_refl _)
        have S_13 := row_below S_11 hb_12 (Nat.le_refl _)
        have T_13 := row_below T_11 hb_12 (Nat.le_refl _)
        have X_13 := row_below X_11 hb_12 (Nat.le_refl _)
        have B_13 : Below w.heap.size w w_12 := B_11.trans (hb_12.mono B_11.size)
        clear hb_12 R_11 S_11 T_11 X_11 B_11
        go_wp2_with fail
        refine (sJoin_row hx1 hy1 R_13 S_13).mono ?_
        rintro e w_14 ⟨u_14, rfl, N_14, hb_14⟩
        obtain ⟨a_14, c_14, rfl, _⟩ := row_slice N_14
        have R_15 := row_below R_13 hb_14 (Nat.le_refl _)
        have S_15 := row_below S_13 hb_14 (Nat.le_refl _)
        have T_15 := row_below T_13 hb_14 (Nat.le_refl _)
        have X_15 := row_below X_13 hb_14 (Nat.le_refl _)
        have B_15 : Below w.heap.size w w_14 := B_13.trans (hb_14.mono B_13.size)
        clear hb_14 R_13 S_13 T_13 X_13 B_13
        go_wp2_with fail
        refine (li_row hj rfl X_15 N_14).mono ?_
        rintro e w_16 ⟨rfl, hb_16⟩
        have R_17 := row_below R_15 hb_16 (Nat.le_refl _)
        have S_17 := row_below S_15 hb_16 (Nat.le_refl _)
        have T_17 := row_below T_15 hb_16 (Nat.le_refl _)
        have X_17 := row_below X_15 hb_16 (Nat.le_refl _)
        have W_17 := row_below N_14 hb_16 (Nat.le_refl _)
        have B_17 : Below w.heap.size w w_16 := B_15.trans (hb_16.mono B_15.size)
        clear hb_16 R_15 S_15 T_15 X_15 N_14 B_15
        clear R_17 S_17 T_17 X_17 W_17
        go_wp2
        go_ret
        exact ⟨rfl, B_17⟩
      · go_wp2_with fail
        refine (sOk_row hz1 T_11).mono ?_
        rw [hok3]
        rintro e w_12 ⟨rfl, hb_12⟩
        have R_13 := row_below R_11 hb_12 (Nat.le_refl _)
        have S_13 := row_below S_11 hb_12 (Nat.le_refl _)
        have T_13 := row_below T_11 hb_12 (Nat.le_refl _)
        have X_13 := row_below X_11 hb_12 (Nat.le_refl _)
        have B_13 : Below w.heap.size w w_12 := B_11.trans (hb_12.mono B_11.size)
        clear hb_12 R_11 S_11 T_11 X_11 B_11
        have E : Hid (joinL (joinL xs ys) zs = joinL xs (joinL ys zs)) := join_three hok hok2 hok3
        have hj2 : (joinL ys zs).length ≤ 1000 := by have := joinL_len ys zs; omega
        have hj3 : (joinL xs (joinL ys zs)).length ≤ 1000 := by have := joinL_len xs (joinL ys zs); omega
        go_wp2_with fail
        refine (iJoin_row hj hz1 X_13 T_13).mono ?_
        rintro e w_14 ⟨u_14, rfl, N_14, hb_14⟩
        obtain ⟨a_14, c_14, rfl, _⟩ := row_slice N_14
        have R_15 := row_below R_13 hb_14 (Nat.le_refl _)
        have S_15 := row_below S_13 hb_14 (Nat.le_refl _)
        have T_15 := row_below T_13 hb_14 (Nat.le_refl _)
        have X_15 := row_below X_13 hb_14 (Nat.le_refl _)
        have B_15 : Below w.heap.size w w_14 := B_13.trans (hb_14.mono B_13.size)
        clear hb_14 R_13 S_13 T_13 X_13 B_13
        go_wp2_with fail
        refine (iJoin_row hy1 hz1 S_15 T_15).mono ?_
        rintro e w_16 ⟨u_16, rfl, N_16, hb_16⟩
        obtain ⟨a_16, c_16, rfl, _⟩ := row_slice N_16
        have R_17 := row_below R_15 hb_16 (Nat.le_refl _)
        have S_17 := row_below S_15 hb_16 (Nat.le_refl _)
        have T_17 := row_below T_15 hb_16 (Nat.le_refl _)
        have X_17 := row_below X_15 hb_16 (Nat.le_refl _)
        have P_17 := row_below N_14 hb_16 (Nat.le_refl _)
        have B_17 : Below w.heap.size w w_16 := B_15.trans (hb_16.mono B_15.size)
        clear hb_16 R_15 S_15 T_15 X_15 N_14 B_15
        go_wp2_with fail
        refine (iJoin_row hx1 hj2 R_17 N_16).mono ?_
        rintro e w_18 ⟨u_18, rfl, N_18, hb_18⟩
        obtain ⟨a_18, c_18, rfl, _⟩ := row_slice N_18
        have R_19 := row_below R_17 hb_18 (Nat.le_refl _)
        have S_19 := row_below S_17 hb_18 (Nat.le_refl _)
        have T_19 := row_below T_17 hb_18 (Nat.le_refl _)
        have X_19 := row_below X_17 hb_18 (Nat.le_refl _)
        have P_19 := row_below P_17 hb_18 (Nat.le_refl _)
        have Q_19 := row_below N_16 hb_18 (Nat.le_refl _)
        have B_19 : Below w.heap.size w w_18 := B_17.trans (hb_18.mono B_17.size)
        clear hb_18 R_17 S_17 T_17 X_17 P_17 N_16 B_17
        go_wp2_with fail
        refine (li_row hj3 E.out P_19 N_18).mono ?_
        rintro e w_20 ⟨rfl, hb_20⟩
        have R_21 := row_below R_19 hb_20 (Nat.le_refl _)
        have S_21 := row_below S_19 hb_20 (Nat.le_refl _)
        have T_21 := row_below T_19 hb_20 (Nat.le_refl _)
        have X_21 := row_below X_19 hb_20 (Nat.le_refl _)
        have P_21 := row_below P_19 hb_20 (Nat.le_refl _)
        have Q_21 := row_below Q_19 hb_20 (Nat.le_refl _)
        have U_21 := row_below N_18 hb_20 (Nat.le_refl _)
        have B_21 : Below w.heap.size w w_20 := B_19.trans (hb_20.mono B_19.size)
        clear hb_20 R_19 S_19 T_19 X_19 P_19 Q_19 N_18 B_19
        clear R_21 S_21 T_21 X_21 P_21 Q_21 U_21
        go_wp2
        go_ret
        exact ⟨rfl, B_21⟩
end Go.Proofs.Ytmbjfgebcpjigaa
