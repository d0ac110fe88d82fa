/- The law: deps joined with themselves, or with none, are the same. -/
import Derived.Test.YtmbjfgebcpjigaaLawKit
namespace Go.Proofs.Ytmbjfgebcpjigaa
open Go.ChangeShapes Go.WideShapes Go.ChangeAt Go.RowKit

set_option maxHeartbeats 4000000 in
set_option maxRecDepth 100000 in
theorem lawSelf (w : World) (a : Option Addr) (len cap : Nat) (h : Code w a len cap) :
    Calls Try.prog 10 #[.slice a len cap] w fun e w' => e = .returned (.bool true) ∧ Below w.heap.size w w' := by
  have hm := h.2.1
  have hl := h.1
  unfold maxLen at hm
  by_cases hc : 1048576 < (len : Int)
  · go_enter Try.func10, Try.ntmps10
    go_wp2
    go_ret
    exact ⟨rfl, Below.refl _ _⟩
  go_enter Try.func10, Try.ntmps10
  go_wp2_with fail
  refine (drawDOk w a len cap h).mono ?_
  rintro e w1 ⟨v1, xs, rfl, hx, R, B_0⟩
  obtain ⟨va, vc, rfl, _⟩ := row_slice R
  have hx1 : xs.length ≤ 1000 := by omega
  have hj : (joinL xs xs).length ≤ 1000 := by have := joinL_len xs xs; omega
  have hnil : ∀ W : World, RowD W 0 (.slice none 0 0) [] := fun W => World.ownsRow_nil _ _ _ _
  clear h hm hl
  rcases hok : depsOk xs with _ | _
  · go_wp2_with fail
    refine (sOk_row hx1 R).mono ?_
    rw [hok]
    rintro e w_1 ⟨rfl, hb_1⟩
    have R_2 := row_below R hb_1 (Nat.le_refl _)
    have B_2 : Below w.heap.size w w_1 := B_0.trans (hb_1.mono B_0.size)
    clear hb_1 R B_0
    go_wp2_with fail
    refine (iJoin_row hx1 hx1 R_2 R_2).mono ?_
    rintro e w_3 ⟨u_3, rfl, N_3, hb_3⟩
    obtain ⟨a_3, c_3, rfl, _⟩ := row_slice N_3
    have R_4 := row_below R_2 hb_3 (Nat.le_refl _)
    have B_4 : Below w.heap.size w w_3 := B_2.trans (hb_3.mono B_2.size)
    clear hb_3 R_2 B_2
    go_wp2_with fail
    refine (sJoin_row hx1 hx1 R_4 R_4).mono ?_
    rintro e w_5 ⟨u_5, rfl, N_5, hb_5⟩
    obtain ⟨a_5, c_5, rfl, _⟩ := row_slice N_5
    have R_6 := row_below R_4 hb_5 (Nat.le_refl _)
    have X_6 := row_below N_3 hb_5 (Nat.le_refl _)
    have B_6 : Below w.heap.size w w_5 := B_4.trans (hb_5.mono B_4.size)
    clear hb_5 R_4 N_3 B_4
    go_wp2_with fail
    refine (li_row hj rfl X_6 N_5).mono ?_
    rintro e w_7 ⟨rfl, hb_7⟩
    have R_8 := row_below R_6 hb_7 (Nat.le_refl _)
    have X_8 := row_below X_6 hb_7 (Nat.le_refl _)
    have W_8 := row_below N_5 hb_7 (Nat.le_refl _)
    have B_8 : Below w.heap.size w w_7 := B_6.trans (hb_7.mono B_6.size)
    clear hb_7 R_6 X_6 N_5 B_6
    go_wp2_with fail
    refine (sJoin_row hx1 hx1 R_8 R_8).mono ?_
    rintro e w_9 ⟨u_9, rfl, N_9, hb_9⟩
    obtain ⟨a_9, c_9, rfl, _⟩ := row_slice N_9
    have R_10 := row_below R_8 hb_9 (Nat.le_refl _)
    have X_10 := row_below X_8 hb_9 (Nat.le_refl _)
    have W_10 := row_below W_8 hb_9 (Nat.le_refl _)
    have B_10 : Below w.heap.size w w_9 := B_8.trans (hb_9.mono B_8.size)
    clear hb_9 R_8 X_8 W_8 B_8
    go_wp2_with fail
    refine (li_row hj rfl X_10 N_9).mono ?_
    rintro e w_11 ⟨rfl, hb_11⟩
    have R_12 := row_below R_10 hb_11 (Nat.le_refl _)
    have X_12 := row_below X_10 hb_11 (Nat.le_refl _)
    have W_12 := row_below W_10 hb_11 (Nat.le_refl _)
    have W2_12 := row_below N_9 hb_11 (Nat.le_refl _)
    have B_12 : Below w.heap.size w w_11 := B_10.trans (hb_11.mono B_10.size)
    clear hb_11 R_10 X_10 W_10 N_9 B_10
    go_wp2_with fail
    refine (iOk_row hx1 R_12).mono ?_
    rw [hok]
    rintro e w_13 ⟨rfl, hb_13⟩
    have R_14 := row_below R_12 hb_13 (Nat.le_refl _)
    have X_14 := row_below X_12 hb_13 (Nat.le_refl _)
    have W_14 := row_below W_12 hb_13 (Nat.le_refl _)
    have W2_14 := row_below W2_12 hb_13 (Nat.le_refl _)
    have B_14 : Below w.heap.size w w_13 := B_12.trans (hb_13.mono B_12.size)
    clear hb_13 R_12 X_12 W_12 W2_12 B_12
    clear R_14 X_14 W_14 W2_14
    go_wp2
    go_ret
    exact ⟨rfl, B_14⟩
  · go_wp2_with fail
    refine (sOk_row hx1 R).mono ?_
    rw [hok]
    rintro e w_1 ⟨rfl, hb_1⟩
    have R_2 := row_below R hb_1 (Nat.le_refl _)
    have B_2 : Below w.heap.size w w_1 := B_0.trans (hb_1.mono B_0.size)
    clear hb_1 R B_0
    go_wp2_with fail
    refine (iJoin_row hx1 hx1 R_2 R_2).mono ?_
    rintro e w_3 ⟨u_3, rfl, N_3, hb_3⟩
    obtain ⟨a_3, c_3, rfl, _⟩ := row_slice N_3
    have R_4 := row_below R_2 hb_3 (Nat.le_refl _)
    have B_4 : Below w.heap.size w w_3 := B_2.trans (hb_3.mono B_2.size)
    clear hb_3 R_2 B_2
    go_wp2_with fail
    refine (sJoin_row hx1 hx1 R_4 R_4).mono ?_
    rintro e w_5 ⟨u_5, rfl, N_5, hb_5⟩
    obtain ⟨a_5, c_5, rfl, _⟩ := row_slice N_5
    have R_6 := row_below R_4 hb_5 (Nat.le_refl _)
    have X_6 := row_below N_3 hb_5 (Nat.le_refl _)
    have B_6 : Below w.heap.size w w_5 := B_4.trans (hb_5.mono B_4.size)
    clear hb_5 R_4 N_3 B_4
    go_wp2_with fail
    refine (li_row hj rfl X_6 N_5).mono ?_
    rintro e w_7 ⟨rfl, hb_7⟩
    have R_8 := row_below R_6 hb_7 (Nat.le_refl _)
    have X_8 := row_below X_6 hb_7 (Nat.le_refl _)
    have W_8 := row_below N_5 hb_7 (Nat.le_refl _)
    have B_8 : Below w.heap.size w w_7 := B_6.trans (hb_7.mono B_6.size)
    clear hb_7 R_6 X_6 N_5 B_6
    have es : Hid (joinL xs xs = xs) := join_self hok
    have en : Hid (joinL xs [] = xs) := join_none hok
    have en' : Hid (joinL [] xs = xs) := (join_comm [] xs).trans (join_none hok)
    go_wp2_with fail
    refine (li_row hx1 es.out X_8 R_8).mono ?_
    rintro e w_9 ⟨rfl, hb_9⟩
    have R_10 := row_below R_8 hb_9 (Nat.le_refl _)
    have X_10 := row_below X_8 hb_9 (Nat.le_refl _)
    have W_10 := row_below W_8 hb_9 (Nat.le_refl _)
    have B_10 : Below w.heap.size w w_9 := B_8.trans (hb_9.mono B_8.size)
    clear hb_9 R_8 X_8 W_8 B_8
    go_wp2_with fail
    refine (iJoin_row hx1 (by simp) R_10 (hnil _)).mono ?_
    rintro e w_11 ⟨u_11, rfl, N_11, hb_11⟩
    obtain ⟨a_11, c_11, rfl, _⟩ := row_slice N_11
    have R_12 := row_below R_10 hb_11 (Nat.le_refl _)
    have X_12 := row_below X_10 hb_11 (Nat.le_refl _)
    have W_12 := row_below W_10 hb_11 (Nat.le_refl _)
    have B_12 : Below w.heap.size w w_11 := B_10.trans (hb_11.mono B_10.size)
    clear hb_11 R_10 X_10 W_10 B_10
    go_wp2_with fail
    refine (li_row hx1 en.out N_11 R_12).mono ?_
    rintro e w_13 ⟨rfl, hb_13⟩
    have R_14 := row_below R_12 hb_13 (Nat.le_refl _)
    have X_14 := row_below X_12 hb_13 (Nat.le_refl _)
    have W_14 := row_below W_12 hb_13 (Nat.le_refl _)
    have Y_14 := row_below N_11 hb_13 (Nat.le_refl _)
    have B_14 : Below w.heap.size w w_13 := B_12.trans (hb_13.mono B_12.size)
    clear hb_13 R_12 X_12 W_12 N_11 B_12
    go_wp2_with fail
    refine (iJoin_row (by simp) hx1 (hnil _) R_14).mono ?_
    rintro e w_15 ⟨u_15, rfl, N_15, hb_15⟩
    obtain ⟨a_15, c_15, rfl, _⟩ := row_slice N_15
    have R_16 := row_below R_14 hb_15 (Nat.le_refl _)
    have X_16 := row_below X_14 hb_15 (Nat.le_refl _)
    have W_16 := row_below W_14 hb_15 (Nat.le_refl _)
    have Y_16 := row_below Y_14 hb_15 (Nat.le_refl _)
    have B_16 : Below w.heap.size w w_15 := B_14.trans (hb_15.mono B_14.size)
    clear hb_15 R_14 X_14 W_14 Y_14 B_14
    go_wp2_with fail
    refine (li_row hx1 en'.out N_15 R_16).mono ?_
    rintro e w_17 ⟨rfl, hb_17⟩
    have R_18 := row_below R_16 hb_17 (Nat.le_refl _)
    have X_18 := row_below X_16 hb_17 (Nat.le_refl _)
    have W_18 := row_below W_16 hb_17 (Nat.le_refl _)
    have Y_18 := row_below Y_16 hb_17 (Nat.le_refl _)
    have Z_18 := row_below N_15 hb_17 (Nat.le_refl _)
    have B_18 : Below w.heap.size w w_17 := B_16.trans (hb_17.mono B_16.size)
    clear hb_17 R_16 X_16 W_16 Y_16 N_15 B_16
    clear R_18 X_18 W_18 Y_18 Z_18
    go_wp2
    go_ret
    exact ⟨rfl, B_18⟩
end Go.Proofs.Ytmbjfgebcpjigaa
