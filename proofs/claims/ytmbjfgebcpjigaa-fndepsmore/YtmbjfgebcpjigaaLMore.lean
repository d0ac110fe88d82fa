/- The law: joined deps are behind neither. -/
import Derived.Test.YtmbjfgebcpjigaaThree
namespace Go.Proofs.Ytmbjfgebcpjigaa
open Go.ChangeShapes Go.WideShapes Go.ChangeAt Go.RowKit

/-- A dep of one of both is not newer than what is told of its key among the joined ones. -/
theorem join_notless {xs ys : List D} (hx : depsOk xs = true) (hy : depsOk ys = true) {i : Nat} (hi : i < xs.length) : lessB (atC (joinL xs ys) xs[i].k / 4) (atC (joinL xs ys) xs[i].k % 4) xs[i].t xs[i].s = false := by
  have hb := okD_bounds ((ok_iff.1 hx).2 _ (List.getElem_mem hi))
  have h1 := atC_join hx hy hb.1 hb.2.1
  have h2 : atC xs xs[i].k = codeD xs[i] := by rw [atC_ok hx, tab_mem (ok_iff.1 hx) (List.getElem_mem hi)]; rfl
  have h3 := less_code (atC (joinL xs ys) xs[i].k) (codeD xs[i])
  rw [show codeD xs[i] / 4 = xs[i].t by simp only [codeD]; omega, show codeD xs[i] % 4 = xs[i].s by simp only [codeD]; omega] at h3
  rw [h3, decide_eq_false_iff_not, h1]
  split <;> omega
theorem iLess_is {t s t' s' : Int} {r : Bool} (h : lessB t s t' s' = r) (w : World) : Calls Try.prog 22 #[stampV t s, stampV t' s'] w fun e w' => e = .returned (.bool r) ∧ Below w.heap.size w w' := by rw [← h]; exact iLess_any t s t' s' w

set_option maxHeartbeats 4000000 in
set_option maxRecDepth 100000 in
theorem lawMore (w : World) (a : Option Addr) (len cap : Nat) (h : Code w a len cap) :
    Calls Try.prog 11 #[.slice a len cap] w fun e w' => e = .returned (.bool true) ∧ Below w.heap.size w w' := by
  have hm := h.2.1
  have hl := h.1
  unfold maxLen at hm
  by_cases hc : 1048576 < (len : Int)
  · go_enter Try.func11, Try.ntmps11
    go_wp2
    go_ret
    exact ⟨rfl, Below.refl _ _⟩
  go_enter Try.func11, Try.ntmps11
  go_wp2_with fail
  refine (drawDJoin w a len cap h).mono ?_
  rintro e w1 ⟨v1, v2, xs, ys, rfl, hx, hy, R, S, B_0⟩
  obtain ⟨va, vc, rfl, _⟩ := row_slice R
  obtain ⟨ua, uc, rfl, _⟩ := row_slice S
  have hx1 : xs.length ≤ 1000 := by omega
  have hy1 : ys.length ≤ 1000 := by omega
  have hj : (joinL xs ys).length ≤ 1000 := by have := joinL_len xs ys; omega
  clear h hm hl
  have bb := B_0.size
  go_wp2_with fail
  refine (iJoin_row hx1 hy1 R S).mono ?_
  rintro e w_1 ⟨u_1, rfl, N_1, hb_1⟩
  obtain ⟨a_1, c_1, rfl, _⟩ := row_slice N_1
  have R_2 := row_below R hb_1 (Nat.le_refl _)
  have S_2 := row_below S hb_1 (Nat.le_refl _)
  have B_2 : Below w.heap.size w w_1 := B_0.trans (hb_1.mono B_0.size)
  clear hb_1 R S B_0
  have XX := row_mono N_1 bb
  clear N_1 bb
  go_wp2_with fail
  refine (sJoin_row hx1 hy1 R_2 S_2).mono ?_
  rintro e w_3 ⟨u_3, rfl, N_3, hb_3⟩
  obtain ⟨a_3, c_3, rfl, _⟩ := row_slice N_3
  have R_4 := row_below R_2 hb_3 (Nat.le_refl _)
  have S_4 := row_below S_2 hb_3 (Nat.le_refl _)
  have X_4 := row_below XX hb_3 (Nat.le_refl _)
  have B_4 : Below w.heap.size w w_3 := B_2.trans (hb_3.mono B_2.size)
  clear hb_3 R_2 S_2 XX B_2
  go_wp2_with fail
  refine (li_row hj rfl X_4 N_3).mono ?_
  rintro e w_5 ⟨rfl, hb_5⟩
  have R_6 := row_below R_4 hb_5 (Nat.le_refl _)
  have S_6 := row_below S_4 hb_5 (Nat.le_refl _)
  have X_6 := row_below X_4 hb_5 (Nat.le_refl _)
  have W_6 := row_below N_3 hb_5 (Nat.le_refl _)
  have B_6 : Below w.heap.size w w_5 := B_4.trans (hb_5.mono B_4.size)
  clear hb_5 R_4 S_4 X_4 N_3 B_4
  rcases hok : depsOk xs with _ | _
  · go_wp2_with fail
    refine (sOk_row hx1 R_6).mono ?_
    rw [hok]
    rintro e w_7 ⟨rfl, hb_7⟩
    have R_8 := row_below R_6 hb_7 (Nat.le_refl _)
    have S_8 := row_below S_6 hb_7 (Nat.le_refl _)
    have X_8 := row_below X_6 hb_7 (Nat.le_refl _)
    have B_8 : Below w.heap.size w w_7 := B_6.trans (hb_7.mono B_6.size)
    clear hb_7 R_6 S_6 X_6 B_6
    go_wp2_with fail
    refine (sJoin_row hx1 hy1 R_8 S_8).mono ?_
    rintro e w_9 ⟨u_9, rfl, N_9, hb_9⟩
    obtain ⟨a_9, c_9, rfl, _⟩ := row_slice N_9
    have R_10 := row_below R_8 hb_9 (Nat.le_refl _)
    have S_10 := row_below S_8 hb_9 (Nat.le_refl _)
    have X_10 := row_below X_8 hb_9 (Nat.le_refl _)
    have B_10 : Below w.heap.size w w_9 := B_8.trans (hb_9.mono B_8.size)
    clear hb_9 R_8 S_8 X_8 B_8
    go_wp2_with fail
    refine (li_row hj rfl X_10 N_9).mono ?_
    rintro e w_11 ⟨rfl, hb_11⟩
    have R_12 := row_below R_10 hb_11 (Nat.le_refl _)
    have S_12 := row_below S_10 hb_11 (Nat.le_refl _)
    have X_12 := row_below X_10 hb_11 (Nat.le_refl _)
    have W_12 := row_below N_9 hb_11 (Nat.le_refl _)
    have B_12 : Below w.heap.size w w_11 := B_10.trans (hb_11.mono B_10.size)
    clear hb_11 R_10 S_10 X_10 N_9 B_10
    clear R_12 S_12 X_12 W_12
    go_wp2
    go_ret
    exact ⟨rfl, B_12⟩
  · go_wp2_with fail
    refine (sOk_row hx1 R_6).mono ?_
    rw [hok]
    rintro e w_7 ⟨rfl, hb_7⟩
    have R_8 := row_below R_6 hb_7 (Nat.le_refl _)
    have S_8 := row_below S_6 hb_7 (Nat.le_refl _)
    have X_8 := row_below X_6 hb_7 (Nat.le_refl _)
    have B_8 : Below w.heap.size w w_7 := B_6.trans (hb_7.mono B_6.size)
    clear hb_7 R_6 S_6 X_6 B_6
    rcases hok2 : depsOk ys with _ | _
    · go_wp2_with fail
      refine (sOk_row hy1 S_8).mono ?_
      rw [hok2]
      rintro e w_9 ⟨rfl, hb_9⟩
      have R_10 := row_below R_8 hb_9 (Nat.le_refl _)
      have S_10 := row_below S_8 hb_9 (Nat.le_refl _)
      have X_10 := row_below X_8 hb_9 (Nat.le_refl _)
      have B_10 : Below w.heap.size w w_9 := B_8.trans (hb_9.mono B_8.size)
      clear hb_9 R_8 S_8 X_8 B_8
      go_wp2_with fail
      refine (sJoin_row hx1 hy1 R_10 S_10).mono ?_
      rintro e w_11 ⟨u_11, rfl, N_11, hb_11⟩
      obtain ⟨a_11, c_11, rfl, _⟩ := row_slice N_11
      have R_12 := row_below R_10 hb_11 (Nat.le_refl _)
      have S_12 := row_below S_10 hb_11 (Nat.le_refl _)
      have X_12 := row_below X_10 hb_11 (Nat.le_refl _)
      have B_12 : Below w.heap.size w w_11 := B_10.trans (hb_11.mono B_10.size)
      clear hb_11 R_10 S_10 X_10 B_10
      go_wp2_with fail
      refine (li_row hj rfl X_12 N_11).mono ?_
      rintro e w_13 ⟨rfl, hb_13⟩
      have R_14 := row_below R_12 hb_13 (Nat.le_refl _)
      have S_14 := row_below S_12 hb_13 (Nat.le_refl _)
      have X_14 := row_below X_12 hb_13 (Nat.le_refl _)
      have W_14 := row_below N_11 hb_13 (Nat.le_refl _)
      have B_14 : Below w.heap.size w w_13 := B_12.trans (hb_13.mono B_12.size)
      clear hb_13 R_12 S_12 X_12 N_11 B_12
      clear R_14 S_14 X_14 W_14
      go_wp2
      go_ret
      exact ⟨rfl, B_14⟩
    · go_wp2_with fail
      refine (sOk_row hy1 S_8).mono ?_
      rw [hok2]
      rintro e w_9 ⟨rfl, hb_9⟩
      have R_10 := row_below R_8 hb_9 (Nat.le_refl _)
      have S_10 := row_below S_8 hb_9 (Nat.le_refl _)
      have X_10 := row_below X_8 hb_9 (Nat.le_refl _)
      have B_10 : Below w.heap.size w w_9 := B_8.trans (hb_9.mono B_8.size)
      clear hb_9 R_8 S_8 X_8 B_8
      have TT := three_of B_10 R_10 S_10 X_10
      clear B_10 R_10 S_10 X_10
      generalize hZ : w_9.heap.size = Z at *
      clear hZ
      generalize hvy : Value.slice ua ys.length uc = v at *
      generalize hxx : Value.slice a_1 (joinL xs ys).length c_1 = x at *
      clear hvy hxx
      go_wp2_with fail
      go_loopw [6] (fun i wr => ∃ k : Nat, k ≤ xs.length ∧ i = .int .i64 k ∧ Three w Z (.slice va xs.length vc) v x xs ys (joinL xs ys) wr) (fun i _ => xs.length - (intOf i).toNat)
      case atStart => exact ⟨0, Nat.zero_le _, rfl, TT⟩
      case round =>
        obtain ⟨k, hk, rfl, T⟩ := hrel
        clear TT
        by_cases hlt : k < xs.length
        · have HL : Hid _ := join_notless hok hok2 hlt
          have hIj := fun (W9 : World) h => iAt_row (w := W9) (v := x) (base := w.heap.size) xs[k].k hj h
          simp only [atV] at hIj
          obtain ⟨b, f, rfl, hbb, e0, e1, e2⟩ := (row_deps' T.2.2.1.1).at hlt
          generalize atC (joinL xs ys) xs[k].k = M at *
          generalize xs[k] = y at *
          have r0 := since_cell e0
          have r1 := since_cell e1
          have r2 := since_cell e2
          have ne := since_ne wr
          clear e0 e1 e2
          go_wp2_with fail
          refine wp_region_class (S := Since wr) (by kernel_rfl) (by kernel_rfl) (Below.refl _ _).drew ?_
          repeat (go_big_quiet_step ((rename_i n; first | (go_at_call 32; exact Calls.inClass (hIj _ (T.below n.h).2.2.2.2.1) Since.keep) | (go_at_call 22; exact Calls.inClass (iLess_is HL.out _) Since.keep))))
          refine wpQuiet_nil ?_
          rintro W2 ⟨n, hnW⟩
          have R2 := n.h
          rw [← hnW] at R2
          have T2 := T.below R2
          clear R2 r0 r1 r2 ne hnW n T
          go_wp2_with fail
          go_roundw
          case rel => exact ⟨k + 1, by omega, by go_num, T2⟩
          case measure => simp [intOf]; omega
        · have E1 : Hid (joinL (joinL xs ys) xs = joinL xs ys) := join_left hok hok2
          have E2 : Hid (joinL (joinL xs ys) ys = joinL xs ys) := join_right hok hok2
          go_wp2_with fail
          refine (iJoin_row hj hx1 T.2.2.2.2.1 T.2.2.1.1).mono ?_
          rintro e wa ⟨v9, rfl, N9, hba⟩
          obtain ⟨a9, c9, rfl, _⟩ := row_slice N9
          have Ta := T.below hba
          clear T hba
          go_wp2_with fail
          refine (li_row hj E1.out N9 Ta.2.2.2.2.1).mono ?_
          rintro e wb ⟨rfl, hbb⟩
          have Tb := Ta.below hbb
          clear Ta hbb N9
          go_wp2_with fail
          refine (iJoin_row hj hy1 Tb.2.2.2.2.1 Tb.2.2.2.1.1).mono ?_
          rintro e wc ⟨v9, rfl, N9, hbc⟩
          obtain ⟨a10, c10, rfl, _⟩ := row_slice N9
          have Tc := Tb.below hbc
          clear Tb hbc
          go_wp2_with fail
          refine (li_row hj E2.out N9 Tc.2.2.2.2.1).mono ?_
          rintro e wd ⟨rfl, hbd⟩
          have BB := (Tc.below hbd).1
          clear Tc N9 hbd
          go_wp2
          go_ret
          exact ⟨rfl, BB⟩
end Go.Proofs.Ytmbjfgebcpjigaa
