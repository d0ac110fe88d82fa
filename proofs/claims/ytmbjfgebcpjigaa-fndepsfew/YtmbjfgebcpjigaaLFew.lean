/- The law: deps have no more keys than there are. -/
import Derived.Test.YtmbjfgebcpjigaaThree
namespace Go.Proofs.Ytmbjfgebcpjigaa
open Go.ChangeShapes Go.WideShapes Go.ChangeAt Go.RowKit

/-- Deps that have all keys ahead of one; or none at all. -/
def Full (zs : List D) (k : Nat) : Prop := zs = [] ∨ (depsOk zs = true ∧ 0 < zs.length ∧ ∀ j : Int, 0 ≤ j → j < k → tab zs j ≠ none)
theorem lstFrom_full (f : Tbl) (n : Nat) : ∀ i : Int, (∀ j, i ≤ j → j < i + n → f j ≠ none) → (lstFrom f i n).length = n := by
  induction n with
  | zero => intro i _; rfl
  | succ n ih =>
    intro i h
    rw [lstFrom]
    rcases hf : f i with _ | c
    · exact absurd hf (h i (by omega) (by omega))
    · simp only [List.length_cons]
      rw [ih (i + 1) (fun j h1 h2 => h j (by omega) (by omega))]
theorem Full.six {zs : List D} (h : Full zs 6) (hn : zs ≠ []) : zs.length = 6 ∧ depsOk zs = true := by
  rcases h with h | ⟨h1, _, h2⟩
  · exact absurd h hn
  · refine ⟨?_, h1⟩
    have e := lst_of (ok_iff.1 h1) (f := tab zs) (fun _ _ _ => rfl)
    rw [← e]
    exact lstFrom_full _ 6 0 (fun j h3 h4 => h2 j h3 (by omega))
theorem Full.step {zs : List D} {k : Nat} (h : Full zs k) (hn : zs ≠ []) (hk : k < 6) {t : Int} (ht : 1 ≤ t ∧ t ≤ 9999) : Full (putL zs ⟨k, t, 0⟩) (k + 1) := by
  rcases h with h | ⟨h1, _, h2⟩
  · exact absurd h hn
  · have hd : okD ⟨k, t, 0⟩ = true := by simp [okD, okB, inB]; omega
    refine .inr ⟨putL_ok _ _, put_some h1 hd, fun j h3 h4 => ?_⟩
    rw [tab_put h1 hd h3 (by omega)]
    unfold withT
    by_cases hj : (k : Int) = j
    · rw [if_pos hj]; cases tab zs j <;> simp [omax]
    · rw [if_neg hj]; exact h2 j h3 (by omega)
theorem Full.start (xs : List D) (d : D) : Full (putL xs d) 0 := by
  by_cases hb : depsOk xs = true ∧ okD d = true
  · exact .inr ⟨putL_ok _ _, put_some hb.1 hb.2, fun j h1 h2 => by omega⟩
  · exact .inl (if_neg hb)

set_option maxHeartbeats 4000000 in
set_option maxRecDepth 100000 in
theorem lawFew (w : World) (a c : Option Addr) (len cap len1 cap1 : Nat) (h : Code w a len cap) (h' : Code w c len1 cap1) :
    Calls Try.prog 12 #[.slice a len cap, .slice c len1 cap1] w fun e w' => e = .returned (.bool true) ∧ Below w.heap.size w w' := by
  have hm := h.2.1
  have hl := h.1
  have hm' := h'.2.1
  have hl' := h'.1
  unfold maxLen at hm hm'
  by_cases hc : 1048576 < (len : Int)
  · go_enter Try.func12, Try.ntmps12
    go_wp2
    go_ret
    exact ⟨rfl, Below.refl _ _⟩
  by_cases hc' : 1048576 < (len1 : Int)
  · go_enter Try.func12, Try.ntmps12
    go_wp2
    go_ret
    exact ⟨rfl, Below.refl _ _⟩
  go_enter Try.func12, Try.ntmps12
  go_wp2_with fail
  refine (drawDPut w a len cap h).mono ?_
  rintro e w1 ⟨v1, xs, d, rfl, hx, R, B_0⟩
  obtain ⟨va, vc, rfl, _⟩ := row_slice R
  have hx1 : xs.length ≤ 1000 := by omega
  have hp : (putL xs d).length ≤ 1000 := by have := putL_len xs d; omega
  clear h hm hl h' hm'
  have R_1 := R.alloc (.cells #[.int .i64 d.k, .int .i64 d.t, .int .i64 d.s] 32)
  have B_1 := B_0.alloc B_0.size (.cells #[.int .i64 d.k, .int .i64 d.t, .int .i64 d.s] 32)
  have D_1 := Blk.new w1 #[.int .i64 d.k, .int .i64 d.t, .int .i64 d.s] 32
  clear R B_0
  have bb := B_1.size
  obtain ⟨q2, g2⟩ := D_1.rules
  have l2 := D_1.lt
  go_wp2_with fail
  refine (iPut_row d hx1 R_1).mono ?_
  rintro e w_3 ⟨u_3, rfl, N_3, hb_3⟩
  obtain ⟨a_3, c_3, rfl, _⟩ := row_slice N_3
  clear q2 g2 l2
  have R_4 := row_below R_1 hb_3 (Nat.le_refl _)
  have D_4 := D_1.below hb_3 D_1.lt
  have B_4 : Below w.heap.size w w_3 := B_1.trans (hb_3.mono B_1.size)
  clear hb_3 R_1 D_1 B_1
  have XX := row_mono N_3 bb
  clear N_3 bb
  obtain ⟨q5, g5⟩ := D_4.rules
  have l5 := D_4.lt
  go_wp2_with fail
  refine (sPut_row d hx1 R_4).mono ?_
  rintro e w_6 ⟨u_6, rfl, N_6, hb_6⟩
  obtain ⟨a_6, c_6, rfl, _⟩ := row_slice N_6
  clear q5 g5 l5
  have R_7 := row_below R_4 hb_6 (Nat.le_refl _)
  have X_7 := row_below XX hb_6 (Nat.le_refl _)
  have D_7 := D_4.below hb_6 D_4.lt
  have B_7 : Below w.heap.size w w_6 := B_4.trans (hb_6.mono B_4.size)
  clear hb_6 R_4 XX D_4 B_4
  obtain ⟨q8, g8⟩ := D_7.rules
  have l8 := D_7.lt
  go_wp2_with fail
  refine (li_row hp rfl X_7 N_6).mono ?_
  rintro e w_9 ⟨rfl, hb_9⟩
  clear q8 g8 l8
  have R_10 := row_below R_7 hb_9 (Nat.le_refl _)
  have X_10 := row_below X_7 hb_9 (Nat.le_refl _)
  have W_10 := row_below N_6 hb_9 (Nat.le_refl _)
  have D_10 := D_7.below hb_9 D_7.lt
  have B_10 : Below w.heap.size w w_9 := B_7.trans (hb_9.mono B_7.size)
  clear hb_9 R_7 X_7 N_6 D_7 B_7
  have HF : Hid _ := Full.start xs d
  have XY := X_10
  have BB := B_10
  clear R_10 W_10 D_10
  clear X_10 B_10
  go_wp2_with fail
  generalize putL xs d = z0 at *
  go_loopw [7, 8] (fun v i wr => ∃ (k : Nat) (zs : List D), k ≤ 6 ∧ i = .int .i64 k ∧ zs.length ≤ 1000 ∧ Hid (Full zs k) ∧ RowD wr w.heap.size v zs ∧ Below w.heap.size w wr) (fun _ i _ => 6 - (intOf i).toNat)
  case atStart => exact ⟨0, z0, by omega, rfl, hp, HF, XY, BB⟩
  case round =>
    obtain ⟨k, zs, hk, rfl, hzl, HS, hrow, hB⟩ := hrel
    clear XY BB HF
    obtain ⟨za, zc, rfl, _⟩ := row_slice hrow
    by_cases hne : zs = []
    · have h0 : zs.length = 0 := by rw [hne]; rfl
      have hg : ¬ (0 : Int) < (zs.length : Int) := by omega
      have hg2 : decide ((0 : Int) < (zs.length : Int)) = false := by rw [decide_eq_false_iff_not]; exact hg
      have he : ((zs.length : Int) == 0) = true := by rw [h0]; rfl
      clear h0 hne
      by_cases hlt : k < 6
      · go_wp2_with fail
        go_ret
        exact ⟨rfl, hB⟩
      · have hlt2 : decide ((k : Int) < 6) = false := by rw [decide_eq_false_iff_not]; omega
        go_wp2_with fail
        go_ret
        exact ⟨rfl, hB⟩
    · have h0 : 0 < zs.length := by rcases zs with _ | _; exact absurd rfl hne; simp
      by_cases hlt : k < 6
      · have hg : (0 : Int) < (zs.length : Int) := by omega
        have HS2 : Hid _ := HS.out.step hne hlt (t := 1 + (len1 : Int) % 9) (by omega)
        have hput := fun (W9 : World) h => iPut_row (w := W9) (v := .slice za zs.length zc) (base := w.heap.size) ⟨(k : Int), 1 + (len1 : Int) % 9, 0⟩ hzl h
        have hl2 : (putL zs ⟨(k : Int), 1 + (len1 : Int) % 9, 0⟩).length ≤ 1000 := by have := putL_len zs ⟨(k : Int), 1 + (len1 : Int) % 9, 0⟩; omega
        clear hne h0
        go_wp2_with fail
        refine (hput _ hrow).mono ?_
        rintro e wa ⟨v9, rfl, N9, hba⟩
        have N10 := row_mono N9 hB.size
        have hB2 : Below w.heap.size w wa := hB.trans (hba.mono hB.size)
        obtain ⟨a9, c9, rfl, _⟩ := row_slice N10
        clear hput hrow hba N9 hB
        generalize putL zs ⟨(k : Int), 1 + (len1 : Int) % 9, 0⟩ = z2 at *
        go_wp2_with fail
        go_roundw
        case rel => exact ⟨k + 1, z2, by omega, by go_num, hl2, HS2, N10, hB2⟩
        case measure => simp [intOf]; omega
      · have hk6 : k = 6 := by omega
        subst hk6
        obtain ⟨h6, hok⟩ := HS.out.six hne
        have he : ((zs.length : Int) == 0) = false := by rw [h6]; rfl
        have he6 : ((zs.length : Int) == 6) = true := by rw [h6]; rfl
        clear h6 h0 hne
        go_wp2_with fail
        refine (iOk_row hzl hrow).mono ?_
        rw [hok]
        rintro e wa ⟨rfl, hba⟩
        have hB2 : Below w.heap.size w wa := hB.trans (hba.mono hB.size)
        clear hrow hba hB
        go_wp2_with fail
        go_ret
        exact ⟨rfl, hB2⟩
end Go.Proofs.Ytmbjfgebcpjigaa
