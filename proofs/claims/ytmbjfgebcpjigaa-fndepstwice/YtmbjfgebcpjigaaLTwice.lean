/- The law: deps that are put twice are put once; in either order it is the same. -/
import Derived.Test.YtmbjfgebcpjigaaLawKit
namespace Go.Proofs.Ytmbjfgebcpjigaa
open Go.ChangeShapes Go.WideShapes Go.ChangeAt Go.RowKit

/-- Two deps lie in their blocks, and nothing old has turned. -/
def In2 (w0 : World) (E F : Nat) (d e : D) (W : World) : Prop := Below w0.heap.size w0 W ∧ (E < W.heap.size ∧ W.cell? ⟨E, 0, none⟩ = some (.int .i64 d.k) ∧ W.cell? ⟨E, 1, none⟩ = some (.int .i64 d.t) ∧ W.cell? ⟨E, 2, none⟩ = some (.int .i64 d.s)) ∧ (F < W.heap.size ∧ W.cell? ⟨F, 0, none⟩ = some (.int .i64 e.k) ∧ W.cell? ⟨F, 1, none⟩ = some (.int .i64 e.t) ∧ W.cell? ⟨F, 2, none⟩ = some (.int .i64 e.s))
theorem In2.below {w0 w w' : World} {E F : Nat} {d e : D} (h : In2 w0 E F d e w) (k : Below w.heap.size w w') : In2 w0 E F d e w' := by
  obtain ⟨h1, ⟨a1, a2, a3, a4⟩, ⟨b1, b2, b3, b4⟩⟩ := h
  exact ⟨h1.trans (k.mono h1.size), ⟨Nat.lt_of_lt_of_le a1 k.size, (k.cell (p := ⟨E, _, none⟩) a1).trans a2, (k.cell (p := ⟨E, _, none⟩) a1).trans a3, (k.cell (p := ⟨E, _, none⟩) a1).trans a4⟩, ⟨Nat.lt_of_lt_of_le b1 k.size, (k.cell (p := ⟨F, _, none⟩) b1).trans b2, (k.cell (p := ⟨F, _, none⟩) b1).trans b3, (k.cell (p := ⟨F, _, none⟩) b1).trans b4⟩⟩
theorem In2.drew {w0 w : World} {E F : Nat} {d e : D} (h : In2 w0 E F d e w) : In2 w0 E F d e w.drew := h.below (Below.refl _ _).drew
theorem in2_of {w0 w : World} {E F : Nat} {d e : D} {T T' : TypeId} (hB : Below w0.heap.size w0 w) (h1 : Blk w E #[.int .i64 d.k, .int .i64 d.t, .int .i64 d.s] T) (h2 : Blk w F #[.int .i64 e.k, .int .i64 e.t, .int .i64 e.s] T') : In2 w0 E F d e w :=
  ⟨hB, ⟨h1.lt, (h1.cell 0).trans rfl, (h1.cell 1).trans rfl, (h1.cell 2).trans rfl⟩, ⟨h2.lt, (h2.cell 0).trans rfl, (h2.cell 1).trans rfl, (h2.cell 2).trans rfl⟩⟩

set_option maxHeartbeats 4000000 in
set_option maxRecDepth 100000 in
theorem lawTwice (w : World) (a c : Option Addr) (len cap len1 cap1 : Nat) (h : Code w a len cap) (h' : Code w c len1 cap1) :
    Calls Try.prog 6 #[.slice a len cap, .slice c len1 cap1] w fun e w' => e = .returned (.bool true) ∧ Below w.heap.size w w' := by
  have hm := h.2.1
  have hl := h.1
  have hm' := h'.2.1
  have hl' := h'.1
  unfold maxLen at hm hm'
  by_cases hc : 1048576 < (len : Int)
  · go_enter Try.func6, Try.ntmps6
    go_wp2
    go_ret
    exact ⟨rfl, Below.refl _ _⟩
  by_cases hc' : 1048576 < (len1 : Int)
  · go_enter Try.func6, Try.ntmps6
    go_wp2
    go_ret
    exact ⟨rfl, Below.refl _ _⟩
  go_enter Try.func6, Try.ntmps6
  go_wp2_with fail
  refine (drawDPut w a len cap h).mono ?_
  rintro e w1 ⟨v1, xs, d, rfl, hx, R, B_0⟩
  obtain ⟨va, vc, rfl, _⟩ := row_slice R
  have hx1 : xs.length ≤ 1000 := by omega
  have hp : (putL xs d).length ≤ 1000 := by have := putL_len xs d; omega
  have R_1 := R.alloc (.cells #[.int .i64 d.k, .int .i64 d.t, .int .i64 d.s] 32)
  have B_1 := B_0.alloc B_0.size (.cells #[.int .i64 d.k, .int .i64 d.t, .int .i64 d.s] 32)
  have D_1 := Blk.new w1 #[.int .i64 d.k, .int .i64 d.t, .int .i64 d.s] 32
  clear R B_0
  go_wp2_with fail
  refine (drawDPut _ c len1 cap1 (h'.below B_1)).mono ?_
  rintro e w2 ⟨v2, zs, f, rfl, _, T2, hb2⟩
  obtain ⟨ta, tc, rfl, _⟩ := row_slice T2
  clear T2 h hm hl h' hm' hl'
  have R_2 := row_below R_1 hb2 (Nat.le_refl _)
  have D_2 := D_1.below hb2 D_1.lt
  have B_2 : Below w.heap.size w w2 := B_1.trans (hb2.mono B_1.size)
  clear hb2 R_1 D_1 B_1
  have R_3 := R_2.alloc (.cells #[.int .i64 f.k, .int .i64 f.t, .int .i64 f.s] 32)
  have D_3 := D_2.alloc (.cells #[.int .i64 f.k, .int .i64 f.t, .int .i64 f.s] 32)
  have B_3 := B_2.alloc B_2.size (.cells #[.int .i64 f.k, .int .i64 f.t, .int .i64 f.s] 32)
  have E_3 := Blk.new w2 #[.int .i64 f.k, .int .i64 f.t, .int .i64 f.s] 32
  clear R_2 D_2 B_2
  obtain ⟨q4, g4⟩ := D_3.rules
  have l4 := D_3.lt
  obtain ⟨q5, g5⟩ := E_3.rules
  have l5 := E_3.lt
  go_wp2_with fail
  refine (iPut_row d hx1 R_3).mono ?_
  rintro e w_6 ⟨u_6, rfl, N_6, hb_6⟩
  obtain ⟨a_6, c_6, rfl, _⟩ := row_slice N_6
  clear q4 g4 l4 q5 g5 l5
  have R_7 := row_below R_3 hb_6 (Nat.le_refl _)
  have D_7 := D_3.below hb_6 D_3.lt
  have E_7 := E_3.below hb_6 E_3.lt
  have B_7 : Below w.heap.size w w_6 := B_3.trans (hb_6.mono B_3.size)
  clear hb_6 R_3 D_3 E_3 B_3
  obtain ⟨q8, g8⟩ := D_7.rules
  have l8 := D_7.lt
  obtain ⟨q9, g9⟩ := E_7.rules
  have l9 := E_7.lt
  go_wp2_with fail
  refine (sPut_row d hx1 R_7).mono ?_
  rintro e w_10 ⟨u_10, rfl, N_10, hb_10⟩
  obtain ⟨a_10, c_10, rfl, _⟩ := row_slice N_10
  clear q8 g8 l8 q9 g9 l9
  have R_11 := row_below R_7 hb_10 (Nat.le_refl _)
  have X_11 := row_below N_6 hb_10 (Nat.le_refl _)
  have D_11 := D_7.below hb_10 D_7.lt
  have E_11 := E_7.below hb_10 E_7.lt
  have B_11 : Below w.heap.size w w_10 := B_7.trans (hb_10.mono B_7.size)
  clear hb_10 R_7 N_6 D_7 E_7 B_7
  obtain ⟨q12, g12⟩ := D_11.rules
  have l12 := D_11.lt
  obtain ⟨q13, g13⟩ := E_11.rules
  have l13 := E_11.lt
  go_wp2_with fail
  refine (li_row hp rfl X_11 N_10).mono ?_
  rintro e w_14 ⟨rfl, hb_14⟩
  clear q12 g12 l12 q13 g13 l13
  have R_15 := row_below R_11 hb_14 (Nat.le_refl _)
  have X_15 := row_below X_11 hb_14 (Nat.le_refl _)
  have W_15 := row_below N_10 hb_14 (Nat.le_refl _)
  have D_15 := D_11.below hb_14 D_11.lt
  have E_15 := E_11.below hb_14 E_11.lt
  have B_15 : Below w.heap.size w w_14 := B_11.trans (hb_14.mono B_11.size)
  clear hb_14 R_11 X_11 N_10 D_11 E_11 B_11
  by_cases hb : depsOk xs = true ∧ okD d = true
  · obtain ⟨hok, hd⟩ := hb
    have hne : (((putL xs d).length : Int) == 0) = false := by have := put_some hok hd; rw [beq_eq_false_iff_ne]; omega
    have hp2 : (putL (putL xs d) f).length ≤ 1000 := by have := putL_len (putL xs d) f; omega
    have hp3 : (putL xs f).length ≤ 1000 := by have := putL_len xs f; omega
    have ET : Hid (putL (putL xs d) d = putL xs d) := put_twice hok hd
    obtain ⟨q16, g16⟩ := D_15.rules
    have l16 := D_15.lt
    obtain ⟨q17, g17⟩ := E_15.rules
    have l17 := E_15.lt
    go_wp2_with fail
    refine (iPut_row f hp X_15).mono ?_
    rintro e w_18 ⟨u_18, rfl, N_18, hb_18⟩
    obtain ⟨a_18, c_18, rfl, _⟩ := row_slice N_18
    clear q16 g16 l16 q17 g17 l17
    have R_19 := row_below R_15 hb_18 (Nat.le_refl _)
    have X_19 := row_below X_15 hb_18 (Nat.le_refl _)
    have D_19 := D_15.below hb_18 D_15.lt
    have E_19 := E_15.below hb_18 E_15.lt
    have B_19 : Below w.heap.size w w_18 := B_15.trans (hb_18.mono B_15.size)
    clear hb_18 R_15 X_15 D_15 E_15 B_15
    have I := in2_of B_19 D_19 E_19
    have K1 : True := trivial
    go_wp2_with fail
    go_region_held3 (fun W => Below w.heap.size w W ∧ (w1.heap.size < W.heap.size ∧ W.cell? ⟨w1.heap.size, 0, none⟩ = some (.int .i64 d.k) ∧ W.cell? ⟨w1.heap.size, 1, none⟩ = some (.int .i64 d.t) ∧ W.cell? ⟨w1.heap.size, 2, none⟩ = some (.int .i64 d.s)) ∧ (w2.heap.size < W.heap.size ∧ W.cell? ⟨w2.heap.size, 0, none⟩ = some (.int .i64 f.k) ∧ W.cell? ⟨w2.heap.size, 1, none⟩ = some (.int .i64 f.t) ∧ W.cell? ⟨w2.heap.size, 2, none⟩ = some (.int .i64 f.s))) (first | exact In2.drew (by assumption) | exact In2.below (by assumption) (by assumption)) (first | (go_at_call 28; clear K1; refine (iPut_row f hx1 (row_below R_19 (Below.refl _ _).drew (Nat.le_refl _))).mono ?_; rintro e w7 ⟨u7, rfl, R7, h7⟩; obtain ⟨a7, c7, rfl, _⟩ := row_slice R7) | (go_at_call 28; refine (iPut_row d hp3 R7).mono ?_; rintro e w8 ⟨u8, rfl, R8, h8⟩; obtain ⟨a8, c8, rfl, _⟩ := row_slice R8))
    rename_i I8
    have hb8 : Below w_18.heap.size w_18 w8 := ((Below.refl _ _).drew.trans (h7.mono (Nat.le_refl _))).trans (h8.mono h7.size)
    clear I I8 R7 h7 h8
    have R_20 := row_below R_19 hb8 (Nat.le_refl _)
    have X_20 := row_below X_19 hb8 (Nat.le_refl _)
    have Y_20 := row_below N_18 hb8 (Nat.le_refl _)
    have D_20 := D_19.below hb8 D_19.lt
    have E_20 := E_19.below hb8 E_19.lt
    have B_20 : Below w.heap.size w w8 := B_19.trans (hb8.mono B_19.size)
    clear hb8 R_19 X_19 N_18 D_19 E_19 B_19
    obtain ⟨q21, g21⟩ := D_20.rules
    have l21 := D_20.lt
    obtain ⟨q22, g22⟩ := E_20.rules
    have l22 := E_20.lt
    go_wp2_with fail
    refine (iPut_row d hp X_20).mono ?_
    rintro e w_23 ⟨u_23, rfl, N_23, hb_23⟩
    obtain ⟨a_23, c_23, rfl, _⟩ := row_slice N_23
    clear q21 g21 l21 q22 g22 l22
    have R_24 := row_below R_20 hb_23 (Nat.le_refl _)
    have X_24 := row_below X_20 hb_23 (Nat.le_refl _)
    have Y_24 := row_below Y_20 hb_23 (Nat.le_refl _)
    have Z_24 := row_below R8 hb_23 (Nat.le_refl _)
    have D_24 := D_20.below hb_23 D_20.lt
    have E_24 := E_20.below hb_23 E_20.lt
    have B_24 : Below w.heap.size w w_23 := B_20.trans (hb_23.mono B_20.size)
    clear hb_23 R_20 X_20 Y_20 R8 D_20 E_20 B_20
    obtain ⟨q25, g25⟩ := D_24.rules
    have l25 := D_24.lt
    obtain ⟨q26, g26⟩ := E_24.rules
    have l26 := E_24.lt
    go_wp2_with fail
    refine (li_row hp ET.out N_23 X_24).mono ?_
    rintro e w_27 ⟨rfl, hb_27⟩
    clear q25 g25 l25 q26 g26 l26
    have R_28 := row_below R_24 hb_27 (Nat.le_refl _)
    have X_28 := row_below X_24 hb_27 (Nat.le_refl _)
    have Y_28 := row_below Y_24 hb_27 (Nat.le_refl _)
    have Z_28 := row_below Z_24 hb_27 (Nat.le_refl _)
    have P_28 := row_below N_23 hb_27 (Nat.le_refl _)
    have D_28 := D_24.below hb_27 D_24.lt
    have E_28 := E_24.below hb_27 E_24.lt
    have B_28 : Below w.heap.size w w_27 := B_24.trans (hb_27.mono B_24.size)
    clear hb_27 R_24 X_24 Y_24 Z_24 N_23 D_24 E_24 B_24
    rcases hf : okD f with _ | _
    · have hy : (((putL (putL xs d) f).length : Int) == 0) = true := by rw [putL_no (.inr hf)]; rfl
      clear R_28 X_28 Y_28 Z_28 P_28 D_28 E_28
      go_wp2
      go_ret
      exact ⟨rfl, B_28⟩
    · have hy : (((putL (putL xs d) f).length : Int) == 0) = false := by have := put_some (putL_ok xs d) hf; rw [beq_eq_false_iff_ne]; omega
      have EC : Hid (putL (putL xs d) f = putL (putL xs f) d) := put_comm hok hd hf
      have hp4 : (putL (putL xs f) d).length ≤ 1000 := by have := putL_len (putL xs f) d; omega
      obtain ⟨q29, g29⟩ := D_28.rules
      have l29 := D_28.lt
      obtain ⟨q30, g30⟩ := E_28.rules
      have l30 := E_28.lt
      go_wp2_with fail
      refine (li_row hp4 EC.out Y_28 Z_28).mono ?_
      rintro e w_31 ⟨rfl, hb_31⟩
      clear q29 g29 l29 q30 g30 l30
      have R_32 := row_below R_28 hb_31 (Nat.le_refl _)
      have X_32 := row_below X_28 hb_31 (Nat.le_refl _)
      have Y_32 := row_below Y_28 hb_31 (Nat.le_refl _)
      have Z_32 := row_below Z_28 hb_31 (Nat.le_refl _)
      have P_32 := row_below P_28 hb_31 (Nat.le_refl _)
      have D_32 := D_28.below hb_31 D_28.lt
      have E_32 := E_28.below hb_31 E_28.lt
      have B_32 : Below w.heap.size w w_31 := B_28.trans (hb_31.mono B_28.size)
      clear hb_31 R_28 X_28 Y_28 Z_28 P_28 D_28 E_28 B_28
      clear R_32 X_32 Y_32 Z_32 P_32 D_32 E_32
      go_wp2
      go_ret
      exact ⟨rfl, B_32⟩
  · have E0 : putL xs d = [] := if_neg hb
    have hne : (((putL xs d).length : Int) == 0) = true := by rw [E0]; rfl
    clear E0
    obtain ⟨q16, g16⟩ := D_15.rules
    have l16 := D_15.lt
    obtain ⟨q17, g17⟩ := E_15.rules
    have l17 := E_15.lt
    go_wp2_with fail
    refine (sPut_row d hx1 R_15).mono ?_
    rintro e w_18 ⟨u_18, rfl, N_18, hb_18⟩
    obtain ⟨a_18, c_18, rfl, _⟩ := row_slice N_18
    clear q16 g16 l16 q17 g17 l17
    have R_19 := row_below R_15 hb_18 (Nat.le_refl _)
    have X_19 := row_below X_15 hb_18 (Nat.le_refl _)
    have D_19 := D_15.below hb_18 D_15.lt
    have E_19 := E_15.below hb_18 E_15.lt
    have B_19 : Below w.heap.size w w_18 := B_15.trans (hb_18.mono B_15.size)
    clear hb_18 R_15 X_15 D_15 E_15 B_15
    obtain ⟨q20, g20⟩ := D_19.rules
    have l20 := D_19.lt
    obtain ⟨q21, g21⟩ := E_19.rules
    have l21 := E_19.lt
    go_wp2_with fail
    refine (li_row hp rfl X_19 N_18).mono ?_
    rintro e w_22 ⟨rfl, hb_22⟩
    clear q20 g20 l20 q21 g21 l21
    have R_23 := row_below R_19 hb_22 (Nat.le_refl _)
    have X_23 := row_below X_19 hb_22 (Nat.le_refl _)
    have W_23 := row_below N_18 hb_22 (Nat.le_refl _)
    have D_23 := D_19.below hb_22 D_19.lt
    have E_23 := E_19.below hb_22 E_19.lt
    have B_23 : Below w.heap.size w w_22 := B_19.trans (hb_22.mono B_19.size)
    clear hb_22 R_19 X_19 N_18 D_19 E_19 B_19
    clear R_23 X_23 W_23 D_23 E_23
    go_wp2
    go_ret
    exact ⟨rfl, B_23⟩
end Go.Proofs.Ytmbjfgebcpjigaa
