/- The exact law of ChainTop. -/
import Derived.Test.YtgdkoangpinieaaXMarkV
import Derived.Test.YtgdkoangpinieaaGAQ
import Derived.Test.YtgdkoangpinieaaSTopV
import Derived.Test.YtgdkoangpinieaaITopV
namespace Go.Proofs.Ytgdkoangpinieaa
open Go.ChangeShapes Go.WideShapes Go.ChangeAt Go.RowKit

theorem OwnV.asV {w : World} {base : Nat} {u : Value} {ys : List XV} {vs : List V} (h : OwnV w base u ys) (hy : ys.map XV.v = vs) : ∃ a cap, u = .slice a vs.length cap ∧ Vers w a vs ∧ (∀ x, a = some x → base ≤ x.block) := by
  obtain ⟨a, cap, h1, h2, h3⟩ := h.vers
  subst hy
  exact ⟨a, cap, by rw [h1, List.length_map], h2, h3⟩
theorem topA_len {vs : List V} {k : Int} (h : ∀ v ∈ vs, v.ds.length ≤ 1048576) : ((topA vs k).getD zeroV).ds.length ≤ 1048576 := by
  unfold topA
  split
  · cases hc : cTop vs k with
    | none => simp [zeroV]
    | some v => exact h v (by have := List.mem_of_find?_eq_some hc; simpa using this)
  · simp [zeroV]
/-- A block stands as it stood behind a turn of others. -/
theorem Blk.only {w w' : World} {S : Nat → Prop} {B : Nat} {vs : Array Value} {T : TypeId} (h : Blk w B vs T) (o : Only w w' S) (hB : ¬ S B) : Blk w' B vs T := (o.block B h.lt hB).trans h

set_option maxHeartbeats 8000000 in
theorem lawXChainTop (a : Option Addr) (cap : Nat) (vs : List V) (key : Int) (w : World) (hn : vs.length ≤ maxLen) (h : VersI w a vs) (hwf : (Lit.int .i64 key).wf = true) :
    Calls Try.prog 24 #[.slice a vs.length cap, .int .i64 key] w fun e w' => e = .returned (.bool true) ∧ Below w.heap.size w w' := by
  have hz := szVers_any a cap vs w hn h
  by_cases hbig : (1048576 : Int) < (vs.length : Int) + tot vs
  · rw [if_pos hbig] at hz
    go_enter Try.func24, Try.ntmps24
    go_wp2_with fail
    refine hz.mono ?_
    rintro e w1 ⟨rfl, hb1⟩
    clear hz
    go_wp2
    go_ret
    exact ⟨rfl, hb1⟩
  rw [if_neg hbig] at hz
  have hx : vs.length ≤ 1048576 := by omega
  have hl : ∀ v ∈ vs, v.ds.length ≤ 1048576 := fun v hv => by have := tot_mem hv; omega
  have hend : endV 1 vs ≤ 10000000 := by unfold endV; omega
  have hend0 : 0 ≤ endV 1 vs := by unfold endV; omega
  have hV := h.vers (fun v hv => by have := hl v hv; omega)
  have hpos : (0 : Int) ≤ 1048576 - vs.length - (tot vs : Int) := by omega
  have hul := topA_len (k := key) hl
  have hS := fun b c W h => sTopV_any b c vs key W (by omega) h
  have hI := fun b c W h => iTopV_any b c vs key W (by omega) h hwf
  generalize (topA vs key).isSome = r at *
  generalize (topA vs key).getD zeroV = u at *
  clear hbig h hn
  go_enter Try.func24, Try.ntmps24
  go_wp2_with fail
  refine hz.mono ?_
  rintro e w1 ⟨rfl, hb1⟩
  clear hz
  go_wp2_with fail
  refine (toVers_any a cap vs _ hx hl (hV.below hb1)).mono ?_
  rintro e w2 ⟨u2, ys2, rfl, O2, hy2, hb2⟩
  obtain ⟨a2, c2, rfl, V2, _⟩ := O2.asV hy2
  have B2 : Below w.heap.size w w2 := hb1.trans (hb2.mono hb1.size)
  clear hb1 hb2 O2
  go_wp2_with fail
  refine (hS a2 c2 _ V2).mono ?_
  rintro e w3 ⟨u3, pa3, pc3, hu3, rfl, R3, hb3⟩
  have e3 : u3 = u := hu3.out
  subst u3
  have B3 : Below w.heap.size w w3 := B2.trans (hb3.mono B2.size)
  have hR : ∀ j, (Value.slice pa3 u.ds.length pc3).ownBlock = some j → j < w3.heap.size := fun j hj => (R3.lt j hj).2
  clear B2 hb3 V2 hS hy2
  go_wp2_with fail
  have D3 := Blk.new w3 #[.int .i64 u.k, .int .i64 u.t, .int .i64 u.s, .int .i64 u.val, .int .i64 u.cl, .int .i64 u.ca, .slice pa3 u.ds.length pc3] 28
  have R3' := R3.alloc (.cells #[.int .i64 u.k, .int .i64 u.t, .int .i64 u.s, .int .i64 u.val, .int .i64 u.cl, .int .i64 u.ca, .slice pa3 u.ds.length pc3] 28)
  have B3' := B3.alloc B3.size (.cells #[.int .i64 u.k, .int .i64 u.t, .int .i64 u.s, .int .i64 u.val, .int .i64 u.cl, .int .i64 u.ca, .slice pa3 u.ds.length pc3] 28)
  have z3 : (w3.alloc (.cells #[.int .i64 u.k, .int .i64 u.t, .int .i64 u.s, .int .i64 u.val, .int .i64 u.cl, .int .i64 u.ca, .slice pa3 u.ds.length pc3] 28)).heap.size = w3.heap.size + 1 := by simp
  clear R3
  generalize w3.alloc (.cells #[.int .i64 u.k, .int .i64 u.t, .int .i64 u.s, .int .i64 u.val, .int .i64 u.cl, .int .i64 u.ca, .slice pa3 u.ds.length pc3] 28) = w3' at *
  refine (toVers_any a cap vs _ hx hl (hV.below B3')).mono ?_
  rintro e w4 ⟨u4, ys4, rfl, O4, hy4, hb4⟩
  obtain ⟨a4, c4, rfl, V4, _⟩ := O4.asV hy4
  have hX : ∀ j, inV (Value.slice a4 vs.length c4) ys4 j → w3.heap.size + 1 ≤ j ∧ j < w4.heap.size := fun j hj => by have := O4.lt hj; omega
  have D4 := D3.below hb4 D3.lt
  have R4 := row_below R3' hb4 (Nat.le_refl _)
  have B4 : Below w.heap.size w w4 := B3'.trans (hb4.mono B3'.size)
  have s4 := hb4.size
  clear B3' hb4 D3 R3'
  go_wp2_with fail
  refine (hI a4 c4 _ V4).mono ?_
  rintro e w5 ⟨u5, pa5, pc5, hu5, rfl, G5, hb5⟩
  have e5 : u5 = u := hu5.out
  subst u5
  have hG : ∀ j, (Value.slice pa5 u.ds.length pc5).ownBlock = some j → w4.heap.size ≤ j ∧ j < w5.heap.size := fun j hj => G5.lt j hj
  have D5 := (D4.below hb5 D4.lt).alloc (.cells #[.int .i64 u.k, .int .i64 u.t, .int .i64 u.s, .int .i64 u.val, .int .i64 u.cl, .int .i64 u.ca, .slice pa5 u.ds.length pc5] 28)
  have R5 := (row_below R4 hb5 (Nat.le_refl _)).alloc (.cells #[.int .i64 u.k, .int .i64 u.t, .int .i64 u.s, .int .i64 u.val, .int .i64 u.cl, .int .i64 u.ca, .slice pa5 u.ds.length pc5] 28)
  have O5 := (O4.below hb5 (Nat.le_refl _)).alloc (.cells #[.int .i64 u.k, .int .i64 u.t, .int .i64 u.s, .int .i64 u.val, .int .i64 u.cl, .int .i64 u.ca, .slice pa5 u.ds.length pc5] 28)
  have G5' := G5.alloc (.cells #[.int .i64 u.k, .int .i64 u.t, .int .i64 u.s, .int .i64 u.val, .int .i64 u.cl, .int .i64 u.ca, .slice pa5 u.ds.length pc5] 28)
  have E5 := Blk.new w5 #[.int .i64 u.k, .int .i64 u.t, .int .i64 u.s, .int .i64 u.val, .int .i64 u.cl, .int .i64 u.ca, .slice pa5 u.ds.length pc5] 28
  have B5 : Below w.heap.size w w5 := B4.trans (hb5.mono B4.size)
  have B5' := B5.alloc B5.size (.cells #[.int .i64 u.k, .int .i64 u.t, .int .i64 u.s, .int .i64 u.val, .int .i64 u.cl, .int .i64 u.ca, .slice pa5 u.ds.length pc5] 28)
  have s5 := hb5.size
  clear V4 B4 hb5 D4 R4 O4 G5 B5
  obtain ⟨q1, g1⟩ := D5.rules
  obtain ⟨q2, g2⟩ := E5.rules
  go_wp2_with fail
  clear q1 g1 q2 g2
  generalize w5.alloc (.cells #[.int .i64 u.k, .int .i64 u.t, .int .i64 u.s, .int .i64 u.val, .int .i64 u.cl, .int .i64 u.ca, .slice pa5 u.ds.length pc5] 28) = w5' at *
  refine (eqVer_any u.k u.t u.s u.val u.cl u.ca pa5 pa3 pc5 pc3 u.ds _ hul (row_deps' G5') (row_deps' R5)).mono ?_
  rintro e w6 ⟨rfl, hb6⟩
  have D6 := D5.below hb6 D5.lt
  have E6 := E5.below hb6 E5.lt
  have R6 := row_below R5 hb6 (Nat.le_refl _)
  have G6 := row_below G5' hb6 (Nat.le_refl _)
  have O6 := O5.below hb6 (Nat.le_refl _)
  have B6 : Below w.heap.size w w6 := B5'.trans (hb6.mono B5'.size)
  clear D5 E5 R5 G5' O5 B5' hb6
  go_wp2_with fail
  refine (toVers_any a cap vs _ hx hl (hV.below B6)).mono ?_
  rintro e w7 ⟨u7, ys7, rfl, O7, hy7, hb7⟩
  obtain ⟨a7, c7, rfl, V7, _⟩ := O7.asV hy7
  have D7 := D6.below hb7 D6.lt
  have E7 := E6.below hb7 E6.lt
  have R7 := row_below R6 hb7 (Nat.le_refl _)
  have G7 := row_below G6 hb7 (Nat.le_refl _)
  have X7 := O6.below hb7 (Nat.le_refl _)
  have B7 : Below w.heap.size w w7 := B6.trans (hb7.mono B6.size)
  clear D6 E6 R6 G6 O6 B6 hb7 O7
  have VX : Vers w7 a4 vs := by
    obtain ⟨a', c', e', V', _⟩ := X7.asV hy4
    cases e'; exact V'
  go_wp2_with fail
  refine (eqVers_any a4 a7 vs c4 c7 _ hx hl VX V7).mono ?_
  rintro e w8 ⟨rfl, hb8⟩
  have D8 := D7.below hb8 D7.lt
  have E8 := E7.below hb8 E7.lt
  have R8 := row_below R7 hb8 (Nat.le_refl _)
  have G8 := row_below G7 hb8 (Nat.le_refl _)
  have X8 := X7.below hb8 (Nat.le_refl _)
  have B8 : Below w.heap.size w w8 := B7.trans (hb8.mono B7.size)
  clear D7 E7 R7 G7 X7 B7 hb8 VX V7
  go_wp2_with fail
  refine (markVers_as _ _ ys4 vs 1 _ hy4 (by omega) hl (by omega) hend X8).mono ?_
  rintro e w9 ⟨rfl, _, on9⟩
  have sw : w.heap.size ≤ w3.heap.size := B3.size
  have D9 := D8.only on9 (fun hj => by have := hX _ hj; omega)
  have E9 := E8.only on9 (fun hj => by have := hX _ hj; omega)
  have R9 := on9.row R8 (fun j hj hj' => by have := hX _ hj'; have := hR j hj; omega)
  have G9 := on9.row G8 (fun j hj hj' => by have := hX _ hj'; have := hG j hj; omega)
  have B9 : Below w.heap.size w w9 := B8.trans (on9.below B8.size (fun j hj => by have := hX _ hj; omega))
  clear D8 E8 R8 G8 X8 B8 on9
  obtain ⟨q1, g1⟩ := D9.rules
  obtain ⟨q2, g2⟩ := E9.rules
  generalize endV 1 vs = k9 at *
  go_wp2_with fail
  clear q1 g1 q2 g2
  refine (eqVer_any u.k u.t u.s u.val u.cl u.ca pa5 pa3 pc5 pc3 u.ds _ hul (row_deps' G9) (row_deps' R9)).mono ?_
  rintro e w10 ⟨rfl, hb10⟩
  have D10 := D9.below hb10 D9.lt
  have E10 := E9.below hb10 E9.lt
  have R10 := row_below R9 hb10 (Nat.le_refl _)
  have G10 := row_below G9 hb10 (Nat.le_refl _)
  have B10 : Below w.heap.size w w10 := B9.trans (hb10.mono B9.size)
  have s10 : w5.heap.size < w10.heap.size := E10.lt
  clear D9 E9 R9 G9 B9 hb10
  obtain ⟨q2, g2⟩ := E10.rules
  go_wp2_with fail
  clear q2 g2
  refine (markVer_any u pa5 pc5 _ 1 _ hul (by omega) (by omega) G10).mono ?_
  rintro e w11 ⟨rfl, G11, on11⟩
  have D11 := D10.only on11 (fun hj => by rcases hj with hj | hj; · have := D10.lt; omega
                                          · have := hG _ hj; omega)
  have E11 := E10.only on11 (fun hj => by rcases hj with hj | hj; · have := E10.lt; omega
                                          · have := hG _ hj; omega)
  have R11 := on11.row R10 (fun j hj hj' => by have := hR j hj; rcases hj' with hj' | hj'; · omega
                                               · have := hG _ hj'; omega)
  have B11 : Below w.heap.size w w11 := B10.trans (on11.below B10.size (fun j hj => by rcases hj with hj | hj; · have := B10.size; omega
                                                                                       · have := hG _ hj; omega))
  have H11 : Deps w11 pa5 (markL 1 u.ds.length) := row_deps' (n := u.ds.length) (cap := pc5) (base := w4.heap.size) G11
  clear D10 E10 R10 G10 B10 on11
  obtain ⟨q2, g2⟩ := E11.rules
  go_wp2_with fail
  clear q2 g2
  refine (heldVer_any u pa5 pc5 1 _ hul (by omega) (by omega) H11).mono ?_
  rintro e w12 ⟨rfl, hb12⟩
  have D12 := D11.below hb12 D11.lt
  have E12 := E11.below hb12 E11.lt
  have R12 := row_below R11 hb12 (Nat.le_refl _)
  have H12 := H11.below hb12
  have B12 : Below w.heap.size w w12 := B11.trans (hb12.mono B11.size)
  have hm0 : 0 ≤ 1 + 3 * (u.ds.length : Int) := by omega
  clear D11 E11 R11 G11 H11 B11 hb12
  go_wp2_with fail
  refine (toVers_any a cap vs _ hx hl (hV.below B12)).mono ?_
  rintro e w13 ⟨u13, ys13, rfl, O13, hy13, hb13⟩
  obtain ⟨a13, c13, rfl, V13, _⟩ := O13.asV hy13
  have D13 := D12.below hb13 D12.lt
  have E13 := E12.below hb13 E12.lt
  have R13 := row_below R12 hb13 (Nat.le_refl _)
  have H13 := H12.below hb13
  have B13 : Below w.heap.size w w13 := B12.trans (hb13.mono B12.size)
  clear D12 E12 R12 H12 B12 hb13 O13
  go_wp2_with fail
  refine (hI a13 c13 _ V13).mono ?_
  rintro e w14 ⟨u14, pa14, pc14, hu14, rfl, F14, hb14⟩
  have e14 : u14 = u := hu14.out
  subst u14
  have D14 := (D13.below hb14 D13.lt).alloc (.cells #[.int .i64 u.k, .int .i64 u.t, .int .i64 u.s, .int .i64 u.val, .int .i64 u.cl, .int .i64 u.ca, .slice pa14 u.ds.length pc14] 28)
  have E14 := (E13.below hb14 E13.lt).alloc (.cells #[.int .i64 u.k, .int .i64 u.t, .int .i64 u.s, .int .i64 u.val, .int .i64 u.cl, .int .i64 u.ca, .slice pa14 u.ds.length pc14] 28)
  have R14 := (row_below R13 hb14 (Nat.le_refl _)).alloc (.cells #[.int .i64 u.k, .int .i64 u.t, .int .i64 u.s, .int .i64 u.val, .int .i64 u.cl, .int .i64 u.ca, .slice pa14 u.ds.length pc14] 28)
  have F14' := F14.alloc (.cells #[.int .i64 u.k, .int .i64 u.t, .int .i64 u.s, .int .i64 u.val, .int .i64 u.cl, .int .i64 u.ca, .slice pa14 u.ds.length pc14] 28)
  have K14 := Blk.new w14 #[.int .i64 u.k, .int .i64 u.t, .int .i64 u.s, .int .i64 u.val, .int .i64 u.cl, .int .i64 u.ca, .slice pa14 u.ds.length pc14] 28
  have B14 : Below w.heap.size w w14 := B13.trans (hb14.mono B13.size)
  have B14' := B14.alloc B14.size (.cells #[.int .i64 u.k, .int .i64 u.t, .int .i64 u.s, .int .i64 u.val, .int .i64 u.cl, .int .i64 u.ca, .slice pa14 u.ds.length pc14] 28)
  have H14 := (H13.below hb14).below ((Below.refl _ _).alloc (Nat.le_refl _) (.cells #[.int .i64 u.k, .int .i64 u.t, .int .i64 u.s, .int .i64 u.val, .int .i64 u.cl, .int .i64 u.ca, .slice pa14 u.ds.length pc14] 28))
  clear D13 E13 R13 H13 B13 hb14 V13 F14 B14 hI
  obtain ⟨q1, g1⟩ := D14.rules
  obtain ⟨q2, g2⟩ := K14.rules
  go_wp2_with fail
  clear q1 g1 q2 g2
  generalize w14.alloc (.cells #[.int .i64 u.k, .int .i64 u.t, .int .i64 u.s, .int .i64 u.val, .int .i64 u.cl, .int .i64 u.ca, .slice pa14 u.ds.length pc14] 28) = w14' at *
  refine (eqVer_any u.k u.t u.s u.val u.cl u.ca pa14 pa3 pc14 pc3 u.ds _ hul (row_deps' F14') (row_deps' R14)).mono ?_
  rintro e w15 ⟨rfl, hb15⟩
  have E15 := E14.below hb15 E14.lt
  have H15 := H14.below hb15
  have B15 : Below w.heap.size w w15 := B14'.trans (hb15.mono B14'.size)
  clear D14 E14 R14 H14 B14' K14 F14' hb15
  obtain ⟨q2, g2⟩ := E15.rules
  go_wp2_with fail
  clear q2 g2
  refine (heldVer_any u pa5 pc5 1 _ hul (by omega) (by omega) H15).mono ?_
  rintro e w16 ⟨rfl, hb16⟩
  have B16 : Below w.heap.size w w16 := B15.trans (hb16.mono B15.size)
  clear E15 H15 B15 hb16
  go_wp2_with fail
  go_ret
  exact ⟨rfl, B16⟩
end Go.Proofs.Ytgdkoangpinieaa
