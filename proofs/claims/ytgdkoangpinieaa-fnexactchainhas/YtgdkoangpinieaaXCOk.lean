/- The exact laws of ChainOk and ChainHas. -/
import Derived.Test.YtgdkoangpinieaaGAQ
import Derived.Test.YtgdkoangpinieaaIHasC
namespace Go.Proofs.Ytgdkoangpinieaa
open Go.ChangeShapes Go.WideShapes Go.ChangeAt Go.RowKit

theorem OwnV.as {w : World} {base : Nat} {u : Value} {ys : List XV} {vs : List V} (h : OwnV w base u ys) (hy : ys.map XV.v = vs) : ∃ a cap, u = .slice a vs.length cap ∧ Vers w a vs ∧ (∀ x, a = some x → base ≤ x.block) := by
  obtain ⟨a, cap, h1, h2, h3⟩ := h.vers
  subst hy
  exact ⟨a, cap, by rw [h1, List.length_map], h2, h3⟩

set_option maxHeartbeats 4000000 in
theorem lawXChainOk (a : Option Addr) (cap : Nat) (vs : List V) (w : World) (hn : vs.length ≤ maxLen) (h : VersI w a vs) :
    Calls Try.prog 22 #[.slice a vs.length cap] w fun e w' => e = .returned (.bool true) ∧ Below w.heap.size w w' := by
  have hz := szVers_any a cap vs w hn h
  by_cases hbig : (1048576 : Int) < (vs.length : Int) + tot vs
  · rw [if_pos hbig] at hz
    go_enter Try.func22, Try.ntmps22
    go_wp2_with fail
    refine hz.mono ?_
    rintro e w1 ⟨rfl, hb1⟩
    clear hz
    go_wp2
    go_ret
    exact ⟨rfl, hb1⟩
  rw [if_neg hbig] at hz
  have hx : vs.length ≤ 1048576 := by omega
  have hl : ∀ v ∈ vs, v.ds.length ≤ 1048576 := fun v hv => by have := tot_mem hv; omega
  have hV := h.vers (fun v hv => by have := hl v hv; omega)
  have hpos : (0 : Int) ≤ 1048576 - vs.length - (tot vs : Int) := by omega
  have hS := fun b c W h => sChainOk_any b c vs W (by omega) h
  have hI := fun b c W h => iChainOk_any b c vs W (by omega) h
  generalize chainB vs = r at *
  clear hbig h hn
  go_enter Try.func22, Try.ntmps22
  go_wp2_with fail
  refine hz.mono ?_
  rintro e w1 ⟨rfl, hb1⟩
  clear hz
  go_wp2_with fail
  refine (toVers_any a cap vs _ hx hl (hV.below hb1)).mono ?_
  rintro e w2 ⟨u2, ys2, rfl, O2, hy2, hb2⟩
  obtain ⟨a2, c2, rfl, V2, _⟩ := O2.as hy2
  have B2 : Below w.heap.size w w2 := hb1.trans (hb2.mono hb1.size)
  clear hb1 hb2
  go_wp2_with fail
  refine (hS a2 c2 _ V2).mono ?_
  rintro e w3 ⟨rfl, hb3⟩
  have B3 : Below w.heap.size w w3 := B2.trans (hb3.mono B2.size)
  clear B2 hb3 V2 O2 hS
  go_wp2_with fail
  refine (toVers_any a cap vs _ hx hl (hV.below B3)).mono ?_
  rintro e w4 ⟨u4, ys4, rfl, O4, hy4, hb4⟩
  obtain ⟨a4, c4, rfl, V4, _⟩ := O4.as hy4
  have B4 : Below w.heap.size w w4 := B3.trans (hb4.mono B3.size)
  clear B3 hb4
  go_wp2_with fail
  refine (hI a4 c4 _ V4).mono ?_
  rintro e w5 ⟨rfl, hb5⟩
  have B5 : Below w.heap.size w w5 := B4.trans (hb5.mono B4.size)
  have V5 := V4.below hb5
  clear B4 hb5 V4 O4 hI
  go_wp2_with fail
  refine (toVers_any a cap vs _ hx hl (hV.below B5)).mono ?_
  rintro e w6 ⟨u6, ys6, rfl, O6, hy6, hb6⟩
  obtain ⟨a6, c6, rfl, V6, _⟩ := O6.as hy6
  have B6 : Below w.heap.size w w6 := B5.trans (hb6.mono B5.size)
  have V56 := V5.below hb6
  clear B5 hb6 V5
  go_wp2_with fail
  refine (eqVers_any a4 a6 vs c4 c6 _ hx hl V56 V6).mono ?_
  rintro e w7 ⟨rfl, hb7⟩
  go_wp2_with fail
  go_ret
  exact ⟨rfl, B6.trans (hb7.mono B6.size)⟩

set_option maxHeartbeats 4000000 in
theorem lawXChainHas (a : Option Addr) (cap : Nat) (vs : List V) (c : Option Addr) (cc : Nat) (ds : List D) (w : World) (hn : vs.length ≤ maxLen) (h : VersI w a vs) (hm : ds.length ≤ maxLen) (hd : Deps w c ds) :
    Calls Try.prog 26 #[.slice a vs.length cap, .slice c ds.length cc] w fun e w' => e = .returned (.bool true) ∧ Below w.heap.size w w' := by
  have hz := szVers_any a cap vs w hn h
  by_cases hbig : (1048576 : Int) < (vs.length : Int) + tot vs
  · rw [if_pos hbig] at hz
    go_enter Try.func26, Try.ntmps26
    go_wp2_with fail
    refine hz.mono ?_
    rintro e w1 ⟨rfl, hb1⟩
    clear hz
    go_wp2
    go_ret
    exact ⟨rfl, hb1⟩
  rw [if_neg hbig] at hz
  have hx : vs.length ≤ 1048576 := by omega
  have hl : ∀ v ∈ vs, v.ds.length ≤ 1048576 := fun v hv => by have := tot_mem hv; omega
  have hV := h.vers (fun v hv => by have := hl v hv; omega)
  have hpos : (0 : Int) ≤ 1048576 - vs.length - (tot vs : Int) := by omega
  have hz2 := fun w => szDeps_any c ds.length cc (1048576 - vs.length - (tot vs : Int)) w hm hpos (by omega)
  by_cases hbig2 : (1048576 - vs.length - (tot vs : Int)) < (ds.length : Int)
  · rw [if_pos hbig2] at hz2
    go_enter Try.func26, Try.ntmps26
    go_wp2_with fail
    refine hz.mono ?_
    rintro e w1 ⟨rfl, hb1⟩
    clear hz
    go_wp2_with fail
    refine (hz2 _).mono ?_
    rintro e w2 ⟨rfl, rfl⟩
    clear hz2
    go_wp2
    go_ret
    exact ⟨rfl, hb1⟩
  rw [if_neg hbig2] at hz2
  have hx2 : ds.length ≤ 1048576 := by omega
  have hpos2 : (0 : Int) ≤ 1048576 - vs.length - (tot vs : Int) - (ds.length : Int) := by omega
  have hS := fun b c W c' cc' h h' => sHasC_any b c vs c' cc' ds W (by omega) h (by omega) h'
  have hI := fun b c W c' cc' h h' => iHasC_any b c vs c' cc' ds W (by omega) h (by omega) h'
  generalize cHas vs ds = r at *
  clear hbig h hn hbig2 hm
  go_enter Try.func26, Try.ntmps26
  go_wp2_with fail
  refine hz.mono ?_
  rintro e w0 ⟨rfl, hb0⟩
  clear hz
  go_wp2_with fail
  refine (hz2 _).mono ?_
  rintro e w1 ⟨rfl, rfl⟩
  clear hz2
  go_wp2_with fail
  refine (toVers_any a cap vs _ hx hl (hV.below hb0)).mono ?_
  rintro e w2 ⟨u2, ys2, rfl, O2, hy2, hb2⟩
  obtain ⟨a2, c2, rfl, V2, _⟩ := O2.as hy2
  have B2 : Below w.heap.size w w2 := hb0.trans (hb2.mono hb0.size)
  clear hb0 hb2 O2
  go_wp2_with fail
  refine (toDeps_any c cc ds _ hx2 (hd.below B2)).mono ?_
  rintro e w3 ⟨b3, rfl, _, R3, hb3⟩
  have B3 : Below w.heap.size w w3 := B2.trans (hb3.mono B2.size)
  have V3 := V2.below hb3
  clear B2 hb3 V2
  go_wp2_with fail
  refine (hS a2 c2 _ _ _ V3 (row_deps R3)).mono ?_
  rintro e w4 ⟨rfl, hb4⟩
  have B4 : Below w.heap.size w w4 := B3.trans (hb4.mono B3.size)
  clear B3 hb4 V3 R3 hS
  go_wp2_with fail
  refine (toVers_any a cap vs _ hx hl (hV.below B4)).mono ?_
  rintro e w5 ⟨u5, ys5, rfl, O5, hy5, hb5⟩
  obtain ⟨a5, c5, rfl, V5, _⟩ := O5.as hy5
  have B5 : Below w.heap.size w w5 := B4.trans (hb5.mono B4.size)
  clear B4 hb5 O5
  go_wp2_with fail
  refine (toDeps_any c cc ds _ hx2 (hd.below B5)).mono ?_
  rintro e w6 ⟨b6, rfl, _, R6, hb6⟩
  have B6 : Below w.heap.size w w6 := B5.trans (hb6.mono B5.size)
  have V6 := V5.below hb6
  clear B5 hb6 V5
  go_wp2_with fail
  refine (hI a5 c5 _ _ _ V6 (row_deps R6)).mono ?_
  rintro e w7 ⟨rfl, hb7⟩
  have B7 : Below w.heap.size w w7 := B6.trans (hb7.mono B6.size)
  have V7 := V6.below hb7
  have R7 := row_below R6 hb7 (Nat.le_refl _)
  clear B6 hb7 V6 R6 hI
  go_wp2_with fail
  refine (toVers_any a cap vs _ hx hl (hV.below B7)).mono ?_
  rintro e w8 ⟨u8, ys8, rfl, O8, hy8, hb8⟩
  obtain ⟨a8, c8, rfl, V8, _⟩ := O8.as hy8
  have B8 : Below w.heap.size w w8 := B7.trans (hb8.mono B7.size)
  have V78 := V7.below hb8
  have R8 := row_below R7 hb8 (Nat.le_refl _)
  clear B7 hb8 V7 R7 O8
  go_wp2_with fail
  refine (eqVers_any a5 a8 vs c5 c8 _ hx hl V78 V8).mono ?_
  rintro e w9 ⟨rfl, hb9⟩
  have B9 : Below w.heap.size w w9 := B8.trans (hb9.mono B8.size)
  have R9 := row_below R8 hb9 (Nat.le_refl _)
  clear B8 hb9 V78 V8 R8
  go_wp2_with fail
  refine (toDeps_any c cc ds _ hx2 (hd.below B9)).mono ?_
  rintro e w10 ⟨b10, rfl, _, R10, hb10⟩
  have B10 : Below w.heap.size w w10 := B9.trans (hb10.mono B9.size)
  have R910 := row_below R9 hb10 (Nat.le_refl _)
  clear B9 hb10 R9
  go_wp2_with fail
  refine (eqDeps_any _ _ ds _ _ _ hx2 (row_deps R910) (row_deps R10)).mono ?_
  rintro e w11 ⟨rfl, hb11⟩
  go_wp2_with fail
  go_ret
  exact ⟨rfl, B10.trans (hb11.mono B10.size)⟩
end Go.Proofs.Ytgdkoangpinieaa
