/- The exact law of DepsJoin. -/
import Derived.Test.YtmbjfgebcpjigaaXPut
import Derived.Test.YtmbjfgebcpjigaaSJoin
namespace Go.Proofs.Ytmbjfgebcpjigaa
open Go.ChangeShapes Go.WideShapes Go.ChangeAt Go.RowKit

set_option maxHeartbeats 4000000 in
set_option maxRecDepth 100000 in
theorem lawExactJoin (a b : Option Addr) (cap cap' : Nat) (xs ys : List D) (w : World) (hn : xs.length ≤ maxLen) (hm : ys.length ≤ maxLen) (h : Deps w a xs) (h' : Deps w b ys) :
    Calls Try.prog 17 #[.slice a xs.length cap, .slice b ys.length cap'] w fun e w' => e = .returned (.bool true) ∧ Below w.heap.size w w' := by
  have hz := szDeps_any a xs.length cap 1048576 w hn (by omega) (by omega)
  by_cases hbig : (1048576 : Int) < (xs.length : Int)
  · rw [if_pos hbig] at hz
    go_enter Try.func17, Try.ntmps17
    go_wp2_with fail
    refine hz.mono ?_
    rintro e w1 ⟨rfl, rfl⟩
    clear hz
    go_wp2
    go_ret
    exact ⟨rfl, Below.refl _ _⟩
  rw [if_neg hbig] at hz
  have hz2 := szDeps_any b ys.length cap' (1048576 - xs.length) w hm (by omega) (by omega)
  by_cases hbig2 : (1048576 : Int) - xs.length < (ys.length : Int)
  · rw [if_pos hbig2] at hz2
    go_enter Try.func17, Try.ntmps17
    go_wp2_with fail
    refine hz.mono ?_
    rintro e w1 ⟨rfl, rfl⟩
    clear hz
    go_wp2_with fail
    refine hz2.mono ?_
    rintro e w1 ⟨rfl, rfl⟩
    clear hz2
    go_wp2
    go_ret
    exact ⟨rfl, Below.refl _ _⟩
  rw [if_neg hbig2] at hz2
  have hx : xs.length ≤ 1048576 := by omega
  have hx' : xs.length ≤ 1099511627776 := by omega
  have hy : ys.length ≤ 1048576 := by omega
  have hy' : ys.length ≤ 1099511627776 := by omega
  have hpl : (joinL xs ys).length ≤ 6 := joinL_len xs ys
  have hsum : 0 ≤ (1048576 : Int) - xs.length - ys.length := by omega
  go_enter Try.func17, Try.ntmps17
  go_wp2_with fail
  refine hz.mono ?_
  rintro e w0 ⟨rfl, rfl⟩
  clear hz
  go_wp2_with fail
  refine hz2.mono ?_
  rintro e w ⟨rfl, rfl⟩
  clear hz2 hbig hbig2 hn hm
  go_wp2_with fail
  refine (toDeps_any a cap xs _ hx h).mono ?_
  rintro e w1 ⟨b1, rfl, _, R1, h1⟩
  go_wp2_with fail
  refine (toDeps_any b cap' ys _ hy (h'.below h1)).mono ?_
  rintro e w2 ⟨b2, rfl, _, R2, h2⟩
  go_wp2_with fail
  refine (sJoin_any b1 0 _ _ _ xs ys _ hx' hy' (row_deps (row_below R1 h2 (Nat.le_refl _))) (row_deps R2)).mono ?_
  rintro e w3 ⟨v3, rfl, W3, h3⟩
  obtain ⟨a3, c3, rfl, _⟩ := row_slice W3
  have B3 : Below w.heap.size w w3 := (h1.trans (h2.mono h1.size)).trans (h3.mono (h1.trans (h2.mono h1.size)).size)
  clear h1 h2 h3 R1 R2
  go_wp2_with fail
  refine (toDeps_any a cap xs _ hx (h.below B3)).mono ?_
  rintro e w4 ⟨b4, rfl, _, X4, h4⟩
  have AWX := row_apart W3 X4 (Nat.le_refl _)
  have bX := B3.size
  have W4 := row_below W3 h4 (Nat.le_refl _)
  have B4 : Below w.heap.size w w4 := B3.trans (h4.mono B3.size)
  clear h4 W3 B3
  go_wp2_with fail
  refine (toDeps_any b cap' ys _ hy (h'.below B4)).mono ?_
  rintro e w5 ⟨b5, rfl, _, Y5, h5⟩
  have AWY := row_apart W4 Y5 (Nat.le_refl _)
  have AXY := row_apart X4 Y5 (Nat.le_refl _)
  have bY := B4.size
  have W5 := row_below W4 h5 (Nat.le_refl _)
  have X5 := row_below X4 h5 (Nat.le_refl _)
  have B5 : Below w.heap.size w w5 := B4.trans (h5.mono B4.size)
  clear h5 W4 X4 B4
  go_wp2_with fail
  refine (iJoin_any _ _ _ _ xs ys _ hx' hy' (row_deps X5) (row_deps Y5)).mono ?_
  rintro e w6 ⟨v6, rfl, G6, h6⟩
  obtain ⟨a6, c6, rfl, _⟩ := row_slice G6
  have AXG := row_apart X5 G6 (Nat.le_refl _)
  have AYG := row_apart Y5 G6 (Nat.le_refl _)
  have AWG := row_apart W5 G6 (Nat.le_refl _)
  have bG := B5.size
  have W6 := row_below W5 h6 (Nat.le_refl _)
  have X6 := row_below X5 h6 (Nat.le_refl _)
  have Y6 := row_below Y5 h6 (Nat.le_refl _)
  have B6 : Below w.heap.size w w6 := B5.trans (h6.mono B5.size)
  clear h6 W5 X5 Y5 B5
  go_wp2_with fail
  refine (eqDeps_any a6 a3 (joinL xs ys) c6 c3 w6 (by omega) (row_deps' G6) (row_deps' W6)).mono ?_
  rintro e w7 ⟨rfl, h7⟩
  have W7 := row_below W6 h7 (Nat.le_refl _)
  have X7 := row_below X6 h7 (Nat.le_refl _)
  have Y7 := row_below Y6 h7 (Nat.le_refl _)
  have G7 := row_below G6 h7 (Nat.le_refl _)
  have B7 : Below w.heap.size w w7 := B6.trans (h7.mono B6.size)
  clear h7 W6 X6 Y6 G6 B6
  go_wp2_with fail
  refine (toDeps_any a cap xs _ hx (h.below B7)).mono ?_
  rintro e w8 ⟨b8, rfl, _, T8, h8⟩
  have W8 := row_below W7 h8 (Nat.le_refl _)
  have X8 := row_below X7 h8 (Nat.le_refl _)
  have Y8 := row_below Y7 h8 (Nat.le_refl _)
  have G8 := row_below G7 h8 (Nat.le_refl _)
  have B8 : Below w.heap.size w w8 := B7.trans (h8.mono B7.size)
  clear h8 W7 X7 Y7 G7 B7
  go_wp2_with fail
  refine (eqDeps_any _ _ xs _ _ _ hx (row_deps X8) (row_deps T8)).mono ?_
  rintro e w9 ⟨rfl, h9⟩
  have W9 := row_below W8 h9 (Nat.le_refl _)
  have X9 := row_below X8 h9 (Nat.le_refl _)
  have Y9 := row_below Y8 h9 (Nat.le_refl _)
  have G9 := row_below G8 h9 (Nat.le_refl _)
  have B9 : Below w.heap.size w w9 := B8.trans (h9.mono B8.size)
  clear h9 W8 X8 Y8 G8 B8 T8
  go_wp2_with fail
  refine (toDeps_any b cap' ys _ hy (h'.below B9)).mono ?_
  rintro e w10 ⟨b10, rfl, _, T10, h10⟩
  have W10 := row_below W9 h10 (Nat.le_refl _)
  have X10 := row_below X9 h10 (Nat.le_refl _)
  have Y10 := row_below Y9 h10 (Nat.le_refl _)
  have G10 := row_below G9 h10 (Nat.le_refl _)
  have B10 : Below w.heap.size w w10 := B9.trans (h10.mono B9.size)
  clear h10 W9 X9 Y9 G9 B9
  go_wp2_with fail
  refine (eqDeps_any _ _ ys _ _ _ hy (row_deps Y10) (row_deps T10)).mono ?_
  rintro e w11 ⟨rfl, h11⟩
  have W11 := row_below W10 h11 (Nat.le_refl _)
  have X11 := row_below X10 h11 (Nat.le_refl _)
  have Y11 := row_below Y10 h11 (Nat.le_refl _)
  have G11 := row_below G10 h11 (Nat.le_refl _)
  have B11 : Below w.heap.size w w11 := B10.trans (h11.mono B10.size)
  clear h11 W10 X10 Y10 G10 B10 T10
  go_wp2_with fail
  refine (mark_any _ xs.length _ _ 1 _ hx (by omega) (by omega) X11).mono ?_
  rintro e w12 ⟨rfl, _, hg12⟩
  have W12 := W11.kept hg12 AWX.2
  have G12 := G11.kept hg12 AXG.1
  have Y12 := Y11.kept hg12 AXY.1
  have B12 := below_row B11 X11 bX hg12
  clear hg12 W11 G11 X11 Y11 B11 AXG AWX AXY
  go_wp2_with fail
  refine (mark_any _ ys.length _ _ (1 + 3 * xs.length) _ hy (by omega) (by omega) Y12).mono ?_
  rintro e w13 ⟨rfl, _, hg13⟩
  have W13 := W12.kept hg13 AWY.2
  have G13 := G12.kept hg13 AYG.1
  have B13 := below_row B12 Y12 bY hg13
  clear hg13 W12 G12 Y12 B12 AWY AYG
  go_wp2_with fail
  refine (eqDeps_any a6 a3 (joinL xs ys) c6 c3 w13 (by omega) (row_deps' G13) (row_deps' W13)).mono ?_
  rintro e w14 ⟨rfl, h14⟩
  have W14 := row_below W13 h14 (Nat.le_refl _)
  have G14 := row_below G13 h14 (Nat.le_refl _)
  have B14 : Below w.heap.size w w14 := B13.trans (h14.mono B13.size)
  clear h14 W13 G13 B13
  go_wp2_with fail
  refine (mark_any _ (joinL xs ys).length _ _ 1 _ (by omega) (by omega) (by omega) G14).mono ?_
  rintro e w15 ⟨rfl, G15, hg15⟩
  have W15 := W14.kept hg15 AWG.2
  have B15 := below_row B14 G14 bG hg15
  have D15 : Deps w15 a6 (markL 1 (joinL xs ys).length) := row_deps' (n := (joinL xs ys).length) (cap := c6) (base := w5.heap.size) (by rw [markL_len]; exact G15)
  clear hg15 W14 G14 B14 AWG
  go_wp2_with fail
  refine (held_any a6 _ c6 1 w15 (by omega) (by omega) (by omega) D15).mono ?_
  rintro e w16 ⟨rfl, rfl⟩
  clear D15
  go_wp2_with fail
  refine (toDeps_any a cap xs _ hx (h.below B15)).mono ?_
  rintro e w17 ⟨b17, rfl, _, X17, h17⟩
  have W17 := row_below W15 h17 (Nat.le_refl _)
  have G17 := row_below G15 h17 (Nat.le_refl _)
  have B17 : Below w.heap.size w w17 := B15.trans (h17.mono B15.size)
  clear h17 W15 G15 B15
  go_wp2_with fail
  refine (toDeps_any b cap' ys _ hy (h'.below B17)).mono ?_
  rintro e w18 ⟨b18, rfl, _, Y18, h18⟩
  have W18 := row_below W17 h18 (Nat.le_refl _)
  have G18 := row_below G17 h18 (Nat.le_refl _)
  have X18 := row_below X17 h18 (Nat.le_refl _)
  have B18 : Below w.heap.size w w18 := B17.trans (h18.mono B17.size)
  clear h18 W17 G17 B17 X17
  go_wp2_with fail
  refine (iJoin_any _ _ _ _ xs ys _ hx' hy' (row_deps X18) (row_deps Y18)).mono ?_
  rintro e w19 ⟨v19, rfl, H19, h19⟩
  obtain ⟨a19, c19, rfl, _⟩ := row_slice H19
  have W19 := row_below W18 h19 (Nat.le_refl _)
  have G19 := row_below G18 h19 (Nat.le_refl _)
  have B19 : Below w.heap.size w w19 := B18.trans (h19.mono B18.size)
  clear h19 W18 G18 B18 X18 Y18
  go_wp2_with fail
  refine (eqDeps_any a19 a3 (joinL xs ys) c19 c3 w19 (by omega) (row_deps' H19) (row_deps' W19)).mono ?_
  rintro e w20 ⟨rfl, h20⟩
  have G20 := row_below G19 h20 (Nat.le_refl _)
  have B20 : Below w.heap.size w w20 := B19.trans (h20.mono B19.size)
  have D20 : Deps w20 a6 (markL 1 (joinL xs ys).length) := row_deps' (n := (joinL xs ys).length) (cap := c6) (base := w5.heap.size) (by rw [markL_len]; exact G20)
  clear h20 W19 G19 B19 H19 G20
  go_wp2_with fail
  refine (held_any a6 _ c6 1 w20 (by omega) (by omega) (by omega) D20).mono ?_
  rintro e w21 ⟨rfl, rfl⟩
  clear D20
  go_wp2
  go_ret
  exact ⟨rfl, B20⟩
end Go.Proofs.Ytmbjfgebcpjigaa
