/- The exact law of DepsPut. -/
import Derived.Test.YtmbjfgebcpjigaaXMark
import Derived.Test.YtmbjfgebcpjigaaXOk
import Derived.Test.YtmbjfgebcpjigaaSPut2
namespace Go.Proofs.Ytmbjfgebcpjigaa
open Go.ChangeShapes Go.WideShapes Go.ChangeAt Go.RowKit

/-- Two rows, the second made behind the first, lie apart. -/
theorem row_apart {w1 w2 : World} {b1 b2 s1 s2 n m : Nat} {e1 e2 : TypeId} {v1 v2 : Value} {xs ys : List Value} (h1 : w1.ownsRow b1 e1 s1 v1 n xs) (h2 : w2.ownsRow b2 e2 s2 v2 m ys) (hle : w1.heap.size ≤ b2) : (v2.ownBlock = none ∨ v2.ownBlock ≠ v1.ownBlock) ∧ (v1.ownBlock = none ∨ v1.ownBlock ≠ v2.ownBlock) := by
  rcases h : v2.ownBlock with _ | k2
  · exact ⟨.inl rfl, by rcases h' : v1.ownBlock with _ | k1; exact .inl rfl; exact .inr (by simp)⟩
  · have := (h2.lt k2 h).1
    rcases h' : v1.ownBlock with _ | k1
    · exact ⟨.inr (by simp), .inl rfl⟩
    · have := (h1.lt k1 h').2
      exact ⟨.inr (by simp; omega), .inr (by simp; omega)⟩
theorem below_row {w w1 w2 : World} {b e s n : Nat} {v : Value} {xs : List Value} (hB : Below w.heap.size w w1) (h : w1.ownsRow b e s v n xs) (hb : w.heap.size ≤ b) (hg : w1.grownBy w2 v.ownBlock) : Below w.heap.size w w2 :=
  hB.grown hg hB.size (fun j hj => by have := (h.lt j hj).1; omega)
/-- A row's deps, whatever its form. -/
theorem row_deps' {w : World} {base n cap : Nat} {a : Option Addr} {xs : List D} (h : w.ownsRow base 32 3 (.slice a n cap) xs.length (flat3 xs)) : Deps w a xs := by
  obtain ⟨a', c, he, hD, _⟩ := deps_of_row h
  simp at he
  obtain ⟨rfl, _⟩ := he
  exact hD

/-- What is known in a region of the law: nothing old has turned, and the dep that came in. -/
def InX (w0 : World) (B : Nat) (dk dt ds : Int) (W : World) : Prop := Below w0.heap.size w0 W ∧ B < W.heap.size ∧ W.cell? ⟨B, 0, none⟩ = some (.int .i64 dk) ∧ W.cell? ⟨B, 1, none⟩ = some (.int .i64 dt) ∧ W.cell? ⟨B, 2, none⟩ = some (.int .i64 ds)
theorem InX.below {w0 w w' : World} {B : Nat} {dk dt ds : Int} (h : InX w0 B dk dt ds w) (k : Below w.heap.size w w') : InX w0 B dk dt ds w' := by
  obtain ⟨h1, h2, h3, h4, h5⟩ := h
  exact ⟨h1.trans (k.mono h1.size), Nat.lt_of_lt_of_le h2 k.size, (k.cell (p := ⟨B, _, none⟩) h2).trans h3, (k.cell (p := ⟨B, _, none⟩) h2).trans h4, (k.cell (p := ⟨B, _, none⟩) h2).trans h5⟩
theorem InX.drew {w0 w : World} {B : Nat} {dk dt ds : Int} (h : InX w0 B dk dt ds w) : InX w0 B dk dt ds w.drew := h.below (Below.refl _ _).drew
theorem InX.grown {w0 w w' : World} {B : Nat} {dk dt ds : Int} (h : InX w0 B dk dt ds w) {row : Option Nat} (hg : w.grownBy w' row) (hr : ∀ j, row = some j → w0.heap.size ≤ j ∧ j ≠ B) : InX w0 B dk dt ds w' := by
  obtain ⟨h1, h2, h3, h4, h5⟩ := h
  have hk : w'.heap[B]? = w.heap[B]? := hg.block B h2 (fun e => (hr B e.symm).2 rfl)
  have hc : ∀ j, w'.cell? ⟨B, j, none⟩ = w.cell? ⟨B, j, none⟩ := fun j => World.cell?_of_block (w := w) hk
  exact ⟨h1.grown hg h1.size (fun j hj => (hr j hj).1), Nat.lt_of_lt_of_le h2 hg.size, (hc _).trans h3, (hc _).trans h4, (hc _).trans h5⟩

set_option maxHeartbeats 4000000 in
set_option maxRecDepth 100000 in
theorem lawExactPut (a : Option Addr) (cap : Nat) (xs : List D) (d : D) (w : World) (hn : xs.length ≤ maxLen) (h : Deps w a xs) :
    Calls Try.prog 16 #[.slice a xs.length cap, depV d.k d.t d.s] w fun e w' => e = .returned (.bool true) ∧ Below w.heap.size w w' := by
  have hz := fun w => szDeps_any a xs.length cap 1048576 w hn (by omega) (by omega)
  by_cases hbig : (1048576 : Int) < (xs.length : Int)
  · rw [if_pos hbig] at hz
    go_enter Try.func16, Try.ntmps16
    go_wp2_with fail
    refine (hz _).mono ?_
    rintro e w1 ⟨rfl, rfl⟩
    clear hz
    go_wp2
    go_ret
    exact ⟨rfl, (Below.refl _ _).alloc (Nat.le_refl _) _⟩
  · rw [if_neg hbig] at hz
    have hx : xs.length ≤ 1048576 := by omega
    have hx' : xs.length ≤ 1099511627776 := by omega
    have hpl : (putL xs d).length ≤ 6 := putL_len xs d
    go_enter Try.func16, Try.ntmps16
    go_wp2_with fail
    refine (hz _).mono ?_
    rintro e w0 ⟨rfl, rfl⟩
    clear hz hbig hn
    have R : InX w w.heap.size d.k d.t d.s (w.alloc (.cells #[.int .i64 d.k, .int .i64 d.t, .int .i64 d.s] 62)) := ⟨(Below.refl _ _).alloc (Nat.le_refl _) _, by simp, (Blk.new w _ _).cell 0, (Blk.new w _ _).cell 1, (Blk.new w _ _).cell 2⟩
    generalize (w.alloc (.cells #[.int .i64 d.k, .int .i64 d.t, .int .i64 d.s] 62)) = W0 at *
    go_wp2_with fail
    go_region_held3 (fun W => Below w.heap.size w W ∧ w.heap.size < W.heap.size ∧ W.cell? ⟨w.heap.size, 0, none⟩ = some (.int .i64 d.k) ∧ W.cell? ⟨w.heap.size, 1, none⟩ = some (.int .i64 d.t) ∧ W.cell? ⟨w.heap.size, 2, none⟩ = some (.int .i64 d.s)) (first | exact InX.drew (by assumption) | exact InX.below (by assumption) (by assumption)) (first | (go_at_call 43; refine (toDeps_any a cap xs _ hx (h.below (InX.drew R).1)).mono ?_; rintro e w1 ⟨b1, rfl, _, R1, h1⟩) | (go_at_call 45; refine (toDep_any _ _ _ _).mono ?_; rintro e w2 ⟨rfl, h2⟩) | (go_at_call 27; refine (sPut_any _ _ xs d _ hx' (row_deps (row_below R1 h2 (Nat.le_refl _)))).mono ?_; rintro e w3 ⟨v3, rfl, R3, h3⟩; obtain ⟨a3, c3, rfl, _⟩ := row_slice R3))
    rename_i I3
    have I3 : InX w w.heap.size d.k d.t d.s w3 := I3
    clear R R1 h1 h2 h3
    go_wp2_with fail
    refine (toDeps_any a cap xs _ hx (h.below I3.1)).mono ?_
    rintro e w4 ⟨b4, rfl, _, X4, h4⟩
    have AWX := row_apart R3 X4 (Nat.le_refl _)
    have bX : w.heap.size + 1 ≤ w3.heap.size := I3.2.1
    have W4 := row_below R3 h4 (Nat.le_refl _)
    have I4 := I3.below h4
    clear h4 R3 I3
    obtain ⟨q1, q2, q3, q4, q5⟩ := I4
    have I4 : InX w w.heap.size d.k d.t d.s w4 := ⟨q1, q2, q3, q4, q5⟩
    go_wp2_with fail
    refine (toDep_any _ _ _ _).mono ?_
    rintro e w5 ⟨rfl, h5⟩
    have W5 := row_below W4 h5 (Nat.le_refl _)
    have X5 := row_below X4 h5 (Nat.le_refl _)
    have I5 := I4.below h5
    clear h5 W4 X4 I4 q1 q2 q3 q4 q5
    go_wp2_with fail
    refine (iPut_any _ _ xs d _ hx' (row_deps X5)).mono ?_
    rintro e w6 ⟨v6, rfl, G6, h6⟩
    obtain ⟨a6, c6, rfl, _⟩ := row_slice G6
    have AXG := row_apart X5 G6 (Nat.le_refl _)
    have AWG := row_apart W5 G6 (Nat.le_refl _)
    have bG : w.heap.size + 1 ≤ w5.heap.size := I5.2.1
    have W6 := row_below W5 h6 (Nat.le_refl _)
    have X6 := row_below X5 h6 (Nat.le_refl _)
    have I6 := I5.below h6
    clear h6 W5 X5 I5
    go_wp2_with fail
    refine (eqDeps_any a6 a3 (putL xs d) c6 c3 w6 (by omega) (row_deps' G6) (row_deps' W6)).mono ?_
    rintro e w7 ⟨rfl, h7⟩
    have W7 := row_below W6 h7 (Nat.le_refl _)
    have X7 := row_below X6 h7 (Nat.le_refl _)
    have G7 := row_below G6 h7 (Nat.le_refl _)
    have I7 := I6.below h7
    clear h7 W6 X6 G6 I6
    go_wp2_with fail
    refine (toDeps_any a cap xs _ hx (h.below I7.1)).mono ?_
    rintro e w8 ⟨b8, rfl, _, T8, h8⟩
    have W8 := row_below W7 h8 (Nat.le_refl _)
    have X8 := row_below X7 h8 (Nat.le_refl _)
    have G8 := row_below G7 h8 (Nat.le_refl _)
    have I8 := I7.below h8
    clear h8 W7 X7 G7 I7
    go_wp2_with fail
    refine (eqDeps_any _ _ xs _ _ _ hx (row_deps X8) (row_deps T8)).mono ?_
    rintro e w9 ⟨rfl, h9⟩
    have W9 := row_below W8 h9 (Nat.le_refl _)
    have X9 := row_below X8 h9 (Nat.le_refl _)
    have G9 := row_below G8 h9 (Nat.le_refl _)
    have I9 := I8.below h9
    clear h9 W8 X8 G8 I8 T8
    go_wp2_with fail
    refine (mark_any _ xs.length _ _ 1 _ hx (by omega) (by omega) X9).mono ?_
    rintro e w10 ⟨rfl, _, hg10⟩
    have W10 := W9.kept hg10 AWX.2
    have G10 := G9.kept hg10 AXG.1
    have I10 := I9.grown hg10 (fun j hj => by have := (X9.lt j hj).1; omega)
    clear hg10 W9 G9 X9 I9 AXG AWX
    go_wp2_with fail
    refine (eqDeps_any a6 a3 (putL xs d) c6 c3 w10 (by omega) (row_deps' G10) (row_deps' W10)).mono ?_
    rintro e w11 ⟨rfl, h11⟩
    have W11 := row_below W10 h11 (Nat.le_refl _)
    have G11 := row_below G10 h11 (Nat.le_refl _)
    have I11 := I10.below h11
    clear h11 W10 G10 I10
    go_wp2_with fail
    refine (mark_any _ (putL xs d).length _ _ 1 _ (by omega) (by omega) (by omega) G11).mono ?_
    rintro e w12 ⟨rfl, G12, hg12⟩
    have W12 := W11.kept hg12 AWG.2
    have I12 := I11.grown hg12 (fun j hj => by have := (G11.lt j hj).1; omega)
    have D12 : Deps w12 a6 (markL 1 (putL xs d).length) := row_deps' (n := (putL xs d).length) (cap := c6) (base := w5.heap.size) (by rw [markL_len]; exact G12)
    clear hg12 W11 G11 I11 AWG
    go_wp2_with fail
    refine (held_any a6 _ c6 1 w12 (by omega) (by omega) (by omega) D12).mono ?_
    rintro e w13 ⟨rfl, rfl⟩
    clear D12
    have R := I12
    go_wp2_with fail
    go_region_held3 (fun W => Below w.heap.size w W ∧ w.heap.size < W.heap.size ∧ W.cell? ⟨w.heap.size, 0, none⟩ = some (.int .i64 d.k) ∧ W.cell? ⟨w.heap.size, 1, none⟩ = some (.int .i64 d.t) ∧ W.cell? ⟨w.heap.size, 2, none⟩ = some (.int .i64 d.s)) (first | exact InX.drew (by assumption) | exact InX.below (by assumption) (by assumption)) (first | (go_at_call 43; refine (toDeps_any a cap xs _ hx (h.below (InX.drew R).1)).mono ?_; rintro e w14 ⟨b14, rfl, _, R14, h14⟩) | (go_at_call 45; refine (toDep_any _ _ _ _).mono ?_; rintro e w15 ⟨rfl, h15⟩) | (go_at_call 28; refine (iPut_any _ _ xs d _ hx' (row_deps (row_below R14 h15 (Nat.le_refl _)))).mono ?_; rintro e w16 ⟨v16, rfl, H16, h16⟩; obtain ⟨a16, c16, rfl, _⟩ := row_slice H16))
    rename_i I16
    have I16 : InX w w.heap.size d.k d.t d.s w16 := I16
    have hb : Below w13.heap.size w13 w16 := (((Below.refl _ _).drew.trans (h14.mono (Nat.le_refl _))).trans (h15.mono h14.size)).trans (h16.mono (Nat.le_trans h14.size h15.size))
    have W16 := row_below W12 hb (Nat.le_refl _)
    have G16 := row_below G12 hb (Nat.le_refl _)
    clear R I12 R14 h14 h15 h16 W12 G12 hb
    go_wp2_with fail
    refine (eqDeps_any a16 a3 (putL xs d) c16 c3 w16 (by omega) (row_deps' H16) (row_deps' W16)).mono ?_
    rintro e w17 ⟨rfl, h17⟩
    have G17 := row_below G16 h17 (Nat.le_refl _)
    have I17 := I16.below h17
    have D17 : Deps w17 a6 (markL 1 (putL xs d).length) := row_deps' (n := (putL xs d).length) (cap := c6) (base := w5.heap.size) (by rw [markL_len]; exact G17)
    clear h17 W16 G16 I16 H16 G17
    go_wp2_with fail
    refine (held_any a6 _ c6 1 w17 (by omega) (by omega) (by omega) D17).mono ?_
    rintro e w18 ⟨rfl, rfl⟩
    have BB := I17.1
    clear D17 I17
    go_wp2
    go_ret
    exact ⟨rfl, BB⟩
end Go.Proofs.Ytmbjfgebcpjigaa
