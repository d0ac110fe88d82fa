/- The exact law of ChainAt. -/
import Derived.Test.YtgdkoangpinieaaXCTop
import Derived.Test.YtgdkoangpinieaaSAtV
import Derived.Test.YtgdkoangpinieaaIAtV
import Derived.Deep.DeepCutAuto
namespace Go.Proofs.Ytgdkoangpinieaa
open Go.ChangeShapes Go.WideShapes Go.ChangeAt Go.RowKit

theorem atA_len {vs : List V} {k x y : Int} (h : ∀ v ∈ vs, v.ds.length ≤ 1048576) : ((atA vs k x y).getD zeroV).ds.length ≤ 1048576 := by
  unfold atA
  split
  · cases hc : cAt vs k x y with
    | none => simp [zeroV]
    | some v => exact h v (cAt_mem hc).1
  · simp [zeroV]
/-- What is known in a region of the law: nothing old has turned, and the stamp that came in. -/
abbrev InS (w0 : World) (B : Nat) (t s : Int) (W : World) : Prop := Below w0.heap.size w0 W ∧ B < W.heap.size ∧ W.cell? ⟨B, 0, none⟩ = some (.int .i64 t) ∧ W.cell? ⟨B, 1, none⟩ = some (.int .i64 s)
theorem InS.below {w0 w w' : World} {B : Nat} {t s : Int} (h : InS w0 B t s w) (k : Below w.heap.size w w') : InS w0 B t s w' := by
  obtain ⟨h1, h2, h3, h4⟩ := h
  exact ⟨h1.trans (k.mono h1.size), Nat.lt_of_lt_of_le h2 k.size, (k.cell (p := ⟨B, _, none⟩) h2).trans h3, (k.cell (p := ⟨B, _, none⟩) h2).trans h4⟩
theorem InS.drew {w0 w : World} {B : Nat} {t s : Int} (h : InS w0 B t s w) : InS w0 B t s w.drew := h.below (Below.refl _ _).drew
theorem InS.alloc {w0 w : World} {B : Nat} {t s : Int} (h : InS w0 B t s w) (o : Obj) : InS w0 B t s (w.alloc o) := h.below ((Below.refl _ _).alloc (Nat.le_refl _) o)
theorem InS.set {w0 w : World} {B A i : Nat} {t s : Int} (h : InS w0 B t s w) (hA : A ≠ B) (hw : w0.heap.size ≤ A) (u : Value) : InS w0 B t s (w.setCell ⟨A, i, none⟩ u) := by
  obtain ⟨h1, h2, h3, h4⟩ := h
  have hk : (w.setCell ⟨A, i, none⟩ u).heap[B]? = w.heap[B]? := Below.heap_setCell _ _ _ B (fun e => hA e.symm)
  have hc : ∀ j, (w.setCell ⟨A, i, none⟩ u).cell? ⟨B, j, none⟩ = w.cell? ⟨B, j, none⟩ := fun j => World.cell?_of_block (w := w) hk
  exact ⟨h1.setCell (p := ⟨A, i, none⟩) hw u, by simpa [World.setCell] using h2, (hc _).trans h3, (hc _).trans h4⟩
theorem InS.newV {w0 w : World} {B : Nat} {t s : Int} {o : Obj} {v0 v1 v2 v3 v4 v5 v6 : Value} (h : InS w0 B t s w) : InS w0 B t s ((((((((w.alloc o).setCell ⟨w.heap.size, 0, none⟩ v0).setCell ⟨w.heap.size, 1, none⟩ v1).setCell ⟨w.heap.size, 2, none⟩ v2).setCell ⟨w.heap.size, 3, none⟩ v3).setCell ⟨w.heap.size, 4, none⟩ v4).setCell ⟨w.heap.size, 5, none⟩ v5).setCell ⟨w.heap.size, 6, none⟩ v6) := by
  have a : w.heap.size ≠ B := Nat.ne_of_gt h.2.1
  have b := h.1.size
  exact (((((((h.alloc o).set a b v0).set a b v1).set a b v2).set a b v3).set a b v4).set a b v5).set a b v6
theorem InS.only {w0 w w' : World} {B : Nat} {t s : Int} {S : Nat → Prop} (h : InS w0 B t s w) (o : Only w w' S) (hS : ∀ j, S j → w0.heap.size ≤ j ∧ j ≠ B) : InS w0 B t s w' := by
  obtain ⟨h1, h2, h3, h4⟩ := h
  have hk : w'.heap[B]? = w.heap[B]? := o.block B h2 (fun e => (hS B e).2 rfl)
  have hc : ∀ j, w'.cell? ⟨B, j, none⟩ = w.cell? ⟨B, j, none⟩ := fun j => World.cell?_of_block (w := w) hk
  exact ⟨h1.trans (o.below h1.size fun j hj => (hS j hj).1), Nat.lt_of_lt_of_le h2 o.size, (hc _).trans h3, (hc _).trans h4⟩

theorem Blk.up {w w' : World} {B : Nat} {vs : Array Value} {T : TypeId} (h : Blk w B vs T) (k : Below w.heap.size w w') : Blk w' B vs T := h.below k h.lt
theorem Blk.drw {w : World} {B : Nat} {vs : Array Value} {T : TypeId} (h : Blk w B vs T) : Blk w.drew B vs T := h
theorem al (w : World) (o : Obj) : Below w.heap.size w (w.alloc o) := (Below.refl _ w).alloc (Nat.le_refl _) o
theorem InS.fst {w0 w : World} {B : Nat} {t s : Int} (h : InS w0 B t s w) : Below w0.heap.size w0 w := h.1
/-- Behind a call whose answer is a version: the version in its block, its deps new. -/
structure EndS (w1 : World) (B : Nat) (x y : Int) (u : V) (D : Nat) (pa : Option Addr) (pc : Nat) (wx : World) : Prop where
  i : InS w1 B x y wx
  d : Blk wx D #[.int .i64 u.k, .int .i64 u.t, .int .i64 u.s, .int .i64 u.val, .int .i64 u.cl, .int .i64 u.ca, .slice pa u.ds.length pc] 28
  l : w1.heap.size ≤ D
  r : RowD wx w1.heap.size (.slice pa u.ds.length pc) u.ds
theorem EndS.fill {w1 w3 : World} {B D b : Nat} {x y : Int} {u : V} {pa : Option Addr} {pc : Nat} (I : InS w1 B x y w3) (hB : B < w1.heap.size) (Z : Blk w3 D #[.int .i64 0, .int .i64 0, .int .i64 0, .int .i64 0, .int .i64 0, .int .i64 0, .slice none 0 0] 28) (hD : w1.heap.size ≤ D) (R : RowD w3 b (.slice pa u.ds.length pc) u.ds) (hb : D < b) : EndS w1 B x y u D pa pc (((((((w3.setCell ⟨D, 0, none⟩ (.int .i64 u.k)).setCell ⟨D, 1, none⟩ (.int .i64 u.t)).setCell ⟨D, 2, none⟩ (.int .i64 u.s)).setCell ⟨D, 3, none⟩ (.int .i64 u.val)).setCell ⟨D, 4, none⟩ (.int .i64 u.cl)).setCell ⟨D, 5, none⟩ (.int .i64 u.ca)).setCell ⟨D, 6, none⟩ (.slice pa u.ds.length pc)) := by
  have a : D ≠ B := by omega
  exact ⟨((((((I.set a hD _).set a hD _).set a hD _).set a hD _).set a hD _).set a hD _).set a hD _, Blk.fill7 Z, hD, row_mono (row_fill7 R (fun j hj => by have := (R.lt j hj).1; omega)) (by omega)⟩
theorem EndS.new {w1 w3 : World} {B b : Nat} {x y : Int} {u : V} {pa : Option Addr} {pc : Nat} (I : InS w1 B x y w3) (R : RowD w3 b (.slice pa u.ds.length pc) u.ds) (hb : w1.heap.size ≤ b) : EndS w1 B x y u w3.heap.size pa pc (w3.alloc (.cells #[.int .i64 u.k, .int .i64 u.t, .int .i64 u.s, .int .i64 u.val, .int .i64 u.cl, .int .i64 u.ca, .slice pa u.ds.length pc] 28)) :=
  ⟨I.alloc _, Blk.new _ _ _, I.1.size, row_mono (R.alloc _) hb⟩

set_option maxHeartbeats 8000000 in
set_option maxRecDepth 20000 in
theorem lawXChainAt (a : Option Addr) (cap : Nat) (vs : List V) (key x y : Int) (w : World) (hn : vs.length ≤ maxLen) (h : VersI w a vs) (hwf : (Lit.int .i64 key).wf = true) :
    Calls Try.prog 25 #[.slice a vs.length cap, .int .i64 key, stampV x y] w fun e w' => e = .returned (.bool true) ∧ Below w.heap.size w w' := by
  have b0 : Below w.heap.size w (w.alloc (.cells #[.int .i64 x, .int .i64 y] 68)) := (Below.refl _ w).alloc (Nat.le_refl _) _
  have S0 := Blk.new w #[.int .i64 x, .int .i64 y] 68
  have hz := szVers_any a cap vs _ hn (h.below b0)
  by_cases hbig : (1048576 : Int) < (vs.length : Int) + tot vs
  · rw [if_pos hbig] at hz
    go_enter Try.func25, Try.ntmps25
    go_wp2_with fail
    refine hz.mono ?_
    rintro e w1 ⟨rfl, hb1⟩
    clear hz
    go_wp2
    go_ret
    exact ⟨rfl, b0.trans (hb1.mono b0.size)⟩
  rw [if_neg hbig] at hz
  have hx : vs.length ≤ 1048576 := by omega
  have hl : ∀ v ∈ vs, v.ds.length ≤ 1048576 := fun v hv => by have := tot_mem hv; omega
  have hend : endV 1 vs ≤ 10000000 := by unfold endV; omega
  have hend0 : 0 ≤ endV 1 vs := by unfold endV; omega
  have hV := h.vers (fun v hv => by have := hl v hv; omega)
  have hpos : (0 : Int) ≤ 1048576 - vs.length - (tot vs : Int) := by omega
  have hul := atA_len (k := key) (x := x) (y := y) hl
  have hS := fun b c W h => sAtV_any b c vs key x y W (by omega) h
  have hI := fun b c W h => iAtV_any b c vs key x y W (by omega) h hwf
  generalize (atA vs key x y).isSome = r at *
  generalize (atA vs key x y).getD zeroV = u at *
  clear hbig h hn
  go_enter Try.func25, Try.ntmps25
  go_wp2_with fail
  refine hz.mono ?_
  rintro e w1 ⟨rfl, hb1⟩
  have S1 := S0.below hb1 S0.lt
  have B1 : Below w.heap.size w w1 := b0.trans (hb1.mono b0.size)
  have hA : w.heap.size < w1.heap.size := S1.lt
  have c0 := S1.cell 0
  have c1 := S1.cell 1
  clear hz hb1 b0 S0
  go_upto_region 5 with fail
  go_cut [8, 9] (fun s8 s9 wx => ∃ D pa pc, s8 = .pointer (some ⟨D, 0, none⟩) ∧ s9 = .bool r ∧ EndS w1 w.heap.size x y u D pa pc wx)
  case first =>
    have R : InS w1 w.heap.size x y w1 := ⟨Below.refl _ _, hA, c0, c1⟩
    go_region_held3 (fun W => Below w1.heap.size w1 W ∧ w.heap.size < W.heap.size ∧ W.cell? ⟨w.heap.size, 0, none⟩ = some (.int .i64 x) ∧ W.cell? ⟨w.heap.size, 1, none⟩ = some (.int .i64 y)) (with_reducible (first | assumption | exact InS.drew (by assumption) | exact InS.below (by assumption) (by assumption) | exact InS.alloc (by assumption) _ | exact InS.drew (InS.alloc (by assumption) _) | exact EndS.i (by assumption)))
      (first
        | (go_at_call 77
           refine (toVers_any a cap vs _ hx hl ?hv).mono ?_
           (case hv => exact hV.below (B1.trans ((InS.fst (B := w.heap.size) (t := x) (s := y) (by with_reducible assumption)).mono B1.size)))
           rintro e w2 ⟨u2, ys2, rfl, O2, hy2, hb2⟩
           obtain ⟨a2, c2, rfl, V2, _⟩ := O2.asV hy2
           clear O2)
        | (go_at_call 86
           refine (toStamp_any _ _ _).mono ?_
           rintro e w2' ⟨rfl, hb2'⟩)
        | (go_at_call 41
           refine (hS a2 c2 _ ?hv).mono ?_
           (case hv => with_reducible (first | exact V2.below hb2' | exact (V2.below hb2').below (al _ _) | exact (V2.below (al _ _)).below hb2'))
           rintro e w3 ⟨u3, pa3, pc3, hu3, rfl, R3, hb3⟩
           have e3 : u3 = u := hu3.out
           subst u3
           (first
             | (with_reducible (have I3 := (((R.alloc _).drew.below hb2).below hb2').below hb3
                                have Z3 := ((((Blk.new w1 #[.int .i64 0, .int .i64 0, .int .i64 0, .int .i64 0, .int .i64 0, .int .i64 0, .slice none 0 0] 28).drw).up hb2).up hb2').up hb3
                                have EF := EndS.fill (u := u) I3 hA Z3 (by simp) R3 (by have h1 := hb2.size; have h2 := hb2'.size; simp at h1; simp; omega)
                                obtain ⟨qz, gz⟩ := Z3.rules))
             | (with_reducible (have I3 := (((R.drew.below hb2).alloc _).below hb2').below hb3
                                have Z3 := ((Blk.new w2 #[.int .i64 0, .int .i64 0, .int .i64 0, .int .i64 0, .int .i64 0, .int .i64 0, .slice none 0 0] 28).up hb2').up hb3
                                have EF := EndS.fill (u := u) I3 hA Z3 (by have h1 := hb2.size; simp at h1; omega) R3 (by have h2 := hb2'.size; simp at h2; omega)
                                obtain ⟨qz, gz⟩ := Z3.rules))
             | (with_reducible (have I3 := (((R.drew.below hb2).below hb2').alloc _).below hb3
                                have Z3 := (Blk.new w2' #[.int .i64 0, .int .i64 0, .int .i64 0, .int .i64 0, .int .i64 0, .int .i64 0, .slice none 0 0] 28).up hb3
                                have EF := EndS.fill (u := u) I3 hA Z3 (by have h1 := hb2.size; have h2 := hb2'.size; simp at h1; omega) R3 (by simp)
                                obtain ⟨qz, gz⟩ := Z3.rules))
             | (with_reducible (have I3 := ((R.drew.below hb2).below hb2').below hb3
                                have EF := EndS.new (u := u) I3 R3 (by have h1 := hb2.size; have h2 := hb2'.size; simp at h1; omega)))))) 
    all_goals (clear R; go_wp2_with fail; go_meet; case rel => exact ⟨_, _, _, rfl, rfl, EF⟩)
  case rest =>
  obtain ⟨D, pa3, pc3, rfl, rfl, N3⟩ := hcut
  generalize wc = w3 at *
  have hb3 := N3.i.1
  have D3 := N3.d
  have R3 := N3.r
  have S3 := S1.below hb3 S1.lt
  have B3 : Below w.heap.size w w3 := B1.trans (hb3.mono B1.size)
  have hD : w.heap.size < D ∧ D < w3.heap.size := ⟨Nat.lt_of_lt_of_le hA N3.l, D3.lt⟩
  have hR : ∀ j, (Value.slice pa3 u.ds.length pc3).ownBlock = some j → j < w3.heap.size := fun j hj => (R3.lt j hj).2
  have hA3 : w.heap.size < w3.heap.size := S3.lt
  clear S1 B1 hA c0 c1 hb3 N3 hS
  go_wp2_with fail
  refine (toVers_any a cap vs _ hx hl (hV.below B3)).mono ?_
  rintro e w4 ⟨u4, ys4, rfl, X4, hy4, hb4⟩
  obtain ⟨a4, c4, rfl, V4, _⟩ := X4.asV hy4
  have hX : ∀ j, inV (Value.slice a4 vs.length c4) ys4 j → w3.heap.size ≤ j ∧ j < w4.heap.size := fun j hj => X4.lt hj
  have s4 := hb4.size
  have R4 := row_below R3 hb4 (Nat.le_refl _)
  have D4 := D3.below hb4 D3.lt
  have S4 := S3.below hb4 S3.lt
  have B4 : Below w.heap.size w w4 := B3.trans (hb4.mono B3.size)
  clear R3 D3 S3 B3 hb4
  obtain ⟨q1, g1⟩ := S4.rules
  go_wp2_with fail
  clear q1 g1
  refine (toStamp_any x y _).mono ?_
  rintro e w44 ⟨rfl, hb44⟩
  have V44 := V4.below hb44
  have s44 := hb44.size
  have X44 := X4.below hb44 (Nat.le_refl _)
  have R44 := row_below R4 hb44 (Nat.le_refl _)
  have D44 := D4.below hb44 D4.lt
  have S44 := S4.below hb44 S4.lt
  have B44 : Below w.heap.size w w44 := B4.trans (hb44.mono B4.size)
  clear X4 R4 D4 S4 B4 hb44
  clear V4
  go_wp2_with fail
  refine (hI a4 c4 _ V44).mono ?_
  rintro e w5 ⟨u5, pa5, pc5, hu5, rfl, G5, hb5⟩
  have e5 : u5 = u := hu5.out
  subst u5
  have hG : ∀ j, (Value.slice pa5 u.ds.length pc5).ownBlock = some j → w44.heap.size ≤ j ∧ j < w5.heap.size := fun j hj => G5.lt j hj
  have D5 := (D44.below hb5 D44.lt).alloc (.cells #[.int .i64 u.k, .int .i64 u.t, .int .i64 u.s, .int .i64 u.val, .int .i64 u.cl, .int .i64 u.ca, .slice pa5 u.ds.length pc5] 28)
  have S5 := (S44.below hb5 S44.lt).alloc (.cells #[.int .i64 u.k, .int .i64 u.t, .int .i64 u.s, .int .i64 u.val, .int .i64 u.cl, .int .i64 u.ca, .slice pa5 u.ds.length pc5] 28)
  have R5 := (row_below R44 hb5 (Nat.le_refl _)).alloc (.cells #[.int .i64 u.k, .int .i64 u.t, .int .i64 u.s, .int .i64 u.val, .int .i64 u.cl, .int .i64 u.ca, .slice pa5 u.ds.length pc5] 28)
  have X5 := (X44.below hb5 (Nat.le_refl _)).alloc (.cells #[.int .i64 u.k, .int .i64 u.t, .int .i64 u.s, .int .i64 u.val, .int .i64 u.cl, .int .i64 u.ca, .slice pa5 u.ds.length pc5] 28)
  have G5' := G5.alloc (.cells #[.int .i64 u.k, .int .i64 u.t, .int .i64 u.s, .int .i64 u.val, .int .i64 u.cl, .int .i64 u.ca, .slice pa5 u.ds.length pc5] 28)
  have E5 := Blk.new w5 #[.int .i64 u.k, .int .i64 u.t, .int .i64 u.s, .int .i64 u.val, .int .i64 u.cl, .int .i64 u.ca, .slice pa5 u.ds.length pc5] 28
  have b5 : Below w.heap.size w w5 := B44.trans (hb5.mono B44.size)
  have B5 := b5.alloc b5.size (.cells #[.int .i64 u.k, .int .i64 u.t, .int .i64 u.s, .int .i64 u.val, .int .i64 u.cl, .int .i64 u.ca, .slice pa5 u.ds.length pc5] 28)
  have s5 := hb5.size
  clear V44 B44 hb5 D44 R44 X44 S44 G5 b5
  obtain ⟨q1, g1⟩ := D5.rules
  obtain ⟨q2, g2⟩ := E5.rules
  go_wp2_with fail
  clear q1 g1 q2 g2
  generalize w5.alloc (.cells #[.int .i64 u.k, .int .i64 u.t, .int .i64 u.s, .int .i64 u.val, .int .i64 u.cl, .int .i64 u.ca, .slice pa5 u.ds.length pc5] 28) = w5' at *
  refine (eqVer_any u.k u.t u.s u.val u.cl u.ca pa5 pa3 pc5 pc3 u.ds _ hul (row_deps' G5') (row_deps' R5)).mono ?_
  rintro e w6 ⟨rfl, hb6⟩
  have D6 := D5.below hb6 D5.lt
  have E6 := E5.below hb6 E5.lt
  have S6 := S5.below hb6 S5.lt
  have R6 := row_below R5 hb6 (Nat.le_refl _)
  have G6 := row_below G5' hb6 (Nat.le_refl _)
  have X6 := X5.below hb6 (Nat.le_refl _)
  have B6 : Below w.heap.size w w6 := B5.trans (hb6.mono B5.size)
  clear D5 E5 S5 R5 G5' X5 B5 hb6
  go_wp2_with fail
  refine (toVers_any a cap vs _ hx hl (hV.below B6)).mono ?_
  rintro e w7 ⟨u7, ys7, rfl, O7, hy7, hb7⟩
  obtain ⟨a7, c7, rfl, V7, _⟩ := O7.asV hy7
  clear O7
  have X7 := X6.below hb7 (Nat.le_refl _)
  have R7 := row_below R6 hb7 (Nat.le_refl _)
  have G7 := row_below G6 hb7 (Nat.le_refl _)
  have D7 := D6.below hb7 D6.lt
  have E7 := E6.below hb7 E6.lt
  have S7 := S6.below hb7 S6.lt
  have B7 : Below w.heap.size w w7 := B6.trans (hb7.mono B6.size)
  clear X6 R6 G6 D6 E6 S6 B6 hb7
  have VX : Vers w7 a4 vs := by
    obtain ⟨a', c', e', V', _⟩ := X7.asV hy4
    cases e'; exact V'
  go_wp2_with fail
  refine (eqVers_any a4 a7 vs c4 c7 _ hx hl VX V7).mono ?_
  rintro e w8 ⟨rfl, hb8⟩
  clear VX V7
  have X8 := X7.below hb8 (Nat.le_refl _)
  have R8 := row_below R7 hb8 (Nat.le_refl _)
  have G8 := row_below G7 hb8 (Nat.le_refl _)
  have D8 := D7.below hb8 D7.lt
  have E8 := E7.below hb8 E7.lt
  have S8 := S7.below hb8 S7.lt
  have B8 : Below w.heap.size w w8 := B7.trans (hb8.mono B7.size)
  clear X7 R7 G7 D7 E7 S7 B7 hb8
  go_wp2_with fail
  refine (markVers_as _ _ ys4 vs 1 _ hy4 (by omega) hl (by omega) hend X8).mono ?_
  rintro e w9 ⟨rfl, _, on9⟩
  have D9 := D8.only on9 (fun hj => by have := hX _ hj; omega)
  have S9 := S8.only on9 (fun hj => by have := hX _ hj; omega)
  have E9 := E8.only on9 (fun hj => by have := hX _ hj; omega)
  have R9 := on9.row R8 (fun j hj hj' => by have := hX _ hj'; have := hR j hj; omega)
  have G9 := on9.row G8 (fun j hj hj' => by have := hX _ hj'; have := hG j hj; omega)
  have B9 : Below w.heap.size w w9 := B8.trans (on9.below B8.size (fun j hj => by have := hX _ hj; omega))
  clear D8 E8 S8 R8 G8 X8 B8 on9
  obtain ⟨q1, g1⟩ := D9.rules
  obtain ⟨q2, g2⟩ := E9.rules
  generalize endV 1 vs = k9 at *
  go_wp2_with fail
  clear q1 g1 q2 g2
  refine (eqVer_any u.k u.t u.s u.val u.cl u.ca pa5 pa3 pc5 pc3 u.ds _ hul (row_deps' G9) (row_deps' R9)).mono ?_
  rintro e w10 ⟨rfl, hb10⟩
  have R10 := row_below R9 hb10 (Nat.le_refl _)
  have G10 := row_below G9 hb10 (Nat.le_refl _)
  have D10 := D9.below hb10 D9.lt
  have E10 := E9.below hb10 E9.lt
  have S10 := S9.below hb10 S9.lt
  have B10 : Below w.heap.size w w10 := B9.trans (hb10.mono B9.size)
  clear R9 G9 D9 E9 S9 B9 hb10
  have s10 : w5.heap.size < w10.heap.size := E10.lt
  obtain ⟨q2, g2⟩ := E10.rules
  go_wp2_with fail
  clear q2 g2
  refine (markVer_any u pa5 pc5 _ 1 _ hul (by omega) (by omega) G10).mono ?_
  rintro e w11 ⟨rfl, G11, on11⟩
  have D11 := D10.only on11 (fun hj => by rcases hj with hj | hj; · have := D10.lt; omega
                                          · have := hG _ hj; omega)
  have S11 := S10.only on11 (fun hj => by rcases hj with hj | hj; · have := S10.lt; omega
                                          · have := hG _ hj; omega)
  have E11 := E10.only on11 (fun hj => by rcases hj with hj | hj; · have := E10.lt; omega
                                          · have := hG _ hj; omega)
  have R11 := on11.row R10 (fun j hj hj' => by have := hR j hj; rcases hj' with hj' | hj'; · omega
                                               · have := hG _ hj'; omega)
  have B11 : Below w.heap.size w w11 := B10.trans (on11.below B10.size (fun j hj => by rcases hj with hj | hj; · have := B10.size; omega
                                                                                       · have := hG _ hj; omega))
  have H11 : Deps w11 pa5 (markL 1 u.ds.length) := row_deps' (n := u.ds.length) (cap := pc5) (base := w44.heap.size) G11
  clear D10 E10 S10 R10 G10 B10 on11
  obtain ⟨q2, g2⟩ := E11.rules
  go_wp2_with fail
  clear q2 g2
  refine (heldVer_any u pa5 pc5 1 _ hul (by omega) (by omega) H11).mono ?_
  rintro e w12 ⟨rfl, hb12⟩
  clear G11
  have R12 := row_below R11 hb12 (Nat.le_refl _)
  have D12 := D11.below hb12 D11.lt
  have E12 := E11.below hb12 E11.lt
  have S12 := S11.below hb12 S11.lt
  have H12 := H11.below hb12
  have B12 : Below w.heap.size w w12 := B11.trans (hb12.mono B11.size)
  clear R11 D11 E11 S11 H11 B11 hb12
  have hm0 : 0 ≤ 1 + 3 * (u.ds.length : Int) := by omega
  have hA : w.heap.size < w12.heap.size := S12.lt
  have c0 := S12.cell 0
  have c1 := S12.cell 1
  go_upto_region 24 with fail
  go_cut [16, 17] (fun s8 s9 wx => ∃ D pa pc, s8 = .pointer (some ⟨D, 0, none⟩) ∧ s9 = .bool r ∧ EndS w12 w.heap.size x y u D pa pc wx)
  case first =>
    have R : InS w12 w.heap.size x y w12 := ⟨Below.refl _ _, hA, c0, c1⟩
    go_region_held3 (fun W => Below w12.heap.size w12 W ∧ w.heap.size < W.heap.size ∧ W.cell? ⟨w.heap.size, 0, none⟩ = some (.int .i64 x) ∧ W.cell? ⟨w.heap.size, 1, none⟩ = some (.int .i64 y)) (with_reducible (first | assumption | exact InS.drew (by assumption) | exact InS.below (by assumption) (by assumption) | exact InS.alloc (by assumption) _ | exact InS.drew (InS.alloc (by assumption) _) | exact EndS.i (by assumption)))
      (first
        | (go_at_call 77
           refine (toVers_any a cap vs _ hx hl ?hv).mono ?_
           (case hv => exact hV.below (B12.trans ((InS.fst (B := w.heap.size) (t := x) (s := y) (by with_reducible assumption)).mono B12.size)))
           rintro e w2 ⟨u2, ys2, rfl, O2, hy2, hb2⟩
           obtain ⟨a2, c2, rfl, V2, _⟩ := O2.asV hy2
           clear O2)
        | (go_at_call 86
           refine (toStamp_any _ _ _).mono ?_
           rintro e w2' ⟨rfl, hb2'⟩)
        | (go_at_call 42
           refine (hI a2 c2 _ ?hv).mono ?_
           (case hv => with_reducible (first | exact V2.below hb2' | exact (V2.below hb2').below (al _ _) | exact (V2.below (al _ _)).below hb2'))
           rintro e w3 ⟨u3, pa3, pc3, hu3, rfl, R3, hb3⟩
           have e3 : u3 = u := hu3.out
           subst u3
           (first
             | (with_reducible (have I3 := (((R.alloc _).drew.below hb2).below hb2').below hb3
                                have Z3 := ((((Blk.new w12 #[.int .i64 0, .int .i64 0, .int .i64 0, .int .i64 0, .int .i64 0, .int .i64 0, .slice none 0 0] 28).drw).up hb2).up hb2').up hb3
                                have EF := EndS.fill (u := u) I3 hA Z3 (by simp) R3 (by have h1 := hb2.size; have h2 := hb2'.size; simp at h1; simp; omega)
                                obtain ⟨qz, gz⟩ := Z3.rules))
             | (with_reducible (have I3 := (((R.drew.below hb2).alloc _).below hb2').below hb3
                                have Z3 := ((Blk.new w2 #[.int .i64 0, .int .i64 0, .int .i64 0, .int .i64 0, .int .i64 0, .int .i64 0, .slice none 0 0] 28).up hb2').up hb3
                                have EF := EndS.fill (u := u) I3 hA Z3 (by have h1 := hb2.size; simp at h1; omega) R3 (by have h2 := hb2'.size; simp at h2; omega)
                                obtain ⟨qz, gz⟩ := Z3.rules))
             | (with_reducible (have I3 := (((R.drew.below hb2).below hb2').alloc _).below hb3
                                have Z3 := (Blk.new w2' #[.int .i64 0, .int .i64 0, .int .i64 0, .int .i64 0, .int .i64 0, .int .i64 0, .slice none 0 0] 28).up hb3
                                have EF := EndS.fill (u := u) I3 hA Z3 (by have h1 := hb2.size; have h2 := hb2'.size; simp at h1; omega) R3 (by simp)
                                obtain ⟨qz, gz⟩ := Z3.rules))
             | (with_reducible (have I3 := ((R.drew.below hb2).below hb2').below hb3
                                have EF := EndS.new (u := u) I3 R3 (by have h1 := hb2.size; have h2 := hb2'.size; simp at h1; omega)))))) 
    all_goals (clear R; go_wp2_with fail; go_meet; case rel => exact ⟨_, _, _, rfl, rfl, EF⟩)
  case rest =>
  obtain ⟨K, pa14, pc14, rfl, rfl, N14⟩ := hcut
  generalize wc = w14 at *
  have hb14 := N14.i.1
  have K14 := N14.d
  have F14 := N14.r
  have R14 := row_below R12 hb14 (Nat.le_refl _)
  have D14 := D12.below hb14 D12.lt
  have E14 := E12.below hb14 E12.lt
  have H14 := H12.below hb14
  have B14 : Below w.heap.size w w14 := B12.trans (hb14.mono B12.size)
  clear R12 D12 E12 H12 B12 hb14
  clear hI c0 c1 S12 N14
  obtain ⟨q1, g1⟩ := D14.rules
  obtain ⟨q2, g2⟩ := K14.rules
  go_wp2_with fail
  clear q1 g1 q2 g2
  refine (eqVer_any u.k u.t u.s u.val u.cl u.ca pa14 pa3 pc14 pc3 u.ds _ hul (row_deps' F14) (row_deps' R14)).mono ?_
  rintro e w15 ⟨rfl, hb15⟩
  clear F14 K14
  have R15 := row_below R14 hb15 (Nat.le_refl _)
  have D15 := D14.below hb15 D14.lt
  have E15 := E14.below hb15 E14.lt
  have H15 := H14.below hb15
  have B15 : Below w.heap.size w w15 := B14.trans (hb15.mono B14.size)
  clear R14 D14 E14 H14 B14 hb15
  obtain ⟨q2, g2⟩ := E15.rules
  go_wp2_with fail
  clear q2 g2
  refine (heldVer_any u pa5 pc5 1 _ hul (by omega) (by omega) H15).mono ?_
  rintro e w16 ⟨rfl, hb16⟩
  have B16 : Below w.heap.size w w16 := B15.trans (hb16.mono B15.size)
  clear E15 D15 R15 H15 B15 hb16
  go_wp2_with fail
  go_ret
  exact ⟨rfl, B16⟩
end Go.Proofs.Ytgdkoangpinieaa
