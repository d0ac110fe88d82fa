/- 5 texts in one: TdH, TdI, TdJ, TdP, TdK. -/
import Derived.Test.YtpjidogilofppaaGreatGAJ
import Derived.Test.YtpjidogilofppaaGreatMvS
import Derived.Test.YtpjidogilofppaaGreatTA3
import Derived.Test.YtpjidogilofppaaGreatZF
import Derived.Test.YtpjidogilofppaaGreatSAtV
import Derived.Test.YtpjidogilofppaaGreatTA6
import Derived.Test.YtpjidogilofppaaGreatSvOkS
import Derived.Test.YtpjidogilofppaaGreatTA1
/- The specification's copies of words, and its searches among debts. -/
namespace Go.Proofs.YtpjidogilofppaaGreat
open Go.ChangeShapes Go.WideShapes Go.ChangeAt Go.RowKit

abbrev OwnXH (w : World) (base : Nat) (X : XW) : Prop := OwnH w base X.x X.a X.ys X.zs
theorem OwnH.mono {w : World} {base base' : Nat} {x : Wd} {a : Wa} {ys zs : List XV} (h : OwnH w base x a ys zs) (hb : base' ≤ base) : OwnH w base' x a ys zs := ⟨row_mono h.d hb, h.v.mono hb, h.w.mono hb, row_mono h.o hb, h.hy, h.hz⟩
theorem Only.ownHX {w w' : World} {S : Nat → Prop} (o : Only w w' S) {base : Nat} {x : Wd} {a : Wa} {ys zs : List XV} (h : OwnH w base x a ys zs) (hS : ∀ j, inWd x a ys zs j → ¬ S j) : OwnH w' base x a ys zs :=
  ⟨o.row h.d (fun j hj => hS j (.inl hj)), o.ownV h.v (fun j hj => hS j (.inr (.inl hj))), o.ownV h.w (fun j hj => hS j (.inr (.inr (.inl hj)))), o.row h.o (fun j hj => hS j (.inr (.inr (.inr hj)))), h.hy, h.hz⟩
theorem word_otherH {w : World} {b1 b2 n : Nat} {v : Value} {cs : List Value} {X : XW} (h : w.ownsRow b1 41 15 v n cs) (k : OwnXH w b2 X) (b : Nat) (hv : v.ownBlock = some b) : ¬ inX X b := by
  rintro (hx | hx | hx | hx)
  · exact row_type h k.d (by decide) b hv hx
  · rcases hx with hx | ⟨y, hy, hx⟩
    · exact row_type h k.v.row (by decide) b hv hx
    · exact row_type h (k.v.deps y hy).1 (by decide) b hv hx
  · rcases hx with hx | ⟨y, hy, hx⟩
    · exact row_type h k.w.row (by decide) b hv hx
    · exact row_type h (k.w.deps y hy).1 (by decide) b hv hx
  · exact row_type h k.o (by decide) b hv hx
/-- Words whose row is the call's own, and whose lists are of its own, apart or not. -/
structure HalfWs (w : World) (base : Nat) (v : Value) (xs : List XW) : Prop where
  row : w.ownsRow base 41 15 v xs.length (flat15 xs)
  each : ∀ X ∈ xs, OwnXH w base X
theorem HalfWs.below {w w' : World} {base : Nat} {v : Value} {xs : List XW} (h : HalfWs w base v xs) {m : Nat} (k : Below m w w') (hm : w.heap.size ≤ m) : HalfWs w' base v xs :=
  ⟨row_below h.row k hm, fun X hX => (h.each X hX).below k hm⟩
theorem HalfWs.mono {w : World} {base base' : Nat} {v : Value} {xs : List XW} (h : HalfWs w base v xs) (hb : base' ≤ base) : HalfWs w base' v xs :=
  ⟨row_mono h.row hb, fun X hX => (h.each X hX).mono hb⟩
theorem HalfWs.empty (w : World) (base : Nat) (hb : base ≤ w.heap.size) : HalfWs (w.alloc (.cells #[] 41)) base (.slice (some ⟨w.heap.size, 0, none⟩) 0 0) [] := ⟨row_mono (empty_row w 41 15) hb, fun _ h => by cases h⟩
theorem HalfWs.slice {w : World} {base : Nat} {v : Value} {xs : List XW} (h : HalfWs w base v xs) : ∃ a cap, v = .slice a xs.length cap ∧ Wds w a (xs.map XW.x) := by
  obtain ⟨a, cap, rfl, _⟩ := row_slice h.row
  refine ⟨a, cap, rfl, ?_⟩
  rcases h.row.2 with ⟨e, hz⟩ | ⟨g, c, cur, e, hb, hg, hr⟩
  · have : xs = [] := List.length_eq_zero_iff.1 hz
    subst this; exact .inl rfl
  · cases e
    refine .inr ⟨g, 0, rfl, (Array.getElem?_eq_some_iff.1 hg).1, fun i hi => ?_⟩
    have hi' : i < xs.length := by simpa using hi
    have hl := flat15_len xs
    have hr := h.row
    obtain ⟨a0, a1, a2, a3, a4, a5, a6, a7, a8, a9, a10, a11, a12, a13, a14⟩ := flat15_at xs i hi'
    refine ⟨xs[i].a, ?_, ?_, ?_, ?_, ?_, ?_, ?_, ?_, ?_, ?_, ?_, ?_, ?_, ?_, ?_, ?_⟩
    · rw [Nat.zero_add, hr.cellAt (i * 15) (by omega)]; simpa using a0
    · rw [Nat.zero_add, hr.cellAt (i * 15 + 1) (by omega)]; simpa using a1
    · rw [Nat.zero_add, hr.cellAt (i * 15 + 2) (by omega)]; simpa using a2
    · rw [Nat.zero_add, hr.cellAt (i * 15 + 3) (by omega)]; simpa using a3
    · rw [Nat.zero_add, hr.cellAt (i * 15 + 4) (by omega)]; simpa using a4
    · rw [Nat.zero_add, hr.cellAt (i * 15 + 5) (by omega)]; simpa using a5
    · rw [Nat.zero_add, hr.cellAt (i * 15 + 6) (by omega)]; simpa using a6
    · rw [Nat.zero_add, hr.cellAt (i * 15 + 7) (by omega)]; simpa using a7
    · rw [Nat.zero_add, hr.cellAt (i * 15 + 8) (by omega)]; simpa using a8
    · rw [Nat.zero_add, hr.cellAt (i * 15 + 9) (by omega)]; simpa using a9
    · rw [Nat.zero_add, hr.cellAt (i * 15 + 10) (by omega)]; simpa using a10
    · rw [Nat.zero_add, hr.cellAt (i * 15 + 11) (by omega)]; simpa using a11
    · rw [Nat.zero_add, hr.cellAt (i * 15 + 12) (by omega)]; simpa using a12
    · rw [Nat.zero_add, hr.cellAt (i * 15 + 13) (by omega)]; simpa using a13
    · rw [Nat.zero_add, hr.cellAt (i * 15 + 14) (by omega)]; simpa using a14
    · simpa using (h.each xs[i] (List.getElem_mem hi')).inL
theorem HalfWs.snoc {w w' : World} {base : Nat} {v v' : Value} {Xs : List XW} {X : XW} (h : HalfWs w base v Xs) (hg : w.grownBy w' v.ownBlock) (hrow : w'.ownsRow base 41 15 v' (Xs.length + 1) (flat15 Xs ++ flat15 [X])) (hX : OwnXH w base X) : HalfWs w' base v' (Xs ++ [X]) := by
  have o := only_grown hg
  refine ⟨by rw [flat15_append, List.length_append]; exact hrow, fun Y hY => ?_⟩
  rcases List.mem_append.1 hY with hY | hY
  · exact o.ownHX (h.each Y hY) (fun b hb hs => word_otherH h.row (h.each Y hY) b hs hb)
  · simp at hY; subst hY
    exact o.ownHX hX (fun b hb hs => word_otherH h.row hX b hs hb)
theorem wpList_append_half (w : World) {ops : Array Oper} {rest : List Oper} {o : Oper} {a : Act} {Q : Exit → Act → World → Prop} (hgd : o.guard = none) (s x : Operand)
    (ho : o.op = .call { callee := .builtin .append, args := #[s, x], argTypes := #[51, 51] })
    (base : Nat) (v : Value) (Xs : List XW) (hs : a.eval s = v) (hT : HalfWs w base v Xs) (X : XW) (g : Nat) (hx : a.eval x = .slice (some ⟨g, 0, none⟩) 1 1)
    (hB : Blk w g (wordC X.x X.a) 41) (hX : OwnXH w base X) (hn : Xs.length ≤ 1000000) (hb : base ≤ w.heap.size)
    (h : ∀ v' w', HalfWs w' base v' (Xs ++ [X]) → w.grownBy w' v.ownBlock → wpList Tryz.prog ops Q rest (a.put o.dst v') w') : wpList Tryz.prog ops Q (o :: rest) a w := by
  obtain ⟨i0, hi, hz0, hz1, hz2⟩ := info_parts infoWord
  exact wpList_append_own_at w hgd s x 51 ho base 41 i0 (.agg #[.int .i64 0, .int .i64 0, .int .i64 0, .int .i64 0, .int .i64 0, .int .i64 0, .int .i64 0, .int .i64 0, .bool false, .slice none 0 0, .int .i64 0, .int .i64 0, .slice none 0 0, .slice none 0 0, .slice none 0 0]) 15 184 Tryz.underlying51 hi hz0 hz1 hz2 rfl (by decide) v Xs.length (flat15 Xs) hs hT.row ⟨g, 0, none⟩ 1 1 (flat15 [X]) hx rfl (cells15 hB) (flat15_one _) (by unfold maxLen; omega) (by omega) hb fun v' w' h2 h3 _ h5 => h v' w' (hT.snoc h3 h2 hX) h3
theorem step_append_half (w : World) {ops : Array Oper} {o : Oper} {a : Act} {K : Act → World → Prop} {Q : Exit → Act → World → Prop} {E : Prop} (hgd : o.guard = none) (s x : Operand)
    (ho : o.op = .call { callee := .builtin .append, args := #[s, x], argTypes := #[51, 51] })
    (base : Nat) (v : Value) (Xs : List XW) (hs : a.eval s = v) (hT : HalfWs w base v Xs) (X : XW) (g : Nat) (hx : a.eval x = .slice (some ⟨g, 0, none⟩) 1 1)
    (hB : Blk w g (wordC X.x X.a) 41) (hX : OwnXH w base X) (hn : Xs.length ≤ 1000000) (hb : base ≤ w.heap.size)
    (h : ∀ v' w', HalfWs w' base v' (Xs ++ [X]) → w.grownBy w' v.ownBlock → K (a.put o.dst v') w') :
    if Region.wanted o (yielded ops a.tmps) = true then Oper.wp Tryz.prog o a w K Q else E := by
  obtain ⟨i0, hi, hz0, hz1, hz2⟩ := info_parts infoWord
  exact step_append_at w hgd s x 51 ho base 41 i0 (.agg #[.int .i64 0, .int .i64 0, .int .i64 0, .int .i64 0, .int .i64 0, .int .i64 0, .int .i64 0, .int .i64 0, .bool false, .slice none 0 0, .int .i64 0, .int .i64 0, .slice none 0 0, .slice none 0 0, .slice none 0 0]) 15 184 Tryz.underlying51 hi hz0 hz1 hz2 rfl (by decide) v Xs.length (flat15 Xs) hs hT.row ⟨g, 0, none⟩ 1 1 (flat15 [X]) hx rfl (cells15 hB) (flat15_one _) (by unfold maxLen; omega) (by omega) hb fun v' w' h2 h3 _ => h v' w' (hT.snoc h3 h2 hX) h3
theorem OwnW.half {w : World} {base : Nat} {x : Wd} {a : Wa} {ys zs : List XV} (h : OwnW w base x a ys zs) : OwnH w base x a ys zs := ⟨h.d, h.v, h.w, h.o, h.hy, h.hz⟩

set_option maxHeartbeats 8000000 in
set_option maxRecDepth 20000 in
theorem sCopyW_any (x : Wd) (a : Wa) (w : World) (hf : LenL x) (h : InL w x a) :
    Calls Tryz.prog 150 #[wordV x a] w fun e w' => ∃ c ys zs, e = .returned (wordV x c) ∧ OwnH w' w.heap.size x c ys zs ∧ Below w.heap.size w w' := by
  have W0 : Below w.heap.size w ((w.alloc (.cells #[.int .i64 x.kind, .int .i64 x.fr, .int .i64 x.to, .int .i64 x.call, .int .i64 x.key, .int .i64 x.t, .int .i64 x.s, .int .i64 x.val, .bool x.yes, .slice a.da x.ds.length a.dc, .int .i64 x.slot, .int .i64 x.ep, .slice a.va x.vs.length a.vc, .slice a.wa x.ws.length a.wc, .slice a.oa x.os.length a.oc] 41)).alloc (.cells #[.int .i64 0, .int .i64 0, .int .i64 0, .int .i64 0, .int .i64 0, .int .i64 0, .int .i64 0, .int .i64 0, .bool false, .slice none 0 0, .int .i64 0, .int .i64 0, .slice none 0 0, .slice none 0 0, .slice none 0 0] 41)) := ((Below.refl _ _).alloc (Nat.le_refl _) _).alloc (by simp) _
  have A0 : Blk ((w.alloc (.cells #[.int .i64 x.kind, .int .i64 x.fr, .int .i64 x.to, .int .i64 x.call, .int .i64 x.key, .int .i64 x.t, .int .i64 x.s, .int .i64 x.val, .bool x.yes, .slice a.da x.ds.length a.dc, .int .i64 x.slot, .int .i64 x.ep, .slice a.va x.vs.length a.vc, .slice a.wa x.ws.length a.wc, .slice a.oa x.os.length a.oc] 41)).alloc (.cells #[.int .i64 0, .int .i64 0, .int .i64 0, .int .i64 0, .int .i64 0, .int .i64 0, .int .i64 0, .int .i64 0, .bool false, .slice none 0 0, .int .i64 0, .int .i64 0, .slice none 0 0, .slice none 0 0, .slice none 0 0] 41)) w.heap.size #[.int .i64 x.kind, .int .i64 x.fr, .int .i64 x.to, .int .i64 x.call, .int .i64 x.key, .int .i64 x.t, .int .i64 x.s, .int .i64 x.val, .bool x.yes, .slice a.da x.ds.length a.dc, .int .i64 x.slot, .int .i64 x.ep, .slice a.va x.vs.length a.vc, .slice a.wa x.ws.length a.wc, .slice a.oa x.os.length a.oc] 41 := (Blk.new w _ _).alloc _
  have Z0 : Blk ((w.alloc (.cells #[.int .i64 x.kind, .int .i64 x.fr, .int .i64 x.to, .int .i64 x.call, .int .i64 x.key, .int .i64 x.t, .int .i64 x.s, .int .i64 x.val, .bool x.yes, .slice a.da x.ds.length a.dc, .int .i64 x.slot, .int .i64 x.ep, .slice a.va x.vs.length a.vc, .slice a.wa x.ws.length a.wc, .slice a.oa x.os.length a.oc] 41)).alloc (.cells #[.int .i64 0, .int .i64 0, .int .i64 0, .int .i64 0, .int .i64 0, .int .i64 0, .int .i64 0, .int .i64 0, .bool false, .slice none 0 0, .int .i64 0, .int .i64 0, .slice none 0 0, .slice none 0 0, .slice none 0 0] 41)) (w.heap.size + 1) #[.int .i64 0, .int .i64 0, .int .i64 0, .int .i64 0, .int .i64 0, .int .i64 0, .int .i64 0, .int .i64 0, .bool false, .slice none 0 0, .int .i64 0, .int .i64 0, .slice none 0 0, .slice none 0 0, .slice none 0 0] 41 := by have := Blk.new (w.alloc (.cells #[.int .i64 x.kind, .int .i64 x.fr, .int .i64 x.to, .int .i64 x.call, .int .i64 x.key, .int .i64 x.t, .int .i64 x.s, .int .i64 x.val, .bool x.yes, .slice a.da x.ds.length a.dc, .int .i64 x.slot, .int .i64 x.ep, .slice a.va x.vs.length a.vc, .slice a.wa x.ws.length a.wc, .slice a.oa x.os.length a.oc] 41)) #[.int .i64 0, .int .i64 0, .int .i64 0, .int .i64 0, .int .i64 0, .int .i64 0, .int .i64 0, .int .i64 0, .bool false, .slice none 0 0, .int .i64 0, .int .i64 0, .slice none 0 0, .slice none 0 0, .slice none 0 0] 41; simpa using this
  have sz0 : ((w.alloc (.cells #[.int .i64 x.kind, .int .i64 x.fr, .int .i64 x.to, .int .i64 x.call, .int .i64 x.key, .int .i64 x.t, .int .i64 x.s, .int .i64 x.val, .bool x.yes, .slice a.da x.ds.length a.dc, .int .i64 x.slot, .int .i64 x.ep, .slice a.va x.vs.length a.vc, .slice a.wa x.ws.length a.wc, .slice a.oa x.os.length a.oc] 41)).alloc (.cells #[.int .i64 0, .int .i64 0, .int .i64 0, .int .i64 0, .int .i64 0, .int .i64 0, .int .i64 0, .int .i64 0, .bool false, .slice none 0 0, .int .i64 0, .int .i64 0, .slice none 0 0, .slice none 0 0, .slice none 0 0] 41)).heap.size = w.heap.size + 1 + 1 := by simp
  have E1 := empty_row ((w.alloc (.cells #[.int .i64 x.kind, .int .i64 x.fr, .int .i64 x.to, .int .i64 x.call, .int .i64 x.key, .int .i64 x.t, .int .i64 x.s, .int .i64 x.val, .bool x.yes, .slice a.da x.ds.length a.dc, .int .i64 x.slot, .int .i64 x.ep, .slice a.va x.vs.length a.vc, .slice a.wa x.ws.length a.wc, .slice a.oa x.os.length a.oc] 41)).alloc (.cells #[.int .i64 0, .int .i64 0, .int .i64 0, .int .i64 0, .int .i64 0, .int .i64 0, .int .i64 0, .int .i64 0, .bool false, .slice none 0 0, .int .i64 0, .int .i64 0, .slice none 0 0, .slice none 0 0, .slice none 0 0] 41)) 116 3
  have W1 : Below w.heap.size w (((w.alloc (.cells #[.int .i64 x.kind, .int .i64 x.fr, .int .i64 x.to, .int .i64 x.call, .int .i64 x.key, .int .i64 x.t, .int .i64 x.s, .int .i64 x.val, .bool x.yes, .slice a.da x.ds.length a.dc, .int .i64 x.slot, .int .i64 x.ep, .slice a.va x.vs.length a.vc, .slice a.wa x.ws.length a.wc, .slice a.oa x.os.length a.oc] 41)).alloc (.cells #[.int .i64 0, .int .i64 0, .int .i64 0, .int .i64 0, .int .i64 0, .int .i64 0, .int .i64 0, .int .i64 0, .bool false, .slice none 0 0, .int .i64 0, .int .i64 0, .slice none 0 0, .slice none 0 0, .slice none 0 0] 41)).alloc (.cells #[] 116)) := W0.alloc W0.size _
  have A1 := A0.alloc (.cells #[] 116)
  have Z1 := Z0.alloc (.cells #[] 116)
  have L1 := (h.below W1).d
  rw [sz0] at E1
  have hld := hf.d
  have HF := hidOf (And.intro hf.v (And.intro hf.w hf.o))
  have HL := hidOf h
  clear h hf
  obtain ⟨q0, g0⟩ := A1.rules
  have PK0 := hidOf (And.intro W1 (And.intro A1 Z1))
  clear W0 A0 Z0 W1 A1 Z1 sz0
  go_enter Tryz.func150, Tryz.ntmps150
  go_wp2_with (first | (at_builtin; refine wpList_append_deps _ rfl _ _ rfl (w.heap.size + 1 + 1) (.slice (some ⟨w.heap.size + 1 + 1, 0, none⟩) 0 0) rfl E1 a.da a.dc x.ds rfl L1 hld (by simp) ?_
                        intro v' w1 hrow hg hloc
                        obtain ⟨da, dc, rfl, _⟩ := row_slice hrow
                        obtain ⟨W1, A1, Z1⟩ := PK0.out
                        have A2 := A1.grown hg (by simp [Value.ownBlock] <;> omega)
                        have Z2 := Z1.grown hg (by simp [Value.ownBlock] <;> omega)
                        have W2 : Below w.heap.size w w1 := W1.grown hg W1.size (fun j hj => by simp [Value.ownBlock] at hj; omega)
                        have A2b : Blk (w1.setCell ⟨w.heap.size, 9, none⟩ (.slice da x.ds.length dc)) w.heap.size #[.int .i64 x.kind, .int .i64 x.fr, .int .i64 x.to, .int .i64 x.call, .int .i64 x.key, .int .i64 x.t, .int .i64 x.s, .int .i64 x.val, .bool x.yes, .slice da x.ds.length dc, .int .i64 x.slot, .int .i64 x.ep, .slice a.va x.vs.length a.vc, .slice a.wa x.ws.length a.wc, .slice a.oa x.os.length a.oc] 41 := by
                          have := A2.set 9 (.slice da x.ds.length dc)
                          simpa using this
                        have P2 := hidOf (And.intro (W2.setCell (p := ⟨w.heap.size, 9, none⟩) (by simp) (.slice da x.ds.length dc)) (And.intro A2b (And.intro (Z2.other (a := ⟨w.heap.size, 9, none⟩) (by simp) (.slice da x.ds.length dc)) (rowSetB (Z := w.heap.size) (j := 9) (u := .slice da x.ds.length dc) hrow (by omega)))))
                        clear hg hloc hrow W1 A1 Z1 W2 Z2 E1 L1 hld PK0 q0 g0
                        obtain ⟨q1, g1⟩ := A2.rules
                        obtain ⟨q2, g2⟩ := A2b.rules
                        clear A2 A2b))
  clear q1 g1 q2 g2
  generalize w1.setCell ⟨w.heap.size, 9, none⟩ (.slice da x.ds.length dc) = U2 at *
  refine (sVers_any a.va a.vc x.vs _ HF.out.1 (HL.out.below P2.out.1).v).mono ?_
  rintro e w3 ⟨u, ys, rfl, OO, hy, hb⟩
  obtain ⟨va, vc, rfl, _⟩ := OO.asD hy
  have A3 := P2.out.2.1.below hb P2.out.2.1.lt
  have Z3 := P2.out.2.2.1.below hb P2.out.2.2.1.lt
  have W3 : Below w.heap.size w w3 := P2.out.1.trans (hb.mono P2.out.1.size)
  have D3 := row_below P2.out.2.2.2 hb (Nat.le_refl _)
  have nU : w.heap.size + 1 + 1 ≤ U2.heap.size := P2.out.2.2.1.lt
  have V3 := OO.mono (base' := (w.heap.size + 1 + 1)) nU
  have HY : Hid (ys.map XV.v = x.vs) := hy
  have A3b : Blk (w3.setCell ⟨w.heap.size, 12, none⟩ (.slice va x.vs.length vc)) w.heap.size #[.int .i64 x.kind, .int .i64 x.fr, .int .i64 x.to, .int .i64 x.call, .int .i64 x.key, .int .i64 x.t, .int .i64 x.s, .int .i64 x.val, .bool x.yes, .slice da x.ds.length dc, .int .i64 x.slot, .int .i64 x.ep, .slice va x.vs.length vc, .slice a.wa x.ws.length a.wc, .slice a.oa x.os.length a.oc] 41 := by
    have := A3.set 12 (.slice va x.vs.length vc)
    simpa using this
  have P3 := hidOf (And.intro (W3.setCell (p := ⟨w.heap.size, 12, none⟩) (by simp) (.slice va x.vs.length vc)) (And.intro A3b (And.intro (Z3.other (a := ⟨w.heap.size, 12, none⟩) (by simp) (.slice va x.vs.length vc)) (And.intro (rowSetB (Z := w.heap.size) (j := 12) (u := .slice va x.vs.length vc) D3 (by omega)) (V3.setB (Z := w.heap.size) (j := 12) (u := .slice va x.vs.length vc) (by omega))))))
  obtain ⟨q1, g1⟩ := A3.rules
  obtain ⟨q2, g2⟩ := A3b.rules
  clear hb OO hy A3 Z3 W3 D3 V3 A3b P2 nU
  go_wp2_with fail
  clear q1 g1 q2 g2
  generalize w3.setCell ⟨w.heap.size, 12, none⟩ (.slice va x.vs.length vc) = U3 at *
  refine (sVers_any a.wa a.wc x.ws _ HF.out.2.1 (HL.out.below P3.out.1).w).mono ?_
  rintro e w4 ⟨u, zs, rfl, OO, hz, hb⟩
  obtain ⟨wa, wc, rfl, _⟩ := OO.asD hz
  have A4 := P3.out.2.1.below hb P3.out.2.1.lt
  have Z4 := P3.out.2.2.1.below hb P3.out.2.2.1.lt
  have W4 : Below w.heap.size w w4 := P3.out.1.trans (hb.mono P3.out.1.size)
  have D4 := row_below P3.out.2.2.2.1 hb (Nat.le_refl _)
  have V4 := P3.out.2.2.2.2.below hb (Nat.le_refl _)
  have nU : w.heap.size + 1 + 1 ≤ U3.heap.size := P3.out.2.2.1.lt
  have X4 := OO.mono (base' := (w.heap.size + 1 + 1)) nU
  have HZ : Hid (zs.map XV.v = x.ws) := hz
  have A4b : Blk (w4.setCell ⟨w.heap.size, 13, none⟩ (.slice wa x.ws.length wc)) w.heap.size #[.int .i64 x.kind, .int .i64 x.fr, .int .i64 x.to, .int .i64 x.call, .int .i64 x.key, .int .i64 x.t, .int .i64 x.s, .int .i64 x.val, .bool x.yes, .slice da x.ds.length dc, .int .i64 x.slot, .int .i64 x.ep, .slice va x.vs.length vc, .slice wa x.ws.length wc, .slice a.oa x.os.length a.oc] 41 := by
    have := A4.set 13 (.slice wa x.ws.length wc)
    simpa using this
  obtain ⟨q1, g1⟩ := A4.rules
  obtain ⟨q2, g2⟩ := A4b.rules
  have E5 := empty_row (w4.setCell ⟨w.heap.size, 13, none⟩ (.slice wa x.ws.length wc)) 116 3
  have W4b := W4.setCell (p := ⟨w.heap.size, 13, none⟩) (by simp) (.slice wa x.ws.length wc)
  have n4b : (w4.setCell ⟨w.heap.size, 13, none⟩ (.slice wa x.ws.length wc)).heap.size = w4.heap.size := by simp
  rw [n4b] at E5
  have A5 := A4b.alloc (.cells #[] 116)
  obtain ⟨q3, g3⟩ := A5.rules
  have W5 := W4b.alloc W4b.size (.cells #[] 116)
  have L5 := (HL.out.below W5).o
  have hlo := HF.out.2.2
  have hz4 : w.heap.size < w4.heap.size := A4.lt
  have hz4b : w.heap.size + 1 < w4.heap.size := Z4.lt
  have P5 := hidOf (And.intro W5 (And.intro A5 (And.intro ((Z4.other (a := ⟨w.heap.size, 13, none⟩) (by simp) (.slice wa x.ws.length wc)).alloc (.cells #[] 116)) (And.intro ((show World.ownsRow _ _ _ _ _ _ _ from rowSetB (Z := w.heap.size) (j := 13) (u := .slice wa x.ws.length wc) D4 (by omega)).alloc (.cells #[] 116)) (And.intro ((V4.setB (Z := w.heap.size) (j := 13) (u := .slice wa x.ws.length wc) (by omega)).alloc (.cells #[] 116)) ((X4.setB (Z := w.heap.size) (j := 13) (u := .slice wa x.ws.length wc) (by omega)).alloc (.cells #[] 116)))))))
  have HS : Hid ((∀ b, (Value.slice da x.ds.length dc).ownBlock = some b → b < w4.heap.size) ∧ (∀ b, inV (.slice va x.vs.length vc) ys b → b < w4.heap.size) ∧ (∀ b, inV (.slice wa x.ws.length wc) zs b → b < w4.heap.size)) := ⟨fun b hb => (D4.lt b hb).2, fun b hb => (V4.lt hb).2, fun b hb => (X4.lt hb).2⟩
  clear hb OO hz A4 Z4 W4 D4 V4 X4 A4b P3 nU W4b A5 W5
  go_wp2_with (first | (at_builtin; refine wpList_append_deps _ rfl _ _ rfl w4.heap.size (.slice (some ⟨w4.heap.size, 0, none⟩) 0 0) rfl E5 a.oa a.oc x.os rfl L5 hlo (by simp) ?_
                        intro v' w6 hrow hg hloc
                        obtain ⟨oa, oc, rfl, _⟩ := row_slice hrow
                        obtain ⟨W5, A5, Z5, D5, V5, X5⟩ := P5.out
                        have o6 := only_grown hg
                        have A6 := A5.grown hg (by simp [Value.ownBlock] <;> omega)
                        have Z6 := Z5.grown hg (by simp [Value.ownBlock] <;> omega)
                        have W6 : Below w.heap.size w w6 := W5.grown hg W5.size (fun j hj => by simp [Value.ownBlock] at hj; omega)
                        have D6 := o6.row D5 (fun j hj hs => by simp [Value.ownBlock] at hs; have := HS.out.1 j hj; omega)
                        have V6 := o6.ownV V5 (fun j hj hs => by simp [Value.ownBlock] at hs; have := HS.out.2.1 j hj; omega)
                        have X6 := o6.ownV X5 (fun j hj hs => by simp [Value.ownBlock] at hs; have := HS.out.2.2 j hj; omega)
                        have A6b : Blk (w6.setCell ⟨w.heap.size, 14, none⟩ (.slice oa x.os.length oc)) w.heap.size #[.int .i64 x.kind, .int .i64 x.fr, .int .i64 x.to, .int .i64 x.call, .int .i64 x.key, .int .i64 x.t, .int .i64 x.s, .int .i64 x.val, .bool x.yes, .slice da x.ds.length dc, .int .i64 x.slot, .int .i64 x.ep, .slice va x.vs.length vc, .slice wa x.ws.length wc, .slice oa x.os.length oc] 41 := by
                          have := A6.set 14 (.slice oa x.os.length oc)
                          simpa using this
                        have Z6b := Z6.other (a := ⟨w.heap.size, 14, none⟩) (by simp) (.slice oa x.os.length oc)
                        have O6 : OwnH (w6.setCell ⟨w.heap.size, 14, none⟩ (.slice oa x.os.length oc)) (w.heap.size + 1 + 1) x ⟨da, dc, va, vc, wa, wc, oa, oc⟩ ys zs := ⟨rowSetB (Z := w.heap.size) (j := 14) (u := .slice oa x.os.length oc) D6 (by omega), V6.setB (Z := w.heap.size) (j := 14) (u := .slice oa x.os.length oc) (by omega), X6.setB (Z := w.heap.size) (j := 14) (u := .slice oa x.os.length oc) (by omega), rowSetB (Z := w.heap.size) (j := 14) (u := .slice oa x.os.length oc) (row_mono hrow (by omega)) (by omega), HY.out, HZ.out⟩
                        have P6 := hidOf (And.intro (W6.setCell (p := ⟨w.heap.size, 14, none⟩) (by simp) (.slice oa x.os.length oc)) (And.intro Z6b O6))
                        clear hg hloc hrow o6 W5 A5 Z5 D5 V5 X5 Z6 W6 D6 V6 X6 O6 P5 HS q1 g1 q2 g2 q3 g3 E5 L5
                        obtain ⟨q1, g1⟩ := A6.rules
                        obtain ⟨q2, g2⟩ := A6b.rules
                        obtain ⟨q4, g4⟩ := Z6b.rules
                        clear A6 A6b Z6b))
  obtain ⟨W6, Z6b, O6⟩ := P6.out
  refine bodyPost_ret (v := wordV x ⟨da, dc, va, vc, wa, wc, oa, oc⟩) ?_ rfl ⟨_, ys, zs, rfl, ?_, fill15_below W6 (by omega)⟩
  · refine Blk.gen (B := w.heap.size + 1) (vs := #[.int .i64 x.kind, .int .i64 x.fr, .int .i64 x.to, .int .i64 x.call, .int .i64 x.key, .int .i64 x.t, .int .i64 x.s, .int .i64 x.val, .bool x.yes, .slice da x.ds.length dc, .int .i64 x.slot, .int .i64 x.ep, .slice va x.vs.length vc, .slice wa x.ws.length wc, .slice oa x.os.length oc]) (T := 41) ?_ (P := fun W => (results Tryz.f150 _).run Tryz.prog W = .ok _ W) ?_
    · exact Blk.fill15 Z6b
    intro W hW
    obtain ⟨k, f⟩ := hW.rules
    simp [results, Tryz.results150, go_sem, k]
  · exact OwnH.mono ⟨rowFill15 O6.d (by omega), O6.v.fill15 (by omega), O6.w.fill15 (by omega), rowFill15 O6.o (by omega), O6.hy, O6.hz⟩ (by omega)
end Go.Proofs.YtpjidogilofppaaGreat

/- The specification's words anew, and its searches among debts. -/
namespace Go.Proofs.YtpjidogilofppaaGreat
open Go.ChangeShapes Go.WideShapes Go.ChangeAt Go.RowKit

set_option maxHeartbeats 4000000 in
set_option maxRecDepth 20000 in
theorem sWords_any (a : Option Addr) (cap : Nat) (xs : List Wd) (w : World) (hn : xs.length ≤ 100000) (hl : ∀ x ∈ xs, LenL x) (h : Wds w a xs) :
    Calls Tryz.prog 75 #[.slice a xs.length cap] w fun e w' => ∃ u Xs, e = .returned u ∧ HalfWs w' w.heap.size u Xs ∧ Xs.map XW.x = xs ∧ Below w.heap.size w w' := by
  have O0 := HalfWs.empty w w.heap.size (Nat.le_refl _)
  have b0 : Below w.heap.size w (w.alloc (.cells #[] 41)) := (Below.refl _ _).alloc (Nat.le_refl _) _
  have HLn := hidOf hl
  have HW := hidOf h
  have hnn : (xs.length : Int) ≤ 100000 := by omega
  clear hl h
  go_enter Tryz.func75, Tryz.ntmps75
  go_wp2_with fail
  go_loopw [3, 4] (fun u i wr => ∃ (k : Nat) (Xs : List XW), k ≤ xs.length ∧ i = .int .i64 k ∧ HalfWs wr w.heap.size u Xs ∧ Hid (Xs.map XW.x = xs.take k) ∧ Below w.heap.size w wr) (fun _ i _ => xs.length - (intOf i).toNat)
  case atStart => exact ⟨0, [], by omega, rfl, O0, rfl, b0⟩
  case round =>
    obtain ⟨k, Xs, hk, rfl, hT, HX, hBel⟩ := hrel
    clear O0 b0
    by_cases hlt : k < xs.length
    · have HN := hidOf (List.take_succ_eq_append_getElem hlt)
      have HLk := hidOf (HLn.out xs[k] (List.getElem_mem hlt))
      have HLx : Hid (Xs.length ≤ 100000) := by
        show _ ≤ _
        have := congrArg List.length HX.out
        simp only [List.length_map, List.length_take] at this
        omega
      obtain ⟨b, o, c, rfl, hbb, hv⟩ := (HW.out.below hBel).at hlt
      generalize xs[k] = x at *
      obtain ⟨c0, c1, c2, c3, c4, c5, c6, c7, c8, c9, c10, c11, c12, c13, c14, hL⟩ := hv
      have HL := hidOf hL
      have PK := hidOf (And.intro hT hBel)
      clear hL hT hBel hbb
      go_wp2_with fail
      clear c0 c1 c2 c3 c4 c5 c6 c7 c8 c9 c10 c11 c12 c13 c14
      refine (sCopyW_any x c _ HLk.out HL.out).mono ?_
      rintro e w2 ⟨c', ys, zs, rfl, hO, hb2⟩
      have ba : Below w2.heap.size w2 (w2.alloc (.cells (wordC x c') 41)) := (Below.refl _ _).alloc (Nat.le_refl _) _
      have bb := hb2.trans (ba.mono hb2.size)
      have hN := Blk.new w2 (wordC x c') 41
      have hX1 : OwnXH (w2.alloc (.cells (wordC x c') 41)) w.heap.size ⟨x, c', ys, zs⟩ := (hO.mono PK.out.2.size).below ba (Nat.le_refl _)
      have hT1 := PK.out.1.below bb (Nat.le_refl _)
      have hB1 := PK.out.2.trans (bb.mono PK.out.2.size)
      have P1 := hidOf (And.intro hN (And.intro hX1 (And.intro hT1 hB1)))
      clear ba bb hN hX1 hT1 hB1 PK hO hb2
      go_wp2_with (first | (at_builtin
                            obtain ⟨hN, hX1, hT1, hB1⟩ := P1.out
                            refine wpList_append_half _ rfl _ _ rfl w.heap.size _ Xs rfl hT1 ⟨x, c', ys, zs⟩ w2.heap.size rfl hN hX1 (by have := HLx.out; omega) hB1.size ?_
                            intro v' w3 hT3 hg3
                            have hB3 : Below w.heap.size w w3 := hB1.grown hg3 hB1.size (fun j hj => (hT1.row.lt j hj).1)
                            clear hN hX1 hT1 hB1 hg3 P1))
      go_roundw
      case rel => exact ⟨k + 1, _, by omega, by go_num, hT3, by show List.map _ _ = _; rw [HN.out, List.map_append, HX.out]; rfl, hB3⟩
      case measure => simp [intOf]; omega
    · have hk2 : k = xs.length := by omega
      subst hk2
      go_wp2_with fail
      go_ret
      exact ⟨_, Xs, rfl, hT, by rw [HX.out, List.take_length], hBel⟩

set_option maxHeartbeats 4000000 in
theorem sDep_any (a : Option Addr) (cap : Nat) (ds : List D) (d : D) (w : World) (hn : ds.length ≤ 1000) (h : Deps w a ds) :
    Calls Tryz.prog 82 #[.slice a ds.length cap, depV d.k d.t d.s] w fun e w' => ∃ r : Int, e = .returned (.int .i64 r) ∧ (0 ≤ r ∧ r ≤ 1000 ∧ hasM ds d = true ∨ r = -1 ∧ hasM ds d = false) ∧ Below w.heap.size w w' := by
  have b0 : Below w.heap.size w (w.alloc (.cells #[.int .i64 d.k, .int .i64 d.t, .int .i64 d.s] 116)) := (Below.refl _ _).alloc (Nat.le_refl _) _
  have D0 := Blk.new w #[.int .i64 d.k, .int .i64 d.t, .int .i64 d.s] 116
  have HD := hidOf (h.below b0)
  clear h
  go_enter Tryz.func82, Tryz.ntmps82
  go_wp2_with fail
  generalize hZ : w.heap.size = Z at *
  generalize w.alloc (.cells #[.int .i64 d.k, .int .i64 d.t, .int .i64 d.s] 116) = w0 at *
  go_loopw [5] (fun i wr => ∃ k : Nat, k ≤ ds.length ∧ i = .int .i64 k ∧ Hid (∀ j, (hj : j < ds.length) → j < k → ds[j] ≠ d) ∧ Below w0.heap.size w0 wr) (fun i _ => ds.length - (intOf i).toNat)
  case atStart => exact ⟨0, by omega, rfl, fun j hj h => absurd h (Nat.not_lt_zero _), Below.refl _ _⟩
  case round =>
    obtain ⟨k, hk, rfl, HNo, hBel⟩ := hrel
    by_cases hlt : k < ds.length
    · obtain ⟨b, o, rfl, hbb, c0, c1, c2⟩ := (HD.out.below hBel).at hlt
      have HM : Hid (ds[k] = d → hasM ds d = true) := fun e => hasM_mem.2 (e ▸ List.getElem_mem hlt)
      have HN2 : Hid (ds[k] ≠ d → ∀ j, (hj : j < ds.length) → j < k + 1 → ds[j] ≠ d) := by
        show _ → _
        intro hne j hj hjk
        by_cases e : j = k
        · subst e; exact hne
        · exact HNo.out j hj (by omega)
      generalize ds[k] = x at *
      have r0 := since_cell c0
      have r1 := since_cell c1
      have r2 := since_cell c2
      have rz := host_rule (D0.below hBel D0.lt)
      have ne := since_ne wr
      by_cases he : x = d
      · subst he
        have HT := hidOf (HM.out rfl)
        clear HM HN2 c0 c1 c2
        go_wp2_with fail
        refine wp_region_class (S := Since wr) (by kernel_rfl) (by kernel_rfl) (Below.refl _ _).drew ?_
        repeat (go_big_quiet_step (fail))
        refine wpQuiet_nil ?_
        rintro W ⟨n, hnW⟩
        have R2 := n.h
        rw [← hnW] at R2
        have hB2 : Below w0.heap.size w0 W := hBel.trans (R2.mono hBel.size)
        clear R2 r0 r1 r2 rz ne hnW n hBel
        go_wp2_with fail
        go_ret
        exact ⟨(k : Int), rfl, .inl ⟨by omega, by omega, HT.out⟩, (by rw [hZ]; exact b0.trans (hB2.mono (by have := b0.size; omega)))⟩
      · have hq : ¬ (x.k = d.k ∧ x.t = d.t ∧ x.s = d.s) := by
          rintro ⟨e1, e2, e3⟩
          exact he (by cases x; cases d; simp only at e1 e2 e3; subst e1 e2 e3; rfl)
        have HN3 := hidOf (HN2.out he)
        clear HM HN2 c0 c1 c2 he
        have h3 : ¬ x.k = d.k ∨ (x.k = d.k ∧ ¬ x.t = d.t) ∨ (x.k = d.k ∧ x.t = d.t ∧ ¬ x.s = d.s) := by omega
        clear hq
        rcases h3 with h1 | ⟨h1, h2⟩ | ⟨h1, h2, h3⟩
        · skip
          go_wp2_with fail
          refine wp_region_class (S := Since wr) (by kernel_rfl) (by kernel_rfl) (Below.refl _ _).drew ?_
          repeat (go_big_quiet_step (fail))
          refine wpQuiet_nil ?_
          rintro W ⟨n, hnW⟩
          have R2 := n.h
          rw [← hnW] at R2
          have hB2 : Below w0.heap.size w0 W := hBel.trans (R2.mono hBel.size)
          clear R2 r0 r1 r2 rz ne hnW n hBel
          go_wp2_with fail
          go_roundw
          case rel => exact ⟨k + 1, by omega, by go_num, HN3.out, hB2⟩
          case measure => simp [intOf]; omega
        · skip
          go_wp2_with fail
          refine wp_region_class (S := Since wr) (by kernel_rfl) (by kernel_rfl) (Below.refl _ _).drew ?_
          repeat (go_big_quiet_step (fail))
          refine wpQuiet_nil ?_
          rintro W ⟨n, hnW⟩
          have R2 := n.h
          rw [← hnW] at R2
          have hB2 : Below w0.heap.size w0 W := hBel.trans (R2.mono hBel.size)
          clear R2 r0 r1 r2 rz ne hnW n hBel
          go_wp2_with fail
          go_roundw
          case rel => exact ⟨k + 1, by omega, by go_num, HN3.out, hB2⟩
          case measure => simp [intOf]; omega
        · skip
          go_wp2_with fail
          refine wp_region_class (S := Since wr) (by kernel_rfl) (by kernel_rfl) (Below.refl _ _).drew ?_
          repeat (go_big_quiet_step (fail))
          refine wpQuiet_nil ?_
          rintro W ⟨n, hnW⟩
          have R2 := n.h
          rw [← hnW] at R2
          have hB2 : Below w0.heap.size w0 W := hBel.trans (R2.mono hBel.size)
          clear R2 r0 r1 r2 rz ne hnW n hBel
          go_wp2_with fail
          go_roundw
          case rel => exact ⟨k + 1, by omega, by go_num, HN3.out, hB2⟩
          case measure => simp [intOf]; omega
    · have hk2 : k = ds.length := by omega
      subst hk2
      have HT : Hid (hasM ds d = false) := by
        show _ = _
        cases hm : hasM ds d
        · rfl
        · obtain ⟨j, hj, e⟩ := List.getElem_of_mem (hasM_mem.1 hm)
          exact absurd e (HNo.out j hj hj)
      go_wp2_with fail
      go_ret
      exact ⟨-1, rfl, .inr ⟨rfl, HT.out⟩, (by rw [hZ]; exact b0.trans (hBel.mono (by have := b0.size; omega)))⟩

set_option maxHeartbeats 4000000 in
set_option maxRecDepth 20000 in
theorem sSeen_any (x : Sv) (a : Sa) (d : D) (w : World) (hl : LenS x) (h : InS w x a) (hc : chainB x.vs = true) (hk : x.kn.length ≤ 1000) :
    Calls Tryz.prog 81 #[servV x a, depV d.k d.t d.s] w fun e w' => e = .returned (.bool (seesB x.vs x.kn d)) ∧ Below w.heap.size w w' := by
  have b0 : Below w.heap.size w ((w.alloc (.cells #[.int .i64 x.site, .bool x.up, .slice a.la x.sl.length a.lc, .slice a.va x.vs.length a.vc, .slice a.wa x.ws.length a.wc, .slice a.oa x.os.length a.oc, .slice a.ka x.kn.length a.kc] 32)).alloc (.cells #[.int .i64 d.k, .int .i64 d.t, .int .i64 d.s] 116)) := ((Below.refl _ _).alloc (Nat.le_refl _) _).alloc (by simp) _
  have S0 : Blk ((w.alloc (.cells #[.int .i64 x.site, .bool x.up, .slice a.la x.sl.length a.lc, .slice a.va x.vs.length a.vc, .slice a.wa x.ws.length a.wc, .slice a.oa x.os.length a.oc, .slice a.ka x.kn.length a.kc] 32)).alloc (.cells #[.int .i64 d.k, .int .i64 d.t, .int .i64 d.s] 116)) w.heap.size #[.int .i64 x.site, .bool x.up, .slice a.la x.sl.length a.lc, .slice a.va x.vs.length a.vc, .slice a.wa x.ws.length a.wc, .slice a.oa x.os.length a.oc, .slice a.ka x.kn.length a.kc] 32 := (Blk.new w _ _).alloc _
  have D0 : Blk ((w.alloc (.cells #[.int .i64 x.site, .bool x.up, .slice a.la x.sl.length a.lc, .slice a.va x.vs.length a.vc, .slice a.wa x.ws.length a.wc, .slice a.oa x.os.length a.oc, .slice a.ka x.kn.length a.kc] 32)).alloc (.cells #[.int .i64 d.k, .int .i64 d.t, .int .i64 d.s] 116)) (w.heap.size + 1) #[.int .i64 d.k, .int .i64 d.t, .int .i64 d.s] 116 := by have := Blk.new (w.alloc (.cells #[.int .i64 x.site, .bool x.up, .slice a.la x.sl.length a.lc, .slice a.va x.vs.length a.vc, .slice a.wa x.ws.length a.wc, .slice a.oa x.os.length a.oc, .slice a.ka x.kn.length a.kc] 32)) #[.int .i64 d.k, .int .i64 d.t, .int .i64 d.s] 116; simpa using this
  have hA := sAtV_any a.va a.vc x.vs d.k d.t d.s _ hl.v (h.below b0).v
  have HK := hidOf (h.below b0).k
  have HD := hidOf (fun W h => sDep_any a.ka a.kc x.kn d W hk h)
  have HQ : Hid (seesB x.vs x.kn d = ((atA x.vs d.k d.t d.s).isSome || hasM x.kn d)) := by
    show seesB x.vs x.kn d = _
    unfold seesB hasB hasM hasB
    rw [atA_yes hc]
  generalize (atA x.vs d.k d.t d.s).isSome = r at *
  generalize hasM x.kn d = r2 at *
  clear h hc hl hk
  obtain ⟨q1, g1⟩ := S0.rules
  obtain ⟨q2, g2⟩ := D0.rules
  have HB := hidOf (And.intro b0 (And.intro S0 D0))
  clear b0 S0 D0
  go_enter Tryz.func81, Tryz.ntmps81
  go_wp2_with fail
  clear q1 g1 q2 g2
  generalize hZ : w.heap.size + 1 = Z1 at *
  generalize hU : ((w.alloc (.cells #[.int .i64 x.site, .bool x.up, .slice a.la x.sl.length a.lc, .slice a.va x.vs.length a.vc, .slice a.wa x.ws.length a.wc, .slice a.oa x.os.length a.oc, .slice a.ka x.kn.length a.kc] 32)).alloc (.cells #[.int .i64 d.k, .int .i64 d.t, .int .i64 d.s] 116)) = u0 at *
  clear hU hZ
  refine hA.mono ?_
  rintro e w1 ⟨u, pa, pc, _, rfl, _, hb1⟩
  have ba : Below w1.heap.size w1 (w1.alloc (.cells #[.int .i64 u.k, .int .i64 u.t, .int .i64 u.s, .int .i64 u.val, .int .i64 u.cl, .int .i64 u.ca, .slice pa u.ds.length pc] 107)) := (Below.refl _ _).alloc (Nat.le_refl _) _
  have bb := hb1.trans (ba.mono hb1.size)
  have S1 := HB.out.2.1.below bb HB.out.2.1.lt
  have D1 := HB.out.2.2.below bb HB.out.2.2.lt
  have HK1 := hidOf (HK.out.below bb)
  have HB1 := hidOf (HB.out.1.trans (bb.mono HB.out.1.size))
  obtain ⟨q1, g1⟩ := S1.rules
  obtain ⟨q2, g2⟩ := D1.rules
  clear hA hb1 ba bb S1 D1
  cases r
  · go_wp2_with fail
    refine (HD.out _ HK1.out).mono ?_
    rintro e w2 ⟨rr, rfl, hr, hb2⟩
    have HF := hidOf (HB1.out.trans (hb2.mono HB1.out.size))
    clear hb2 q1 g1 q2 g2
    rcases hr with ⟨r0, r9, hm⟩ | ⟨rfl, hm⟩
    · have d1 : decide (0 ≤ rr) = true := by simpa using r0
      have hnr : ¬ rr < 0 := by omega
      go_wp2_with fail
      go_ret
      exact ⟨by rw [HQ.out, hm]; simp, HF.out⟩
    · go_wp2_with fail
      go_ret
      exact ⟨by rw [HQ.out, hm]; rfl, HF.out⟩
  · go_wp2_with fail
    go_ret
    exact ⟨by rw [HQ.out]; rfl, HB1.out⟩
end Go.Proofs.YtpjidogilofppaaGreat

/- What the specification's ServerTend says: plain facts. -/
namespace Go.Proofs.YtpjidogilofppaaGreat
open Go.ChangeShapes Go.WideShapes Go.ChangeAt Go.RowKit

theorem sBulkN_any (x : Sv) (a : Sa) (t1 t2 t3 : Sl) (n : Nat) (hn : n < x.sl.length) (w : World) (hl : LenS x) (h : InS w x a) (he : x.sl = [t1, t2, t3]) (s0 : 0 ≤ x.site) (s3 : x.site ≤ 3) :
    Calls Tryz.prog 61 #[servV x a, .int .i64 n] w fun e w' => ∃ c ys zs, e = .returned (wordV (parcelX x.site n (x.sl[n]).ep x.vs x.ws x.os) c) ∧ OwnH w' w.heap.size (parcelX x.site n (x.sl[n]).ep x.vs x.ws x.os) c ys zs ∧ Below w.heap.size w w' := by
  have h3 : x.sl.length = 3 := by rw [he]; rfl
  have hc : n = 0 ∨ n = 1 ∨ n = 2 := by omega
  rcases hc with rfl | rfl | rfl
  · have e : x.sl[0] = t1 := by simp [he]
    rw [e]; exact sBulk0_any x a t1 t2 t3 w hl h he s0 s3
  · have e : x.sl[1] = t2 := by simp [he]
    rw [e]; exact sBulk1_any x a t1 t2 t3 w hl h he s0 s3
  · have e : x.sl[2] = t3 := by simp [he]
    rw [e]; exact sBulk2_any x a t1 t2 t3 w hl h he s0 s3
theorem preP_step (x : Sv) (t1 t2 t3 : Sl) (he : x.sl = [t1, t2, t3]) (n : Nat) (hn : n < x.sl.length) : preP x.site t1 t2 t3 x.vs x.ws x.os (n + 1) = preP x.site t1 t2 t3 x.vs x.ws x.os n ++ partP x.site n x.sl[n] x.vs x.ws x.os := by
  have h3 : x.sl.length = 3 := by rw [he]; rfl
  have hc : n = 0 ∨ n = 1 ∨ n = 2 := by omega
  rcases hc with rfl | rfl | rfl
  · have e : x.sl[0] = t1 := by simp [he]
    rw [e]; simp [preP]
  · have e : x.sl[1] = t2 := by simp [he]
    rw [e]; simp [preP]
  · have e : x.sl[2] = t3 := by simp [he]
    rw [e]; simp [preP]
def repF (site : Int) (own : Bool) (v : V) : List Wd := if own = true then [repX site (2 - 2 * sideOf site) v, repX site (2 - 2 * sideOf site + 1) v] else []
theorem repD_four (site : Int) (t1 t2 t3 : Sl) (vs : List V) (d : D) (s0 : 0 ≤ site) (s3 : site ≤ 3) : repD site t1 t2 t3 vs d 4 = repF site (ownsB [t1, t2, t3] (slotOf d.k)) (repV vs d) := by
  have hc : site = 0 ∨ site = 1 ∨ site = 2 ∨ site = 3 := by omega
  unfold repF
  simp only [repD, repAt]
  rcases ownsB [t1, t2, t3] (slotOf d.k) with _ | _
  · simp
  · rcases hc with rfl | rfl | rfl | rfl <;> simp [sideOf]
theorem side_bounds {site : Int} (s0 : 0 ≤ site) (s3 : site ≤ 3) : 0 ≤ sideOf site ∧ sideOf site ≤ 1 := by unfold sideOf; split <;> omega
theorem slot_nat {k : Int} (h0 : 0 ≤ k) (h5 : k ≤ 5) : ∃ m : Nat, slotOf k = (m : Int) ∧ m < 3 := by
  have hc : k = 0 ∨ k = 1 ∨ k = 2 ∨ k = 3 ∨ k = 4 ∨ k = 5 := by omega
  rcases hc with rfl | rfl | rfl | rfl | rfl | rfl
  · exact ⟨0, rfl, by omega⟩
  · exact ⟨0, rfl, by omega⟩
  · exact ⟨1, rfl, by omega⟩
  · exact ⟨1, rfl, by omega⟩
  · exact ⟨2, rfl, by omega⟩
  · exact ⟨2, rfl, by omega⟩
theorem owns_nat (x : Sv) (t1 t2 t3 : Sl) (he : x.sl = [t1, t2, t3]) (m : Nat) (hm : m < x.sl.length) : ownsB [t1, t2, t3] (m : Int) = (x.sl[m].st == 1) := by
  have h3 : x.sl.length = 3 := by rw [he]; rfl
  have hc : m = 0 ∨ m = 1 ∨ m = 2 := by omega
  rcases hc with rfl | rfl | rfl <;> simp [ownsB, standAt, he]
theorem rep_key {x : Sv} (h : servB x = true) {d : D} (hd : d ∈ x.os) : (repV x.vs d).k = d.k := by
  obtain ⟨hc, _⟩ := serv_lists h
  have ho : owedB x = true := by unfold servB at h; simp only [Bool.and_eq_true] at h; exact h.2
  unfold owedB at ho
  rw [List.all_eq_true] at ho
  have h1 := ho d hd
  unfold hasB at h1
  unfold repV
  rw [atA_yes hc]
  rcases hq : cAt x.vs d.k d.t d.s with _ | v
  · rw [hq] at h1; cases h1
  · exact (cAt_mem hq).2.1
end Go.Proofs.YtpjidogilofppaaGreat

/- What a server says from time to time is small. -/
namespace Go.Proofs.YtpjidogilofppaaGreat
open Go.ChangeShapes Go.WideShapes Go.ChangeAt Go.RowKit

structure SmW (X : Wd) : Prop where
  d : X.ds.length ≤ 80
  v : X.vs.length ≤ 80
  w : X.ws.length ≤ 80
  o : X.os.length ≤ 80
  dv : ∀ v ∈ X.vs, v.ds.length ≤ 6
  dw : ∀ v ∈ X.ws, v.ds.length ≤ 6
theorem SmW.fit {X : Wd} (h : SmW X) : FitWd X := ⟨by have := h.d; omega, by have := h.v; omega, by have := h.w; omega, by have := h.o; omega, fun v hv => by have := h.dv v hv; omega, fun v hv => by have := h.dw v hv; omega⟩
theorem SmW.len {X : Wd} (h : SmW X) : LenL X := ⟨by have := h.d; omega, by have := h.v; omega, by have := h.w; omega, by have := h.o; omega⟩
theorem tot_six {vs : List V} (h : ∀ v ∈ vs, v.ds.length ≤ 6) : tot vs ≤ 6 * vs.length := by
  induction vs with
  | nil => simp [tot]
  | cons v vs ih =>
    have h1 := h v (by simp)
    have h2 := ih (fun v hv => h v (by simp [hv]))
    rw [tot_cons, List.length_cons]; omega
theorem SmW.ends {X : Wd} (h : SmW X) (k : Int) : endWf k X ≤ k + 5000 := by
  have h1 := tot_six h.dv
  have h2 := tot_six h.dw
  have h3 := h.d
  have h4 := h.v
  have h5 := h.w
  have h6 := h.o
  unfold endWf endV
  omega
theorem ends_small {xs : List Wd} (h : ∀ X ∈ xs, SmW X) : ∀ k, endWs k xs ≤ k + 5000 * xs.length := by
  induction xs with
  | nil => intro k; simp [endWs]
  | cons x xs ih =>
    intro k
    have h1 := (h x (by simp)).ends k
    have h2 := ih (fun X hX => h X (by simp [hX])) (endWf k x)
    simp only [endWs, List.length_cons]; omega
theorem sm_parcel {x : Sv} (h : servB x = true) (n e : Int) : SmW (parcelX x.site n e x.vs x.ws x.os) := by
  obtain ⟨hc, hw, ho, _⟩ := serv_lists h
  have e1 := (slotL_yes hc n).1
  have e2 := (slotL_yes hw n).1
  refine ⟨by simp [parcelX], ?_, ?_, ?_, ?_, ?_⟩
  · show (slotL x.vs n).length ≤ 80
    rw [e1]; exact Nat.le_trans (List.length_filter_le _ _) (chainB_iff.1 hc).1
  · show (slotL x.ws n).length ≤ 80
    rw [e2]; exact Nat.le_trans (List.length_filter_le _ _) (chainB_iff.1 hw).1
  · show (owesL x.os n).length ≤ 80
    exact Nat.le_trans (List.length_filter_le _ _) (owesB_iff.1 ho).1
  · intro v hv
    have hv' : v ∈ slotL x.vs n := hv
    rw [e1] at hv'
    exact chain_deps hc v (List.mem_filter.1 hv').1
  · intro v hv
    have hv' : v ∈ slotL x.ws n := hv
    rw [e2] at hv'
    exact chain_deps hw v (List.mem_filter.1 hv').1
theorem sm_part {x : Sv} (h : servB x = true) (n : Int) (t : Sl) : ∀ X ∈ partP x.site n t x.vs x.ws x.os, SmW X := by
  intro X hX
  unfold partP at hX
  split at hX
  · simp at hX; subst hX; exact sm_parcel h _ _
  · cases hX
theorem sm_rep {x : Sv} (h : servB x = true) (t1 t2 t3 : Sl) (d : D) (j : Nat) : ∀ X ∈ repD x.site t1 t2 t3 x.vs d j, SmW X := by
  induction j with
  | zero => intro X hX; simp [repD] at hX
  | succ j ih =>
    intro X hX
    simp only [repD] at hX
    rcases List.mem_append.1 hX with hX | hX
    · exact ih X hX
    · unfold repAt at hX
      split at hX
      · simp at hX; subst hX
        have := repV_len (serv_lists h).1 d
        exact ⟨by simp [repX], by simp [repX], by simp [repX], by simp [repX], fun v hv => by simp [repX] at hv; subst hv; exact this, fun v hv => by simp [repX] at hv⟩
      · cases hX
theorem sm_tend {x : Sv} (h : servB x = true) (t1 t2 t3 : Sl) : ∀ X ∈ tendS x t1 t2 t3, SmW X := by
  intro X hX
  unfold tendS at hX
  rcases List.mem_append.1 hX with hX | hX
  · rcases List.mem_append.1 hX with hX | hX
    · simp only [preP] at hX
      rcases List.mem_append.1 hX with hX | hX
      · rcases List.mem_append.1 hX with hX | hX
        · exact sm_part h _ _ X hX
        · exact sm_part h _ _ X hX
      · exact sm_part h _ _ X hX
    · unfold repL at hX
      obtain ⟨d, _, hX⟩ := List.mem_flatMap.1 hX
      exact sm_rep h t1 t2 t3 d 4 X hX
  · obtain ⟨d, _, rfl⟩ := List.mem_map.1 hX
    exact ⟨by simp [checkX], by simp [checkX], by simp [checkX], by simp [checkX], fun v hv => by simp [checkX] at hv, fun v hv => by simp [checkX] at hv⟩
theorem tend_len {x : Sv} (h : servB x = true) (t1 t2 t3 : Sl) : (tendS x t1 t2 t3).length ≤ 810 := by
  obtain ⟨hc, hw, ho, _⟩ := serv_lists h
  have h1 := preP_len x.site t1 t2 t3 x.vs x.ws x.os 3
  have h2 := repL_len x.site t1 t2 t3 x.vs x.os
  have h3 := ckL_len x.vs x.kn (chain_deps hw)
  have h4 := (owesB_iff.1 ho).1
  have h5 := (chainB_iff.1 hw).1
  unfold tendS
  simp only [List.length_append, List.length_map]
  omega
/-- All that the exact law asks of them. -/
theorem tendL_small (x : Sv) : (∀ X ∈ tendL x, SmW X) ∧ (tendL x).length ≤ 810 := by
  rcases hs : servB x with _ | _
  · rw [tendL_no hs]; exact ⟨fun X hX => (by cases hX), by simp⟩
  rcases hu : x.up with _ | _
  · rw [tendL_down hu]; exact ⟨fun X hX => (by cases hX), by simp⟩
  obtain ⟨t1, t2, t3, he⟩ := slotsB_three (xs := x.sl) (by unfold servB at hs; simp at hs; exact hs.1.1.1.1.1.1.1)
  rw [tendL_yes hs hu he]
  exact ⟨sm_tend hs t1 t2 t3, tend_len hs t1 t2 t3⟩
end Go.Proofs.YtpjidogilofppaaGreat

/- The specification's ServerTend. -/
namespace Go.Proofs.YtpjidogilofppaaGreat
open Go.ChangeShapes Go.WideShapes Go.ChangeAt Go.RowKit

theorem BelA {wr w : World} (h : Below wr.heap.size wr w) (o : Obj) : Below wr.heap.size wr (w.alloc o) := h.alloc h.size o
theorem BelS {wr w : World} {Z j : Nat} (h : Below wr.heap.size wr w) (hZ : wr.heap.size ≤ Z) (v : Value) : Below wr.heap.size wr (w.setCell ⟨Z, j, none⟩ v) := h.setCell hZ v
theorem BelT {wr w w' : World} (h : Below wr.heap.size wr w) (k : Below w.heap.size w w') : Below wr.heap.size wr w' := h.trans (k.mono h.size)
theorem BelD {wr w : World} (h : Below wr.heap.size wr w) : Below wr.heap.size wr w.drew := h.drew
theorem OwnH.ltB {w : World} {base : Nat} {x : Wd} {a : Wa} {ys zs : List XV} (h : OwnH w base x a ys zs) {j : Nat} (hj : inWd x a ys zs j) : j < w.heap.size := by
  rcases hj with hj | hj | hj | hj
  · exact (h.d.lt j hj).2
  · exact (h.v.lt hj).2
  · exact (h.w.lt hj).2
  · exact (h.o.lt j hj).2
theorem wpList_append_depT (w : World) {ops : Array Oper} {rest : List Oper} {o : Oper} {a : Act} {Q : Exit → Act → World → Prop} (hgd : o.guard = none) (s x : Operand)
    (ho : o.op = .call { callee := .builtin .append, args := #[s, x], argTypes := #[30, 30] })
    (base : Nat) (v : Value) (ds : List D) (hs : a.eval s = v) (hT : RowD w base v ds) (d : D) (g : Nat) (hx : a.eval x = .slice (some ⟨g, 0, none⟩) 1 1)
    (hB : Blk w g #[.int .i64 d.k, .int .i64 d.t, .int .i64 d.s] 116) (hn : ds.length ≤ 1000000) (hb : base ≤ w.heap.size)
    (h : ∀ v' w', RowD w' base v' (ds ++ [d]) → w.grownBy w' v.ownBlock → wpList Tryz.prog ops Q rest (a.put o.dst v') w') : wpList Tryz.prog ops Q (o :: rest) a w := by
  obtain ⟨i0, hi, hz0, hz1, hz2⟩ := info_parts infoDep
  exact wpList_append_own_at w hgd s x 30 ho base 116 i0 (.agg #[.int .i64 0, .int .i64 0, .int .i64 0]) 3 24 Tryz.underlying30 hi hz0 hz1 hz2 rfl (by decide) v ds.length (flat3 ds) hs hT ⟨g, 0, none⟩ 1 1 (flat3 [d]) hx rfl (cells3D hB) (flat3_one _) (by unfold maxLen; omega) (by omega) hb fun v' w' h2 h3 _ _ => h v' w' (by show World.ownsRow _ _ _ _ _ _ _; rw [flat3_append, List.length_append]; exact h2) h3
/-- What the third loop knows. -/
structure CkT (site : Int) (base : List Wd) (out : List D) (Xs : List XW) (Zc : Nat) : Prop where
  m : Xs.map XW.x = base ++ out.map (checkX site)
  n : ∀ X ∈ Xs, ∀ b, inX X b → b < Zc

set_option maxHeartbeats 100000000 in
set_option maxRecDepth 20000 in
theorem sTend_any (x : Sv) (a : Sa) (w : World) (hl : LenS x) (h : InS w x a) : Calls Tryz.prog 28 #[servV x a] w fun e w' => ∃ u Xs, e = .returned u ∧ HalfWs w' w.heap.size u Xs ∧ Xs.map XW.x = tendL x ∧ Below w.heap.size w w' := by
  obtain ⟨la, lc, va, vc, wa, wc, oa, oc, ka, kc⟩ := a
  have b0 : Below w.heap.size w ((w.alloc (.cells #[.int .i64 x.site, .bool x.up, .slice la x.sl.length lc, .slice va x.vs.length vc, .slice wa x.ws.length wc, .slice oa x.os.length oc, .slice ka x.kn.length kc] 32)).alloc (.cells #[] 41)) := ((Below.refl _ _).alloc (Nat.le_refl _) _).alloc (by simp) _
  have S0 : Blk ((w.alloc (.cells #[.int .i64 x.site, .bool x.up, .slice la x.sl.length lc, .slice va x.vs.length vc, .slice wa x.ws.length wc, .slice oa x.os.length oc, .slice ka x.kn.length kc] 32)).alloc (.cells #[] 41)) w.heap.size #[.int .i64 x.site, .bool x.up, .slice la x.sl.length lc, .slice va x.vs.length vc, .slice wa x.ws.length wc, .slice oa x.os.length oc, .slice ka x.kn.length kc] 32 := (Blk.new w _ _).alloc _
  have O0 : HalfWs ((w.alloc (.cells #[.int .i64 x.site, .bool x.up, .slice la x.sl.length lc, .slice va x.vs.length vc, .slice wa x.ws.length wc, .slice oa x.os.length oc, .slice ka x.kn.length kc] 32)).alloc (.cells #[] 41)) w.heap.size (.slice (some ⟨w.heap.size + 1, 0, none⟩) 0 0) [] := by
    have := HalfWs.empty (w.alloc (.cells #[.int .i64 x.site, .bool x.up, .slice la x.sl.length lc, .slice va x.vs.length vc, .slice wa x.ws.length wc, .slice oa x.os.length oc, .slice ka x.kn.length kc] 32)) w.heap.size (by simp)
    simpa using this
  have hOk := sServerOk_any x ⟨la, lc, va, vc, wa, wc, oa, oc, ka, kc⟩ _ hl (h.below b0)
  rcases hs : servB x with _ | _
  · have HT := hidOf (tendL_no hs)
    rw [hs] at hOk
    have HO := hidOf (And.intro O0 b0)
    obtain ⟨q1, g1⟩ := S0.rules
    clear S0 O0 b0 h hl hs
    go_enter Tryz.func28, Tryz.ntmps28
    go_wp2_with fail
    refine hOk.mono ?_
    rintro e w1 ⟨rfl, hb⟩
    have HF := hidOf (And.intro (HO.out.1.below hb (Nat.le_refl _)) (HO.out.2.trans (hb.mono HO.out.2.size)))
    clear hOk hb HO q1 g1
    go_wp2_with fail
    go_ret
    exact ⟨_, [], rfl, HF.out.1, by rw [HT.out]; rfl, HF.out.2⟩
  obtain ⟨t1, t2, t3, he⟩ := slotsB_three (xs := x.sl) (by unfold servB at hs; simp at hs; exact hs.1.1.1.1.1.1.1)
  have HTD : Hid (x.up = false → tendL x = []) := fun hu => tendL_down hu
  have HTY : Hid (x.up = true → tendL x = tendS x t1 t2 t3) := fun hu => tendL_yes hs hu he
  have HSV := hidOf (serv_lists hs)
  have HRK : Hid (∀ d ∈ x.os, (repV x.vs d).k = d.k) := fun d hd => rep_key hs hd
  have HSm := hidOf (And.intro (sm_tend hs t1 t2 t3) (tend_len hs t1 t2 t3))
  rw [hs] at hOk
  clear hs
  rcases hxu : x.up with _ | _
  · have HE := hidOf (HTD.out hxu)
    simp only [servV, servC, hxu] at hOk S0 O0 b0
    have HO := hidOf (And.intro O0 (And.intro b0 S0))
    obtain ⟨q1, g1⟩ := S0.rules
    clear S0 O0 b0 h hl HTD HTY HSV HRK he
    show Calls Tryz.prog 28 #[.agg #[.int .i64 x.site, .bool x.up, .slice la x.sl.length lc, .slice va x.vs.length vc, .slice wa x.ws.length wc, .slice oa x.os.length oc, .slice ka x.kn.length kc]] w _
    rw [hxu]
    go_enter Tryz.func28, Tryz.ntmps28
    go_wp2_with fail
    refine hOk.mono ?_
    rintro e w1 ⟨rfl, hb⟩
    have HF := hidOf (And.intro (HO.out.1.below hb (Nat.le_refl _)) (HO.out.2.1.trans (hb.mono HO.out.2.1.size)))
    have S1 := HO.out.2.2.below hb HO.out.2.2.lt
    obtain ⟨q2, g2⟩ := S1.rules
    clear hOk hb HO q1 g1 S1
    go_wp2_with fail
    go_ret
    exact ⟨_, [], rfl, HF.out.1, by rw [HE.out]; rfl, HF.out.2⟩
  have HE := hidOf (HTY.out hxu)
  simp only [servV, servC, hxu] at hOk S0 O0 b0
  clear HTD HTY
  have HSL := hidOf he
  have hsl3 : x.sl.length = 3 := by rw [he]; rfl
  have HS3 := hidOf hsl3
  obtain ⟨sb, so, hla, hsb, hcc⟩ := h.l.at (k := 0) (by omega)
  simp only at hla
  subst hla
  have HIn := hidOf h
  have HLn := hidOf hl
  have HUp := hidOf hxu
  have hsl4 : (x.sl.length : Int) ≤ 3 := by omega
  have HO := hidOf (And.intro O0 (And.intro b0 S0))
  obtain ⟨q1, g1⟩ := S0.rules
  show Calls Tryz.prog 28 #[.agg #[.int .i64 x.site, .bool x.up, .slice (some ⟨sb, so, none⟩) x.sl.length lc, .slice va x.vs.length vc, .slice wa x.ws.length wc, .slice oa x.os.length oc, .slice ka x.kn.length kc]] w _
  rw [hxu]
  clear hcc hsb S0 O0 b0 h hl he hsl3 hxu
  go_enter Tryz.func28, Tryz.ntmps28
  go_wp2_with fail
  refine hOk.mono ?_
  rintro e w1 ⟨rfl, hb⟩
  have HP1 := hidOf (And.intro (HO.out.1.below hb (Nat.le_refl _)) (And.intro (HO.out.2.1.trans (hb.mono HO.out.2.1.size)) (HO.out.2.2.below hb HO.out.2.2.lt)))
  clear hOk hb HO q1 g1
  obtain ⟨q1, g1⟩ := HP1.out.2.2.rules
  go_wp2_with fail
  clear q1 g1
  -- the parcels
  go_loopw [3, 4] (fun u i wr => ∃ (k : Nat) (Xs : List XW), k ≤ x.sl.length ∧ i = .int .i64 k ∧ HalfWs wr w.heap.size u Xs ∧ Hid (Xs.map XW.x = preP x.site t1 t2 t3 x.vs x.ws x.os k) ∧ Below w.heap.size w wr ∧ Blk wr w.heap.size #[.int .i64 x.site, .bool true, .slice (some ⟨sb, so, none⟩) x.sl.length lc, .slice va x.vs.length vc, .slice wa x.ws.length wc, .slice oa x.os.length oc, .slice ka x.kn.length kc] 32) (fun _ i _ => x.sl.length - (intOf i).toNat)
  case atStart => exact ⟨0, [], by omega, rfl, HP1.out.1, rfl, HP1.out.2.1, HP1.out.2.2⟩
  case round =>
    obtain ⟨k, Xs, hk, rfl, hT, HX, hBel, hS⟩ := hrel
    clear HP1
    obtain ⟨q1, g1⟩ := hS.rules
    by_cases hlt : k < x.sl.length
    · skip
      have HN := hidOf (preP_step x t1 t2 t3 HSL.out k hlt)
      have HLx : Hid (Xs.length ≤ 3) := by
        show _ ≤ _
        have h1 := congrArg List.length HX.out
        have h2 := preP_len x.site t1 t2 t3 x.vs x.ws x.os k
        simp only [List.length_map] at h1
        omega
      have hIw : InS wr x ⟨some ⟨sb, so, none⟩, lc, va, vc, wa, wc, oa, oc, ka, kc⟩ := HIn.out.below hBel
      obtain ⟨b', o', hab, hbb, c0, c1⟩ := hIw.l.at hlt
      simp only at hab
      injection hab with hab
      injection hab with e1 e2
      subst e1 e2
      have hBk := sBulkN_any x ⟨some ⟨sb, so, none⟩, lc, va, vc, wa, wc, oa, oc, ka, kc⟩ t1 t2 t3 k hlt wr HLn.out hIw HSL.out HSV.out.2.2.2.2.1 HSV.out.2.2.2.2.2
      simp only [servV, servC, HUp.out] at hBk
      generalize x.sl[k] = sl at *
      have PK := hidOf (And.intro hT (And.intro hBel hS))
      clear hT hBel hS hIw hbb
      by_cases hst : sl.st = 2
      · have HA : Hid (partP x.site k sl x.vs x.ws x.os = [parcelX x.site k sl.ep x.vs x.ws x.os]) := by show partP _ _ _ _ _ _ = _; unfold partP; rw [if_pos hst]
        go_wp2_with fail
        clear q1 g1 c0 c1
        refine hBk.mono ?_
        rintro e w2 ⟨c, ys, zs, rfl, hO, hb2⟩
        generalize parcelX x.site k sl.ep x.vs x.ws x.os = X at *
        have ba : Below w2.heap.size w2 (w2.alloc (.cells (wordC X c) 41)) := (Below.refl _ _).alloc (Nat.le_refl _) _
        have bb := hb2.trans (ba.mono hb2.size)
        have P1 := hidOf (And.intro (Blk.new w2 (wordC X c) 41) (And.intro (show OwnXH (w2.alloc (.cells (wordC X c) 41)) w.heap.size ⟨X, c, ys, zs⟩ from (hO.mono PK.out.2.1.size).below ba (Nat.le_refl _)) (And.intro (PK.out.1.below bb (Nat.le_refl _)) (And.intro (PK.out.2.1.trans (bb.mono PK.out.2.1.size)) (PK.out.2.2.below bb PK.out.2.2.lt)))))
        clear ba bb hO hb2 PK hBk
        go_wp2_with (first | (at_builtin
                              obtain ⟨hN, hX1, hT1, hB1, hS1⟩ := P1.out
                              refine wpList_append_half _ rfl _ _ rfl w.heap.size _ Xs rfl hT1 ⟨X, c, ys, zs⟩ w2.heap.size rfl hN hX1 (by have := HLx.out; omega) hB1.size ?_
                              intro v' w3 hT3 hg3
                              have hB3 : Below w.heap.size w w3 := hB1.grown hg3 hB1.size (fun j hj => (hT1.row.lt j hj).1)
                              have hS3 := hS1.grown hg3 (fun e => row_not_blk hT1.row hS1 (by decide) e.symm)
                              clear hN hX1 hT1 hB1 hS1 hg3 P1))
        go_roundw
        case rel => exact ⟨k + 1, _, by omega, by go_num, hT3, by show List.map _ _ = _; rw [HN.out, HA.out, List.map_append, HX.out]; rfl, hB3, hS3⟩
        case measure => simp [intOf]; omega
      · have HA : Hid (partP x.site k sl x.vs x.ws x.os = []) := by show partP _ _ _ _ _ _ = _; unfold partP; rw [if_neg hst]
        clear hBk
        go_wp2_with fail
        clear q1 g1 c0 c1
        go_roundw
        case rel => exact ⟨k + 1, Xs, by omega, by go_num, PK.out.1, by show List.map _ _ = _; rw [HN.out, HA.out, HX.out]; simp, PK.out.2.1, PK.out.2.2⟩
        case measure => simp [intOf]; omega
    have HX3 : Hid (Xs.map XW.x = preP x.site t1 t2 t3 x.vs x.ws x.os 3) := by
      show List.map _ _ = _
      have hk3 : k = 3 := by have := HS3.out; omega
      rw [HX.out, hk3]
    have hkl : k = x.sl.length := by omega
    clear HX
    have hkk : ¬ (k : Int) < (x.sl.length : Int) := by omega
    have HTS : Hid (tendS x t1 t2 t3 = (preP x.site t1 t2 t3 x.vs x.ws x.os 3 ++ repL x.site t1 t2 t3 x.vs x.os) ++ (ckL x.vs x.kn x.ws).map (checkX x.site)) := rfl
    have HPre := hidOf (preP_len x.site t1 t2 t3 x.vs x.ws x.os 3)
    generalize preP x.site t1 t2 t3 x.vs x.ws x.os 3 = pre at *
    have PK := hidOf (And.intro hT (And.intro hBel hS))
    clear hT hBel hS
    go_wp2_with fail
    refine (sSide_any x.site _).mono ?_
    rintro e w2 ⟨rfl, rfl⟩
    have hsd := side_bounds HSV.out.2.2.2.2.1 HSV.out.2.2.2.2.2
    have HFar : Hid (∀ own v, repF x.site own v = if own = true then [repX x.site (2 - 2 * sideOf x.site) v, repX x.site (2 - 2 * sideOf x.site + 1) v] else []) := fun own v => rfl
    obtain ⟨sd, hsdE⟩ : ∃ sd, sideOf x.site = sd := ⟨_, rfl⟩
    rw [hsdE] at hsd HFar ⊢
    clear hsdE
    obtain ⟨sd0, sd1⟩ := hsd
    go_wp2_with fail
    generalize hfr : 2 - 2 * sd = far at *
    have far0 : 0 ≤ far := by omega
    have far2 : far ≤ 2 := by omega
    clear hfr sd0 sd1
    -- the debts
    have hno : (x.os.length : Int) ≤ 80 := by have := (owesB_iff.1 HSV.out.2.2.1).1; omega
    go_loopw [3, 6] (fun u i wr => ∃ (k : Nat) (Xs : List XW), k ≤ x.os.length ∧ i = .int .i64 k ∧ HalfWs wr w.heap.size u Xs ∧ Hid (Xs.map XW.x = pre ++ repL x.site t1 t2 t3 x.vs (x.os.take k)) ∧ Below w.heap.size w wr ∧ Blk wr w.heap.size #[.int .i64 x.site, .bool true, .slice (some ⟨sb, so, none⟩) x.sl.length lc, .slice va x.vs.length vc, .slice wa x.ws.length wc, .slice oa x.os.length oc, .slice ka x.kn.length kc] 32) (fun _ i _ => x.os.length - (intOf i).toNat)
    case atStart => exact ⟨0, Xs, by omega, rfl, PK.out.1, by show List.map _ _ = _; rw [HX3.out]; simp [repL], PK.out.2.1, PK.out.2.2⟩
    case round =>
      obtain ⟨k2, Xs2, hk2, rfl, hT, HX, hBel, hS⟩ := hrel
      clear PK HX3
      obtain ⟨q1, g1⟩ := hS.rules
      by_cases hlt : k2 < x.os.length
      · skip
        have HN := hidOf (repL_take x.site t1 t2 t3 x.vs hlt)
        have hmem := List.getElem_mem hlt
        have HKey := hidOf (HRK.out _ hmem)
        have hdok := okD_bounds ((owesB_iff.1 HSV.out.2.2.1).2.1 _ hmem)
        have HF4 := hidOf (repD_four x.site t1 t2 t3 x.vs x.os[k2] HSV.out.2.2.2.2.1 HSV.out.2.2.2.2.2)
        have hIw : InS wr x ⟨some ⟨sb, so, none⟩, lc, va, vc, wa, wc, oa, oc, ka, kc⟩ := HIn.out.below hBel
        obtain ⟨ob, oo, hab, hbb, c0, c1, c2⟩ := hIw.o.at hlt
        simp only at hab
        have HLx : Hid (Xs2.length ≤ 400) := by
          show _ ≤ _
          have h1 := congrArg List.length HX.out
          have h2 := repL_len x.site t1 t2 t3 x.vs (x.os.take k2)
          have h3 := HPre.out
          simp only [List.length_map, List.length_append, List.length_take] at h1 h2
          omega
        have hA := fun W hv => sAtV_any va vc x.vs (x.os[k2]).k (x.os[k2]).t (x.os[k2]).s W HLn.out.v hv
        generalize x.os[k2] = d at *
        subst hab
        have HBO := hidOf hbb
        have HK : Hid (∀ W, Below wr.heap.size wr W → (∀ j, W.cell? ⟨w.heap.size, j, none⟩ = #[.int .i64 x.site, .bool true, .slice (some ⟨sb, so, none⟩) x.sl.length lc, .slice va x.vs.length vc, .slice wa x.ws.length wc, .slice (some ⟨ob, oo, none⟩) x.os.length oc, .slice ka x.kn.length kc][j]?) ∧ W.cell? ⟨ob, oo + k2 * 3, none⟩ = some (.int .i64 d.k) ∧ W.cell? ⟨ob, oo + k2 * 3 + 1, none⟩ = some (.int .i64 d.t) ∧ W.cell? ⟨ob, oo + k2 * 3 + 2, none⟩ = some (.int .i64 d.s)) := by
          show ∀ W, _
          intro W hW
          exact ⟨(hS.below hW hS.lt).cell, (hW.cell (p := ⟨ob, _, none⟩) hbb).trans c0, (hW.cell (p := ⟨ob, _, none⟩) hbb).trans c1, (hW.cell (p := ⟨ob, _, none⟩) hbb).trans c2⟩
        have HV : Hid (∀ W, Below wr.heap.size wr W → Vers W va x.vs) := fun W hW => hIw.v.below hW
        have PK := hidOf (And.intro hT (And.intro hBel hS))
        have kd : (∀ j, wr.drew.cell? ⟨w.heap.size, j, none⟩ = #[.int .i64 x.site, .bool true, .slice (some ⟨sb, so, none⟩) x.sl.length lc, .slice va x.vs.length vc, .slice wa x.ws.length wc, .slice (some ⟨ob, oo, none⟩) x.os.length oc, .slice ka x.kn.length kc][j]?) ∧ wr.drew.cell? ⟨ob, oo + k2 * 3, none⟩ = some (.int .i64 d.k) ∧ wr.drew.cell? ⟨ob, oo + k2 * 3 + 1, none⟩ = some (.int .i64 d.t) ∧ wr.drew.cell? ⟨ob, oo + k2 * 3 + 2, none⟩ = some (.int .i64 d.s) := HK.out _ (Below.refl _ _).drew
        have HDk := hidOf hdok
        have HZA : Hid (Blk (wr.alloc (.cells #[.int .i64 0, .int .i64 0, .int .i64 0, .int .i64 0, .int .i64 0, .int .i64 0, .slice none 0 0] 107)).drew wr.heap.size #[.int .i64 0, .int .i64 0, .int .i64 0, .int .i64 0, .int .i64 0, .int .i64 0, .slice none 0 0] 107) := Blk.new wr _ _
        clear hT hBel hS hIw hbb c0 c1 c2 hdok hmem
        go_wp2_with fail
        go_region_held3 (fun W => (∀ j, W.cell? ⟨w.heap.size, j, none⟩ = #[.int .i64 x.site, .bool true, .slice (some ⟨sb, so, none⟩) x.sl.length lc, .slice va x.vs.length vc, .slice wa x.ws.length wc, .slice (some ⟨ob, oo, none⟩) x.os.length oc, .slice ka x.kn.length kc][j]?) ∧ W.cell? ⟨ob, oo + k2 * 3, none⟩ = some (.int .i64 d.k) ∧ W.cell? ⟨ob, oo + k2 * 3 + 1, none⟩ = some (.int .i64 d.t) ∧ W.cell? ⟨ob, oo + k2 * 3 + 2, none⟩ = some (.int .i64 d.s)) ((with_reducible refine HK.out _ ?_; repeat (with_reducible (first | assumption | exact Below.refl _ _ | refine BelD ?_ | refine BelA ?_ _ | refine BelS ?_ (by first | exact Nat.le_refl _ | assumption) _))))
          (first
            | (go_at_call 70; refine (hA _ (HV.out _ (by repeat (with_reducible (first | assumption | exact Below.refl _ _ | refine BelD ?_ | refine BelA ?_ _ | refine BelS ?_ (by first | exact Nat.le_refl _ | assumption) _))))).mono ?_; rintro e w3 ⟨v, pa, pc, hv, rfl, hr, hb3⟩; have hB3 : Below wr.heap.size wr w3 := BelT (by repeat (with_reducible (first | assumption | exact Below.refl _ _ | refine BelD ?_ | refine BelA ?_ _ | refine BelS ?_ (by first | exact Nat.le_refl _ | assumption) _))) hb3; have hn3 := hB3.size; try (have hZ3 : Blk w3 wr.heap.size #[.int .i64 0, .int .i64 0, .int .i64 0, .int .i64 0, .int .i64 0, .int .i64 0, .slice none 0 0] 107 := (by with_reducible exact Blk.below HZA.out hb3 HZA.out.lt); obtain ⟨qz, gz⟩ := hZ3.rules)))
        · have HPV := hidOf (And.intro (BelA hB3 (.cells #[.int .i64 v.k, .int .i64 v.t, .int .i64 v.s, .int .i64 v.val, .int .i64 v.cl, .int .i64 v.ca, .slice pa v.ds.length pc] 107)) (And.intro (Blk.new w3 #[.int .i64 v.k, .int .i64 v.t, .int .i64 v.s, .int .i64 v.val, .int .i64 v.cl, .int .i64 v.ca, .slice pa v.ds.length pc] 107) (show RowD (w3.alloc (.cells #[.int .i64 v.k, .int .i64 v.t, .int .i64 v.s, .int .i64 v.val, .int .i64 v.cl, .int .i64 v.ca, .slice pa v.ds.length pc] 107)) w.heap.size (.slice pa v.ds.length pc) v.ds from row_mono (row_below hr ((Below.refl _ _).alloc (Nat.le_refl _) _) (Nat.le_refl _)) PK.out.2.1.size)))
          clear hb3 hB3 hn3 hr kd HZA HK HV hA
          generalize w3.heap.size = VB at HPV ⊢
          generalize w3.alloc (.cells #[.int .i64 v.k, .int .i64 v.t, .int .i64 v.s, .int .i64 v.val, .int .i64 v.cl, .int .i64 v.ca, .slice pa v.ds.length pc] 107) = U at HPV ⊢
          have HT := hidOf (PK.out.1.below HPV.out.1 (Nat.le_refl _))
          have HBU := hidOf (PK.out.2.1.trans (HPV.out.1.mono PK.out.2.1.size))
          have HSU := hidOf (PK.out.2.2.below HPV.out.1 PK.out.2.2.lt)
          have HVU := hidOf HPV.out.2.1
          have HRU := hidOf HPV.out.2.2
          have HVE : Hid (v = repV x.vs d) := hv.out
          have hvk : v.k = d.k := by rw [HVE.out]; exact HKey.out
          obtain ⟨m, hm, hm3⟩ := slot_nat (k := v.k) (by have := HDk.out; omega) (by have := HDk.out; omega)
          have hmlt : m < x.sl.length := by have := HS3.out; omega
          have HOwn := hidOf (owns_nat x t1 t2 t3 HSL.out m hmlt)
          rw [← hm, hvk] at HOwn
          have hIu : InS U x ⟨some ⟨sb, so, none⟩, lc, va, vc, wa, wc, some ⟨ob, oo, none⟩, oc, ka, kc⟩ := HIn.out.below HBU.out
          obtain ⟨b', o', hab, hbb, _, cst⟩ := hIu.l.at hmlt
          simp only at hab
          injection hab with hab
          injection hab with e1 e2
          subst e1 e2
          generalize x.sl[m] = slm at *
          have rst := since_cell cst
          have r1 := host_rule HSU.out
          have r2 := host_rule HVU.out
          have ne := since_ne U
          have hmI : (m : Int) < (x.sl.length : Int) := by omega
          have HDone := hidOf (And.intro hm3 hvk)
          clear hIu hbb cst HPV PK hm3 hvk
          go_wp2_with fail
          refine wp_region_class (S := Since U) (by kernel_rfl) (by kernel_rfl) (Below.refl _ _).drew ?_
          repeat (go_big_quiet_step ((rename_i n; first | (go_at_call 80; exact Calls.inClass (slot_b hm) Since.keep))))
          refine wpQuiet_nil ?_
          rintro W ⟨n, hnW⟩
          have R2 := n.h
          rw [← hnW] at R2
          have HPW := hidOf (And.intro (HT.out.below R2 (Nat.le_refl _)) (And.intro (HBU.out.trans (R2.mono HBU.out.size)) (And.intro (HSU.out.below R2 HSU.out.lt) (And.intro (HVU.out.below R2 HVU.out.lt) (show RowD W w.heap.size (.slice pa v.ds.length pc) v.ds from row_below HRU.out R2 (Nat.le_refl _))))))
          clear R2 r1 r2 rst ne hnW n HT HBU HSU HVU HRU hmI
          have HD6 : Hid (v.ds.length ≤ 6) := by show _ ≤ _; rw [HVE.out]; exact repV_len HSV.out.1 d
          by_cases hst : slm.st = 1
          · skip
            have HRF : Hid (repD x.site t1 t2 t3 x.vs d 4 = [repX x.site far v, repX x.site (far + 1) v]) := by
              show repD _ _ _ _ _ _ _ = _
              rw [HF4.out, HOwn.out, hst, HFar.out, HVE.out]; rfl
            have hbq : (slm.st != 1) = false := by simp [hst]
            rw [hbq]
            clear hbq hst
            go_wp2_with fail
            go_loopw [3, 9] (fun u i wr => ∃ (j : Nat) (Xs3 : List XW), j ≤ 2 ∧ i = .int .i64 j ∧ HalfWs wr w.heap.size u Xs3 ∧ Hid (Xs3.map XW.x = (pre ++ repL x.site t1 t2 t3 x.vs (x.os.take k2)) ++ (List.range j).map (fun (i : Nat) => repX x.site (far + (i : Int)) v)) ∧ Below w.heap.size w wr ∧ Blk wr w.heap.size #[.int .i64 x.site, .bool true, .slice (some ⟨sb, so, none⟩) x.sl.length lc, .slice va x.vs.length vc, .slice wa x.ws.length wc, .slice (some ⟨ob, oo, none⟩) x.os.length oc, .slice ka x.kn.length kc] 32 ∧ Blk wr VB #[.int .i64 v.k, .int .i64 v.t, .int .i64 v.s, .int .i64 v.val, .int .i64 v.cl, .int .i64 v.ca, .slice pa v.ds.length pc] 107 ∧ RowD wr w.heap.size (.slice pa v.ds.length pc) v.ds) (fun _ i _ => 2 - (intOf i).toNat)
            case atStart => exact ⟨0, Xs2, by omega, rfl, HPW.out.1, by show List.map _ _ = _; rw [HX.out]; simp, HPW.out.2.1, HPW.out.2.2.1, HPW.out.2.2.2.1, HPW.out.2.2.2.2⟩
            case round =>
              obtain ⟨j, Xs3, hj, rfl, hT3, HX3, hB3, hS3, hV3, hR3⟩ := hrel
              clear HPW
              obtain ⟨q1, g1⟩ := hS3.rules
              obtain ⟨q2, g2⟩ := hV3.rules
              by_cases hj2 : j < 2
              · have HL3 : Hid (Xs3.length ≤ 500) := by
                  show _ ≤ _
                  have h1 := congrArg List.length HX3.out
                  have h2 := congrArg List.length HX.out
                  have h3 := HLx.out
                  simp only [List.length_map, List.length_append, List.length_range] at h1 h2
                  omega
                have ba : Below wr.heap.size wr ((wr.alloc (.cells #[.int .i64 v.k, .int .i64 v.t, .int .i64 v.s, .int .i64 v.val, .int .i64 v.cl, .int .i64 v.ca, .slice pa v.ds.length pc] 107)).alloc (.cells #[.int .i64 5, .int .i64 x.site, .int .i64 (far + (j : Int)), .int .i64 0, .int .i64 0, .int .i64 0, .int .i64 0, .int .i64 0, .bool false, .slice none 0 0, .int .i64 0, .int .i64 0, .slice (some ⟨wr.heap.size, 0, none⟩) 1 1, .slice none 0 0, .slice none 0 0] 41)) := ((Below.refl _ _).alloc (Nat.le_refl _) _).alloc (by simp) _
                have hN : Blk ((wr.alloc (.cells #[.int .i64 v.k, .int .i64 v.t, .int .i64 v.s, .int .i64 v.val, .int .i64 v.cl, .int .i64 v.ca, .slice pa v.ds.length pc] 107)).alloc (.cells #[.int .i64 5, .int .i64 x.site, .int .i64 (far + (j : Int)), .int .i64 0, .int .i64 0, .int .i64 0, .int .i64 0, .int .i64 0, .bool false, .slice none 0 0, .int .i64 0, .int .i64 0, .slice (some ⟨wr.heap.size, 0, none⟩) 1 1, .slice none 0 0, .slice none 0 0] 41)) (wr.heap.size + 1) #[.int .i64 5, .int .i64 x.site, .int .i64 (far + (j : Int)), .int .i64 0, .int .i64 0, .int .i64 0, .int .i64 0, .int .i64 0, .bool false, .slice none 0 0, .int .i64 0, .int .i64 0, .slice (some ⟨wr.heap.size, 0, none⟩) 1 1, .slice none 0 0, .slice none 0 0] 41 := by have := Blk.new (wr.alloc (.cells #[.int .i64 v.k, .int .i64 v.t, .int .i64 v.s, .int .i64 v.val, .int .i64 v.cl, .int .i64 v.ca, .slice pa v.ds.length pc] 107)) #[.int .i64 5, .int .i64 x.site, .int .i64 (far + (j : Int)), .int .i64 0, .int .i64 0, .int .i64 0, .int .i64 0, .int .i64 0, .bool false, .slice none 0 0, .int .i64 0, .int .i64 0, .slice (some ⟨wr.heap.size, 0, none⟩) 1 1, .slice none 0 0, .slice none 0 0] 41; simpa using this
                have hOV : OwnV ((wr.alloc (.cells #[.int .i64 v.k, .int .i64 v.t, .int .i64 v.s, .int .i64 v.val, .int .i64 v.cl, .int .i64 v.ca, .slice pa v.ds.length pc] 107)).alloc (.cells #[.int .i64 5, .int .i64 x.site, .int .i64 (far + (j : Int)), .int .i64 0, .int .i64 0, .int .i64 0, .int .i64 0, .int .i64 0, .bool false, .slice none 0 0, .int .i64 0, .int .i64 0, .slice (some ⟨wr.heap.size, 0, none⟩) 1 1, .slice none 0 0, .slice none 0 0] 41)) w.heap.size (.slice (some ⟨wr.heap.size, 0, none⟩) 1 1) [⟨v, .slice pa v.ds.length pc⟩] := by
                  refine ⟨row_below (row_one wr #[.int .i64 v.k, .int .i64 v.t, .int .i64 v.s, .int .i64 v.val, .int .i64 v.cl, .int .i64 v.ca, .slice pa v.ds.length pc] 107 w.heap.size hB3.size) ((Below.refl _ _).alloc (Nat.le_refl _) _) (Nat.le_refl _), fun y hy => ?_, List.pairwise_singleton _ _⟩
                  simp at hy; subst hy
                  exact ⟨row_below hR3 ba (Nat.le_refl _), by have := HD6.out; simp only; omega⟩
                have hXh := (own_rep (repX x.site (far + (j : Int)) v) ⟨rfl, rfl, rfl, rfl⟩ hOV).half
                have P3 := hidOf (And.intro hN (And.intro hXh (And.intro (hT3.below ba (Nat.le_refl _)) (And.intro (hB3.trans (ba.mono hB3.size)) (And.intro (hS3.below ba hS3.lt) (And.intro (hV3.below ba hV3.lt) (show RowD _ w.heap.size (.slice pa v.ds.length pc) v.ds from row_below hR3 ba (Nat.le_refl _))))))))
                have HRne : Hid (∀ b, (Value.slice pa v.ds.length pc).ownBlock = some b → True) := fun _ _ => trivial
                clear ba hN hOV hXh hT3 hB3 hS3 hV3 hR3
                go_wp2_with (first | (at_builtin
                                      obtain ⟨hN, hXh, hT4, hB4, hS4, hV4, hR4⟩ := P3.out
                                      refine wpList_append_half _ rfl _ _ rfl w.heap.size _ Xs3 rfl hT4 ⟨repX x.site (far + (j : Int)) v, ⟨none, 0, some ⟨wr.heap.size, 0, none⟩, 1, none, 0, none, 0⟩, [⟨v, .slice pa v.ds.length pc⟩], []⟩ (wr.heap.size + 1) rfl hN hXh (by have := HL3.out; omega) hB4.size ?_
                                      intro v' w5 hT5 hg5
                                      have hB5 : Below w.heap.size w w5 := hB4.grown hg5 hB4.size (fun j hj => (hT4.row.lt j hj).1)
                                      have hS5 := hS4.grown hg5 (fun e => row_not_blk hT4.row hS4 (by decide) e.symm)
                                      have hV5 := hV4.grown hg5 (fun e => row_not_blk hT4.row hV4 (by decide) e.symm)
                                      have hR5 : RowD w5 w.heap.size (.slice pa v.ds.length pc) v.ds := (only_grown hg5).row hR4 (fun i hi hs => row_type hT4.row hR4 (by decide) i hs hi)
                                      clear hN hXh hT4 hB4 hS4 hV4 hR4 hg5 P3 q1 g1 q2 g2))
                go_roundw
                case rel => exact ⟨j + 1, _, by omega, by go_num, hT5, by show List.map _ _ = _; rw [List.map_append, HX3.out, List.range_succ, List.map_append, List.append_assoc]; rfl, hB5, hS5, hV5, hR5⟩
                case measure => simp [intOf]; omega
              · have hj3 : j = 2 := by omega
                subst hj3
                have P3 := hidOf (And.intro hT3 (And.intro hB3 hS3))
                clear hT3 hB3 hS3 hV3 hR3 q1 g1 q2 g2
                go_wp2_with fail
                go_roundw
                case rel => exact ⟨k2 + 1, Xs3, by omega, by go_num, P3.out.1, by show List.map _ _ = _; rw [HX3.out, HN.out, HRF.out, List.append_assoc]; simp [List.range_succ], P3.out.2.1, P3.out.2.2⟩
                case measure => simp [intOf]; omega
          · have HRF : Hid (repD x.site t1 t2 t3 x.vs d 4 = []) := by
              show repD _ _ _ _ _ _ _ = _
              have hne : (slm.st == 1) = false := by simpa using hst
              rw [HF4.out, HOwn.out, hne, HFar.out]; rfl
            have P3 := hidOf (And.intro HPW.out.1 (And.intro HPW.out.2.1 HPW.out.2.2.1))
            clear HPW
            go_wp2_with fail
            go_roundw
            case rel => exact ⟨k2 + 1, Xs2, by omega, by go_num, P3.out.1, by show List.map _ _ = _; rw [HX.out, HN.out, HRF.out]; simp, P3.out.2.1, P3.out.2.2⟩
            case measure => simp [intOf]; omega
        · have hnb : ∀ j, (Value.slice pa v.ds.length pc).ownBlock = some j → j ≠ wr.heap.size := fun j hj => by have h1 := (hr.lt j hj).1; have h2 : ((wr.alloc (.cells #[.int .i64 0, .int .i64 0, .int .i64 0, .int .i64 0, .int .i64 0, .int .i64 0, .slice none 0 0] 107)).drew).heap.size = wr.heap.size + 1 := (by show (wr.alloc _).heap.size = _; simp); rw [h2] at h1; omega
          have hbw : w.heap.size ≤ ((wr.alloc (.cells #[.int .i64 0, .int .i64 0, .int .i64 0, .int .i64 0, .int .i64 0, .int .i64 0, .slice none 0 0] 107)).drew).heap.size := Nat.le_trans PK.out.2.1.size (by show _ ≤ (wr.alloc _).heap.size; simp)
          have HPV := hidOf (And.intro (hB3.trans (fill7_onlyT.below hn3 (fun j hj => by rw [hj]; exact Nat.le_refl _)) : Below wr.heap.size wr ((((((((w3).setCell ⟨wr.heap.size, 0, none⟩ (.int .i64 v.k)).setCell ⟨wr.heap.size, 1, none⟩ (.int .i64 v.t)).setCell ⟨wr.heap.size, 2, none⟩ (.int .i64 v.s)).setCell ⟨wr.heap.size, 3, none⟩ (.int .i64 v.val)).setCell ⟨wr.heap.size, 4, none⟩ (.int .i64 v.cl)).setCell ⟨wr.heap.size, 5, none⟩ (.int .i64 v.ca)).setCell ⟨wr.heap.size, 6, none⟩ (.slice pa v.ds.length pc))) (And.intro (show Blk ((((((((w3).setCell ⟨wr.heap.size, 0, none⟩ (.int .i64 v.k)).setCell ⟨wr.heap.size, 1, none⟩ (.int .i64 v.t)).setCell ⟨wr.heap.size, 2, none⟩ (.int .i64 v.s)).setCell ⟨wr.heap.size, 3, none⟩ (.int .i64 v.val)).setCell ⟨wr.heap.size, 4, none⟩ (.int .i64 v.cl)).setCell ⟨wr.heap.size, 5, none⟩ (.int .i64 v.ca)).setCell ⟨wr.heap.size, 6, none⟩ (.slice pa v.ds.length pc)) wr.heap.size #[.int .i64 v.k, .int .i64 v.t, .int .i64 v.s, .int .i64 v.val, .int .i64 v.cl, .int .i64 v.ca, .slice pa v.ds.length pc] 107 from Blk.fill7 hZ3) (show RowD ((((((((w3).setCell ⟨wr.heap.size, 0, none⟩ (.int .i64 v.k)).setCell ⟨wr.heap.size, 1, none⟩ (.int .i64 v.t)).setCell ⟨wr.heap.size, 2, none⟩ (.int .i64 v.s)).setCell ⟨wr.heap.size, 3, none⟩ (.int .i64 v.val)).setCell ⟨wr.heap.size, 4, none⟩ (.int .i64 v.cl)).setCell ⟨wr.heap.size, 5, none⟩ (.int .i64 v.ca)).setCell ⟨wr.heap.size, 6, none⟩ (.slice pa v.ds.length pc)) w.heap.size (.slice pa v.ds.length pc) v.ds from row_mono (row_fill7 hr hnb) hbw)))
          clear hnb hbw hb3 hB3 hn3 hr kd HZA HK HV hA hZ3 qz gz
          generalize ((((((((w3).setCell ⟨wr.heap.size, 0, none⟩ (.int .i64 v.k)).setCell ⟨wr.heap.size, 1, none⟩ (.int .i64 v.t)).setCell ⟨wr.heap.size, 2, none⟩ (.int .i64 v.s)).setCell ⟨wr.heap.size, 3, none⟩ (.int .i64 v.val)).setCell ⟨wr.heap.size, 4, none⟩ (.int .i64 v.cl)).setCell ⟨wr.heap.size, 5, none⟩ (.int .i64 v.ca)).setCell ⟨wr.heap.size, 6, none⟩ (.slice pa v.ds.length pc)) = U at HPV ⊢
          have hVBe : ∃ VB, VB = wr.heap.size := ⟨_, rfl⟩
          have HPW := hidOf HPV.out.1
          have HPX := hidOf HPV.out.2
          clear HPV
          generalize hVBq : wr.heap.size = VB at HPX ⊢
          have HPV := hidOf (And.intro HPW.out HPX.out)
          clear HPW HPX hVBe hVBq
          have HT := hidOf (PK.out.1.below HPV.out.1 (Nat.le_refl _))
          have HBU := hidOf (PK.out.2.1.trans (HPV.out.1.mono PK.out.2.1.size))
          have HSU := hidOf (PK.out.2.2.below HPV.out.1 PK.out.2.2.lt)
          have HVU := hidOf HPV.out.2.1
          have HRU := hidOf HPV.out.2.2
          have HVE : Hid (v = repV x.vs d) := hv.out
          have hvk : v.k = d.k := by rw [HVE.out]; exact HKey.out
          obtain ⟨m, hm, hm3⟩ := slot_nat (k := v.k) (by have := HDk.out; omega) (by have := HDk.out; omega)
          have hmlt : m < x.sl.length := by have := HS3.out; omega
          have HOwn := hidOf (owns_nat x t1 t2 t3 HSL.out m hmlt)
          rw [← hm, hvk] at HOwn
          have hIu : InS U x ⟨some ⟨sb, so, none⟩, lc, va, vc, wa, wc, some ⟨ob, oo, none⟩, oc, ka, kc⟩ := HIn.out.below HBU.out
          obtain ⟨b', o', hab, hbb, _, cst⟩ := hIu.l.at hmlt
          simp only at hab
          injection hab with hab
          injection hab with e1 e2
          subst e1 e2
          generalize x.sl[m] = slm at *
          have rst := since_cell cst
          have r1 := host_rule HSU.out
          have r2 := host_rule HVU.out
          have ne := since_ne U
          have hmI : (m : Int) < (x.sl.length : Int) := by omega
          have HDone := hidOf (And.intro hm3 hvk)
          clear hIu hbb cst HPV PK hm3 hvk
          go_wp2_with fail
          refine wp_region_class (S := Since U) (by kernel_rfl) (by kernel_rfl) (Below.refl _ _).drew ?_
          repeat (go_big_quiet_step ((rename_i n; first | (go_at_call 80; exact Calls.inClass (slot_b hm) Since.keep))))
          refine wpQuiet_nil ?_
          rintro W ⟨n, hnW⟩
          have R2 := n.h
          rw [← hnW] at R2
          have HPW := hidOf (And.intro (HT.out.below R2 (Nat.le_refl _)) (And.intro (HBU.out.trans (R2.mono HBU.out.size)) (And.intro (HSU.out.below R2 HSU.out.lt) (And.intro (HVU.out.below R2 HVU.out.lt) (show RowD W w.heap.size (.slice pa v.ds.length pc) v.ds from row_below HRU.out R2 (Nat.le_refl _))))))
          clear R2 r1 r2 rst ne hnW n HT HBU HSU HVU HRU hmI
          have HD6 : Hid (v.ds.length ≤ 6) := by show _ ≤ _; rw [HVE.out]; exact repV_len HSV.out.1 d
          by_cases hst : slm.st = 1
          · skip
            have HRF : Hid (repD x.site t1 t2 t3 x.vs d 4 = [repX x.site far v, repX x.site (far + 1) v]) := by
              show repD _ _ _ _ _ _ _ = _
              rw [HF4.out, HOwn.out, hst, HFar.out, HVE.out]; rfl
            have hbq : (slm.st != 1) = false := by simp [hst]
            rw [hbq]
            clear hbq hst
            go_wp2_with fail
            go_loopw [3, 9] (fun u i wr => ∃ (j : Nat) (Xs3 : List XW), j ≤ 2 ∧ i = .int .i64 j ∧ HalfWs wr w.heap.size u Xs3 ∧ Hid (Xs3.map XW.x = (pre ++ repL x.site t1 t2 t3 x.vs (x.os.take k2)) ++ (List.range j).map (fun (i : Nat) => repX x.site (far + (i : Int)) v)) ∧ Below w.heap.size w wr ∧ Blk wr w.heap.size #[.int .i64 x.site, .bool true, .slice (some ⟨sb, so, none⟩) x.sl.length lc, .slice va x.vs.length vc, .slice wa x.ws.length wc, .slice (some ⟨ob, oo, none⟩) x.os.length oc, .slice ka x.kn.length kc] 32 ∧ Blk wr VB #[.int .i64 v.k, .int .i64 v.t, .int .i64 v.s, .int .i64 v.val, .int .i64 v.cl, .int .i64 v.ca, .slice pa v.ds.length pc] 107 ∧ RowD wr w.heap.size (.slice pa v.ds.length pc) v.ds) (fun _ i _ => 2 - (intOf i).toNat)
            case atStart => exact ⟨0, Xs2, by omega, rfl, HPW.out.1, by show List.map _ _ = _; rw [HX.out]; simp, HPW.out.2.1, HPW.out.2.2.1, HPW.out.2.2.2.1, HPW.out.2.2.2.2⟩
            case round =>
              obtain ⟨j, Xs3, hj, rfl, hT3, HX3, hB3, hS3, hV3, hR3⟩ := hrel
              clear HPW
              obtain ⟨q1, g1⟩ := hS3.rules
              obtain ⟨q2, g2⟩ := hV3.rules
              by_cases hj2 : j < 2
              · have HL3 : Hid (Xs3.length ≤ 500) := by
                  show _ ≤ _
                  have h1 := congrArg List.length HX3.out
                  have h2 := congrArg List.length HX.out
                  have h3 := HLx.out
                  simp only [List.length_map, List.length_append, List.length_range] at h1 h2
                  omega
                have ba : Below wr.heap.size wr ((wr.alloc (.cells #[.int .i64 v.k, .int .i64 v.t, .int .i64 v.s, .int .i64 v.val, .int .i64 v.cl, .int .i64 v.ca, .slice pa v.ds.length pc] 107)).alloc (.cells #[.int .i64 5, .int .i64 x.site, .int .i64 (far + (j : Int)), .int .i64 0, .int .i64 0, .int .i64 0, .int .i64 0, .int .i64 0, .bool false, .slice none 0 0, .int .i64 0, .int .i64 0, .slice (some ⟨wr.heap.size, 0, none⟩) 1 1, .slice none 0 0, .slice none 0 0] 41)) := ((Below.refl _ _).alloc (Nat.le_refl _) _).alloc (by simp) _
                have hN : Blk ((wr.alloc (.cells #[.int .i64 v.k, .int .i64 v.t, .int .i64 v.s, .int .i64 v.val, .int .i64 v.cl, .int .i64 v.ca, .slice pa v.ds.length pc] 107)).alloc (.cells #[.int .i64 5, .int .i64 x.site, .int .i64 (far + (j : Int)), .int .i64 0, .int .i64 0, .int .i64 0, .int .i64 0, .int .i64 0, .bool false, .slice none 0 0, .int .i64 0, .int .i64 0, .slice (some ⟨wr.heap.size, 0, none⟩) 1 1, .slice none 0 0, .slice none 0 0] 41)) (wr.heap.size + 1) #[.int .i64 5, .int .i64 x.site, .int .i64 (far + (j : Int)), .int .i64 0, .int .i64 0, .int .i64 0, .int .i64 0, .int .i64 0, .bool false, .slice none 0 0, .int .i64 0, .int .i64 0, .slice (some ⟨wr.heap.size, 0, none⟩) 1 1, .slice none 0 0, .slice none 0 0] 41 := by have := Blk.new (wr.alloc (.cells #[.int .i64 v.k, .int .i64 v.t, .int .i64 v.s, .int .i64 v.val, .int .i64 v.cl, .int .i64 v.ca, .slice pa v.ds.length pc] 107)) #[.int .i64 5, .int .i64 x.site, .int .i64 (far + (j : Int)), .int .i64 0, .int .i64 0, .int .i64 0, .int .i64 0, .int .i64 0, .bool false, .slice none 0 0, .int .i64 0, .int .i64 0, .slice (some ⟨wr.heap.size, 0, none⟩) 1 1, .slice none 0 0, .slice none 0 0] 41; simpa using this
                have hOV : OwnV ((wr.alloc (.cells #[.int .i64 v.k, .int .i64 v.t, .int .i64 v.s, .int .i64 v.val, .int .i64 v.cl, .int .i64 v.ca, .slice pa v.ds.length pc] 107)).alloc (.cells #[.int .i64 5, .int .i64 x.site, .int .i64 (far + (j : Int)), .int .i64 0, .int .i64 0, .int .i64 0, .int .i64 0, .int .i64 0, .bool false, .slice none 0 0, .int .i64 0, .int .i64 0, .slice (some ⟨wr.heap.size, 0, none⟩) 1 1, .slice none 0 0, .slice none 0 0] 41)) w.heap.size (.slice (some ⟨wr.heap.size, 0, none⟩) 1 1) [⟨v, .slice pa v.ds.length pc⟩] := by
                  refine ⟨row_below (row_one wr #[.int .i64 v.k, .int .i64 v.t, .int .i64 v.s, .int .i64 v.val, .int .i64 v.cl, .int .i64 v.ca, .slice pa v.ds.length pc] 107 w.heap.size hB3.size) ((Below.refl _ _).alloc (Nat.le_refl _) _) (Nat.le_refl _), fun y hy => ?_, List.pairwise_singleton _ _⟩
                  simp at hy; subst hy
                  exact ⟨row_below hR3 ba (Nat.le_refl _), by have := HD6.out; simp only; omega⟩
                have hXh := (own_rep (repX x.site (far + (j : Int)) v) ⟨rfl, rfl, rfl, rfl⟩ hOV).half
                have P3 := hidOf (And.intro hN (And.intro hXh (And.intro (hT3.below ba (Nat.le_refl _)) (And.intro (hB3.trans (ba.mono hB3.size)) (And.intro (hS3.below ba hS3.lt) (And.intro (hV3.below ba hV3.lt) (show RowD _ w.heap.size (.slice pa v.ds.length pc) v.ds from row_below hR3 ba (Nat.le_refl _))))))))
                have HRne : Hid (∀ b, (Value.slice pa v.ds.length pc).ownBlock = some b → True) := fun _ _ => trivial
                clear ba hN hOV hXh hT3 hB3 hS3 hV3 hR3
                go_wp2_with (first | (at_builtin
                                      obtain ⟨hN, hXh, hT4, hB4, hS4, hV4, hR4⟩ := P3.out
                                      refine wpList_append_half _ rfl _ _ rfl w.heap.size _ Xs3 rfl hT4 ⟨repX x.site (far + (j : Int)) v, ⟨none, 0, some ⟨wr.heap.size, 0, none⟩, 1, none, 0, none, 0⟩, [⟨v, .slice pa v.ds.length pc⟩], []⟩ (wr.heap.size + 1) rfl hN hXh (by have := HL3.out; omega) hB4.size ?_
                                      intro v' w5 hT5 hg5
                                      have hB5 : Below w.heap.size w w5 := hB4.grown hg5 hB4.size (fun j hj => (hT4.row.lt j hj).1)
                                      have hS5 := hS4.grown hg5 (fun e => row_not_blk hT4.row hS4 (by decide) e.symm)
                                      have hV5 := hV4.grown hg5 (fun e => row_not_blk hT4.row hV4 (by decide) e.symm)
                                      have hR5 : RowD w5 w.heap.size (.slice pa v.ds.length pc) v.ds := (only_grown hg5).row hR4 (fun i hi hs => row_type hT4.row hR4 (by decide) i hs hi)
                                      clear hN hXh hT4 hB4 hS4 hV4 hR4 hg5 P3 q1 g1 q2 g2))
                go_roundw
                case rel => exact ⟨j + 1, _, by omega, by go_num, hT5, by show List.map _ _ = _; rw [List.map_append, HX3.out, List.range_succ, List.map_append, List.append_assoc]; rfl, hB5, hS5, hV5, hR5⟩
                case measure => simp [intOf]; omega
              · have hj3 : j = 2 := by omega
                subst hj3
                have P3 := hidOf (And.intro hT3 (And.intro hB3 hS3))
                clear hT3 hB3 hS3 hV3 hR3 q1 g1 q2 g2
                go_wp2_with fail
                go_roundw
                case rel => exact ⟨k2 + 1, Xs3, by omega, by go_num, P3.out.1, by show List.map _ _ = _; rw [HX3.out, HN.out, HRF.out, List.append_assoc]; simp [List.range_succ], P3.out.2.1, P3.out.2.2⟩
                case measure => simp [intOf]; omega
          · have HRF : Hid (repD x.site t1 t2 t3 x.vs d 4 = []) := by
              show repD _ _ _ _ _ _ _ = _
              have hne : (slm.st == 1) = false := by simpa using hst
              rw [HF4.out, HOwn.out, hne, HFar.out]; rfl
            have P3 := hidOf (And.intro HPW.out.1 (And.intro HPW.out.2.1 HPW.out.2.2.1))
            clear HPW
            go_wp2_with fail
            go_roundw
            case rel => exact ⟨k2 + 1, Xs2, by omega, by go_num, P3.out.1, by show List.map _ _ = _; rw [HX.out, HN.out, HRF.out]; simp, P3.out.2.1, P3.out.2.2⟩
            case measure => simp [intOf]; omega
      have hk22 : k2 = x.os.length := by omega
      subst hk22
      have HXr : Hid (Xs2.map XW.x = pre ++ repL x.site t1 t2 t3 x.vs x.os) := by show List.map _ _ = _; rw [HX.out, List.take_length]
      have HLr : Hid (Xs2.length ≤ 400) := by
        show _ ≤ _
        have h1 := congrArg List.length HXr.out
        have h2 := repL_len x.site t1 t2 t3 x.vs x.os
        have h3 := HPre.out
        simp only [List.length_map, List.length_append] at h1
        omega
      have HEb : Hid (tendS x t1 t2 t3 = (pre ++ repL x.site t1 t2 t3 x.vs x.os) ++ (ckL x.vs x.kn x.ws).map (checkX x.site)) := HTS.out
      generalize pre ++ repL x.site t1 t2 t3 x.vs x.os = bs at *
      have ba : Below wr.heap.size wr (wr.alloc (.cells #[] 116)) := (Below.refl _ _).alloc (Nat.le_refl _) _
      have HAs := hidOf (empty_row wr 116 3)
      have hnb : ∀ X ∈ Xs2, ∀ b, inX X b → b < wr.heap.size := fun X hX b hb => (hT.each X hX).ltB hb
      have hCk : CkT x.site bs [] Xs2 wr.heap.size := ⟨by rw [HXr.out]; simp, hnb⟩
      have PK3 := hidOf (And.intro (hT.below ba (Nat.le_refl _)) (And.intro (hBel.trans (ba.mono hBel.size)) (And.intro (hS.below ba hS.lt) (And.intro hCk hBel.size))))
      have HW3 := hidOf ba.size
      clear hT hBel hS ba hnb hCk HX hkk hno far0 far2 HFar
      have hwl : (x.ws.length : Int) ≤ 80 := by have := (chainB_iff.1 HSV.out.2.1).1; omega
      go_wp2_with fail
      clear q1 g1
      generalize wr.alloc (.cells #[] 116) = W3 at *
      generalize wr.heap.size = Zc at *
      go_loopw [3, 10, 11] (fun u ask i wr => ∃ (k : Nat) (Xs : List XW) (out : List D), k ≤ x.ws.length ∧ i = .int .i64 k ∧ HalfWs wr w.heap.size u Xs ∧ RowD wr Zc ask out ∧ Hid (CkT x.site bs out Xs Zc ∧ out = ckL x.vs x.kn (x.ws.take k) ∧ Zc ≤ wr.heap.size) ∧ Below w.heap.size w wr ∧ Blk wr w.heap.size #[.int .i64 x.site, .bool true, .slice (some ⟨sb, so, none⟩) x.sl.length lc, .slice va x.vs.length vc, .slice wa x.ws.length wc, .slice oa x.os.length oc, .slice ka x.kn.length kc] 32) (fun _ _ i _ => x.ws.length - (intOf i).toNat)
      case atStart => exact ⟨0, Xs2, [], by omega, rfl, PK3.out.1, HAs.out, ⟨PK3.out.2.2.2.1, rfl, HW3.out⟩, PK3.out.2.1, PK3.out.2.2.1⟩
      case round =>
        obtain ⟨k3, Xs4, out4, hk3, rfl, hT, hA, HC, hBel, hS⟩ := hrel
        have HZc := hidOf PK3.out.2.2.2.2
        clear PK3 HAs
        obtain ⟨q1, g1⟩ := hS.rules
        by_cases hlt3 : k3 < x.ws.length
        · skip
          have HN := hidOf (ckL_take x.vs x.kn hlt3)
          have H6k := hidOf (chain_deps HSV.out.2.1 x.ws[k3] (List.getElem_mem hlt3))
          have hd6 : x.ws[k3].ds.length ≤ 6 := H6k.out
          have HCL : Hid ((ckL x.vs x.kn (x.ws.take k3)).length ≤ 480) := by
            show _ ≤ _
            have h1 := ckL_len x.vs x.kn (ws := x.ws.take k3) (fun v hv => chain_deps HSV.out.2.1 v (List.mem_of_mem_take hv))
            have h2 := (chainB_iff.1 HSV.out.2.1).1
            rw [List.length_take] at h1
            omega
          have hIn0 := HIn.out.w
          obtain ⟨wb, wo, da, dc, hab, hbb, hv0⟩ := hIn0.at hlt3
          simp only at hab
          subst hab
          generalize x.ws[k3] = v at *
          generalize ckL x.vs x.kn (x.ws.take k3) = prc at *
          have HCe := hidOf (hv0.c6)
          have HDs := hidOf hv0.ds
          have HbW := hidOf hbb
          clear hv0 hbb hIn0
          have PK := hidOf (And.intro hT (And.intro hA (And.intro hBel hS)))
          clear hT hA hBel hS
          go_wp2_with fail
          clear q1 g1
          go_loopw [3, 10, 12] (fun u ask i wr => ∃ (j : Nat) (Xs : List XW) (out : List D), j ≤ v.ds.length ∧ i = .int .i64 j ∧ HalfWs wr w.heap.size u Xs ∧ RowD wr Zc ask out ∧ Hid (CkT x.site bs out Xs Zc ∧ out = (v.ds.take j).foldl (ckF x.vs x.kn) prc ∧ Zc ≤ wr.heap.size) ∧ Below w.heap.size w wr ∧ Blk wr w.heap.size #[.int .i64 x.site, .bool true, .slice (some ⟨sb, so, none⟩) x.sl.length lc, .slice va x.vs.length vc, .slice (some ⟨wb, wo, none⟩) x.ws.length wc, .slice oa x.os.length oc, .slice ka x.kn.length kc] 32) (fun _ _ i _ => v.ds.length - (intOf i).toNat)
          case atStart => exact ⟨0, Xs4, out4, by omega, rfl, PK.out.1, PK.out.2.1, ⟨HC.out.1, HC.out.2.1, HC.out.2.2⟩, PK.out.2.2.1, PK.out.2.2.2⟩
          case round =>
            obtain ⟨j, Xs1, out, hj, rfl, hT1, hA1, HX1, hBel1, hS1⟩ := hrel
            clear PK HC
            have cde : wr.cell? ⟨wb, wo + k3 * 7 + 6, none⟩ = some (.slice da v.ds.length dc) := (hBel1.cell (p := ⟨wb, _, none⟩) HbW.out).trans HCe.out
            obtain ⟨q1, g1⟩ := hS1.rules
            by_cases hjl : j < v.ds.length
            · have HST := hidOf (ck_step x.vs x.kn hjl prc)
              have HOL : Hid (out.length ≤ 490) := by
                show _ ≤ _
                have h1 := ck_len x.vs x.kn (v.ds.take j) prc
                rw [← HX1.out.2.1, List.length_take] at h1
                have h2 := HCL.out
                have h3 := H6k.out
                omega
              have HXL : Hid (Xs1.length ≤ 2000) := by
                show _ ≤ _
                have h1 := congrArg List.length HX1.out.1.m
                have h2 := congrArg List.length HXr.out
                have h3 := HLr.out
                have h4 := HOL.out
                simp only [List.length_map, List.length_append] at h1 h2
                omega
              obtain ⟨b2, p2, rfl, hbb2, c0, c1, c2⟩ := (HDs.out.below hBel1).at hjl
              generalize v.ds[j] = d at *
              have hD1 := Blk.new wr #[.int .i64 d.k, .int .i64 d.t, .int .i64 d.s] 116
              have ba1 : Below wr.heap.size wr (wr.alloc (.cells #[.int .i64 d.k, .int .i64 d.t, .int .i64 d.s] 116)) := (Below.refl _ _).alloc (Nat.le_refl _) _
              have HAS := hidOf hA1.lt
              have HD1 := hidOf hD1
              have HZ2 := hidOf (Nat.le_trans HX1.out.2.2 ba1.size)
              have HP := hidOf (And.intro (hT1.below ba1 (Nat.le_refl _)) (And.intro (show RowD (wr.alloc (.cells #[.int .i64 d.k, .int .i64 d.t, .int .i64 d.s] 116)) Zc _ out from row_below hA1 ba1 (Nat.le_refl _)) (And.intro (hBel1.trans (ba1.mono hBel1.size)) (hS1.below ba1 hS1.lt))))
              clear hT1 hA1 hBel1 hS1 hD1 ba1 hbb2
              obtain ⟨q3, g3⟩ := HP.out.2.2.2.rules
              obtain ⟨aa, ac, rfl, _⟩ := row_slice HP.out.2.1
              go_wp2_with fail
              clear c0 c1 c2 cde q1 g1 q3 g3
              generalize hDB : wr.heap.size = DB at *
              generalize wr.alloc (.cells #[.int .i64 d.k, .int .i64 d.t, .int .i64 d.s] 116) = W2 at *
              clear hDB
              have hSe := sSeen_any x ⟨some ⟨sb, so, none⟩, lc, va, vc, some ⟨wb, wo, none⟩, wc, oa, oc, ka, kc⟩ d W2 HLn.out (HIn.out.below HP.out.2.2.1) HSV.out.1 (by have := (owesB_iff.1 HSV.out.2.2.2.1).1; omega)
              simp only [servV, servC, HUp.out] at hSe
              obtain ⟨q1, g1⟩ := HP.out.2.2.2.rules
              obtain ⟨q2, g2⟩ := HD1.out.rules
              rcases hse : seesB x.vs x.kn d with _ | _
              · rw [hse] at hSe
                refine hSe.mono ?_
                rintro e w3 ⟨rfl, hb3⟩
                have HP3 := hidOf (And.intro (HP.out.1.below hb3 (Nat.le_refl _)) (And.intro (show RowD w3 Zc _ out from row_below HP.out.2.1 hb3 (Nat.le_refl _)) (And.intro (HP.out.2.2.1.trans (hb3.mono HP.out.2.2.1.size)) (HP.out.2.2.2.below hb3 HP.out.2.2.2.lt))))
                have HD3 := hidOf (HD1.out.below hb3 HD1.out.lt)
                have HZ3 := hidOf (Nat.le_trans HZ2.out hb3.size)
                clear hSe hb3 q1 g1 q2 g2 HP HD1
                obtain ⟨q1, g1⟩ := HP3.out.2.2.2.rules
                obtain ⟨q2, g2⟩ := HD3.out.rules
                go_wp2_with fail
                refine (sDep_any aa ac out d _ (by have := HOL.out; omega) (row_deps' HP3.out.2.1)).mono ?_
                rintro e w4 ⟨r, rfl, hr, hb4⟩
                have HP4 := hidOf (And.intro (HP3.out.1.below hb4 (Nat.le_refl _)) (And.intro (show RowD w4 Zc _ out from row_below HP3.out.2.1 hb4 (Nat.le_refl _)) (And.intro (HP3.out.2.2.1.trans (hb4.mono HP3.out.2.2.1.size)) (HP3.out.2.2.2.below hb4 HP3.out.2.2.2.lt))))
                have HD4 := hidOf (HD3.out.below hb4 HD3.out.lt)
                have HZ4 := hidOf (Nat.le_trans HZ3.out hb4.size)
                clear hb4 q1 g1 q2 g2 HP3 HD3
                rcases hr with ⟨r0, r9, hm⟩ | ⟨rfl, hm⟩
                · have HNew : Hid (ckF x.vs x.kn out d = out) := by show ckF _ _ _ _ = _; unfold ckF; rw [hse, hm]; rfl
                  have hnr : ¬ r < 0 := by omega
                  clear hse hm
                  go_wp2_with fail
                  go_roundw
                  case rel => exact ⟨j + 1, Xs1, out, by omega, by go_num, HP4.out.1, HP4.out.2.1, ⟨HX1.out.1, by rw [HST.out, ← HX1.out.2.1, HNew.out], HZ4.out⟩, HP4.out.2.2.1, HP4.out.2.2.2⟩
                  case measure => simp [intOf]; omega
                · skip
                  have HNew : Hid (ckF x.vs x.kn out d = out ++ [d]) := by show ckF _ _ _ _ = _; unfold ckF; rw [hse, hm]; rfl
                  clear hse hm
                  obtain ⟨q1, g1⟩ := HP4.out.2.2.2.rules
                  obtain ⟨q2, g2⟩ := HD4.out.rules
                  have ba4 : Below w4.heap.size w4 (w4.alloc (.cells #[.int .i64 d.k, .int .i64 d.t, .int .i64 d.s] 116)) := (Below.refl _ _).alloc (Nat.le_refl _) _
                  have HN4 := hidOf (Blk.new w4 #[.int .i64 d.k, .int .i64 d.t, .int .i64 d.s] 116)
                  have HP5 := hidOf (And.intro (HP4.out.1.below ba4 (Nat.le_refl _)) (And.intro (show RowD (w4.alloc (.cells #[.int .i64 d.k, .int .i64 d.t, .int .i64 d.s] 116)) Zc _ out from row_below HP4.out.2.1 ba4 (Nat.le_refl _)) (And.intro (HP4.out.2.2.1.trans (ba4.mono HP4.out.2.2.1.size)) (HP4.out.2.2.2.below ba4 HP4.out.2.2.2.lt))))
                  have HD5 := hidOf (HD4.out.below ba4 HD4.out.lt)
                  have HZ5 := hidOf (Nat.le_trans HZ4.out ba4.size)
                  clear ba4 HP4 HD4
                  obtain ⟨q3, g3⟩ := HP5.out.2.2.2.rules
                  obtain ⟨q4, g4⟩ := HD5.out.rules
                  go_wp2_with (first | (at_builtin
                                        refine wpList_append_depT _ rfl _ _ rfl Zc _ out rfl HP5.out.2.1 d w4.heap.size rfl HN4.out (by have := HOL.out; omega) HZ5.out ?_
                                        intro v' w5 hA6 hg6
                                        have hlo : ∀ i, (Value.slice aa out.length ac).ownBlock = some i → Zc ≤ i ∧ i < DB := fun i hi => ⟨(HP5.out.2.1.lt i hi).1, (HAS.out i hi).2⟩
                                        have o6 := only_grown hg6
                                        have HT6 := hidOf (HalfWs.mk (o6.row HP5.out.1.row (fun i hi hs => row_type HP5.out.1.row HP5.out.2.1 (by decide) i hi hs)) (fun X hX => o6.ownHX (HP5.out.1.each X hX) (fun b hb hs => by have h1 := HX1.out.1.n X hX b hb; have h2 := (hlo b hs).1; omega)))
                                        have HA6 := hidOf hA6
                                        have HS6 := hidOf (HP5.out.2.2.2.grown hg6 (fun e => row_not_blk HP5.out.2.1 HP5.out.2.2.2 (by decide) e.symm))
                                        have HD6 := hidOf (HD5.out.grown hg6 (fun e => by have := (hlo _ e.symm).2; omega))
                                        have HB6 := hidOf (HP5.out.2.2.1.grown hg6 HP5.out.2.2.1.size (fun i hi => by have h1 := (hlo i hi).1; have h2 := HZc.out; omega))
                                        have HZ6 := hidOf (Nat.le_trans HZ5.out hg6.size)
                                        clear hlo o6 hA6 hg6 HP5 HD5 HN4 HZ5 q1 g1 q2 g2 q3 g3 q4 g4))
                  have bd : Below w5.heap.size w5 w5.drew := (Below.refl _ _).drew
                  have b1 : Below w5.heap.size w5 (w5.alloc (.cells #[.int .i64 7, .int .i64 x.site, .int .i64 (twinX x.site), .int .i64 0, .int .i64 d.k, .int .i64 d.t, .int .i64 d.s, .int .i64 0, .bool false, .slice none 0 0, .int .i64 0, .int .i64 0, .slice none 0 0, .slice none 0 0, .slice none 0 0] 41)).drew := ((Below.refl _ _).alloc (Nat.le_refl _) _).drew
                  have Hk0 := hidOf (show (∀ i, w5.drew.cell? ⟨w.heap.size, i, none⟩ = #[.int .i64 x.site, .bool true, .slice (some ⟨sb, so, none⟩) x.sl.length lc, .slice va x.vs.length vc, .slice (some ⟨wb, wo, none⟩) x.ws.length wc, .slice oa x.os.length oc, .slice ka x.kn.length kc][i]?) ∧ (∀ i, w5.drew.cell? ⟨DB, i, none⟩ = #[.int .i64 d.k, .int .i64 d.t, .int .i64 d.s][i]?) from ⟨(HS6.out.below bd HS6.out.lt).cell, (HD6.out.below bd HD6.out.lt).cell⟩)
                  have Hk1 := hidOf (show (∀ i, (w5.alloc (.cells #[.int .i64 7, .int .i64 x.site, .int .i64 (twinX x.site), .int .i64 0, .int .i64 d.k, .int .i64 d.t, .int .i64 d.s, .int .i64 0, .bool false, .slice none 0 0, .int .i64 0, .int .i64 0, .slice none 0 0, .slice none 0 0, .slice none 0 0] 41)).drew.cell? ⟨w.heap.size, i, none⟩ = #[.int .i64 x.site, .bool true, .slice (some ⟨sb, so, none⟩) x.sl.length lc, .slice va x.vs.length vc, .slice (some ⟨wb, wo, none⟩) x.ws.length wc, .slice oa x.os.length oc, .slice ka x.kn.length kc][i]?) ∧ (∀ i, (w5.alloc (.cells #[.int .i64 7, .int .i64 x.site, .int .i64 (twinX x.site), .int .i64 0, .int .i64 d.k, .int .i64 d.t, .int .i64 d.s, .int .i64 0, .bool false, .slice none 0 0, .int .i64 0, .int .i64 0, .slice none 0 0, .slice none 0 0, .slice none 0 0] 41)).drew.cell? ⟨DB, i, none⟩ = #[.int .i64 d.k, .int .i64 d.t, .int .i64 d.s][i]?) from ⟨(HS6.out.below b1 HS6.out.lt).cell, (HD6.out.below b1 HD6.out.lt).cell⟩)
                  have HT7 := hidOf (HT6.out.below b1 (Nat.le_refl _))
                  have HA7 := hidOf (show RowD _ _ _ _ from row_below HA6.out b1 (Nat.le_refl _))
                  have HBW : Hid (Blk (w5.alloc (.cells #[.int .i64 7, .int .i64 x.site, .int .i64 (twinX x.site), .int .i64 0, .int .i64 d.k, .int .i64 d.t, .int .i64 d.s, .int .i64 0, .bool false, .slice none 0 0, .int .i64 0, .int .i64 0, .slice none 0 0, .slice none 0 0, .slice none 0 0] 41)).drew w5.heap.size #[.int .i64 7, .int .i64 x.site, .int .i64 (twinX x.site), .int .i64 0, .int .i64 d.k, .int .i64 d.t, .int .i64 d.s, .int .i64 0, .bool false, .slice none 0 0, .int .i64 0, .int .i64 0, .slice none 0 0, .slice none 0 0, .slice none 0 0] 41) := Blk.new w5 #[.int .i64 7, .int .i64 x.site, .int .i64 (twinX x.site), .int .i64 0, .int .i64 d.k, .int .i64 d.t, .int .i64 d.s, .int .i64 0, .bool false, .slice none 0 0, .int .i64 0, .int .i64 0, .slice none 0 0, .slice none 0 0, .slice none 0 0] 41
                  have hpl := own_plain (W := (w5.alloc (.cells #[.int .i64 7, .int .i64 x.site, .int .i64 (twinX x.site), .int .i64 0, .int .i64 d.k, .int .i64 d.t, .int .i64 d.s, .int .i64 0, .bool false, .slice none 0 0, .int .i64 0, .int .i64 0, .slice none 0 0, .slice none 0 0, .slice none 0 0] 41)).drew) (base := w.heap.size) (checkX x.site d) ⟨rfl, rfl, rfl, rfl⟩
                  have HXW := hidOf hpl.1.half
                  have HXN := hidOf hpl.2
                  have hsz : w.heap.size ≤ (w5.alloc (.cells #[.int .i64 7, .int .i64 x.site, .int .i64 (twinX x.site), .int .i64 0, .int .i64 d.k, .int .i64 d.t, .int .i64 d.s, .int .i64 0, .bool false, .slice none 0 0, .int .i64 0, .int .i64 0, .slice none 0 0, .slice none 0 0, .slice none 0 0] 41)).drew.heap.size := Nat.le_trans HB6.out.size b1.size
                  have HB7 := hidOf (HB6.out.trans (b1.mono HB6.out.size))
                  have HS7 := hidOf (HS6.out.below b1 HS6.out.lt)
                  have HD7 := hidOf (HD6.out.below b1 HD6.out.lt)
                  have HZ7 := hidOf (Nat.le_trans HZ6.out b1.size)
                  have hTw := fun W => stwin_any x.site HSV.out.2.2.2.2.1 HSV.out.2.2.2.2.2 W
                  clear bd b1 hpl HT6 HA6 HS6 HD6 HB6
                  go_region_held3 (fun W => (∀ i, W.cell? ⟨w.heap.size, i, none⟩ = #[.int .i64 x.site, .bool true, .slice (some ⟨sb, so, none⟩) x.sl.length lc, .slice va x.vs.length vc, .slice (some ⟨wb, wo, none⟩) x.ws.length wc, .slice oa x.os.length oc, .slice ka x.kn.length kc][i]?) ∧ (∀ i, W.cell? ⟨DB, i, none⟩ = #[.int .i64 d.k, .int .i64 d.t, .int .i64 d.s][i]?)) (first | with_reducible exact Hk3.out | with_reducible exact Hk1.out | with_reducible exact Hk0.out)
                    (first
                      | (go_at_call 71; refine (hTw _).mono ?_; rintro e w9 ⟨rfl, rfl⟩)
                      | (refine step_append_half _ (by rfl) _ _ (by rfl) w.heap.size _ Xs1 (by rfl) HT7.out ⟨checkX x.site d, ⟨none, 0, none, 0, none, 0, none, 0⟩, [], []⟩ w5.heap.size (by rfl) HBW.out HXW.out (by have := HXL.out; omega) hsz ?_
                         intro v6 w6 hT8 hg8
                         have hlo : ∀ i, Value.ownBlock _ = some i → w.heap.size ≤ i := fun i hi => (HT7.out.row.lt i hi).1
                         have HB8 := hidOf (HB7.out.grown hg8 hsz (fun i hi => hlo i hi))
                         have hS8 := HS7.out.grown hg8 (fun e => row_not_blk HT7.out.row HS7.out (by decide) e.symm)
                         have hD8 := HD7.out.grown hg8 (fun e => row_not_blk HT7.out.row HD7.out (by decide) e.symm)
                         have HA8 := hidOf ((only_grown hg8).row HA7.out (fun i hi hs => row_type HT7.out.row HA7.out (by decide) i hs hi))
                         have HT8 := hidOf hT8
                         have HZ8 := hidOf (Nat.le_trans HZ7.out hg8.size)
                         have HS8 := hidOf hS8
                         have Hk3 := hidOf (And.intro hS8.cell hD8.cell)
                         clear hT8 hg8 hlo hS8 hD8))
                  clear Hk0 Hk1 Hk3 HT7 HA7 HBW HXW HB7 HS7 HD7 HZ7 hTw
                  have HCn : Hid (CkT x.site bs (out ++ [d]) (Xs1 ++ [⟨checkX x.site d, ⟨none, 0, none, 0, none, 0, none, 0⟩, [], []⟩]) Zc) := ⟨by rw [List.map_append, List.map_append, HX1.out.1.m, List.append_assoc]; rfl, fun X hX b hb => by rcases List.mem_append.1 hX with hX | hX; exact HX1.out.1.n X hX b hb; simp at hX; subst hX; exact absurd hb (HXN.out b)⟩
                  go_wp2_with fail
                  go_roundw
                  case rel => exact ⟨j + 1, _, out ++ [d], by omega, by go_num, HT8.out, HA8.out, ⟨HCn.out, by rw [HST.out, ← HX1.out.2.1, HNew.out], HZ8.out⟩, HB8.out, HS8.out⟩
                  case measure => simp [intOf]; omega
              · rw [hse] at hSe
                have HNew : Hid (ckF x.vs x.kn out d = out) := by show ckF _ _ _ _ = _; unfold ckF; rw [hse]; rfl
                clear hse
                refine hSe.mono ?_
                rintro e w3 ⟨rfl, hb3⟩
                have HP3 := hidOf (And.intro (HP.out.1.below hb3 (Nat.le_refl _)) (And.intro (show RowD w3 Zc _ out from row_below HP.out.2.1 hb3 (Nat.le_refl _)) (And.intro (HP.out.2.2.1.trans (hb3.mono HP.out.2.2.1.size)) (HP.out.2.2.2.below hb3 HP.out.2.2.2.lt))))
                have HZ3 := hidOf (Nat.le_trans HZ2.out hb3.size)
                clear hSe hb3 q1 g1 q2 g2 HP HD1
                go_wp2_with fail
                go_roundw
                case rel => exact ⟨j + 1, Xs1, out, by omega, by go_num, HP3.out.1, HP3.out.2.1, ⟨HX1.out.1, by rw [HST.out, ← HX1.out.2.1, HNew.out], HZ3.out⟩, HP3.out.2.2.1, HP3.out.2.2.2⟩
                case measure => simp [intOf]; omega
            · have hj2 : j = v.ds.length := by omega
              subst hj2
              have HP := hidOf (And.intro hT1 (And.intro hA1 (And.intro hBel1 hS1)))
              clear hT1 hA1 hBel1 hS1
              go_wp2_with fail
              clear q1 g1 cde
              go_roundw
              case rel => exact ⟨k3 + 1, Xs1, out, by omega, by go_num, HP.out.1, HP.out.2.1, by rw [HN.out]; have h1 := HX1.out.1; have h2 := HX1.out.2.1; rw [List.take_length] at h2; exact ⟨h1, h2, HX1.out.2.2⟩, HP.out.2.2.1, HP.out.2.2.2⟩
              case measure => simp [intOf]; omega
        · skip
          have hk4 : k3 = x.ws.length := by omega
          subst hk4
          have HM4 : Hid (Xs4.map XW.x = tendS x t1 t2 t3) := by show _ = _; rw [HC.out.1.m, HEb.out, HC.out.2.1, List.take_length]
          obtain ⟨aa, ac, rfl, hW4⟩ := hT.slice
          have hSW := fun W h => sWords_any aa ac (Xs4.map XW.x) W (by rw [HM4.out]; have := HSm.out.2; omega) (by rw [HM4.out]; exact fun X hX => (HSm.out.1 X hX).len) h
          simp only [List.length_map] at hSW
          have PK := hidOf (And.intro hW4 hBel)
          clear hT hA hBel hS hW4 HC
          go_wp2_with fail
          clear q1 g1
          refine (hSW _ PK.out.1).mono ?_
          rintro e w6 ⟨u6, Xs6, rfl, hO6, hm6, hb6⟩
          have HF := hidOf (And.intro (hO6.mono PK.out.2.size) (And.intro (hm6.trans HM4.out) (PK.out.2.trans (hb6.mono PK.out.2.size))))
          clear hO6 hm6 hb6 hSW PK
          go_wp2_with fail
          go_ret
          exact ⟨u6, Xs6, rfl, HF.out.1, by rw [HE.out]; exact HF.out.2.1, HF.out.2.2⟩
end Go.Proofs.YtpjidogilofppaaGreat

