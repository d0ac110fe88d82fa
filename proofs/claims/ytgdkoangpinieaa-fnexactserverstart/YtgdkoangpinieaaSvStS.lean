/- ServerStart of the specification. -/
import Derived.Test.YtgdkoangpinieaaSvStI
namespace Go.Proofs.Ytgdkoangpinieaa
open Go.ChangeShapes Go.WideShapes Go.ChangeAt Go.RowKit

/-- One more slot, in a block of its own, is appended. -/
theorem wpList_append_slot1 (w : World) {ops : Array Oper} {rest : List Oper} {o : Oper} {a : Act} {Q : Exit → Act → World → Prop} (hgd : o.guard = none) (s x : Operand)
    (ho : o.op = .call { callee := .builtin .append, args := #[s, x], argTypes := #[61, 61] })
    (base : Nat) (v : Value) (ys : List Sl) (hs : a.eval s = v) (hO : RowS w base v ys) (y : Sl) (g : Nat) (hx : a.eval x = .slice (some ⟨g, 0, none⟩) 1 1)
    (hB : Blk w g #[.int .i64 y.ep, .int .i64 y.st] 133) (hn : ys.length ≤ 1099511627776) (hb : base ≤ w.heap.size)
    (h : ∀ v' w', RowS w' base v' (ys ++ [y]) → w.grownBy w' v.ownBlock → wpList Try.prog ops Q rest (a.put o.dst v') w') : wpList Try.prog ops Q (o :: rest) a w := by
  obtain ⟨i0, hi, hz0, hz1, hz2⟩ := info_parts infoSlot
  refine wpList_append_own w hgd s x 61 ho base 133 i0 (.agg #[.int .i64 0, .int .i64 0]) 2 16 Try.underlying61 hi hz0 hz1 hz2 rfl (by decide) v ys.length (flat2 ys) hs hO ⟨g, 0, none⟩ 1 1 (flat2 [y]) hx rfl (fun j u hj => ?_) (flat2_one _) (by unfold maxLen; omega) (by omega) hb fun v' w' h2 h3 _ => h v' w' (by show World.ownsRow _ _ _ _ _ _ _; rw [List.length_append, flat2_snoc]; exact h2) h3
  rw [addr_add, Nat.zero_add, hB.cell]
  simpa [flat2] using hj

theorem sStart_no (n : Int) (w : World) (h : ¬ (0 ≤ n ∧ n ≤ 3)) : Calls Try.prog 57 #[.int .i64 n] w fun e w' => ∃ b, e = .returned (servV (startX n) b) ∧ OwnS w' w.heap.size (startX n) b [] [] ∧ Below w.heap.size w w' := by
  have hx : startX n = ⟨0, false, [], [], [], [], []⟩ := by unfold startX; rw [if_neg h]
  have hb : inB n 0 3 = false := by unfold inB; simpa using h
  have hS : ∀ W, Calls Try.prog 130 #[.int .i64 n] W fun e w' => e = .returned (.bool false) ∧ w' = W := fun W => by rw [← hb]; exact site_any n W
  have HX : Hid (startX n = ⟨0, false, [], [], [], [], []⟩) := hx
  clear hx hb h
  go_enter Try.func57, Try.ntmps57
  go_wp2_with (first | (go_at_call 130; refine (hS _).mono ?_; rintro e w' ⟨rfl, rfl⟩))
  refine bodyPost_ret (v := .agg #[.int .i64 0, .bool false, .slice none 0 0, .slice none 0 0, .slice none 0 0, .slice none 0 0, .slice none 0 0]) ?_ rfl ⟨noA, by rw [HX.out]; rfl, ?_, ?_⟩
  · simp [results, Try.results57, go_sem]
  · rw [HX.out]; exact start_own (World.ownsRow_nil _ _ _ _)
  · exact (Below.refl _ _).alloc (Nat.le_refl _) _

set_option maxHeartbeats 4000000 in
set_option maxRecDepth 20000 in
theorem sStart0 (w : World) : Calls Try.prog 57 #[.int .i64 0] w fun e w' => ∃ b, e = .returned (servV (startX 0) b) ∧ OwnS w' w.heap.size (startX 0) b [] [] ∧ Below w.heap.size w w' := by
  have HX : Hid (startX 0 = ⟨0, true, [⟨1, 1⟩, ⟨0, 0⟩, ⟨1, 1⟩], [], [], [], []⟩) := by show _ = _; unfold startX; rfl
  have hS : ∀ W, Calls Try.prog 130 #[.int .i64 0] W fun e w' => e = .returned (.bool true) ∧ w' = W := fun W => site_any 0 W
  have R0 : Blk ((w.alloc (.cells #[.int .i64 0, .bool false, .slice none 0 0, .slice none 0 0, .slice none 0 0, .slice none 0 0, .slice none 0 0] 63)).alloc (.cells #[.int .i64 0, .bool true, .slice none 0 0, .slice none 0 0, .slice none 0 0, .slice none 0 0, .slice none 0 0] 63)) w.heap.size #[.int .i64 0, .bool false, .slice none 0 0, .slice none 0 0, .slice none 0 0, .slice none 0 0, .slice none 0 0] 63 := (Blk.new w _ _).alloc _
  have H0 : Blk ((w.alloc (.cells #[.int .i64 0, .bool false, .slice none 0 0, .slice none 0 0, .slice none 0 0, .slice none 0 0, .slice none 0 0] 63)).alloc (.cells #[.int .i64 0, .bool true, .slice none 0 0, .slice none 0 0, .slice none 0 0, .slice none 0 0, .slice none 0 0] 63)) (w.heap.size + 1) #[.int .i64 0, .bool true, .slice none 0 0, .slice none 0 0, .slice none 0 0, .slice none 0 0, .slice none 0 0] 63 := by have := Blk.new (w.alloc (.cells #[.int .i64 0, .bool false, .slice none 0 0, .slice none 0 0, .slice none 0 0, .slice none 0 0, .slice none 0 0] 63)) #[.int .i64 0, .bool true, .slice none 0 0, .slice none 0 0, .slice none 0 0, .slice none 0 0, .slice none 0 0] 63; simpa using this
  have B0 : Below w.heap.size w ((w.alloc (.cells #[.int .i64 0, .bool false, .slice none 0 0, .slice none 0 0, .slice none 0 0, .slice none 0 0, .slice none 0 0] 63)).alloc (.cells #[.int .i64 0, .bool true, .slice none 0 0, .slice none 0 0, .slice none 0 0, .slice none 0 0, .slice none 0 0] 63)) := ((Below.refl _ _).alloc (Nat.le_refl _) _).alloc (by simp) _
  go_enter Try.func57, Try.ntmps57
  go_wp2_with (first | (go_at_call 130; refine (hS _).mono ?_; rintro e w' ⟨rfl, rfl⟩))
  go_loopw [4] (fun i wr => Blk wr w.heap.size #[.int .i64 0, .bool false, .slice none 0 0, .slice none 0 0, .slice none 0 0, .slice none 0 0, .slice none 0 0] 63 ∧ Below w.heap.size w wr ∧ ∃ pa pc, (i = .int .i64 0 ∧ Blk wr (w.heap.size + 1) #[.int .i64 0, .bool true, .slice pa 0 pc, .slice none 0 0, .slice none 0 0, .slice none 0 0, .slice none 0 0] 63 ∧ RowS wr (w.heap.size + 2) (.slice pa 0 pc) []) ∨ (i = .int .i64 1 ∧ Blk wr (w.heap.size + 1) #[.int .i64 0, .bool true, .slice pa 1 pc, .slice none 0 0, .slice none 0 0, .slice none 0 0, .slice none 0 0] 63 ∧ RowS wr (w.heap.size + 2) (.slice pa 1 pc) [⟨1, 1⟩]) ∨ (i = .int .i64 2 ∧ Blk wr (w.heap.size + 1) #[.int .i64 0, .bool true, .slice pa 2 pc, .slice none 0 0, .slice none 0 0, .slice none 0 0, .slice none 0 0] 63 ∧ RowS wr (w.heap.size + 2) (.slice pa 2 pc) [⟨1, 1⟩, ⟨0, 0⟩]) ∨ (i = .int .i64 3 ∧ Blk wr (w.heap.size + 1) #[.int .i64 0, .bool true, .slice pa 3 pc, .slice none 0 0, .slice none 0 0, .slice none 0 0, .slice none 0 0] 63 ∧ RowS wr (w.heap.size + 2) (.slice pa 3 pc) [⟨1, 1⟩, ⟨0, 0⟩, ⟨1, 1⟩])) (fun i _ => 3 - (intOf i).toNat)
  case atStart => exact ⟨R0, B0, none, 0, .inl ⟨rfl, H0, World.ownsRow_nil _ _ _ _⟩⟩
  case round =>
    obtain ⟨R1, B1, pa, pc, hc⟩ := hrel
    clear R0 H0 B0 hS
    rcases hc with ⟨rfl, H1, W1⟩ | ⟨rfl, H1, W1⟩ | ⟨rfl, H1, W1⟩ | ⟨rfl, H1, W1⟩
    · have W2 : Hid (RowS ((wr.alloc (.cells #[.int .i64 1, .int .i64 1] 133)).alloc (.cells #[.int .i64 1, .int .i64 1] 133)) (w.heap.size + 2) (.slice pa 0 pc) []) := ((show World.ownsRow _ _ _ _ _ _ _ from W1).alloc _).alloc _
      have H2 := (H1.alloc (.cells #[.int .i64 1, .int .i64 1] 133)).alloc (.cells #[.int .i64 1, .int .i64 1] 133)
      have R2 := (R1.alloc (.cells #[.int .i64 1, .int .i64 1] 133)).alloc (.cells #[.int .i64 1, .int .i64 1] 133)
      have B2 : Below w.heap.size w ((wr.alloc (.cells #[.int .i64 1, .int .i64 1] 133)).alloc (.cells #[.int .i64 1, .int .i64 1] 133)) := (B1.alloc B1.size _).alloc (by have := B1.size; simp; omega) _
      have N2 : Blk ((wr.alloc (.cells #[.int .i64 1, .int .i64 1] 133)).alloc (.cells #[.int .i64 1, .int .i64 1] 133)) (wr.heap.size + 1) #[.int .i64 1, .int .i64 1] 133 := by have := Blk.new (wr.alloc (.cells #[.int .i64 1, .int .i64 1] 133)) #[.int .i64 1, .int .i64 1] 133; simpa using this
      have z1 := H1.lt
      have z0 := R1.lt
      obtain ⟨q1, g1⟩ := H1.rules
      obtain ⟨q2, g2⟩ := H2.rules
      clear H1 R1 W1
      go_wp2_with (first | (at_builtin; refine wpList_append_slot1 _ rfl _ _ rfl (w.heap.size + 2) (.slice pa 0 pc) [] rfl W2.out ⟨1, 1⟩ (wr.heap.size + 1) rfl N2 (by simp) (by simp; omega) ?_
                            intro v' w3 hrow hg
                            obtain ⟨pa', pc', rfl, _⟩ := row_slice hrow
                            have hne : ∀ j, (Value.slice pa 0 pc).ownBlock = some j → w.heap.size + 2 ≤ j := fun j hj => (W2.out.lt j hj).1
                            have H3 := H2.grown hg (fun e => by have := hne _ e.symm; omega)
                            have R3 := R2.grown hg (fun e => by have := hne _ e.symm; omega)
                            have B3 : Below w.heap.size w w3 := B2.grown hg B2.size (fun j hj => by have := hne j hj; omega)
                            have W3 : Hid (RowS w3 (w.heap.size + 2) (.slice pa' 1 pc') [⟨1, 1⟩]) := hrow
                            have z3 := H3.lt
                            have H4 : Blk (w3.setCell ⟨w.heap.size + 1, 2, none⟩ (.slice pa' 1 pc')) (w.heap.size + 1) #[.int .i64 0, .bool true, .slice pa' 1 pc', .slice none 0 0, .slice none 0 0, .slice none 0 0, .slice none 0 0] 63 := by
                              have := H3.set 2 (.slice pa' 1 pc')
                              simpa using this
                            have R4 := R3.other (a := ⟨w.heap.size + 1, 2, none⟩) (by simp) (.slice pa' 1 pc')
                            have B4 := B3.setCell (p := ⟨w.heap.size + 1, 2, none⟩) (by simp) (.slice pa' 1 pc')
                            have W4 : Hid (RowS (w3.setCell ⟨w.heap.size + 1, 2, none⟩ (.slice pa' 1 pc')) (w.heap.size + 2) (.slice pa' 1 pc') [⟨1, 1⟩]) := rowSetB2 W3.out (by omega)
                            clear W2 H2 R2 B2 N2 q1 g1 q2 g2 hrow hg hne W3
                            obtain ⟨q3, g3⟩ := H3.rules
                            clear H3 R3 B3))
      go_roundw
      case rel => exact ⟨R4, B4, pa', pc', .inr (.inl ⟨rfl, H4, W4.out⟩)⟩
      case measure => simp [intOf]
    · have W2 : Hid (RowS ((wr.alloc (.cells #[.int .i64 0, .int .i64 0] 133)).alloc (.cells #[.int .i64 0, .int .i64 0] 133)) (w.heap.size + 2) (.slice pa 1 pc) [⟨1, 1⟩]) := ((show World.ownsRow _ _ _ _ _ _ _ from W1).alloc _).alloc _
      have H2 := (H1.alloc (.cells #[.int .i64 0, .int .i64 0] 133)).alloc (.cells #[.int .i64 0, .int .i64 0] 133)
      have R2 := (R1.alloc (.cells #[.int .i64 0, .int .i64 0] 133)).alloc (.cells #[.int .i64 0, .int .i64 0] 133)
      have B2 : Below w.heap.size w ((wr.alloc (.cells #[.int .i64 0, .int .i64 0] 133)).alloc (.cells #[.int .i64 0, .int .i64 0] 133)) := (B1.alloc B1.size _).alloc (by have := B1.size; simp; omega) _
      have N2 : Blk ((wr.alloc (.cells #[.int .i64 0, .int .i64 0] 133)).alloc (.cells #[.int .i64 0, .int .i64 0] 133)) (wr.heap.size + 1) #[.int .i64 0, .int .i64 0] 133 := by have := Blk.new (wr.alloc (.cells #[.int .i64 0, .int .i64 0] 133)) #[.int .i64 0, .int .i64 0] 133; simpa using this
      have z1 := H1.lt
      have z0 := R1.lt
      obtain ⟨q1, g1⟩ := H1.rules
      obtain ⟨q2, g2⟩ := H2.rules
      clear H1 R1 W1
      go_wp2_with (first | (at_builtin; refine wpList_append_slot1 _ rfl _ _ rfl (w.heap.size + 2) (.slice pa 1 pc) [⟨1, 1⟩] rfl W2.out ⟨0, 0⟩ (wr.heap.size + 1) rfl N2 (by simp) (by simp; omega) ?_
                            intro v' w3 hrow hg
                            obtain ⟨pa', pc', rfl, _⟩ := row_slice hrow
                            have hne : ∀ j, (Value.slice pa 1 pc).ownBlock = some j → w.heap.size + 2 ≤ j := fun j hj => (W2.out.lt j hj).1
                            have H3 := H2.grown hg (fun e => by have := hne _ e.symm; omega)
                            have R3 := R2.grown hg (fun e => by have := hne _ e.symm; omega)
                            have B3 : Below w.heap.size w w3 := B2.grown hg B2.size (fun j hj => by have := hne j hj; omega)
                            have W3 : Hid (RowS w3 (w.heap.size + 2) (.slice pa' 2 pc') [⟨1, 1⟩, ⟨0, 0⟩]) := hrow
                            have z3 := H3.lt
                            have H4 : Blk (w3.setCell ⟨w.heap.size + 1, 2, none⟩ (.slice pa' 2 pc')) (w.heap.size + 1) #[.int .i64 0, .bool true, .slice pa' 2 pc', .slice none 0 0, .slice none 0 0, .slice none 0 0, .slice none 0 0] 63 := by
                              have := H3.set 2 (.slice pa' 2 pc')
                              simpa using this
                            have R4 := R3.other (a := ⟨w.heap.size + 1, 2, none⟩) (by simp) (.slice pa' 2 pc')
                            have B4 := B3.setCell (p := ⟨w.heap.size + 1, 2, none⟩) (by simp) (.slice pa' 2 pc')
                            have W4 : Hid (RowS (w3.setCell ⟨w.heap.size + 1, 2, none⟩ (.slice pa' 2 pc')) (w.heap.size + 2) (.slice pa' 2 pc') [⟨1, 1⟩, ⟨0, 0⟩]) := rowSetB2 W3.out (by omega)
                            clear W2 H2 R2 B2 N2 q1 g1 q2 g2 hrow hg hne W3
                            obtain ⟨q3, g3⟩ := H3.rules
                            clear H3 R3 B3))
      go_roundw
      case rel => exact ⟨R4, B4, pa', pc', .inr (.inr (.inl ⟨rfl, H4, W4.out⟩))⟩
      case measure => simp [intOf]
    · have W2 : Hid (RowS ((wr.alloc (.cells #[.int .i64 1, .int .i64 1] 133)).alloc (.cells #[.int .i64 1, .int .i64 1] 133)) (w.heap.size + 2) (.slice pa 2 pc) [⟨1, 1⟩, ⟨0, 0⟩]) := ((show World.ownsRow _ _ _ _ _ _ _ from W1).alloc _).alloc _
      have H2 := (H1.alloc (.cells #[.int .i64 1, .int .i64 1] 133)).alloc (.cells #[.int .i64 1, .int .i64 1] 133)
      have R2 := (R1.alloc (.cells #[.int .i64 1, .int .i64 1] 133)).alloc (.cells #[.int .i64 1, .int .i64 1] 133)
      have B2 : Below w.heap.size w ((wr.alloc (.cells #[.int .i64 1, .int .i64 1] 133)).alloc (.cells #[.int .i64 1, .int .i64 1] 133)) := (B1.alloc B1.size _).alloc (by have := B1.size; simp; omega) _
      have N2 : Blk ((wr.alloc (.cells #[.int .i64 1, .int .i64 1] 133)).alloc (.cells #[.int .i64 1, .int .i64 1] 133)) (wr.heap.size + 1) #[.int .i64 1, .int .i64 1] 133 := by have := Blk.new (wr.alloc (.cells #[.int .i64 1, .int .i64 1] 133)) #[.int .i64 1, .int .i64 1] 133; simpa using this
      have z1 := H1.lt
      have z0 := R1.lt
      obtain ⟨q1, g1⟩ := H1.rules
      obtain ⟨q2, g2⟩ := H2.rules
      clear H1 R1 W1
      go_wp2_with (first | (at_builtin; refine wpList_append_slot1 _ rfl _ _ rfl (w.heap.size + 2) (.slice pa 2 pc) [⟨1, 1⟩, ⟨0, 0⟩] rfl W2.out ⟨1, 1⟩ (wr.heap.size + 1) rfl N2 (by simp) (by simp; omega) ?_
                            intro v' w3 hrow hg
                            obtain ⟨pa', pc', rfl, _⟩ := row_slice hrow
                            have hne : ∀ j, (Value.slice pa 2 pc).ownBlock = some j → w.heap.size + 2 ≤ j := fun j hj => (W2.out.lt j hj).1
                            have H3 := H2.grown hg (fun e => by have := hne _ e.symm; omega)
                            have R3 := R2.grown hg (fun e => by have := hne _ e.symm; omega)
                            have B3 : Below w.heap.size w w3 := B2.grown hg B2.size (fun j hj => by have := hne j hj; omega)
                            have W3 : Hid (RowS w3 (w.heap.size + 2) (.slice pa' 3 pc') [⟨1, 1⟩, ⟨0, 0⟩, ⟨1, 1⟩]) := hrow
                            have z3 := H3.lt
                            have H4 : Blk (w3.setCell ⟨w.heap.size + 1, 2, none⟩ (.slice pa' 3 pc')) (w.heap.size + 1) #[.int .i64 0, .bool true, .slice pa' 3 pc', .slice none 0 0, .slice none 0 0, .slice none 0 0, .slice none 0 0] 63 := by
                              have := H3.set 2 (.slice pa' 3 pc')
                              simpa using this
                            have R4 := R3.other (a := ⟨w.heap.size + 1, 2, none⟩) (by simp) (.slice pa' 3 pc')
                            have B4 := B3.setCell (p := ⟨w.heap.size + 1, 2, none⟩) (by simp) (.slice pa' 3 pc')
                            have W4 : Hid (RowS (w3.setCell ⟨w.heap.size + 1, 2, none⟩ (.slice pa' 3 pc')) (w.heap.size + 2) (.slice pa' 3 pc') [⟨1, 1⟩, ⟨0, 0⟩, ⟨1, 1⟩]) := rowSetB2 W3.out (by omega)
                            clear W2 H2 R2 B2 N2 q1 g1 q2 g2 hrow hg hne W3
                            obtain ⟨q3, g3⟩ := H3.rules
                            clear H3 R3 B3))
      go_roundw
      case rel => exact ⟨R4, B4, pa', pc', .inr (.inr (.inr ⟨rfl, H4, W4.out⟩))⟩
      case measure => simp [intOf]
    · obtain ⟨q1, g1⟩ := H1.rules
      obtain ⟨q2, g2⟩ := R1.rules
      have HR : Hid (RowS wr (w.heap.size + 2) (.slice pa 3 pc) [⟨1, 1⟩, ⟨0, 0⟩, ⟨1, 1⟩]) := W1
      clear H1 W1
      go_wp2_with fail
      refine bodyPost_ret (v := .agg #[.int .i64 0, .bool true, .slice pa 3 pc, .slice none 0 0, .slice none 0 0, .slice none 0 0, .slice none 0 0]) ?_ rfl ⟨⟨pa, pc, none, 0, none, 0, none, 0, none, 0⟩, by rw [HX.out]; rfl, ?_, fill7_below B1 (Nat.le_refl _)⟩
      · refine Blk.gen (B := w.heap.size) (vs := #[.int .i64 0, .bool true, .slice pa 3 pc, .slice none 0 0, .slice none 0 0, .slice none 0 0, .slice none 0 0]) (T := 63) ?_ (P := fun W => (results Try.f57 _).run Try.prog W = .ok _ W) ?_
        · exact Blk.fill7 R1
        intro W hW
        obtain ⟨k, f⟩ := hW.rules
        simp [results, Try.results57, go_sem, k]
      · rw [HX.out]
        exact start_own (row_mono (row_fill7 HR.out (fun j hj => by have := (HR.out.lt j hj).1; omega)) (by omega))

set_option maxHeartbeats 4000000 in
set_option maxRecDepth 20000 in
theorem sStart1 (w : World) : Calls Try.prog 57 #[.int .i64 1] w fun e w' => ∃ b, e = .returned (servV (startX 1) b) ∧ OwnS w' w.heap.size (startX 1) b [] [] ∧ Below w.heap.size w w' := by
  have HX : Hid (startX 1 = ⟨1, true, [⟨0, 0⟩, ⟨1, 1⟩, ⟨0, 0⟩], [], [], [], []⟩) := by show _ = _; unfold startX; rfl
  have hS : ∀ W, Calls Try.prog 130 #[.int .i64 1] W fun e w' => e = .returned (.bool true) ∧ w' = W := fun W => site_any 1 W
  have R0 : Blk ((w.alloc (.cells #[.int .i64 0, .bool false, .slice none 0 0, .slice none 0 0, .slice none 0 0, .slice none 0 0, .slice none 0 0] 63)).alloc (.cells #[.int .i64 1, .bool true, .slice none 0 0, .slice none 0 0, .slice none 0 0, .slice none 0 0, .slice none 0 0] 63)) w.heap.size #[.int .i64 0, .bool false, .slice none 0 0, .slice none 0 0, .slice none 0 0, .slice none 0 0, .slice none 0 0] 63 := (Blk.new w _ _).alloc _
  have H0 : Blk ((w.alloc (.cells #[.int .i64 0, .bool false, .slice none 0 0, .slice none 0 0, .slice none 0 0, .slice none 0 0, .slice none 0 0] 63)).alloc (.cells #[.int .i64 1, .bool true, .slice none 0 0, .slice none 0 0, .slice none 0 0, .slice none 0 0, .slice none 0 0] 63)) (w.heap.size + 1) #[.int .i64 1, .bool true, .slice none 0 0, .slice none 0 0, .slice none 0 0, .slice none 0 0, .slice none 0 0] 63 := by have := Blk.new (w.alloc (.cells #[.int .i64 0, .bool false, .slice none 0 0, .slice none 0 0, .slice none 0 0, .slice none 0 0, .slice none 0 0] 63)) #[.int .i64 1, .bool true, .slice none 0 0, .slice none 0 0, .slice none 0 0, .slice none 0 0, .slice none 0 0] 63; simpa using this
  have B0 : Below w.heap.size w ((w.alloc (.cells #[.int .i64 0, .bool false, .slice none 0 0, .slice none 0 0, .slice none 0 0, .slice none 0 0, .slice none 0 0] 63)).alloc (.cells #[.int .i64 1, .bool true, .slice none 0 0, .slice none 0 0, .slice none 0 0, .slice none 0 0, .slice none 0 0] 63)) := ((Below.refl _ _).alloc (Nat.le_refl _) _).alloc (by simp) _
  go_enter Try.func57, Try.ntmps57
  go_wp2_with (first | (go_at_call 130; refine (hS _).mono ?_; rintro e w' ⟨rfl, rfl⟩))
  go_loopw [4] (fun i wr => Blk wr w.heap.size #[.int .i64 0, .bool false, .slice none 0 0, .slice none 0 0, .slice none 0 0, .slice none 0 0, .slice none 0 0] 63 ∧ Below w.heap.size w wr ∧ ∃ pa pc, (i = .int .i64 0 ∧ Blk wr (w.heap.size + 1) #[.int .i64 1, .bool true, .slice pa 0 pc, .slice none 0 0, .slice none 0 0, .slice none 0 0, .slice none 0 0] 63 ∧ RowS wr (w.heap.size + 2) (.slice pa 0 pc) []) ∨ (i = .int .i64 1 ∧ Blk wr (w.heap.size + 1) #[.int .i64 1, .bool true, .slice pa 1 pc, .slice none 0 0, .slice none 0 0, .slice none 0 0, .slice none 0 0] 63 ∧ RowS wr (w.heap.size + 2) (.slice pa 1 pc) [⟨0, 0⟩]) ∨ (i = .int .i64 2 ∧ Blk wr (w.heap.size + 1) #[.int .i64 1, .bool true, .slice pa 2 pc, .slice none 0 0, .slice none 0 0, .slice none 0 0, .slice none 0 0] 63 ∧ RowS wr (w.heap.size + 2) (.slice pa 2 pc) [⟨0, 0⟩, ⟨1, 1⟩]) ∨ (i = .int .i64 3 ∧ Blk wr (w.heap.size + 1) #[.int .i64 1, .bool true, .slice pa 3 pc, .slice none 0 0, .slice none 0 0, .slice none 0 0, .slice none 0 0] 63 ∧ RowS wr (w.heap.size + 2) (.slice pa 3 pc) [⟨0, 0⟩, ⟨1, 1⟩, ⟨0, 0⟩])) (fun i _ => 3 - (intOf i).toNat)
  case atStart => exact ⟨R0, B0, none, 0, .inl ⟨rfl, H0, World.ownsRow_nil _ _ _ _⟩⟩
  case round =>
    obtain ⟨R1, B1, pa, pc, hc⟩ := hrel
    clear R0 H0 B0 hS
    rcases hc with ⟨rfl, H1, W1⟩ | ⟨rfl, H1, W1⟩ | ⟨rfl, H1, W1⟩ | ⟨rfl, H1, W1⟩
    · have W2 : Hid (RowS ((wr.alloc (.cells #[.int .i64 0, .int .i64 0] 133)).alloc (.cells #[.int .i64 0, .int .i64 0] 133)) (w.heap.size + 2) (.slice pa 0 pc) []) := ((show World.ownsRow _ _ _ _ _ _ _ from W1).alloc _).alloc _
      have H2 := (H1.alloc (.cells #[.int .i64 0, .int .i64 0] 133)).alloc (.cells #[.int .i64 0, .int .i64 0] 133)
      have R2 := (R1.alloc (.cells #[.int .i64 0, .int .i64 0] 133)).alloc (.cells #[.int .i64 0, .int .i64 0] 133)
      have B2 : Below w.heap.size w ((wr.alloc (.cells #[.int .i64 0, .int .i64 0] 133)).alloc (.cells #[.int .i64 0, .int .i64 0] 133)) := (B1.alloc B1.size _).alloc (by have := B1.size; simp; omega) _
      have N2 : Blk ((wr.alloc (.cells #[.int .i64 0, .int .i64 0] 133)).alloc (.cells #[.int .i64 0, .int .i64 0] 133)) (wr.heap.size + 1) #[.int .i64 0, .int .i64 0] 133 := by have := Blk.new (wr.alloc (.cells #[.int .i64 0, .int .i64 0] 133)) #[.int .i64 0, .int .i64 0] 133; simpa using this
      have z1 := H1.lt
      have z0 := R1.lt
      obtain ⟨q1, g1⟩ := H1.rules
      obtain ⟨q2, g2⟩ := H2.rules
      clear H1 R1 W1
      go_wp2_with (first | (at_builtin; refine wpList_append_slot1 _ rfl _ _ rfl (w.heap.size + 2) (.slice pa 0 pc) [] rfl W2.out ⟨0, 0⟩ (wr.heap.size + 1) rfl N2 (by simp) (by simp; omega) ?_
                            intro v' w3 hrow hg
                            obtain ⟨pa', pc', rfl, _⟩ := row_slice hrow
                            have hne : ∀ j, (Value.slice pa 0 pc).ownBlock = some j → w.heap.size + 2 ≤ j := fun j hj => (W2.out.lt j hj).1
                            have H3 := H2.grown hg (fun e => by have := hne _ e.symm; omega)
                            have R3 := R2.grown hg (fun e => by have := hne _ e.symm; omega)
                            have B3 : Below w.heap.size w w3 := B2.grown hg B2.size (fun j hj => by have := hne j hj; omega)
                            have W3 : Hid (RowS w3 (w.heap.size + 2) (.slice pa' 1 pc') [⟨0, 0⟩]) := hrow
                            have z3 := H3.lt
                            have H4 : Blk (w3.setCell ⟨w.heap.size + 1, 2, none⟩ (.slice pa' 1 pc')) (w.heap.size + 1) #[.int .i64 1, .bool true, .slice pa' 1 pc', .slice none 0 0, .slice none 0 0, .slice none 0 0, .slice none 0 0] 63 := by
                              have := H3.set 2 (.slice pa' 1 pc')
                              simpa using this
                            have R4 := R3.other (a := ⟨w.heap.size + 1, 2, none⟩) (by simp) (.slice pa' 1 pc')
                            have B4 := B3.setCell (p := ⟨w.heap.size + 1, 2, none⟩) (by simp) (.slice pa' 1 pc')
                            have W4 : Hid (RowS (w3.setCell ⟨w.heap.size + 1, 2, none⟩ (.slice pa' 1 pc')) (w.heap.size + 2) (.slice pa' 1 pc') [⟨0, 0⟩]) := rowSetB2 W3.out (by omega)
                            clear W2 H2 R2 B2 N2 q1 g1 q2 g2 hrow hg hne W3
                            obtain ⟨q3, g3⟩ := H3.rules
                            clear H3 R3 B3))
      go_roundw
      case rel => exact ⟨R4, B4, pa', pc', .inr (.inl ⟨rfl, H4, W4.out⟩)⟩
      case measure => simp [intOf]
    · have W2 : Hid (RowS ((wr.alloc (.cells #[.int .i64 1, .int .i64 1] 133)).alloc (.cells #[.int .i64 1, .int .i64 1] 133)) (w.heap.size + 2) (.slice pa 1 pc) [⟨0, 0⟩]) := ((show World.ownsRow _ _ _ _ _ _ _ from W1).alloc _).alloc _
      have H2 := (H1.alloc (.cells #[.int .i64 1, .int .i64 1] 133)).alloc (.cells #[.int .i64 1, .int .i64 1] 133)
      have R2 := (R1.alloc (.cells #[.int .i64 1, .int .i64 1] 133)).alloc (.cells #[.int .i64 1, .int .i64 1] 133)
      have B2 : Below w.heap.size w ((wr.alloc (.cells #[.int .i64 1, .int .i64 1] 133)).alloc (.cells #[.int .i64 1, .int .i64 1] 133)) := (B1.alloc B1.size _).alloc (by have := B1.size; simp; omega) _
      have N2 : Blk ((wr.alloc (.cells #[.int .i64 1, .int .i64 1] 133)).alloc (.cells #[.int .i64 1, .int .i64 1] 133)) (wr.heap.size + 1) #[.int .i64 1, .int .i64 1] 133 := by have := Blk.new (wr.alloc (.cells #[.int .i64 1, .int .i64 1] 133)) #[.int .i64 1, .int .i64 1] 133; simpa using this
      have z1 := H1.lt
      have z0 := R1.lt
      obtain ⟨q1, g1⟩ := H1.rules
      obtain ⟨q2, g2⟩ := H2.rules
      clear H1 R1 W1
      go_wp2_with (first | (at_builtin; refine wpList_append_slot1 _ rfl _ _ rfl (w.heap.size + 2) (.slice pa 1 pc) [⟨0, 0⟩] rfl W2.out ⟨1, 1⟩ (wr.heap.size + 1) rfl N2 (by simp) (by simp; omega) ?_
                            intro v' w3 hrow hg
                            obtain ⟨pa', pc', rfl, _⟩ := row_slice hrow
                            have hne : ∀ j, (Value.slice pa 1 pc).ownBlock = some j → w.heap.size + 2 ≤ j := fun j hj => (W2.out.lt j hj).1
                            have H3 := H2.grown hg (fun e => by have := hne _ e.symm; omega)
                            have R3 := R2.grown hg (fun e => by have := hne _ e.symm; omega)
                            have B3 : Below w.heap.size w w3 := B2.grown hg B2.size (fun j hj => by have := hne j hj; omega)
                            have W3 : Hid (RowS w3 (w.heap.size + 2) (.slice pa' 2 pc') [⟨0, 0⟩, ⟨1, 1⟩]) := hrow
                            have z3 := H3.lt
                            have H4 : Blk (w3.setCell ⟨w.heap.size + 1, 2, none⟩ (.slice pa' 2 pc')) (w.heap.size + 1) #[.int .i64 1, .bool true, .slice pa' 2 pc', .slice none 0 0, .slice none 0 0, .slice none 0 0, .slice none 0 0] 63 := by
                              have := H3.set 2 (.slice pa' 2 pc')
                              simpa using this
                            have R4 := R3.other (a := ⟨w.heap.size + 1, 2, none⟩) (by simp) (.slice pa' 2 pc')
                            have B4 := B3.setCell (p := ⟨w.heap.size + 1, 2, none⟩) (by simp) (.slice pa' 2 pc')
                            have W4 : Hid (RowS (w3.setCell ⟨w.heap.size + 1, 2, none⟩ (.slice pa' 2 pc')) (w.heap.size + 2) (.slice pa' 2 pc') [⟨0, 0⟩, ⟨1, 1⟩]) := rowSetB2 W3.out (by omega)
                            clear W2 H2 R2 B2 N2 q1 g1 q2 g2 hrow hg hne W3
                            obtain ⟨q3, g3⟩ := H3.rules
                            clear H3 R3 B3))
      go_roundw
      case rel => exact ⟨R4, B4, pa', pc', .inr (.inr (.inl ⟨rfl, H4, W4.out⟩))⟩
      case measure => simp [intOf]
    · have W2 : Hid (RowS ((wr.alloc (.cells #[.int .i64 0, .int .i64 0] 133)).alloc (.cells #[.int .i64 0, .int .i64 0] 133)) (w.heap.size + 2) (.slice pa 2 pc) [⟨0, 0⟩, ⟨1, 1⟩]) := ((show World.ownsRow _ _ _ _ _ _ _ from W1).alloc _).alloc _
      have H2 := (H1.alloc (.cells #[.int .i64 0, .int .i64 0] 133)).alloc (.cells #[.int .i64 0, .int .i64 0] 133)
      have R2 := (R1.alloc (.cells #[.int .i64 0, .int .i64 0] 133)).alloc (.cells #[.int .i64 0, .int .i64 0] 133)
      have B2 : Below w.heap.size w ((wr.alloc (.cells #[.int .i64 0, .int .i64 0] 133)).alloc (.cells #[.int .i64 0, .int .i64 0] 133)) := (B1.alloc B1.size _).alloc (by have := B1.size; simp; omega) _
      have N2 : Blk ((wr.alloc (.cells #[.int .i64 0, .int .i64 0] 133)).alloc (.cells #[.int .i64 0, .int .i64 0] 133)) (wr.heap.size + 1) #[.int .i64 0, .int .i64 0] 133 := by have := Blk.new (wr.alloc (.cells #[.int .i64 0, .int .i64 0] 133)) #[.int .i64 0, .int .i64 0] 133; simpa using this
      have z1 := H1.lt
      have z0 := R1.lt
      obtain ⟨q1, g1⟩ := H1.rules
      obtain ⟨q2, g2⟩ := H2.rules
      clear H1 R1 W1
      go_wp2_with (first | (at_builtin; refine wpList_append_slot1 _ rfl _ _ rfl (w.heap.size + 2) (.slice pa 2 pc) [⟨0, 0⟩, ⟨1, 1⟩] rfl W2.out ⟨0, 0⟩ (wr.heap.size + 1) rfl N2 (by simp) (by simp; omega) ?_
                            intro v' w3 hrow hg
                            obtain ⟨pa', pc', rfl, _⟩ := row_slice hrow
                            have hne : ∀ j, (Value.slice pa 2 pc).ownBlock = some j → w.heap.size + 2 ≤ j := fun j hj => (W2.out.lt j hj).1
                            have H3 := H2.grown hg (fun e => by have := hne _ e.symm; omega)
                            have R3 := R2.grown hg (fun e => by have := hne _ e.symm; omega)
                            have B3 : Below w.heap.size w w3 := B2.grown hg B2.size (fun j hj => by have := hne j hj; omega)
                            have W3 : Hid (RowS w3 (w.heap.size + 2) (.slice pa' 3 pc') [⟨0, 0⟩, ⟨1, 1⟩, ⟨0, 0⟩]) := hrow
                            have z3 := H3.lt
                            have H4 : Blk (w3.setCell ⟨w.heap.size + 1, 2, none⟩ (.slice pa' 3 pc')) (w.heap.size + 1) #[.int .i64 1, .bool true, .slice pa' 3 pc', .slice none 0 0, .slice none 0 0, .slice none 0 0, .slice none 0 0] 63 := by
                              have := H3.set 2 (.slice pa' 3 pc')
                              simpa using this
                            have R4 := R3.other (a := ⟨w.heap.size + 1, 2, none⟩) (by simp) (.slice pa' 3 pc')
                            have B4 := B3.setCell (p := ⟨w.heap.size + 1, 2, none⟩) (by simp) (.slice pa' 3 pc')
                            have W4 : Hid (RowS (w3.setCell ⟨w.heap.size + 1, 2, none⟩ (.slice pa' 3 pc')) (w.heap.size + 2) (.slice pa' 3 pc') [⟨0, 0⟩, ⟨1, 1⟩, ⟨0, 0⟩]) := rowSetB2 W3.out (by omega)
                            clear W2 H2 R2 B2 N2 q1 g1 q2 g2 hrow hg hne W3
                            obtain ⟨q3, g3⟩ := H3.rules
                            clear H3 R3 B3))
      go_roundw
      case rel => exact ⟨R4, B4, pa', pc', .inr (.inr (.inr ⟨rfl, H4, W4.out⟩))⟩
      case measure => simp [intOf]
    · obtain ⟨q1, g1⟩ := H1.rules
      obtain ⟨q2, g2⟩ := R1.rules
      have HR : Hid (RowS wr (w.heap.size + 2) (.slice pa 3 pc) [⟨0, 0⟩, ⟨1, 1⟩, ⟨0, 0⟩]) := W1
      clear H1 W1
      go_wp2_with fail
      refine bodyPost_ret (v := .agg #[.int .i64 1, .bool true, .slice pa 3 pc, .slice none 0 0, .slice none 0 0, .slice none 0 0, .slice none 0 0]) ?_ rfl ⟨⟨pa, pc, none, 0, none, 0, none, 0, none, 0⟩, by rw [HX.out]; rfl, ?_, fill7_below B1 (Nat.le_refl _)⟩
      · refine Blk.gen (B := w.heap.size) (vs := #[.int .i64 1, .bool true, .slice pa 3 pc, .slice none 0 0, .slice none 0 0, .slice none 0 0, .slice none 0 0]) (T := 63) ?_ (P := fun W => (results Try.f57 _).run Try.prog W = .ok _ W) ?_
        · exact Blk.fill7 R1
        intro W hW
        obtain ⟨k, f⟩ := hW.rules
        simp [results, Try.results57, go_sem, k]
      · rw [HX.out]
        exact start_own (row_mono (row_fill7 HR.out (fun j hj => by have := (HR.out.lt j hj).1; omega)) (by omega))

set_option maxHeartbeats 4000000 in
set_option maxRecDepth 20000 in
theorem sStart2 (w : World) : Calls Try.prog 57 #[.int .i64 2] w fun e w' => ∃ b, e = .returned (servV (startX 2) b) ∧ OwnS w' w.heap.size (startX 2) b [] [] ∧ Below w.heap.size w w' := by
  have HX : Hid (startX 2 = ⟨2, true, [⟨1, 1⟩, ⟨0, 0⟩, ⟨1, 1⟩], [], [], [], []⟩) := by show _ = _; unfold startX; rfl
  have hS : ∀ W, Calls Try.prog 130 #[.int .i64 2] W fun e w' => e = .returned (.bool true) ∧ w' = W := fun W => site_any 2 W
  have R0 : Blk ((w.alloc (.cells #[.int .i64 0, .bool false, .slice none 0 0, .slice none 0 0, .slice none 0 0, .slice none 0 0, .slice none 0 0] 63)).alloc (.cells #[.int .i64 2, .bool true, .slice none 0 0, .slice none 0 0, .slice none 0 0, .slice none 0 0, .slice none 0 0] 63)) w.heap.size #[.int .i64 0, .bool false, .slice none 0 0, .slice none 0 0, .slice none 0 0, .slice none 0 0, .slice none 0 0] 63 := (Blk.new w _ _).alloc _
  have H0 : Blk ((w.alloc (.cells #[.int .i64 0, .bool false, .slice none 0 0, .slice none 0 0, .slice none 0 0, .slice none 0 0, .slice none 0 0] 63)).alloc (.cells #[.int .i64 2, .bool true, .slice none 0 0, .slice none 0 0, .slice none 0 0, .slice none 0 0, .slice none 0 0] 63)) (w.heap.size + 1) #[.int .i64 2, .bool true, .slice none 0 0, .slice none 0 0, .slice none 0 0, .slice none 0 0, .slice none 0 0] 63 := by have := Blk.new (w.alloc (.cells #[.int .i64 0, .bool false, .slice none 0 0, .slice none 0 0, .slice none 0 0, .slice none 0 0, .slice none 0 0] 63)) #[.int .i64 2, .bool true, .slice none 0 0, .slice none 0 0, .slice none 0 0, .slice none 0 0, .slice none 0 0] 63; simpa using this
  have B0 : Below w.heap.size w ((w.alloc (.cells #[.int .i64 0, .bool false, .slice none 0 0, .slice none 0 0, .slice none 0 0, .slice none 0 0, .slice none 0 0] 63)).alloc (.cells #[.int .i64 2, .bool true, .slice none 0 0, .slice none 0 0, .slice none 0 0, .slice none 0 0, .slice none 0 0] 63)) := ((Below.refl _ _).alloc (Nat.le_refl _) _).alloc (by simp) _
  go_enter Try.func57, Try.ntmps57
  go_wp2_with (first | (go_at_call 130; refine (hS _).mono ?_; rintro e w' ⟨rfl, rfl⟩))
  go_loopw [4] (fun i wr => Blk wr w.heap.size #[.int .i64 0, .bool false, .slice none 0 0, .slice none 0 0, .slice none 0 0, .slice none 0 0, .slice none 0 0] 63 ∧ Below w.heap.size w wr ∧ ∃ pa pc, (i = .int .i64 0 ∧ Blk wr (w.heap.size + 1) #[.int .i64 2, .bool true, .slice pa 0 pc, .slice none 0 0, .slice none 0 0, .slice none 0 0, .slice none 0 0] 63 ∧ RowS wr (w.heap.size + 2) (.slice pa 0 pc) []) ∨ (i = .int .i64 1 ∧ Blk wr (w.heap.size + 1) #[.int .i64 2, .bool true, .slice pa 1 pc, .slice none 0 0, .slice none 0 0, .slice none 0 0, .slice none 0 0] 63 ∧ RowS wr (w.heap.size + 2) (.slice pa 1 pc) [⟨1, 1⟩]) ∨ (i = .int .i64 2 ∧ Blk wr (w.heap.size + 1) #[.int .i64 2, .bool true, .slice pa 2 pc, .slice none 0 0, .slice none 0 0, .slice none 0 0, .slice none 0 0] 63 ∧ RowS wr (w.heap.size + 2) (.slice pa 2 pc) [⟨1, 1⟩, ⟨0, 0⟩]) ∨ (i = .int .i64 3 ∧ Blk wr (w.heap.size + 1) #[.int .i64 2, .bool true, .slice pa 3 pc, .slice none 0 0, .slice none 0 0, .slice none 0 0, .slice none 0 0] 63 ∧ RowS wr (w.heap.size + 2) (.slice pa 3 pc) [⟨1, 1⟩, ⟨0, 0⟩, ⟨1, 1⟩])) (fun i _ => 3 - (intOf i).toNat)
  case atStart => exact ⟨R0, B0, none, 0, .inl ⟨rfl, H0, World.ownsRow_nil _ _ _ _⟩⟩
  case round =>
    obtain ⟨R1, B1, pa, pc, hc⟩ := hrel
    clear R0 H0 B0 hS
    rcases hc with ⟨rfl, H1, W1⟩ | ⟨rfl, H1, W1⟩ | ⟨rfl, H1, W1⟩ | ⟨rfl, H1, W1⟩
    · have W2 : Hid (RowS ((wr.alloc (.cells #[.int .i64 1, .int .i64 1] 133)).alloc (.cells #[.int .i64 1, .int .i64 1] 133)) (w.heap.size + 2) (.slice pa 0 pc) []) := ((show World.ownsRow _ _ _ _ _ _ _ from W1).alloc _).alloc _
      have H2 := (H1.alloc (.cells #[.int .i64 1, .int .i64 1] 133)).alloc (.cells #[.int .i64 1, .int .i64 1] 133)
      have R2 := (R1.alloc (.cells #[.int .i64 1, .int .i64 1] 133)).alloc (.cells #[.int .i64 1, .int .i64 1] 133)
      have B2 : Below w.heap.size w ((wr.alloc (.cells #[.int .i64 1, .int .i64 1] 133)).alloc (.cells #[.int .i64 1, .int .i64 1] 133)) := (B1.alloc B1.size _).alloc (by have := B1.size; simp; omega) _
      have N2 : Blk ((wr.alloc (.cells #[.int .i64 1, .int .i64 1] 133)).alloc (.cells #[.int .i64 1, .int .i64 1] 133)) (wr.heap.size + 1) #[.int .i64 1, .int .i64 1] 133 := by have := Blk.new (wr.alloc (.cells #[.int .i64 1, .int .i64 1] 133)) #[.int .i64 1, .int .i64 1] 133; simpa using this
      have z1 := H1.lt
      have z0 := R1.lt
      obtain ⟨q1, g1⟩ := H1.rules
      obtain ⟨q2, g2⟩ := H2.rules
      clear H1 R1 W1
      go_wp2_with (first | (at_builtin; refine wpList_append_slot1 _ rfl _ _ rfl (w.heap.size + 2) (.slice pa 0 pc) [] rfl W2.out ⟨1, 1⟩ (wr.heap.size + 1) rfl N2 (by simp) (by simp; omega) ?_
                            intro v' w3 hrow hg
                            obtain ⟨pa', pc', rfl, _⟩ := row_slice hrow
                            have hne : ∀ j, (Value.slice pa 0 pc).ownBlock = some j → w.heap.size + 2 ≤ j := fun j hj => (W2.out.lt j hj).1
                            have H3 := H2.grown hg (fun e => by have := hne _ e.symm; omega)
                            have R3 := R2.grown hg (fun e => by have := hne _ e.symm; omega)
                            have B3 : Below w.heap.size w w3 := B2.grown hg B2.size (fun j hj => by have := hne j hj; omega)
                            have W3 : Hid (RowS w3 (w.heap.size + 2) (.slice pa' 1 pc') [⟨1, 1⟩]) := hrow
                            have z3 := H3.lt
                            have H4 : Blk (w3.setCell ⟨w.heap.size + 1, 2, none⟩ (.slice pa' 1 pc')) (w.heap.size + 1) #[.int .i64 2, .bool true, .slice pa' 1 pc', .slice none 0 0, .slice none 0 0, .slice none 0 0, .slice none 0 0] 63 := by
                              have := H3.set 2 (.slice pa' 1 pc')
                              simpa using this
                            have R4 := R3.other (a := ⟨w.heap.size + 1, 2, none⟩) (by simp) (.slice pa' 1 pc')
                            have B4 := B3.setCell (p := ⟨w.heap.size + 1, 2, none⟩) (by simp) (.slice pa' 1 pc')
                            have W4 : Hid (RowS (w3.setCell ⟨w.heap.size + 1, 2, none⟩ (.slice pa' 1 pc')) (w.heap.size + 2) (.slice pa' 1 pc') [⟨1, 1⟩]) := rowSetB2 W3.out (by omega)
                            clear W2 H2 R2 B2 N2 q1 g1 q2 g2 hrow hg hne W3
                            obtain ⟨q3, g3⟩ := H3.rules
                            clear H3 R3 B3))
      go_roundw
      case rel => exact ⟨R4, B4, pa', pc', .inr (.inl ⟨rfl, H4, W4.out⟩)⟩
      case measure => simp [intOf]
    · have W2 : Hid (RowS ((wr.alloc (.cells #[.int .i64 0, .int .i64 0] 133)).alloc (.cells #[.int .i64 0, .int .i64 0] 133)) (w.heap.size + 2) (.slice pa 1 pc) [⟨1, 1⟩]) := ((show World.ownsRow _ _ _ _ _ _ _ from W1).alloc _).alloc _
      have H2 := (H1.alloc (.cells #[.int .i64 0, .int .i64 0] 133)).alloc (.cells #[.int .i64 0, .int .i64 0] 133)
      have R2 := (R1.alloc (.cells #[.int .i64 0, .int .i64 0] 133)).alloc (.cells #[.int .i64 0, .int .i64 0] 133)
      have B2 : Below w.heap.size w ((wr.alloc (.cells #[.int .i64 0, .int .i64 0] 133)).alloc (.cells #[.int .i64 0, .int .i64 0] 133)) := (B1.alloc B1.size _).alloc (by have := B1.size; simp; omega) _
      have N2 : Blk ((wr.alloc (.cells #[.int .i64 0, .int .i64 0] 133)).alloc (.cells #[.int .i64 0, .int .i64 0] 133)) (wr.heap.size + 1) #[.int .i64 0, .int .i64 0] 133 := by have := Blk.new (wr.alloc (.cells #[.int .i64 0, .int .i64 0] 133)) #[.int .i64 0, .int .i64 0] 133; simpa using this
      have z1 := H1.lt
      have z0 := R1.lt
      obtain ⟨q1, g1⟩ := H1.rules
      obtain ⟨q2, g2⟩ := H2.rules
      clear H1 R1 W1
      go_wp2_with (first | (at_builtin; refine wpList_append_slot1 _ rfl _ _ rfl (w.heap.size + 2) (.slice pa 1 pc) [⟨1, 1⟩] rfl W2.out ⟨0, 0⟩ (wr.heap.size + 1) rfl N2 (by simp) (by simp; omega) ?_
                            intro v' w3 hrow hg
                            obtain ⟨pa', pc', rfl, _⟩ := row_slice hrow
                            have hne : ∀ j, (Value.slice pa 1 pc).ownBlock = some j → w.heap.size + 2 ≤ j := fun j hj => (W2.out.lt j hj).1
                            have H3 := H2.grown hg (fun e => by have := hne _ e.symm; omega)
                            have R3 := R2.grown hg (fun e => by have := hne _ e.symm; omega)
                            have B3 : Below w.heap.size w w3 := B2.grown hg B2.size (fun j hj => by have := hne j hj; omega)
                            have W3 : Hid (RowS w3 (w.heap.size + 2) (.slice pa' 2 pc') [⟨1, 1⟩, ⟨0, 0⟩]) := hrow
                            have z3 := H3.lt
                            have H4 : Blk (w3.setCell ⟨w.heap.size + 1, 2, none⟩ (.slice pa' 2 pc')) (w.heap.size + 1) #[.int .i64 2, .bool true, .slice pa' 2 pc', .slice none 0 0, .slice none 0 0, .slice none 0 0, .slice none 0 0] 63 := by
                              have := H3.set 2 (.slice pa' 2 pc')
                              simpa using this
                            have R4 := R3.other (a := ⟨w.heap.size + 1, 2, none⟩) (by simp) (.slice pa' 2 pc')
                            have B4 := B3.setCell (p := ⟨w.heap.size + 1, 2, none⟩) (by simp) (.slice pa' 2 pc')
                            have W4 : Hid (RowS (w3.setCell ⟨w.heap.size + 1, 2, none⟩ (.slice pa' 2 pc')) (w.heap.size + 2) (.slice pa' 2 pc') [⟨1, 1⟩, ⟨0, 0⟩]) := rowSetB2 W3.out (by omega)
                            clear W2 H2 R2 B2 N2 q1 g1 q2 g2 hrow hg hne W3
                            obtain ⟨q3, g3⟩ := H3.rules
                            clear H3 R3 B3))
      go_roundw
      case rel => exact ⟨R4, B4, pa', pc', .inr (.inr (.inl ⟨rfl, H4, W4.out⟩))⟩
      case measure => simp [intOf]
    · have W2 : Hid (RowS ((wr.alloc (.cells #[.int .i64 1, .int .i64 1] 133)).alloc (.cells #[.int .i64 1, .int .i64 1] 133)) (w.heap.size + 2) (.slice pa 2 pc) [⟨1, 1⟩, ⟨0, 0⟩]) := ((show World.ownsRow _ _ _ _ _ _ _ from W1).alloc _).alloc _
      have H2 := (H1.alloc (.cells #[.int .i64 1, .int .i64 1] 133)).alloc (.cells #[.int .i64 1, .int .i64 1] 133)
      have R2 := (R1.alloc (.cells #[.int .i64 1, .int .i64 1] 133)).alloc (.cells #[.int .i64 1, .int .i64 1] 133)
      have B2 : Below w.heap.size w ((wr.alloc (.cells #[.int .i64 1, .int .i64 1] 133)).alloc (.cells #[.int .i64 1, .int .i64 1] 133)) := (B1.alloc B1.size _).alloc (by have := B1.size; simp; omega) _
      have N2 : Blk ((wr.alloc (.cells #[.int .i64 1, .int .i64 1] 133)).alloc (.cells #[.int .i64 1, .int .i64 1] 133)) (wr.heap.size + 1) #[.int .i64 1, .int .i64 1] 133 := by have := Blk.new (wr.alloc (.cells #[.int .i64 1, .int .i64 1] 133)) #[.int .i64 1, .int .i64 1] 133; simpa using this
      have z1 := H1.lt
      have z0 := R1.lt
      obtain ⟨q1, g1⟩ := H1.rules
      obtain ⟨q2, g2⟩ := H2.rules
      clear H1 R1 W1
      go_wp2_with (first | (at_builtin; refine wpList_append_slot1 _ rfl _ _ rfl (w.heap.size + 2) (.slice pa 2 pc) [⟨1, 1⟩, ⟨0, 0⟩] rfl W2.out ⟨1, 1⟩ (wr.heap.size + 1) rfl N2 (by simp) (by simp; omega) ?_
                            intro v' w3 hrow hg
                            obtain ⟨pa', pc', rfl, _⟩ := row_slice hrow
                            have hne : ∀ j, (Value.slice pa 2 pc).ownBlock = some j → w.heap.size + 2 ≤ j := fun j hj => (W2.out.lt j hj).1
                            have H3 := H2.grown hg (fun e => by have := hne _ e.symm; omega)
                            have R3 := R2.grown hg (fun e => by have := hne _ e.symm; omega)
                            have B3 : Below w.heap.size w w3 := B2.grown hg B2.size (fun j hj => by have := hne j hj; omega)
                            have W3 : Hid (RowS w3 (w.heap.size + 2) (.slice pa' 3 pc') [⟨1, 1⟩, ⟨0, 0⟩, ⟨1, 1⟩]) := hrow
                            have z3 := H3.lt
                            have H4 : Blk (w3.setCell ⟨w.heap.size + 1, 2, none⟩ (.slice pa' 3 pc')) (w.heap.size + 1) #[.int .i64 2, .bool true, .slice pa' 3 pc', .slice none 0 0, .slice none 0 0, .slice none 0 0, .slice none 0 0] 63 := by
                              have := H3.set 2 (.slice pa' 3 pc')
                              simpa using this
                            have R4 := R3.other (a := ⟨w.heap.size + 1, 2, none⟩) (by simp) (.slice pa' 3 pc')
                            have B4 := B3.setCell (p := ⟨w.heap.size + 1, 2, none⟩) (by simp) (.slice pa' 3 pc')
                            have W4 : Hid (RowS (w3.setCell ⟨w.heap.size + 1, 2, none⟩ (.slice pa' 3 pc')) (w.heap.size + 2) (.slice pa' 3 pc') [⟨1, 1⟩, ⟨0, 0⟩, ⟨1, 1⟩]) := rowSetB2 W3.out (by omega)
                            clear W2 H2 R2 B2 N2 q1 g1 q2 g2 hrow hg hne W3
                            obtain ⟨q3, g3⟩ := H3.rules
                            clear H3 R3 B3))
      go_roundw
      case rel => exact ⟨R4, B4, pa', pc', .inr (.inr (.inr ⟨rfl, H4, W4.out⟩))⟩
      case measure => simp [intOf]
    · obtain ⟨q1, g1⟩ := H1.rules
      obtain ⟨q2, g2⟩ := R1.rules
      have HR : Hid (RowS wr (w.heap.size + 2) (.slice pa 3 pc) [⟨1, 1⟩, ⟨0, 0⟩, ⟨1, 1⟩]) := W1
      clear H1 W1
      go_wp2_with fail
      refine bodyPost_ret (v := .agg #[.int .i64 2, .bool true, .slice pa 3 pc, .slice none 0 0, .slice none 0 0, .slice none 0 0, .slice none 0 0]) ?_ rfl ⟨⟨pa, pc, none, 0, none, 0, none, 0, none, 0⟩, by rw [HX.out]; rfl, ?_, fill7_below B1 (Nat.le_refl _)⟩
      · refine Blk.gen (B := w.heap.size) (vs := #[.int .i64 2, .bool true, .slice pa 3 pc, .slice none 0 0, .slice none 0 0, .slice none 0 0, .slice none 0 0]) (T := 63) ?_ (P := fun W => (results Try.f57 _).run Try.prog W = .ok _ W) ?_
        · exact Blk.fill7 R1
        intro W hW
        obtain ⟨k, f⟩ := hW.rules
        simp [results, Try.results57, go_sem, k]
      · rw [HX.out]
        exact start_own (row_mono (row_fill7 HR.out (fun j hj => by have := (HR.out.lt j hj).1; omega)) (by omega))

set_option maxHeartbeats 4000000 in
set_option maxRecDepth 20000 in
theorem sStart3 (w : World) : Calls Try.prog 57 #[.int .i64 3] w fun e w' => ∃ b, e = .returned (servV (startX 3) b) ∧ OwnS w' w.heap.size (startX 3) b [] [] ∧ Below w.heap.size w w' := by
  have HX : Hid (startX 3 = ⟨3, true, [⟨0, 0⟩, ⟨1, 1⟩, ⟨0, 0⟩], [], [], [], []⟩) := by show _ = _; unfold startX; rfl
  have hS : ∀ W, Calls Try.prog 130 #[.int .i64 3] W fun e w' => e = .returned (.bool true) ∧ w' = W := fun W => site_any 3 W
  have R0 : Blk ((w.alloc (.cells #[.int .i64 0, .bool false, .slice none 0 0, .slice none 0 0, .slice none 0 0, .slice none 0 0, .slice none 0 0] 63)).alloc (.cells #[.int .i64 3, .bool true, .slice none 0 0, .slice none 0 0, .slice none 0 0, .slice none 0 0, .slice none 0 0] 63)) w.heap.size #[.int .i64 0, .bool false, .slice none 0 0, .slice none 0 0, .slice none 0 0, .slice none 0 0, .slice none 0 0] 63 := (Blk.new w _ _).alloc _
  have H0 : Blk ((w.alloc (.cells #[.int .i64 0, .bool false, .slice none 0 0, .slice none 0 0, .slice none 0 0, .slice none 0 0, .slice none 0 0] 63)).alloc (.cells #[.int .i64 3, .bool true, .slice none 0 0, .slice none 0 0, .slice none 0 0, .slice none 0 0, .slice none 0 0] 63)) (w.heap.size + 1) #[.int .i64 3, .bool true, .slice none 0 0, .slice none 0 0, .slice none 0 0, .slice none 0 0, .slice none 0 0] 63 := by have := Blk.new (w.alloc (.cells #[.int .i64 0, .bool false, .slice none 0 0, .slice none 0 0, .slice none 0 0, .slice none 0 0, .slice none 0 0] 63)) #[.int .i64 3, .bool true, .slice none 0 0, .slice none 0 0, .slice none 0 0, .slice none 0 0, .slice none 0 0] 63; simpa using this
  have B0 : Below w.heap.size w ((w.alloc (.cells #[.int .i64 0, .bool false, .slice none 0 0, .slice none 0 0, .slice none 0 0, .slice none 0 0, .slice none 0 0] 63)).alloc (.cells #[.int .i64 3, .bool true, .slice none 0 0, .slice none 0 0, .slice none 0 0, .slice none 0 0, .slice none 0 0] 63)) := ((Below.refl _ _).alloc (Nat.le_refl _) _).alloc (by simp) _
  go_enter Try.func57, Try.ntmps57
  go_wp2_with (first | (go_at_call 130; refine (hS _).mono ?_; rintro e w' ⟨rfl, rfl⟩))
  go_loopw [4] (fun i wr => Blk wr w.heap.size #[.int .i64 0, .bool false, .slice none 0 0, .slice none 0 0, .slice none 0 0, .slice none 0 0, .slice none 0 0] 63 ∧ Below w.heap.size w wr ∧ ∃ pa pc, (i = .int .i64 0 ∧ Blk wr (w.heap.size + 1) #[.int .i64 3, .bool true, .slice pa 0 pc, .slice none 0 0, .slice none 0 0, .slice none 0 0, .slice none 0 0] 63 ∧ RowS wr (w.heap.size + 2) (.slice pa 0 pc) []) ∨ (i = .int .i64 1 ∧ Blk wr (w.heap.size + 1) #[.int .i64 3, .bool true, .slice pa 1 pc, .slice none 0 0, .slice none 0 0, .slice none 0 0, .slice none 0 0] 63 ∧ RowS wr (w.heap.size + 2) (.slice pa 1 pc) [⟨0, 0⟩]) ∨ (i = .int .i64 2 ∧ Blk wr (w.heap.size + 1) #[.int .i64 3, .bool true, .slice pa 2 pc, .slice none 0 0, .slice none 0 0, .slice none 0 0, .slice none 0 0] 63 ∧ RowS wr (w.heap.size + 2) (.slice pa 2 pc) [⟨0, 0⟩, ⟨1, 1⟩]) ∨ (i = .int .i64 3 ∧ Blk wr (w.heap.size + 1) #[.int .i64 3, .bool true, .slice pa 3 pc, .slice none 0 0, .slice none 0 0, .slice none 0 0, .slice none 0 0] 63 ∧ RowS wr (w.heap.size + 2) (.slice pa 3 pc) [⟨0, 0⟩, ⟨1, 1⟩, ⟨0, 0⟩])) (fun i _ => 3 - (intOf i).toNat)
  case atStart => exact ⟨R0, B0, none, 0, .inl ⟨rfl, H0, World.ownsRow_nil _ _ _ _⟩⟩
  case round =>
    obtain ⟨R1, B1, pa, pc, hc⟩ := hrel
    clear R0 H0 B0 hS
    rcases hc with ⟨rfl, H1, W1⟩ | ⟨rfl, H1, W1⟩ | ⟨rfl, H1, W1⟩ | ⟨rfl, H1, W1⟩
    · have W2 : Hid (RowS ((wr.alloc (.cells #[.int .i64 0, .int .i64 0] 133)).alloc (.cells #[.int .i64 0, .int .i64 0] 133)) (w.heap.size + 2) (.slice pa 0 pc) []) := ((show World.ownsRow _ _ _ _ _ _ _ from W1).alloc _).alloc _
      have H2 := (H1.alloc (.cells #[.int .i64 0, .int .i64 0] 133)).alloc (.cells #[.int .i64 0, .int .i64 0] 133)
      have R2 := (R1.alloc (.cells #[.int .i64 0, .int .i64 0] 133)).alloc (.cells #[.int .i64 0, .int .i64 0] 133)
      have B2 : Below w.heap.size w ((wr.alloc (.cells #[.int .i64 0, .int .i64 0] 133)).alloc (.cells #[.int .i64 0, .int .i64 0] 133)) := (B1.alloc B1.size _).alloc (by have := B1.size; simp; omega) _
      have N2 : Blk ((wr.alloc (.cells #[.int .i64 0, .int .i64 0] 133)).alloc (.cells #[.int .i64 0, .int .i64 0] 133)) (wr.heap.size + 1) #[.int .i64 0, .int .i64 0] 133 := by have := Blk.new (wr.alloc (.cells #[.int .i64 0, .int .i64 0] 133)) #[.int .i64 0, .int .i64 0] 133; simpa using this
      have z1 := H1.lt
      have z0 := R1.lt
      obtain ⟨q1, g1⟩ := H1.rules
      obtain ⟨q2, g2⟩ := H2.rules
      clear H1 R1 W1
      go_wp2_with (first | (at_builtin; refine wpList_append_slot1 _ rfl _ _ rfl (w.heap.size + 2) (.slice pa 0 pc) [] rfl W2.out ⟨0, 0⟩ (wr.heap.size + 1) rfl N2 (by simp) (by simp; omega) ?_
                            intro v' w3 hrow hg
                            obtain ⟨pa', pc', rfl, _⟩ := row_slice hrow
                            have hne : ∀ j, (Value.slice pa 0 pc).ownBlock = some j → w.heap.size + 2 ≤ j := fun j hj => (W2.out.lt j hj).1
                            have H3 := H2.grown hg (fun e => by have := hne _ e.symm; omega)
                            have R3 := R2.grown hg (fun e => by have := hne _ e.symm; omega)
                            have B3 : Below w.heap.size w w3 := B2.grown hg B2.size (fun j hj => by have := hne j hj; omega)
                            have W3 : Hid (RowS w3 (w.heap.size + 2) (.slice pa' 1 pc') [⟨0, 0⟩]) := hrow
                            have z3 := H3.lt
                            have H4 : Blk (w3.setCell ⟨w.heap.size + 1, 2, none⟩ (.slice pa' 1 pc')) (w.heap.size + 1) #[.int .i64 3, .bool true, .slice pa' 1 pc', .slice none 0 0, .slice none 0 0, .slice none 0 0, .slice none 0 0] 63 := by
                              have := H3.set 2 (.slice pa' 1 pc')
                              simpa using this
                            have R4 := R3.other (a := ⟨w.heap.size + 1, 2, none⟩) (by simp) (.slice pa' 1 pc')
                            have B4 := B3.setCell (p := ⟨w.heap.size + 1, 2, none⟩) (by simp) (.slice pa' 1 pc')
                            have W4 : Hid (RowS (w3.setCell ⟨w.heap.size + 1, 2, none⟩ (.slice pa' 1 pc')) (w.heap.size + 2) (.slice pa' 1 pc') [⟨0, 0⟩]) := rowSetB2 W3.out (by omega)
                            clear W2 H2 R2 B2 N2 q1 g1 q2 g2 hrow hg hne W3
                            obtain ⟨q3, g3⟩ := H3.rules
                            clear H3 R3 B3))
      go_roundw
      case rel => exact ⟨R4, B4, pa', pc', .inr (.inl ⟨rfl, H4, W4.out⟩)⟩
      case measure => simp [intOf]
    · have W2 : Hid (RowS ((wr.alloc (.cells #[.int .i64 1, .int .i64 1] 133)).alloc (.cells #[.int .i64 1, .int .i64 1] 133)) (w.heap.size + 2) (.slice pa 1 pc) [⟨0, 0⟩]) := ((show World.ownsRow _ _ _ _ _ _ _ from W1).alloc _).alloc _
      have H2 := (H1.alloc (.cells #[.int .i64 1, .int .i64 1] 133)).alloc (.cells #[.int .i64 1, .int .i64 1] 133)
      have R2 := (R1.alloc (.cells #[.int .i64 1, .int .i64 1] 133)).alloc (.cells #[.int .i64 1, .int .i64 1] 133)
      have B2 : Below w.heap.size w ((wr.alloc (.cells #[.int .i64 1, .int .i64 1] 133)).alloc (.cells #[.int .i64 1, .int .i64 1] 133)) := (B1.alloc B1.size _).alloc (by have := B1.size; simp; omega) _
      have N2 : Blk ((wr.alloc (.cells #[.int .i64 1, .int .i64 1] 133)).alloc (.cells #[.int .i64 1, .int .i64 1] 133)) (wr.heap.size + 1) #[.int .i64 1, .int .i64 1] 133 := by have := Blk.new (wr.alloc (.cells #[.int .i64 1, .int .i64 1] 133)) #[.int .i64 1, .int .i64 1] 133; simpa using this
      have z1 := H1.lt
      have z0 := R1.lt
      obtain ⟨q1, g1⟩ := H1.rules
      obtain ⟨q2, g2⟩ := H2.rules
      clear H1 R1 W1
      go_wp2_with (first | (at_builtin; refine wpList_append_slot1 _ rfl _ _ rfl (w.heap.size + 2) (.slice pa 1 pc) [⟨0, 0⟩] rfl W2.out ⟨1, 1⟩ (wr.heap.size + 1) rfl N2 (by simp) (by simp; omega) ?_
                            intro v' w3 hrow hg
                            obtain ⟨pa', pc', rfl, _⟩ := row_slice hrow
                            have hne : ∀ j, (Value.slice pa 1 pc).ownBlock = some j → w.heap.size + 2 ≤ j := fun j hj => (W2.out.lt j hj).1
                            have H3 := H2.grown hg (fun e => by have := hne _ e.symm; omega)
                            have R3 := R2.grown hg (fun e => by have := hne _ e.symm; omega)
                            have B3 : Below w.heap.size w w3 := B2.grown hg B2.size (fun j hj => by have := hne j hj; omega)
                            have W3 : Hid (RowS w3 (w.heap.size + 2) (.slice pa' 2 pc') [⟨0, 0⟩, ⟨1, 1⟩]) := hrow
                            have z3 := H3.lt
                            have H4 : Blk (w3.setCell ⟨w.heap.size + 1, 2, none⟩ (.slice pa' 2 pc')) (w.heap.size + 1) #[.int .i64 3, .bool true, .slice pa' 2 pc', .slice none 0 0, .slice none 0 0, .slice none 0 0, .slice none 0 0] 63 := by
                              have := H3.set 2 (.slice pa' 2 pc')
                              simpa using this
                            have R4 := R3.other (a := ⟨w.heap.size + 1, 2, none⟩) (by simp) (.slice pa' 2 pc')
                            have B4 := B3.setCell (p := ⟨w.heap.size + 1, 2, none⟩) (by simp) (.slice pa' 2 pc')
                            have W4 : Hid (RowS (w3.setCell ⟨w.heap.size + 1, 2, none⟩ (.slice pa' 2 pc')) (w.heap.size + 2) (.slice pa' 2 pc') [⟨0, 0⟩, ⟨1, 1⟩]) := rowSetB2 W3.out (by omega)
                            clear W2 H2 R2 B2 N2 q1 g1 q2 g2 hrow hg hne W3
                            obtain ⟨q3, g3⟩ := H3.rules
                            clear H3 R3 B3))
      go_roundw
      case rel => exact ⟨R4, B4, pa', pc', .inr (.inr (.inl ⟨rfl, H4, W4.out⟩))⟩
      case measure => simp [intOf]
    · have W2 : Hid (RowS ((wr.alloc (.cells #[.int .i64 0, .int .i64 0] 133)).alloc (.cells #[.int .i64 0, .int .i64 0] 133)) (w.heap.size + 2) (.slice pa 2 pc) [⟨0, 0⟩, ⟨1, 1⟩]) := ((show World.ownsRow _ _ _ _ _ _ _ from W1).alloc _).alloc _
      have H2 := (H1.alloc (.cells #[.int .i64 0, .int .i64 0] 133)).alloc (.cells #[.int .i64 0, .int .i64 0] 133)
      have R2 := (R1.alloc (.cells #[.int .i64 0, .int .i64 0] 133)).alloc (.cells #[.int .i64 0, .int .i64 0] 133)
      have B2 : Below w.heap.size w ((wr.alloc (.cells #[.int .i64 0, .int .i64 0] 133)).alloc (.cells #[.int .i64 0, .int .i64 0] 133)) := (B1.alloc B1.size _).alloc (by have := B1.size; simp; omega) _
      have N2 : Blk ((wr.alloc (.cells #[.int .i64 0, .int .i64 0] 133)).alloc (.cells #[.int .i64 0, .int .i64 0] 133)) (wr.heap.size + 1) #[.int .i64 0, .int .i64 0] 133 := by have := Blk.new (wr.alloc (.cells #[.int .i64 0, .int .i64 0] 133)) #[.int .i64 0, .int .i64 0] 133; simpa using this
      have z1 := H1.lt
      have z0 := R1.lt
      obtain ⟨q1, g1⟩ := H1.rules
      obtain ⟨q2, g2⟩ := H2.rules
      clear H1 R1 W1
      go_wp2_with (first | (at_builtin; refine wpList_append_slot1 _ rfl _ _ rfl (w.heap.size + 2) (.slice pa 2 pc) [⟨0, 0⟩, ⟨1, 1⟩] rfl W2.out ⟨0, 0⟩ (wr.heap.size + 1) rfl N2 (by simp) (by simp; omega) ?_
                            intro v' w3 hrow hg
                            obtain ⟨pa', pc', rfl, _⟩ := row_slice hrow
                            have hne : ∀ j, (Value.slice pa 2 pc).ownBlock = some j → w.heap.size + 2 ≤ j := fun j hj => (W2.out.lt j hj).1
                            have H3 := H2.grown hg (fun e => by have := hne _ e.symm; omega)
                            have R3 := R2.grown hg (fun e => by have := hne _ e.symm; omega)
                            have B3 : Below w.heap.size w w3 := B2.grown hg B2.size (fun j hj => by have := hne j hj; omega)
                            have W3 : Hid (RowS w3 (w.heap.size + 2) (.slice pa' 3 pc') [⟨0, 0⟩, ⟨1, 1⟩, ⟨0, 0⟩]) := hrow
                            have z3 := H3.lt
                            have H4 : Blk (w3.setCell ⟨w.heap.size + 1, 2, none⟩ (.slice pa' 3 pc')) (w.heap.size + 1) #[.int .i64 3, .bool true, .slice pa' 3 pc', .slice none 0 0, .slice none 0 0, .slice none 0 0, .slice none 0 0] 63 := by
                              have := H3.set 2 (.slice pa' 3 pc')
                              simpa using this
                            have R4 := R3.other (a := ⟨w.heap.size + 1, 2, none⟩) (by simp) (.slice pa' 3 pc')
                            have B4 := B3.setCell (p := ⟨w.heap.size + 1, 2, none⟩) (by simp) (.slice pa' 3 pc')
                            have W4 : Hid (RowS (w3.setCell ⟨w.heap.size + 1, 2, none⟩ (.slice pa' 3 pc')) (w.heap.size + 2) (.slice pa' 3 pc') [⟨0, 0⟩, ⟨1, 1⟩, ⟨0, 0⟩]) := rowSetB2 W3.out (by omega)
                            clear W2 H2 R2 B2 N2 q1 g1 q2 g2 hrow hg hne W3
                            obtain ⟨q3, g3⟩ := H3.rules
                            clear H3 R3 B3))
      go_roundw
      case rel => exact ⟨R4, B4, pa', pc', .inr (.inr (.inr ⟨rfl, H4, W4.out⟩))⟩
      case measure => simp [intOf]
    · obtain ⟨q1, g1⟩ := H1.rules
      obtain ⟨q2, g2⟩ := R1.rules
      have HR : Hid (RowS wr (w.heap.size + 2) (.slice pa 3 pc) [⟨0, 0⟩, ⟨1, 1⟩, ⟨0, 0⟩]) := W1
      clear H1 W1
      go_wp2_with fail
      refine bodyPost_ret (v := .agg #[.int .i64 3, .bool true, .slice pa 3 pc, .slice none 0 0, .slice none 0 0, .slice none 0 0, .slice none 0 0]) ?_ rfl ⟨⟨pa, pc, none, 0, none, 0, none, 0, none, 0⟩, by rw [HX.out]; rfl, ?_, fill7_below B1 (Nat.le_refl _)⟩
      · refine Blk.gen (B := w.heap.size) (vs := #[.int .i64 3, .bool true, .slice pa 3 pc, .slice none 0 0, .slice none 0 0, .slice none 0 0, .slice none 0 0]) (T := 63) ?_ (P := fun W => (results Try.f57 _).run Try.prog W = .ok _ W) ?_
        · exact Blk.fill7 R1
        intro W hW
        obtain ⟨k, f⟩ := hW.rules
        simp [results, Try.results57, go_sem, k]
      · rw [HX.out]
        exact start_own (row_mono (row_fill7 HR.out (fun j hj => by have := (HR.out.lt j hj).1; omega)) (by omega))

theorem sStart_any (n : Int) (w : World) : Calls Try.prog 57 #[.int .i64 n] w fun e w' => ∃ b, e = .returned (servV (startX n) b) ∧ OwnS w' w.heap.size (startX n) b [] [] ∧ Below w.heap.size w w' := by
  by_cases h : 0 ≤ n ∧ n ≤ 3
  · have : n = 0 ∨ n = 1 ∨ n = 2 ∨ n = 3 := by omega
    rcases this with rfl | rfl | rfl | rfl
    · exact sStart0 w
    · exact sStart1 w
    · exact sStart2 w
    · exact sStart3 w
  · exact sStart_no n w h
end Go.Proofs.Ytgdkoangpinieaa
