/- The specification's DepsPut. -/
import Derived.Test.YtgdkoangpinieaaGAE
import Derived.Test.YtgdkoangpinieaaPutNum
import Derived.Test.YtgdkoangpinieaaCmp
namespace Go.Proofs.Ytgdkoangpinieaa
open Go.ChangeShapes Go.WideShapes Go.ChangeAt Go.RowKit

theorem depsOk_one (d : D) : depsOk [d] = okD d := by simp [depsOk]
theorem deps_one {w : World} {B : Nat} {d : D} {T : TypeId} (h : Blk w B #[.int .i64 d.k, .int .i64 d.t, .int .i64 d.s] T) : Deps w (some ⟨B, 0, none⟩) [d] := by
  refine .inr ⟨B, 0, rfl, h.lt, fun k hk => ?_⟩
  obtain rfl : k = 0 := by simp at hk; omega
  exact ⟨(h.cell 0).trans rfl, (h.cell 1).trans rfl, (h.cell 2).trans rfl⟩
theorem cells3' {w : World} {B : Nat} {x y z : Value} {T : TypeId} (h : Blk w B #[x, y, z] T) : ∀ (j : Nat) (u : Value), [x, y, z][j]? = some u → w.cell? ((Addr.mk B 0 none).add j) = some u := by
  intro j u hj
  have ha : (Addr.mk B 0 none).add j = ⟨B, j, none⟩ := by by_cases h : j = 0 <;> simp [Addr.add, h]
  rw [ha, h.cell]
  simpa using hj

/-- What is known in a round: a dep of the list, what counts, and what is out. -/
def PutW (w0 : World) (b x : Nat) (y c : D) (v : Value) (o : List D) (W : World) : Prop :=
  Below w0.heap.size w0 W ∧ b < w0.heap.size ∧ (W.cell? ⟨b, x, none⟩ = some (.int .i64 y.k) ∧ W.cell? ⟨b, x + 1, none⟩ = some (.int .i64 y.t) ∧ W.cell? ⟨b, x + 2, none⟩ = some (.int .i64 y.s)) ∧ Blk W w0.heap.size #[.int .i64 c.k, .int .i64 c.t, .int .i64 c.s] 51 ∧ W.ownsRow (w0.heap.size + 1) 51 3 v o.length (flat3 o)
section
variable {w0 w w' : World} {b x : Nat} {y c : D} {v v' : Value} {o o' : List D}
theorem PutW.below (h : PutW w0 b x y c v o w) (d : Below w.heap.size w w') : PutW w0 b x y c v o w' := by
  obtain ⟨h1, h2, ⟨h3, h4, h5⟩, h6, h7⟩ := h
  have hb : b < w.heap.size := by have := h1.size; omega
  exact ⟨h1.trans (d.mono h1.size), h2, ⟨(d.cell (p := ⟨b, _, none⟩) hb).trans h3, (d.cell (p := ⟨b, _, none⟩) hb).trans h4, (d.cell (p := ⟨b, _, none⟩) hb).trans h5⟩, h6.below d h6.lt, row_below h7 d (Nat.le_refl _)⟩
theorem PutW.drew (h : PutW w0 b x y c v o w) : PutW w0 b x y c v o w.drew := h.below (Below.refl _ _).drew
theorem PutW.rules : (∀ n : Wof (PutW w0 b x y c v o), n.W.cell? ⟨b, x, none⟩ = some (.int .i64 y.k)) ∧ (∀ n : Wof (PutW w0 b x y c v o), n.W.cell? ⟨b, x + 1, none⟩ = some (.int .i64 y.t)) ∧ (∀ n : Wof (PutW w0 b x y c v o), n.W.cell? ⟨b, x + 2, none⟩ = some (.int .i64 y.s)) ∧ (∀ (n : Wof (PutW w0 b x y c v o)) (j : Nat), n.W.cell? ⟨w0.heap.size, j, none⟩ = #[.int .i64 c.k, .int .i64 c.t, .int .i64 c.s][j]?) :=
  ⟨fun n => n.h.2.2.1.1, fun n => n.h.2.2.1.2.1, fun n => n.h.2.2.1.2.2, fun n => n.h.2.2.2.1.cell⟩
theorem PutW.appended (h : PutW w0 b x y c v o w) {tmp : Obj} (hown : w'.ownsRow (w0.heap.size + 1) 51 3 v' o'.length (flat3 o')) (hg : (w.alloc tmp).grownBy w' v.ownBlock) : PutW w0 b x y c v' o' w' := by
  obtain ⟨h1, h2, ⟨h3, h4, h5⟩, h6, h7⟩ := h
  have hrow : ∀ j, v.ownBlock = some j → w0.heap.size + 1 ≤ j := fun j hj => (h7.lt j hj).1
  have hb : b < w.heap.size := by have := h1.size; omega
  have keep : ∀ k, k ≤ w0.heap.size → k < w.heap.size → w'.heap[k]? = w.heap[k]? := fun k hk hl => (hg.block k (by simp; omega) (fun e => by have := hrow k e.symm; omega)).trans (Below.heap_alloc _ _ _ hl)
  have kc : ∀ j, w'.cell? ⟨b, j, none⟩ = w.cell? ⟨b, j, none⟩ := fun j => World.cell?_of_block (w := w) (keep b (by omega) hb)
  refine ⟨(h1.alloc h1.size tmp).grown hg (by have := h1.size; simp; omega) (fun j hj => by have := hrow j hj; omega), h2, ⟨(kc _).trans h3, (kc _).trans h4, (kc _).trans h5⟩, (keep _ (Nat.le_refl _) h6.lt).trans h6, hown⟩
theorem PutW.stored (h : PutW w0 b x y c v o w) : PutW w0 b x y y v o (((w.setCell ⟨w0.heap.size, 0, none⟩ (.int .i64 y.k)).setCell ⟨w0.heap.size, 1, none⟩ (.int .i64 y.t)).setCell ⟨w0.heap.size, 2, none⟩ (.int .i64 y.s)) := by
  obtain ⟨h1, h2, ⟨h3, h4, h5⟩, h6, h7⟩ := h
  have keep : ∀ k, k ≠ w0.heap.size → (((w.setCell ⟨w0.heap.size, 0, none⟩ (.int .i64 y.k)).setCell ⟨w0.heap.size, 1, none⟩ (.int .i64 y.t)).setCell ⟨w0.heap.size, 2, none⟩ (.int .i64 y.s)).heap[k]? = w.heap[k]? := fun k hk => ((Below.heap_setCell _ _ _ _ hk).trans (Below.heap_setCell _ _ _ _ hk)).trans (Below.heap_setCell _ _ _ _ hk)
  have kc : ∀ j, (((w.setCell ⟨w0.heap.size, 0, none⟩ (.int .i64 y.k)).setCell ⟨w0.heap.size, 1, none⟩ (.int .i64 y.t)).setCell ⟨w0.heap.size, 2, none⟩ (.int .i64 y.s)).cell? ⟨b, j, none⟩ = w.cell? ⟨b, j, none⟩ := fun j => World.cell?_of_block (w := w) (keep b (by omega))
  refine ⟨((h1.setCell (by simp) _).setCell (by simp) _).setCell (by simp) _, h2, ⟨(kc _).trans h3, (kc _).trans h4, (kc _).trans h5⟩, by have := ((h6.set 0 (.int .i64 y.k)).set 1 (.int .i64 y.t)).set 2 (.int .i64 y.s); simpa using this, h7.1, ?_⟩
  rcases h7.2 with hn | ⟨g, cap, cur, rfl, hb, hg, rest⟩
  · exact .inl hn
  · exact .inr ⟨g, cap, cur, rfl, hb, (keep g (by omega)).trans hg, rest⟩
theorem sLess_is {t s t' s' : Int} {r : Bool} (h : lessB t s t' s' = r) (w : World) : Calls Try.prog 161 #[stampV t s, stampV t' s'] w fun e w' => e = .returned (.bool r) ∧ Below w.heap.size w w' := by rw [← h]; exact sLess_any t s t' s' w
end

set_option maxHeartbeats 4000000 in
set_option maxRecDepth 100000 in
theorem sPut_yes (a : Option Addr) (cap : Nat) (xs : List D) (d : D) (w : World) (hn : xs.length ≤ 1099511627776) (h : Deps w a xs) (hok : depsOk xs = true) (hd : okD d = true) :
    Calls Try.prog 113 #[.slice a xs.length cap, depV d.k d.t d.s] w fun e w' => ∃ v, e = .returned v ∧ w'.ownsRow w.heap.size 51 3 v (putL xs d).length (flat3 (putL xs d)) ∧ Below w.heap.size w w' := by
  obtain ⟨i0, hi, hz0, hz1, hz2⟩ := info_parts infoDep
  have HP : Hid (putL xs d = lst (withT (tab xs) d)) := putL_yes hok hd
  have hx : Hid (Ok xs) := ok_iff.1 hok
  have B0 : Below w.heap.size w (w.alloc (.cells #[.int .i64 d.k, .int .i64 d.t, .int .i64 d.s] 51)) := (Below.refl _ _).alloc (Nat.le_refl _) _
  have hS := sDepsOk_any a cap xs _ hn (h.below B0)
  rw [hok] at hS
  have hS1 := fun (w : World) h => sDepsOk_any (some ⟨w.heap.size, 0, none⟩) 1 [d] (w.alloc (.cells #[.int .i64 d.k, .int .i64 d.t, .int .i64 d.s] 51)) (by simp) h
  rw [depsOk_one, hd] at hS1
  simp only [List.length_cons, List.length_nil, Nat.zero_add] at hS1
  go_enter Try.func113, Try.ntmps113
  go_wp2_with fail
  refine hS.mono ?_
  rintro e w1 ⟨rfl, hb1⟩
  have D1 := (Blk.new w _ _).below hb1 (by simp)
  have hB1 : Below w.heap.size w w1 := B0.trans (hb1.mono (by simp))
  obtain ⟨q1, g1⟩ := D1.rules
  clear hb1 hS B0
  go_wp2_with fail
  refine (hS1 _ (deps_one (Blk.new w1 _ _))).mono ?_
  rintro e w2 ⟨rfl, hb2⟩
  have D2 := (D1.alloc _).below hb2 (by have := D1.lt; simp; omega)
  have hB2 : Below w.heap.size w w2 := (hB1.alloc hB1.size _).trans (hb2.mono (by have := hB1.size; simp; omega))
  have hz2' := D2.lt
  have hown0 : (w2.alloc (.cells #[] 51)).ownsRow (w.heap.size + 1) 51 3 (.slice (some ⟨w2.heap.size, 0, none⟩) 0 0) 0 [] := World.ownsRow_made w2 #[] 0 (by omega) (by unfold maxLen; omega) rfl
  clear hb2 q1 g1 D1 hB1 hS1
  go_wp2_with fail
  go_loopw [5, 6, 7] (fun v dn i wr => ∃ (k : Nat) (o : List D) (c : D) (done : Bool), k ≤ xs.length ∧ i = .int .i64 k ∧ dn = .bool done ∧ Hid (PutSt xs d k done o c) ∧ Blk wr w.heap.size #[.int .i64 c.k, .int .i64 c.t, .int .i64 c.s] 51 ∧ wr.ownsRow (w.heap.size + 1) 51 3 v o.length (flat3 o) ∧ Below w.heap.size w wr) (fun _ _ i _ => xs.length - (intOf i).toNat)
  case atStart => exact ⟨0, [], d, false, Nat.zero_le _, rfl, rfl, PutSt.start xs d, D2.alloc _, hown0, hB2.alloc hB2.size _⟩
  case round =>
    obtain ⟨k, o, c, done, hk, rfl, rfl, HS0, hD, hrow, hB⟩ := hrel
    clear hown0 hB2 D2 hz2'
    have hlen : o.length ≤ 6 := HS0.out.len hx.out
    by_cases hlt : k < xs.length
    · obtain ⟨b, f, rfl, hbb, e0, e1, e2⟩ := h.at hlt
      have R : PutW w b (f + k * 3) xs[k] c u5 o wr := ⟨hB, hbb, ⟨(hB.cell (p := ⟨b, _, none⟩) hbb).trans e0, (hB.cell (p := ⟨b, _, none⟩) hbb).trans e1, (hB.cell (p := ⟨b, _, none⟩) hbb).trans e2⟩, hD, hrow⟩
      clear e0 e1 e2 hD hrow hB h
      rcases done with _ | _
      · rcases Int.lt_trichotomy xs[k].k d.k with hl | hl | hl
        · have HS : Hid (PutSt xs d (k + 1) false (o ++ [xs[k]]) c) := PutSt.below hlt HS0.out hl
          have hck : c = d := by rcases HS0.out with ⟨_, h, _⟩ | ⟨h, _⟩; exact h; cases h
          subst hck
          generalize xs[k] = y at *
          have hless : True := trivial
          have hne : (y.k == c.k) = false := by simp; omega
          go_wp2_with fail
          obtain ⟨r0, r1, r2, r3⟩ := PutW.rules (w0 := w) (b := b) (x := f + k * 3) (y := y) (c := c) (v := u5) (o := o)
          have ne : Nonempty (Wof (PutW w b (f + k * 3) y c u5 o)) := ⟨⟨_, R⟩⟩
          refine wp_region_class (S := PutW w b (f + k * 3) y c u5 o) (by kernel_rfl) (by kernel_rfl) R.drew ?_
          repeat (go_big_quiet_step ((rename_i n; first | (go_at_call 161; exact Calls.inClass (sLess_is hless _) PutW.below))))
          refine wpQuiet_nil ?_
          rintro W ⟨n, hnW⟩
          have R' := n.h
          rw [← hnW] at R'
          clear R r0 r1 r2 r3 ne hnW n
          have R := R'
          clear R'
          go_wp2_with fail
          obtain ⟨r0, r1, r2, r3⟩ := PutW.rules (w0 := w) (b := b) (x := f + k * 3) (y := y) (c := c) (v := u5) (o := o)
          have ne : Nonempty (Wof (PutW w b (f + k * 3) y c u5 o)) := ⟨⟨_, R⟩⟩
          refine wp_region_class (S := PutW w b (f + k * 3) y c u5 o) (by kernel_rfl) (by kernel_rfl) R.drew ?_
          repeat (go_big_quiet_step ((rename_i n; first | (go_at_call 161; exact Calls.inClass (sLess_is hless _) PutW.below))))
          refine wpQuiet_nil ?_
          rintro W ⟨n, hnW⟩
          have R' := n.h
          rw [← hnW] at R'
          clear R r0 r1 r2 r3 ne hnW n
          have R := R'
          clear R'
          obtain ⟨q0, q1, q2⟩ := R.2.2.1
          obtain ⟨q3, q4⟩ := R.2.2.2.1.rules
          have zW := R.2.2.2.1.lt
          go_wp2_with (first | (at_builtin; refine wpList_append_own _ rfl _ _ 26 rfl (w.heap.size + 1) 51 i0 (.agg #[.int .i64 0, .int .i64 0, .int .i64 0]) 3 24 Try.underlying26 hi hz0 hz1 hz2 rfl (by decide) _ _ _ rfl (R.2.2.2.2.alloc _) ⟨W.heap.size, 0, none⟩ 1 1 [.int .i64 y.k, .int .i64 y.t, .int .i64 y.s] rfl rfl (by intro j u hj; match j, hj with | 0, hj => (simp at hj; subst hj; simp [Addr.add, go_sem]) | 1, hj => (simp at hj; subst hj; simp [Addr.add, go_sem]) | 2, hj => (simp at hj; subst hj; simp [Addr.add, go_sem]) | (j + 3), hj => (simp at hj)) (by intro u hu; simp at hu; rcases hu with rfl | rfl | rfl <;> rfl) (by unfold maxLen; omega) (by omega) (by have := R.1.size; simp; omega) ?_))
          intro v' w4 hown4 hg4 _
          have R4 : PutW w b (f + k * 3) y c v' (o ++ [y]) w4 := R.appended (by rw [flat3_snoc]; simpa using hown4) hg4
          clear hown4 hg4 R q0 q1 q2 q3 q4 zW

          obtain ⟨W, rfl⟩ : ∃ W, w4 = W := ⟨_, rfl⟩
          have R := R4
          clear R4
          go_wp2
          go_roundw
          case rel => exact ⟨k + 1, _, _, _, by omega, by go_num, rfl, HS, R.2.2.2.1, R.2.2.2.2, R.1⟩
          case measure => simp [intOf]; omega
        · rcases hless : lessB d.t d.s xs[k].t xs[k].s with _ | _
          · have HS : Hid (PutSt xs d (k + 1) true (o ++ [d]) d) := PutSt.same hx.out hd hlt HS0.out hl d (by rw [hless]; rfl)
            have hck : c = d := by rcases HS0.out with ⟨_, h, _⟩ | ⟨h, _⟩; exact h; cases h
            subst hck
            generalize xs[k] = y at *
            have hne : (y.k == c.k) = true := by simpa using hl
            have hge : c.k ≤ y.k := by omega
            clear hl
            go_wp2_with fail
            obtain ⟨r0, r1, r2, r3⟩ := PutW.rules (w0 := w) (b := b) (x := f + k * 3) (y := y) (c := c) (v := u5) (o := o)
            have ne : Nonempty (Wof (PutW w b (f + k * 3) y c u5 o)) := ⟨⟨_, R⟩⟩
            refine wp_region_class (S := PutW w b (f + k * 3) y c u5 o) (by kernel_rfl) (by kernel_rfl) R.drew ?_
            repeat (go_big_quiet_step ((rename_i n; first | (go_at_call 161; exact Calls.inClass (sLess_is hless _) PutW.below))))
            refine wpQuiet_nil ?_
            rintro W ⟨n, hnW⟩
            have R' := n.h
            rw [← hnW] at R'
            clear R r0 r1 r2 r3 ne hnW n
            have R := R'
            clear R'
            go_wp2_with fail
            obtain ⟨r0, r1, r2, r3⟩ := PutW.rules (w0 := w) (b := b) (x := f + k * 3) (y := y) (c := c) (v := u5) (o := o)
            have ne : Nonempty (Wof (PutW w b (f + k * 3) y c u5 o)) := ⟨⟨_, R⟩⟩
            refine wp_region_class (S := PutW w b (f + k * 3) y c u5 o) (by kernel_rfl) (by kernel_rfl) R.drew ?_
            repeat (go_big_quiet_step ((rename_i n; first | (go_at_call 161; exact Calls.inClass (sLess_is hless _) PutW.below))))
            refine wpQuiet_nil ?_
            rintro W ⟨n, hnW⟩
            have R' := n.h
            rw [← hnW] at R'
            clear R r0 r1 r2 r3 ne hnW n
            have R := R'
            clear R'
            obtain ⟨q0, q1, q2⟩ := R.2.2.1
            obtain ⟨q3, q4⟩ := R.2.2.2.1.rules
            have zW := R.2.2.2.1.lt
            go_wp2_with (first | (at_builtin; refine wpList_append_own _ rfl _ _ 26 rfl (w.heap.size + 1) 51 i0 (.agg #[.int .i64 0, .int .i64 0, .int .i64 0]) 3 24 Try.underlying26 hi hz0 hz1 hz2 rfl (by decide) _ _ _ rfl (R.2.2.2.2.alloc _) ⟨W.heap.size, 0, none⟩ 1 1 [.int .i64 c.k, .int .i64 c.t, .int .i64 c.s] rfl rfl (by intro j u hj; match j, hj with | 0, hj => (simp at hj; subst hj; simp [Addr.add, go_sem]) | 1, hj => (simp at hj; subst hj; simp [Addr.add, go_sem]) | 2, hj => (simp at hj; subst hj; simp [Addr.add, go_sem]) | (j + 3), hj => (simp at hj)) (by intro u hu; simp at hu; rcases hu with rfl | rfl | rfl <;> rfl) (by unfold maxLen; omega) (by omega) (by have := R.1.size; simp; omega) ?_))
            intro v' w4 hown4 hg4 _
            have R4 : PutW w b (f + k * 3) y c v' (o ++ [c]) w4 := R.appended (by rw [flat3_snoc]; simpa using hown4) hg4
            clear hown4 hg4 R q0 q1 q2 q3 q4 zW

            obtain ⟨W, rfl⟩ : ∃ W, w4 = W := ⟨_, rfl⟩
            have R := R4
            clear R4
            go_wp2_with fail
            obtain ⟨r0, r1, r2, r3⟩ := PutW.rules (w0 := w) (b := b) (x := f + k * 3) (y := y) (c := c) (v := v') (o := (o ++ [c]))
            have ne : Nonempty (Wof (PutW w b (f + k * 3) y c v' (o ++ [c]))) := ⟨⟨_, R⟩⟩
            refine wp_region_class (S := PutW w b (f + k * 3) y c v' (o ++ [c])) (by kernel_rfl) (by kernel_rfl) R.drew ?_
            repeat (go_big_quiet_step ((rename_i n; first | (go_at_call 161; exact Calls.inClass (sLess_is hless _) PutW.below))))
            refine wpQuiet_nil ?_
            rintro W ⟨n, hnW⟩
            have R' := n.h
            rw [← hnW] at R'
            clear R r0 r1 r2 r3 ne hnW n
            have R := R'
            clear R'
            go_wp2
            go_roundw
            case rel => exact ⟨k + 1, _, _, _, by omega, by go_num, rfl, HS, R.2.2.2.1, R.2.2.2.2, R.1⟩
            case measure => simp [intOf]; omega
          · have HS : Hid (PutSt xs d (k + 1) true (o ++ [xs[k]]) xs[k]) := PutSt.same hx.out hd hlt HS0.out hl xs[k] (by rw [hless]; rfl)
            have hck : c = d := by rcases HS0.out with ⟨_, h, _⟩ | ⟨h, _⟩; exact h; cases h
            subst hck
            generalize xs[k] = y at *
            have hne : (y.k == c.k) = true := by simpa using hl
            have hge : c.k ≤ y.k := by omega
            clear hl
            go_wp2_with fail
            obtain ⟨r0, r1, r2, r3⟩ := PutW.rules (w0 := w) (b := b) (x := f + k * 3) (y := y) (c := c) (v := u5) (o := o)
            have ne : Nonempty (Wof (PutW w b (f + k * 3) y c u5 o)) := ⟨⟨_, R⟩⟩
            refine wp_region_class (S := PutW w b (f + k * 3) y c u5 o) (by kernel_rfl) (by kernel_rfl) R.drew ?_
            repeat (go_big_quiet_step ((rename_i n; first | (go_at_call 161; exact Calls.inClass (sLess_is hless _) PutW.below))))
            refine wpQuiet_nil ?_
            rintro W ⟨n, hnW⟩
            have R' := n.h
            rw [← hnW] at R'
            clear R r0 r1 r2 r3 ne hnW n
            have R := R'
            clear R'
            go_wp2_with fail
            obtain ⟨r0, r1, r2, r3⟩ := PutW.rules (w0 := w) (b := b) (x := f + k * 3) (y := y) (c := c) (v := u5) (o := o)
            have ne : Nonempty (Wof (PutW w b (f + k * 3) y c u5 o)) := ⟨⟨_, R⟩⟩
            refine wp_region_class (S := PutW w b (f + k * 3) y c u5 o) (by kernel_rfl) (by kernel_rfl) R.drew ?_
            repeat (go_big_quiet_step ((rename_i n; first | (go_at_call 161; exact Calls.inClass (sLess_is hless _) PutW.below))))
            refine wpQuiet_nil ?_
            rintro W ⟨n, hnW⟩
            have R' := n.h
            rw [← hnW] at R'
            clear R r0 r1 r2 r3 ne hnW n
            have R := R'
            clear R'
            obtain ⟨q0, q1, q2⟩ := R.2.2.1
            obtain ⟨q3, q4⟩ := R.2.2.2.1.rules
            have zW := R.2.2.2.1.lt
            have RS := R.stored
            go_wp2_with (first | (at_builtin; refine wpList_append_own _ rfl _ _ 26 rfl (w.heap.size + 1) 51 i0 (.agg #[.int .i64 0, .int .i64 0, .int .i64 0]) 3 24 Try.underlying26 hi hz0 hz1 hz2 rfl (by decide) _ _ _ rfl (RS.2.2.2.2.alloc _) ⟨W.heap.size, 0, none⟩ 1 1 [.int .i64 y.k, .int .i64 y.t, .int .i64 y.s] rfl rfl (by intro j u hj; match j, hj with | 0, hj => (simp at hj; subst hj; simp [Addr.add, go_sem]) | 1, hj => (simp at hj; subst hj; simp [Addr.add, go_sem]) | 2, hj => (simp at hj; subst hj; simp [Addr.add, go_sem]) | (j + 3), hj => (simp at hj)) (by intro u hu; simp at hu; rcases hu with rfl | rfl | rfl <;> rfl) (by unfold maxLen; omega) (by omega) (by have := R.1.size; simp; omega) ?_))
            intro v' w4 hown4 hg4 _
            have R4 : PutW w b (f + k * 3) y y v' (o ++ [y]) w4 := RS.appended (by rw [flat3_snoc]; simpa using hown4) hg4
            clear hown4 hg4 R q0 q1 q2 q3 q4 zW
            clear RS

            obtain ⟨W, rfl⟩ : ∃ W, w4 = W := ⟨_, rfl⟩
            have R := R4
            clear R4
            have hne : (y.k == y.k) = true := by simp
            go_wp2_with fail
            obtain ⟨r0, r1, r2, r3⟩ := PutW.rules (w0 := w) (b := b) (x := f + k * 3) (y := y) (c := y) (v := v') (o := (o ++ [y]))
            have ne : Nonempty (Wof (PutW w b (f + k * 3) y y v' (o ++ [y]))) := ⟨⟨_, R⟩⟩
            refine wp_region_class (S := PutW w b (f + k * 3) y y v' (o ++ [y])) (by kernel_rfl) (by kernel_rfl) R.drew ?_
            repeat (go_big_quiet_step ((rename_i n; first | (go_at_call 161; exact Calls.inClass (sLess_is hless _) PutW.below))))
            refine wpQuiet_nil ?_
            rintro W ⟨n, hnW⟩
            have R' := n.h
            rw [← hnW] at R'
            clear R r0 r1 r2 r3 ne hnW n
            have R := R'
            clear R'
            go_wp2
            go_roundw
            case rel => exact ⟨k + 1, _, _, _, by omega, by go_num, rfl, HS, R.2.2.2.1, R.2.2.2.2, R.1⟩
            case measure => simp [intOf]; omega
        · have HS : Hid (PutSt xs d (k + 1) true (o ++ [d] ++ [xs[k]]) c) := PutSt.above hx.out hd hlt HS0.out hl
          have hck : c = d := by rcases HS0.out with ⟨_, h, _⟩ | ⟨h, _⟩; exact h; cases h
          subst hck
          generalize xs[k] = y at *
          have hless : True := trivial
          have hne : (y.k == c.k) = false := by simp; omega
          go_wp2_with fail
          obtain ⟨r0, r1, r2, r3⟩ := PutW.rules (w0 := w) (b := b) (x := f + k * 3) (y := y) (c := c) (v := u5) (o := o)
          have ne : Nonempty (Wof (PutW w b (f + k * 3) y c u5 o)) := ⟨⟨_, R⟩⟩
          refine wp_region_class (S := PutW w b (f + k * 3) y c u5 o) (by kernel_rfl) (by kernel_rfl) R.drew ?_
          repeat (go_big_quiet_step ((rename_i n; first | (go_at_call 161; exact Calls.inClass (sLess_is hless _) PutW.below))))
          refine wpQuiet_nil ?_
          rintro W ⟨n, hnW⟩
          have R' := n.h
          rw [← hnW] at R'
          clear R r0 r1 r2 r3 ne hnW n
          have R := R'
          clear R'
          go_wp2_with fail
          obtain ⟨r0, r1, r2, r3⟩ := PutW.rules (w0 := w) (b := b) (x := f + k * 3) (y := y) (c := c) (v := u5) (o := o)
          have ne : Nonempty (Wof (PutW w b (f + k * 3) y c u5 o)) := ⟨⟨_, R⟩⟩
          refine wp_region_class (S := PutW w b (f + k * 3) y c u5 o) (by kernel_rfl) (by kernel_rfl) R.drew ?_
          repeat (go_big_quiet_step ((rename_i n; first | (go_at_call 161; exact Calls.inClass (sLess_is hless _) PutW.below))))
          refine wpQuiet_nil ?_
          rintro W ⟨n, hnW⟩
          have R' := n.h
          rw [← hnW] at R'
          clear R r0 r1 r2 r3 ne hnW n
          have R := R'
          clear R'
          obtain ⟨q0, q1, q2⟩ := R.2.2.1
          obtain ⟨q3, q4⟩ := R.2.2.2.1.rules
          have zW := R.2.2.2.1.lt
          go_wp2_with (first | (at_builtin; refine wpList_append_own _ rfl _ _ 26 rfl (w.heap.size + 1) 51 i0 (.agg #[.int .i64 0, .int .i64 0, .int .i64 0]) 3 24 Try.underlying26 hi hz0 hz1 hz2 rfl (by decide) _ _ _ rfl (R.2.2.2.2.alloc _) ⟨W.heap.size, 0, none⟩ 1 1 [.int .i64 c.k, .int .i64 c.t, .int .i64 c.s] rfl rfl (by intro j u hj; match j, hj with | 0, hj => (simp at hj; subst hj; simp [Addr.add, go_sem]) | 1, hj => (simp at hj; subst hj; simp [Addr.add, go_sem]) | 2, hj => (simp at hj; subst hj; simp [Addr.add, go_sem]) | (j + 3), hj => (simp at hj)) (by intro u hu; simp at hu; rcases hu with rfl | rfl | rfl <;> rfl) (by unfold maxLen; omega) (by omega) (by have := R.1.size; simp; omega) ?_))
          intro v' w4 hown4 hg4 _
          have R4 : PutW w b (f + k * 3) y c v' (o ++ [c]) w4 := R.appended (by rw [flat3_snoc]; simpa using hown4) hg4
          clear hown4 hg4 R q0 q1 q2 q3 q4 zW

          obtain ⟨W, rfl⟩ : ∃ W, w4 = W := ⟨_, rfl⟩
          have R := R4
          clear R4
          go_wp2_with fail
          obtain ⟨r0, r1, r2, r3⟩ := PutW.rules (w0 := w) (b := b) (x := f + k * 3) (y := y) (c := c) (v := v') (o := (o ++ [c]))
          have ne : Nonempty (Wof (PutW w b (f + k * 3) y c v' (o ++ [c]))) := ⟨⟨_, R⟩⟩
          refine wp_region_class (S := PutW w b (f + k * 3) y c v' (o ++ [c])) (by kernel_rfl) (by kernel_rfl) R.drew ?_
          repeat (go_big_quiet_step ((rename_i n; first | (go_at_call 161; exact Calls.inClass (sLess_is hless _) PutW.below))))
          refine wpQuiet_nil ?_
          rintro W ⟨n, hnW⟩
          have R' := n.h
          rw [← hnW] at R'
          clear R r0 r1 r2 r3 ne hnW n
          have R := R'
          clear R'
          have hlen : (o ++ [c]).length ≤ 7 := by simp; omega
          obtain ⟨q0, q1, q2⟩ := R.2.2.1
          obtain ⟨q3, q4⟩ := R.2.2.2.1.rules
          have zW := R.2.2.2.1.lt
          go_wp2_with (first | (at_builtin; refine wpList_append_own _ rfl _ _ 26 rfl (w.heap.size + 1) 51 i0 (.agg #[.int .i64 0, .int .i64 0, .int .i64 0]) 3 24 Try.underlying26 hi hz0 hz1 hz2 rfl (by decide) _ _ _ rfl (R.2.2.2.2.alloc _) ⟨W.heap.size, 0, none⟩ 1 1 [.int .i64 y.k, .int .i64 y.t, .int .i64 y.s] rfl rfl (by intro j u hj; match j, hj with | 0, hj => (simp at hj; subst hj; simp [Addr.add, go_sem]) | 1, hj => (simp at hj; subst hj; simp [Addr.add, go_sem]) | 2, hj => (simp at hj; subst hj; simp [Addr.add, go_sem]) | (j + 3), hj => (simp at hj)) (by intro u hu; simp at hu; rcases hu with rfl | rfl | rfl <;> rfl) (by unfold maxLen; omega) (by omega) (by have := R.1.size; simp; omega) ?_))
          intro v2 w4 hown4 hg4 _
          have R4 : PutW w b (f + k * 3) y c v2 (o ++ [c] ++ [y]) w4 := R.appended (by rw [flat3_snoc]; simpa using hown4) hg4
          clear hown4 hg4 R q0 q1 q2 q3 q4 zW

          obtain ⟨W, rfl⟩ : ∃ W, w4 = W := ⟨_, rfl⟩
          have R := R4
          clear R4
          go_wp2
          go_roundw
          case rel => exact ⟨k + 1, _, _, _, by omega, by go_num, rfl, HS, R.2.2.2.1, R.2.2.2.2, R.1⟩
          case measure => simp [intOf]; omega
      · obtain ⟨hcl, HS'⟩ := PutSt.past hx.out hlt HS0.out
        have HS : Hid (PutSt xs d (k + 1) true (o ++ [xs[k]]) c) := HS'
        clear HS'
        generalize xs[k] = y at *
        have hless : True := trivial
        have hne : (y.k == c.k) = false := by simp; omega
        go_wp2_with fail
        obtain ⟨r0, r1, r2, r3⟩ := PutW.rules (w0 := w) (b := b) (x := f + k * 3) (y := y) (c := c) (v := u5) (o := o)
        have ne : Nonempty (Wof (PutW w b (f + k * 3) y c u5 o)) := ⟨⟨_, R⟩⟩
        refine wp_region_class (S := PutW w b (f + k * 3) y c u5 o) (by kernel_rfl) (by kernel_rfl) R.drew ?_
        repeat (go_big_quiet_step ((rename_i n; first | (go_at_call 161; exact Calls.inClass (sLess_is hless _) PutW.below))))
        refine wpQuiet_nil ?_
        rintro W ⟨n, hnW⟩
        have R' := n.h
        rw [← hnW] at R'
        clear R r0 r1 r2 r3 ne hnW n
        have R := R'
        clear R'
        go_wp2_with fail
        obtain ⟨r0, r1, r2, r3⟩ := PutW.rules (w0 := w) (b := b) (x := f + k * 3) (y := y) (c := c) (v := u5) (o := o)
        have ne : Nonempty (Wof (PutW w b (f + k * 3) y c u5 o)) := ⟨⟨_, R⟩⟩
        refine wp_region_class (S := PutW w b (f + k * 3) y c u5 o) (by kernel_rfl) (by kernel_rfl) R.drew ?_
        repeat (go_big_quiet_step ((rename_i n; first | (go_at_call 161; exact Calls.inClass (sLess_is hless _) PutW.below))))
        refine wpQuiet_nil ?_
        rintro W ⟨n, hnW⟩
        have R' := n.h
        rw [← hnW] at R'
        clear R r0 r1 r2 r3 ne hnW n
        have R := R'
        clear R'
        obtain ⟨q0, q1, q2⟩ := R.2.2.1
        obtain ⟨q3, q4⟩ := R.2.2.2.1.rules
        have zW := R.2.2.2.1.lt
        go_wp2_with (first | (at_builtin; refine wpList_append_own _ rfl _ _ 26 rfl (w.heap.size + 1) 51 i0 (.agg #[.int .i64 0, .int .i64 0, .int .i64 0]) 3 24 Try.underlying26 hi hz0 hz1 hz2 rfl (by decide) _ _ _ rfl (R.2.2.2.2.alloc _) ⟨W.heap.size, 0, none⟩ 1 1 [.int .i64 y.k, .int .i64 y.t, .int .i64 y.s] rfl rfl (by intro j u hj; match j, hj with | 0, hj => (simp at hj; subst hj; simp [Addr.add, go_sem]) | 1, hj => (simp at hj; subst hj; simp [Addr.add, go_sem]) | 2, hj => (simp at hj; subst hj; simp [Addr.add, go_sem]) | (j + 3), hj => (simp at hj)) (by intro u hu; simp at hu; rcases hu with rfl | rfl | rfl <;> rfl) (by unfold maxLen; omega) (by omega) (by have := R.1.size; simp; omega) ?_))
        intro v' w4 hown4 hg4 _
        have R4 : PutW w b (f + k * 3) y c v' (o ++ [y]) w4 := R.appended (by rw [flat3_snoc]; simpa using hown4) hg4
        clear hown4 hg4 R q0 q1 q2 q3 q4 zW

        obtain ⟨W, rfl⟩ : ∃ W, w4 = W := ⟨_, rfl⟩
        have R := R4
        clear R4
        go_wp2
        go_roundw
        case rel => exact ⟨k + 1, _, _, _, by omega, by go_num, rfl, HS, R.2.2.2.1, R.2.2.2.2, R.1⟩
        case measure => simp [intOf]; omega
    · have hk2 : k = xs.length := by omega
      subst hk2
      rcases done with _ | _
      · obtain ⟨rfl, hl⟩ := PutSt.last hx.out hd HS0.out
        have HL : Hid _ := hl
        clear hl h
        have zW := hD.lt
        obtain ⟨q3, q4⟩ := hD.rules
        go_wp2_with (first | (at_builtin; refine wpList_append_own _ rfl _ _ 26 rfl (w.heap.size + 1) 51 i0 (.agg #[.int .i64 0, .int .i64 0, .int .i64 0]) 3 24 Try.underlying26 hi hz0 hz1 hz2 rfl (by decide) _ _ _ rfl (hrow.alloc _) ⟨wr.heap.size, 0, none⟩ 1 1 [.int .i64 c.k, .int .i64 c.t, .int .i64 c.s] rfl rfl (by intro j u hj; match j, hj with | 0, hj => (simp at hj; subst hj; simp [Addr.add, go_sem]) | 1, hj => (simp at hj; subst hj; simp [Addr.add, go_sem]) | 2, hj => (simp at hj; subst hj; simp [Addr.add, go_sem]) | (j + 3), hj => (simp at hj)) (by intro u hu; simp at hu; rcases hu with rfl | rfl | rfl <;> rfl) (by unfold maxLen; omega) (by omega) (by have := hB.size; simp; omega) ?_))
        intro v' w4 hown4 hg4 _
        have hB4 : Below w.heap.size w w4 := (hB.alloc hB.size _).grown hg4 (by have := hB.size; simp; omega) (fun j hj => by have := (hrow.lt j hj).1; omega)
        have hrow4 : w4.ownsRow w.heap.size 51 3 v' (putL xs c).length (flat3 (putL xs c)) := by
          rw [HP.out, ← HL.out, flat3_snoc]
          exact row_mono (by simpa using hown4) (by omega)
        clear hown4 hg4 hrow hB q3 q4
        go_wp2
        go_ret
        exact ⟨_, rfl, hrow4, hB4⟩
      · have HL : Hid _ := PutSt.done HS0.out
        clear h
        have hrow4 : wr.ownsRow w.heap.size 51 3 u5 (putL xs d).length (flat3 (putL xs d)) := by
          rw [HP.out, ← HL.out]
          exact row_mono hrow (by omega)
        clear hrow
        go_wp2
        go_ret
        exact ⟨_, rfl, hrow4, hB⟩
end Go.Proofs.Ytgdkoangpinieaa
