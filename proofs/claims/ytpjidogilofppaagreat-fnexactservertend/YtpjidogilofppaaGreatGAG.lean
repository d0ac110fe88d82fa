/- 4 texts in one: Join, TList, IDeps, IAt. -/
import Derived.Test.YtpjidogilofppaaGreatIter
import Derived.Test.YtpjidogilofppaaGreatGAE
import Derived.Test.YtpjidogilofppaaGreatTableOf
import Derived.Maps.AppendAt
/- A table is joined with another one; a table as deps. -/
namespace Go.Proofs.YtpjidogilofppaaGreat
open Go.ChangeShapes Go.WideShapes Go.ChangeAt Go.RowKit Go.Shelf
attribute [local go_sem] Oper.semAt_some

theorem Blk.kept {W W' : World} {row : Option Nat} {B : Nat} {vs : Array Value} {T : TypeId} (h : Blk W B vs T) (hg : W.grownBy W' row) (hne : some B ≠ row) : Blk W' B vs T := (hg.block B h.lt hne).trans h
theorem blk_own {β : Type} (B : Nat) (T : TypeId) (f : β → Array Value) : Own (fun s W => Blk W B (f s) T) := fun s X Y row hs hg hrow =>
  hs.kept hg (fun e' => by obtain ⟨o, ho, hc⟩ := hrow B e'.symm; rw [show X.heap[B]? = _ from hs] at ho; cases ho; cases hc)
theorem keeps_of_below {W W' : World} (h : Below W.heap.size W W') : KeepsOthers W W' := ⟨h.size, fun k _ hk _ => (h.block k (Array.getElem?_eq_some_iff.1 hk).1).trans hk⟩
theorem Blk.putObj {W : World} {B : Nat} {vs : Array Value} {T : TypeId} (h : Blk W B vs T) {l : Nat} (o : Obj) (hne : l ≠ B) : Blk (W.putObj l o) B vs T := (World.putObj_heap_other (by omega)).trans h

theorem keeps_fill {a w : World} {B : Nat} {v0 v1 v2 v3 v4 v5 v6 v7 v8 v9 v10 v11 : Value} (h : KeepsOthers a w) : KeepsOthers a ((((((((((((w.setCell ⟨B, 0, none⟩ v0).setCell ⟨B, 1, none⟩ v1).setCell ⟨B, 2, none⟩ v2).setCell ⟨B, 3, none⟩ v3).setCell ⟨B, 4, none⟩ v4).setCell ⟨B, 5, none⟩ v5).setCell ⟨B, 6, none⟩ v6).setCell ⟨B, 7, none⟩ v7).setCell ⟨B, 8, none⟩ v8).setCell ⟨B, 9, none⟩ v9).setCell ⟨B, 10, none⟩ v10).setCell ⟨B, 11, none⟩ v11) := ((((((((((((h.trans (KeepsOthers.setCell _ _ _)).trans (KeepsOthers.setCell _ _ _)).trans (KeepsOthers.setCell _ _ _)).trans (KeepsOthers.setCell _ _ _)).trans (KeepsOthers.setCell _ _ _)).trans (KeepsOthers.setCell _ _ _)).trans (KeepsOthers.setCell _ _ _)).trans (KeepsOthers.setCell _ _ _)).trans (KeepsOthers.setCell _ _ _)).trans (KeepsOthers.setCell _ _ _)).trans (KeepsOthers.setCell _ _ _)).trans (KeepsOthers.setCell _ _ _))

theorem all_any (g : Tbl) (w : World) : Calls Tryz.prog 335 #[.agg (tabA g)] w fun e w' => e = .returned (.func (.func 337) #[] #[.pointer (some ⟨w.heap.size, 0, none⟩)]) ∧ w' = w.alloc (.cells (tabA g) 257) := by
  obtain ⟨b0, b1, b2, b3, b4, b5, c0, c1, c2, c3, c4, c5, hT⟩ := tabA_lit g
  rw [hT]
  go_enter Tryz.func335, Tryz.ntmps335
  go_wp2
  go_ret
  exact ⟨rfl, rfl⟩

theorem all_stops (n : Nat) (hn : 1 ≤ n) (Bt : Nat) (f : Tbl) (hf : Good f) (w : World) (hBt : Blk w Bt (tabA f) 257) :
    SeqStopsK Fence.wide n Tryz.prog 337 #[.pointer (some ⟨Bt, 0, none⟩)] encD (Below 0) (fun ys => ys.map Subtype.val = lst f) (fun _ => True) 6 w := fun l J Jx W hW hJ _ hY h0 =>
  all1_in n _ hn l Bt f hf J Jx hJ hY W (hBt.below hW hBt.lt) h0

/-- What a loop over a table has joined. -/
def joinP (f : Tbl) (pre : List OD) : Tbl := (pre.map Subtype.val).foldl withT f
theorem joinP_snoc (f : Tbl) (pre : List OD) (x : OD) : joinP f (pre ++ [x]) = withT (joinP f pre) x.1 := by simp [joinP]

set_option maxRecDepth 100000 in
set_option maxHeartbeats 1000000 in
theorem join_any (f g : Tbl) (hg : Good g) (w : World) :
    Calls Tryz.prog 334 #[.agg (tabA f), .agg (tabA g)] w fun e w' => e = .returned (.agg (tabA (joinT f g))) ∧ Below w.heap.size w w' := by
  obtain ⟨b0, b1, b2, b3, b4, b5, c0, c1, c2, c3, c4, c5, hF⟩ := tabA_lit f
  obtain ⟨d0, d1, d2, d3, d4, d5, e0, e1, e2, e3, e4, e5, hG⟩ := tabA_lit g
  have HA := all_any g
  have HF : Hid _ := hF
  have HG : Hid _ := hG
  rw [hF, hG]
  rw [hG] at HA
  clear hF hG
  refine (callsIn_wide (n := 5)).1 ?_
  refine callsIn_of_wp_marks Tryz.func334 rfl trivial ?_ rfl
  simp only [Tryz.ntmps334, List.size_toArray, List.length_cons, List.length_nil, Nat.reduceAdd, Nat.reduceSub, Array.replicate_succ, Array.replicate_zero, List.push_toArray, List.append_toArray, List.nil_append, List.cons_append]
  gi_wp2
  refine ⟨trivial, ?_⟩
  gi_at_call 335
  refine (callsIn_wide.2 (HA _)).mono ?_
  rintro e w' ⟨rfl, rfl⟩
  gi_wp2
  have B0 := (((Blk.new w #[.bool b0, .int .i64 c0, .bool b1, .int .i64 c1, .bool b2, .int .i64 c2, .bool b3, .int .i64 c3, .bool b4, .int .i64 c4, .bool b5, .int .i64 c5] 257).alloc (.cells #[.bool d0, .int .i64 e0, .bool d1, .int .i64 e1, .bool d2, .int .i64 e2, .bool d3, .int .i64 e3, .bool d4, .int .i64 e4, .bool d5, .int .i64 e5] 257)).alloc (.cells zeroA 257)).alloc (.cells #[.bool d0, .int .i64 e0, .bool d1, .int .i64 e1, .bool d2, .int .i64 e2, .bool d3, .int .i64 e3, .bool d4, .int .i64 e4, .bool d5, .int .i64 e5] 257)
  have B2 := (Blk.new ((w.alloc (.cells #[.bool b0, .int .i64 c0, .bool b1, .int .i64 c1, .bool b2, .int .i64 c2, .bool b3, .int .i64 c3, .bool b4, .int .i64 c4, .bool b5, .int .i64 c5] 257)).alloc (.cells #[.bool d0, .int .i64 e0, .bool d1, .int .i64 e1, .bool d2, .int .i64 e2, .bool d3, .int .i64 e3, .bool d4, .int .i64 e4, .bool d5, .int .i64 e5] 257)) zeroA 257).alloc (.cells #[.bool d0, .int .i64 e0, .bool d1, .int .i64 e1, .bool d2, .int .i64 e2, .bool d3, .int .i64 e3, .bool d4, .int .i64 e4, .bool d5, .int .i64 e5] 257)
  have B3 := Blk.new (((w.alloc (.cells #[.bool b0, .int .i64 c0, .bool b1, .int .i64 c1, .bool b2, .int .i64 c2, .bool b3, .int .i64 c3, .bool b4, .int .i64 c4, .bool b5, .int .i64 c5] 257)).alloc (.cells #[.bool d0, .int .i64 e0, .bool d1, .int .i64 e1, .bool d2, .int .i64 e2, .bool d3, .int .i64 e3, .bool d4, .int .i64 e4, .bool d5, .int .i64 e5] 257)).alloc (.cells zeroA 257)) #[.bool d0, .int .i64 e0, .bool d1, .int .i64 e1, .bool d2, .int .i64 e2, .bool d3, .int .i64 e3, .bool d4, .int .i64 e4, .bool d5, .int .i64 e5] 257
  have hB0 : Below w.heap.size w ((((w.alloc (.cells #[.bool b0, .int .i64 c0, .bool b1, .int .i64 c1, .bool b2, .int .i64 c2, .bool b3, .int .i64 c3, .bool b4, .int .i64 c4, .bool b5, .int .i64 c5] 257)).alloc (.cells #[.bool d0, .int .i64 e0, .bool d1, .int .i64 e1, .bool d2, .int .i64 e2, .bool d3, .int .i64 e3, .bool d4, .int .i64 e4, .bool d5, .int .i64 e5] 257)).alloc (.cells zeroA 257)).alloc (.cells #[.bool d0, .int .i64 e0, .bool d1, .int .i64 e1, .bool d2, .int .i64 e2, .bool d3, .int .i64 e3, .bool d4, .int .i64 e4, .bool d5, .int .i64 e5] 257)) := ((((Below.refl _ w).alloc (Nat.le_refl _) _).alloc (by simp) _).alloc (by simp; omega) _).alloc (by simp; omega) _
  simp only [World.size_alloc] at B2 B3
  have hsz : ((((w.alloc (.cells #[.bool b0, .int .i64 c0, .bool b1, .int .i64 c1, .bool b2, .int .i64 c2, .bool b3, .int .i64 c3, .bool b4, .int .i64 c4, .bool b5, .int .i64 c5] 257)).alloc (.cells #[.bool d0, .int .i64 e0, .bool d1, .int .i64 e1, .bool d2, .int .i64 e2, .bool d3, .int .i64 e3, .bool d4, .int .i64 e4, .bool d5, .int .i64 e5] 257)).alloc (.cells zeroA 257)).alloc (.cells #[.bool d0, .int .i64 e0, .bool d1, .int .i64 e1, .bool d2, .int .i64 e2, .bool d3, .int .i64 e3, .bool d4, .int .i64 e4, .bool d5, .int .i64 e5] 257)).heap.size = w.heap.size + 4 := by simp
  generalize ((((w.alloc (.cells #[.bool b0, .int .i64 c0, .bool b1, .int .i64 c1, .bool b2, .int .i64 c2, .bool b3, .int .i64 c3, .bool b4, .int .i64 c4, .bool b5, .int .i64 c5] 257)).alloc (.cells #[.bool d0, .int .i64 e0, .bool d1, .int .i64 e1, .bool d2, .int .i64 e2, .bool d3, .int .i64 e3, .bool d4, .int .i64 e4, .bool d5, .int .i64 e5] 257)).alloc (.cells zeroA 257)).alloc (.cells #[.bool d0, .int .i64 e0, .bool d1, .int .i64 e1, .bool d2, .int .i64 e2, .bool d3, .int .i64 e3, .bool d4, .int .i64 e4, .bool d5, .int .i64 e5] 257)) = W0 at *
  rw [← HF.out] at B0
  rw [← HG.out] at B3
  refine wpIn_rangeFunc_ownH rfl (by omega) (gf := 337) (lb := #[.pointer (some ⟨w.heap.size + 1 + 1 + 1, 0, none⟩)]) rfl trivial (enters_of Tryz.func337 (by kernel_rfl) rfl)
    (all_stops 4 (by omega) (w.heap.size + 1 + 1 + 1) g hg W0 B3) belowK_t (belowK_b (Nat.zero_le _)) (Below.refl _ _) (fun _ => rfl)
    (fun pre W => (Blk W w.heap.size (tabA (joinP f pre)) 257 ∧ Blk W (w.heap.size + 1 + 1) zeroA 257) ∧ Below w.heap.size w W)
    (fun _ _ _ => False)
    (OwnFrom.and (OwnFrom.and (Own.from (blk_own _ _ _) _) (Own.from (blk_own _ _ _) _)) (ownFrom_below (Nat.le_refl _) (by omega)))
    (fun _ _ _ _ _ hs _ _ => hs)
    ⟨⟨B0, B2⟩, hB0⟩
    (fun x a' W => ∃ Bx, w.heap.size + 1 + 1 < Bx ∧ Blk W Bx #[.int .i64 x.1.k, .int .i64 x.1.t, .int .i64 x.1.s] 116 ∧ a' = { tmps := #[.agg #[.bool b0, .int .i64 c0, .bool b1, .int .i64 c1, .bool b2, .int .i64 c2, .bool b3, .int .i64 c3, .bool b4, .int .i64 c4, .bool b5, .int .i64 c5], .agg #[.bool d0, .int .i64 e0, .bool d1, .int .i64 e1, .bool d2, .int .i64 e2, .bool d3, .int .i64 e3, .bool d4, .int .i64 e4, .bool d5, .int .i64 e5], .pointer (some ⟨w.heap.size, 0, none⟩), .pointer (some ⟨w.heap.size + 1, 0, none⟩), .pointer (some ⟨w.heap.size + 1 + 1, 0, none⟩), .pointer (some ⟨Bx, 0, none⟩), .agg #[.bool d0, .int .i64 e0, .bool d1, .int .i64 e1, .bool d2, .int .i64 e2, .bool d3, .int .i64 e3, .bool d4, .int .i64 e4, .bool d5, .int .i64 e5], .func (.func 337) #[] #[.pointer (some ⟨w.heap.size + 1 + 1 + 1, 0, none⟩)], depV x.1.k x.1.t x.1.s, undef, undef, undef, undef], defers := [] })
    (fun x a' s X Y row hs hgr hr => by obtain ⟨Bx, h1, h2, h3⟩ := hs; exact ⟨Bx, h1, Own.from (blk_own Bx 116 (fun _ : Unit => #[.int .i64 x.1.k, .int .i64 x.1.t, .int .i64 x.1.s])) _ s X Y row h2 hgr hr, h3⟩)
    ?assign ?body ?done ?stop
  case assign =>
    rintro l pre x W K ⟨⟨C0, C2⟩, hB⟩ hK
    gi_wp2
    exact hK _ _ ((KeepsOthers.alloc _ _).from _) ((Below.refl _ W).alloc (Nat.zero_le _) _) ⟨⟨C0.alloc _, C2.alloc _⟩, hB.alloc hB.size _⟩ ⟨W.heap.size, C2.lt, Blk.new W _ _, rfl⟩
  case body =>
    rintro l pre x a' W hl ⟨r, hr⟩ ⟨⟨C0, C2⟩, hB⟩ ⟨Bx, hBx, bX, rfl⟩ hlt
    obtain ⟨g0, g1, g2, g3, g4, g5, m0, m1, m2, m3, m4, m5, hT⟩ := tabA_lit (joinP f pre)
    have hw := with_any (joinP f pre) x.1
    rw [hT] at hw C0
    obtain ⟨r0, f0⟩ := C0.rules
    obtain ⟨r1, f1⟩ := bX.rules
    clear hT
    gi_wp2
    refine ⟨trivial, ?_⟩
    gi_at_call 258
    refine (CallsIn.inRound l (callsIn_wide.2 (hw _ x.2))).mono ?_
    rintro e w1 ⟨rfl, hb1⟩
    obtain ⟨a0, a1, a2, a3, a4, a5, x0, x1, x2, x3, x4, x5, hU⟩ := tabA_lit (withT (joinP f pre) x.1)
    have HU : Hid (tabA (joinP f (pre ++ [x])) = _) := (congrArg tabA (joinP_snoc f pre x)).trans hU
    rw [hU]
    have C01 := C0.below hb1 C0.lt
    have C21 := C2.below hb1 C2.lt
    have hB1 : Below w.heap.size w w1 := hB.trans (hb1.mono hB.size)
    clear r0 f0 r1 f1 hU
    obtain ⟨r0, f0⟩ := C01.rules
    gi_wp2
    exact ⟨(keeps_fill (keeps_of_below hb1)).from _, fill_below (hb1.mono (Nat.zero_le _)) (Nat.zero_le _), ⟨by rw [HU.out]; exact C01.fill, C21.fillOther (by omega)⟩, fill_below hB1 (Nat.le_refl _)⟩
  case done =>
    rintro D ys W hD hys ⟨⟨C0, C2⟩, hB⟩ hK
    obtain ⟨g0, g1, g2, g3, g4, g5, m0, m1, m2, m3, m4, m5, hT⟩ := tabA_lit (joinP f ys)
    have HT : Hid (tabA (joinT f g) = #[.bool g0, .int .i64 m0, .bool g1, .int .i64 m1, .bool g2, .int .i64 m2, .bool g3, .int .i64 m3, .bool g4, .int .i64 m4, .bool g5, .int .i64 m5]) := by
      show tabA (joinT f g) = #[.bool g0, .int .i64 m0, .bool g1, .int .i64 m1, .bool g2, .int .i64 m2, .bool g3, .int .i64 m3, .bool g4, .int .i64 m4, .bool g5, .int .i64 m5]
      rw [← fold_join, ← hys]; exact hT
    rw [hT] at C0
    clear hT
    obtain ⟨r0, f0⟩ := C0.rules
    obtain ⟨r1, f1⟩ := C2.rules
    gi_wp2
    refine ⟨by simp, .inl ⟨_, _, rfl, run_takeDeferred ((keeps_fill (KeepsOthers.refl W)).same D _ hK rfl), ?_⟩⟩
    refine ⟨.agg #[.bool g0, .int .i64 m0, .bool g1, .int .i64 m1, .bool g2, .int .i64 m2, .bool g3, .int .i64 m3, .bool g4, .int .i64 m4, .bool g5, .int .i64 m5], ?_, by rw [HT.out], ?_⟩
    · refine Blk.gen (B := w.heap.size + 1 + 1) (vs := #[.bool g0, .int .i64 m0, .bool g1, .int .i64 m1, .bool g2, .int .i64 m2, .bool g3, .int .i64 m3, .bool g4, .int .i64 m4, .bool g5, .int .i64 m5]) (T := 257) ?_ (P := fun W => (results Tryz.f334 _).run Tryz.prog W = .ok _ W) ?_
      · exact (Blk.fill C2).putObj _ (by omega)
      intro W hW
      obtain ⟨k, f⟩ := hW.rules
      simp [results, Tryz.results334, go_sem, k]
    · exact (fill_below hB (by omega)).trans (belowK_b (w := W0) (by omega) _ D _ _ hD ((keeps_fill (KeepsOthers.refl W)).same D _ hK rfl) rfl rfl)
  case stop =>
    rintro D c pre W _ _ h _
    exact h.elim
end Go.Proofs.YtpjidogilofppaaGreat

/- A table as deps, in new memory. -/
namespace Go.Proofs.YtpjidogilofppaaGreat
open Go.ChangeShapes Go.WideShapes Go.ChangeAt Go.RowKit Go.Shelf
attribute [local go_sem] Oper.semAt_some

theorem cells3 {w : World} {B : Nat} {x y z : Value} {T : TypeId} (h : Blk w B #[x, y, z] T) : ∀ (j : Nat) (u : Value), [x, y, z][j]? = some u → w.cell? ((Addr.mk B 0 none).add j) = some u := by
  intro j u hj
  have ha : (Addr.mk B 0 none).add j = ⟨B, j, none⟩ := by by_cases h : j = 0 <;> simp [Addr.add, h]
  rw [ha, h.cell]
  simpa using hj

set_option maxRecDepth 100000 in
set_option maxHeartbeats 1000000 in
theorem list_any (f : Tbl) (hf : Good f) (w : World) :
    Calls Tryz.prog 331 #[.agg (tabA f)] w fun e w' => ∃ v, e = .returned v ∧ w'.ownsRow w.heap.size 116 3 v (lst f).length (flat3 (lst f)) ∧ Below w.heap.size w w' := by
  obtain ⟨i0, hi, hz0, hz1, hz2⟩ := info_parts infoDep
  obtain ⟨b0, b1, b2, b3, b4, b5, c0, c1, c2, c3, c4, c5, hF⟩ := tabA_lit f
  have HA := all_any f
  have HF : Hid _ := hF
  rw [hF]
  rw [hF] at HA
  clear hF
  refine (callsIn_wide (n := 5)).1 ?_
  refine callsIn_of_wp_marks Tryz.func331 rfl trivial ?_ rfl
  simp only [Tryz.ntmps331, List.size_toArray, List.length_cons, List.length_nil, Nat.reduceAdd, Nat.reduceSub, Array.replicate_succ, Array.replicate_zero, List.push_toArray, List.append_toArray, List.nil_append, List.cons_append]
  gi_wp2
  refine ⟨trivial, ?_⟩
  gi_at_call 335
  refine (callsIn_wide.2 (HA _)).mono ?_
  rintro e w' ⟨rfl, rfl⟩
  gi_wp2
  have B1 : Boxed _ _ _ _ := (Boxed.new (w.alloc (.cells #[.bool b0, .int .i64 c0, .bool b1, .int .i64 c1, .bool b2, .int .i64 c2, .bool b3, .int .i64 c3, .bool b4, .int .i64 c4, .bool b5, .int .i64 c5] 257)) 30 (.slice none 0 0)).alloc (.cells #[.bool b0, .int .i64 c0, .bool b1, .int .i64 c1, .bool b2, .int .i64 c2, .bool b3, .int .i64 c3, .bool b4, .int .i64 c4, .bool b5, .int .i64 c5] 257)
  have B3 := Blk.new ((w.alloc (.cells #[.bool b0, .int .i64 c0, .bool b1, .int .i64 c1, .bool b2, .int .i64 c2, .bool b3, .int .i64 c3, .bool b4, .int .i64 c4, .bool b5, .int .i64 c5] 257)).alloc (.cells #[.slice none 0 0] 30)) #[.bool b0, .int .i64 c0, .bool b1, .int .i64 c1, .bool b2, .int .i64 c2, .bool b3, .int .i64 c3, .bool b4, .int .i64 c4, .bool b5, .int .i64 c5] 257
  have hB0 : Below w.heap.size w (((w.alloc (.cells #[.bool b0, .int .i64 c0, .bool b1, .int .i64 c1, .bool b2, .int .i64 c2, .bool b3, .int .i64 c3, .bool b4, .int .i64 c4, .bool b5, .int .i64 c5] 257)).alloc (.cells #[.slice none 0 0] 30)).alloc (.cells #[.bool b0, .int .i64 c0, .bool b1, .int .i64 c1, .bool b2, .int .i64 c2, .bool b3, .int .i64 c3, .bool b4, .int .i64 c4, .bool b5, .int .i64 c5] 257)) := (((Below.refl _ w).alloc (Nat.le_refl _) _).alloc (by simp) _).alloc (by simp; omega) _
  simp only [World.size_alloc] at B1 B3
  have hsz : (((w.alloc (.cells #[.bool b0, .int .i64 c0, .bool b1, .int .i64 c1, .bool b2, .int .i64 c2, .bool b3, .int .i64 c3, .bool b4, .int .i64 c4, .bool b5, .int .i64 c5] 257)).alloc (.cells #[.slice none 0 0] 30)).alloc (.cells #[.bool b0, .int .i64 c0, .bool b1, .int .i64 c1, .bool b2, .int .i64 c2, .bool b3, .int .i64 c3, .bool b4, .int .i64 c4, .bool b5, .int .i64 c5] 257)).heap.size = w.heap.size + 3 := by simp
  generalize (((w.alloc (.cells #[.bool b0, .int .i64 c0, .bool b1, .int .i64 c1, .bool b2, .int .i64 c2, .bool b3, .int .i64 c3, .bool b4, .int .i64 c4, .bool b5, .int .i64 c5] 257)).alloc (.cells #[.slice none 0 0] 30)).alloc (.cells #[.bool b0, .int .i64 c0, .bool b1, .int .i64 c1, .bool b2, .int .i64 c2, .bool b3, .int .i64 c3, .bool b4, .int .i64 c4, .bool b5, .int .i64 c5] 257)) = W0 at *
  rw [← HF.out] at B3
  refine wpIn_rangeFunc_ownH rfl (by omega) (gf := 337) (lb := #[.pointer (some ⟨w.heap.size + 1 + 1, 0, none⟩)]) rfl trivial (enters_of Tryz.func337 (by kernel_rfl) rfl)
    (all_stops 4 (by omega) (w.heap.size + 1 + 1) f hf W0 B3) belowK_t (belowK_b (Nat.zero_le _)) (Below.refl _ _) (fun _ => rfl)
    (fun pre W => (∃ v, Boxed W (w.heap.size + 1) 30 v ∧ W.ownsRow w.heap.size 116 3 v pre.length (flat3 (pre.map Subtype.val)) ∧ True) ∧ Below w.heap.size w W)
    (fun _ _ _ => False)
    (OwnFrom.and (Own.from (holdsRow_own w.heap.size (w.heap.size + 1) 30 116 3 (fun pre : List OD => pre.length) (fun pre => flat3 (pre.map Subtype.val)) (fun _ _ => True)) _) (ownFrom_below (Nat.le_refl _) (by omega)))
    (fun _ _ _ _ _ hs _ _ => hs)
    ⟨⟨_, B1, World.ownsRow_nil _ _ _ _, trivial⟩, hB0⟩
    (fun x a' W => ∃ Bx, w.heap.size + 1 < Bx ∧ Blk W Bx #[.int .i64 x.1.k, .int .i64 x.1.t, .int .i64 x.1.s] 116 ∧ a' = { tmps := #[.agg #[.bool b0, .int .i64 c0, .bool b1, .int .i64 c1, .bool b2, .int .i64 c2, .bool b3, .int .i64 c3, .bool b4, .int .i64 c4, .bool b5, .int .i64 c5], .pointer (some ⟨w.heap.size, 0, none⟩), .slice none 0 0, .pointer (some ⟨w.heap.size + 1, 0, none⟩), .pointer (some ⟨Bx, 0, none⟩), .agg #[.bool b0, .int .i64 c0, .bool b1, .int .i64 c1, .bool b2, .int .i64 c2, .bool b3, .int .i64 c3, .bool b4, .int .i64 c4, .bool b5, .int .i64 c5], .func (.func 337) #[] #[.pointer (some ⟨w.heap.size + 1 + 1, 0, none⟩)], depV x.1.k x.1.t x.1.s, undef, undef, undef, undef, undef], defers := [] })
    (fun x a' s X Y row hs hgr hr => by obtain ⟨Bx, h1, h2, h3⟩ := hs; exact ⟨Bx, h1, Own.from (blk_own Bx 116 (fun _ : Unit => #[.int .i64 x.1.k, .int .i64 x.1.t, .int .i64 x.1.s])) _ s X Y row h2 hgr hr, h3⟩)
    ?assign ?body ?done ?stop
  case assign =>
    rintro l pre x W K ⟨⟨v, hv, hrow, _⟩, hB⟩ hK
    gi_wp2
    exact hK _ _ ((KeepsOthers.alloc _ _).from _) ((Below.refl _ W).alloc (Nat.zero_le _) _) ⟨⟨v, hv.alloc _, hrow.alloc _, trivial⟩, hB.alloc hB.size _⟩ ⟨W.heap.size, hv.lt, Blk.new W _ _, rfl⟩
  case body =>
    rintro l pre x a' W hl ⟨r, hr⟩ ⟨⟨v, hv, hrow, _⟩, hB⟩ ⟨Bx, hBx, bX, rfl⟩ hlt
    have hc := hv.cell
    obtain ⟨r1, f1⟩ := bX.rules
    gi_wp2_with (gi_at_builtin; refine wpListIn_append_own _ rfl _ _ 30 rfl w.heap.size 116 i0 (.agg #[.int .i64 0, .int .i64 0, .int .i64 0]) 3 24 Tryz.underlying30 hi hz0 hz1 hz2 rfl (by decide) _ _ _ rfl (hrow.alloc _) ⟨W.heap.size, 0, none⟩ 1 1 [.int .i64 x.1.k, .int .i64 x.1.t, .int .i64 x.1.s] rfl rfl (cells3 (Blk.new W _ _)) (by intro u hu; simp at hu; rcases hu with rfl | rfl | rfl <;> rfl) (by unfold maxLen; omega) (by omega) (by have := hB.size; simp; omega) ?_; intro v' w1 hown' hgrow _; obtain ⟨g', cap', rfl⟩ := ownsRow_succ hown'; obtain ⟨hv1, hv2, hr2, hk2, hb2⟩ := hv.appended (by decide) hrow hB.size (by omega) hown' hgrow; have hc1 := hv1.cell; have hf1 := hv1.frozen)
    exact ⟨hk2.from _, hb2.mono (Nat.zero_le _), ⟨_, hv2, by simpa [flat3_snoc] using hr2, trivial⟩, hB.trans hb2⟩
  case done =>
    rintro D ys W hD hys ⟨⟨v, hv, hrow, _⟩, hB⟩ hK
    have hc := hv.cell
    have hl : ys.length = (lst f).length := by rw [← hys]; simp
    rw [hys, hl] at hrow
    gi_wp2
    refine ⟨by simp, .inl ⟨_, _, rfl, run_takeDeferred hK, ?_⟩⟩
    exact ⟨_, results_tmp rfl _ _ _, v, rfl, ownsRow_putObj hrow _ hK rfl, hB.trans (belowK_b (w := W0) (by omega) W D _ _ hD hK rfl rfl)⟩
  case stop =>
    rintro D c pre W _ _ h _
    exact h.elim
end Go.Proofs.YtpjidogilofppaaGreat

/- The program's functions on deps. -/
namespace Go.Proofs.YtpjidogilofppaaGreat
open Go.ChangeShapes Go.WideShapes Go.ChangeAt Go.RowKit

theorem iDepsOk_any (a : Option Addr) (cap : Nat) (xs : List D) (w : World) (hn : xs.length ≤ 1099511627776) (h : Deps w a xs) :
    Calls Tryz.prog 173 #[.slice a xs.length cap] w fun e w' => e = .returned (.bool (depsOk xs)) ∧ Below w.heap.size w w' := by
  have hT := tableOf_any a cap xs w hn h
  obtain ⟨b0, b1, b2, b3, b4, b5, c0, c1, c2, c3, c4, c5, hL⟩ := tabA_lit (tabOf xs)
  rw [hL] at hT
  clear hL
  go_enter Tryz.func173, Tryz.ntmps173
  go_wp2_with fail
  refine hT.mono ?_
  rintro e w1 ⟨rfl, hb1⟩
  go_wp2_with fail
  go_ret
  exact ⟨rfl, hb1.alloc hb1.size _⟩

/-- A call's own row of deps. -/
abbrev RowD (w : World) (base : Nat) (v : Value) (xs : List D) : Prop := w.ownsRow base 116 3 v xs.length (flat3 xs)

end Go.Proofs.YtpjidogilofppaaGreat

/- The program's DepsAt. -/
namespace Go.Proofs.YtpjidogilofppaaGreat
open Go.ChangeShapes Go.WideShapes Go.ChangeAt Go.RowKit

/-- What is told of a key among deps, as one number: two cells are written. -/
theorem Blk.fill2 {w : World} {B : Nat} {x0 x1 v0 v1 : Value} {T : TypeId} (h : Blk w B #[x0, x1] T) : Blk ((w.setCell ⟨B, 0, none⟩ v0).setCell ⟨B, 1, none⟩ v1) B #[v0, v1] T := by
  have := (h.set 0 v0).set 1 v1
  simpa using this
/-- What is told of a key among deps, as one number. -/
def atC (xs : List D) (key : Int) : Int := if depsOk xs = true then (tab xs key).getD 0 else 0
theorem atC_no {xs : List D} (h : depsOk xs = false) (key : Int) : atC xs key = 0 := if_neg (by rw [h]; exact Bool.false_ne_true)
theorem atC_ok {xs : List D} (h : depsOk xs = true) (key : Int) : atC xs key = (tab xs key).getD 0 := if_pos h
theorem tab_out {xs : List D} (h : depsOk xs = true) {key : Int} (hk : inB key 0 5 = false) : tab xs key = none := by
  refine tab_none fun e he => ?_
  have := okD_bounds ((ok_iff.1 h).2 e he)
  simp [inB] at hk
  omega
/-- .. and as a stamp. -/
abbrev atV (xs : List D) (key : Int) : Value := stampV (atC xs key / 4) (atC xs key % 4)
theorem atV_zero {xs : List D} {key : Int} (h : atC xs key = 0) : atV xs key = stampV 0 0 := by simp [h]

end Go.Proofs.YtpjidogilofppaaGreat

