/- A table is joined with another one; a table as deps. -/
import Derived.Test.YtmbjfgebcpjigaaIter
import Derived.Test.YtmbjfgebcpjigaaFlat3
import Derived.Test.YtmbjfgebcpjigaaTableOf
import Derived.Maps.AppendAt
namespace Go.Proofs.Ytmbjfgebcpjigaa
open Go.ChangeShapes Go.WideShapes Go.ChangeAt Go.RowKit Go.Shelf
attribute [local go_sem] Oper.semAt_some

theorem Blk.kept {W W' : World} {row : Option Nat} {B : Nat} {vs : Array Value} {T : TypeId} (h : Blk W B vs T) (hg : W.grownBy W' row) (hne : some B ≠ row) : Blk W' B vs T := (hg.block B h.lt hne).trans h
theorem blk_own {β : Type} (B : Nat) (T : TypeId) (f : β → Array Value) : Own (fun s W => Blk W B (f s) T) := fun s X Y row hs hg hrow =>
  hs.kept hg (fun e' => by obtain ⟨o, ho, hc⟩ := hrow B e'.symm; rw [show X.heap[B]? = _ from hs] at ho; cases ho; cases hc)
theorem keeps_of_below {W W' : World} (h : Below W.heap.size W W') : KeepsOthers W W' := ⟨h.size, fun k _ hk _ => (h.block k (Array.getElem?_eq_some_iff.1 hk).1).trans hk⟩
theorem Blk.putObj {W : World} {B : Nat} {vs : Array Value} {T : TypeId} (h : Blk W B vs T) {l : Nat} (o : Obj) (hne : l ≠ B) : Blk (W.putObj l o) B vs T := (World.putObj_heap_other (by omega)).trans h

theorem keeps_fill {a w : World} {B : Nat} {v0 v1 v2 v3 v4 v5 v6 v7 v8 v9 v10 v11 : Value} (h : KeepsOthers a w) : KeepsOthers a ((((((((((((w.setCell ⟨B, 0, none⟩ v0).setCell ⟨B, 1, none⟩ v1).setCell ⟨B, 2, none⟩ v2).setCell ⟨B, 3, none⟩ v3).setCell ⟨B, 4, none⟩ v4).setCell ⟨B, 5, none⟩ v5).setCell ⟨B, 6, none⟩ v6).setCell ⟨B, 7, none⟩ v7).setCell ⟨B, 8, none⟩ v8).setCell ⟨B, 9, none⟩ v9).setCell ⟨B, 10, none⟩ v10).setCell ⟨B, 11, none⟩ v11) := ((((((((((((h.trans (KeepsOthers.setCell _ _ _)).trans (KeepsOthers.setCell _ _ _)).trans (KeepsOthers.setCell _ _ _)).trans (KeepsOthers.setCell _ _ _)).trans (KeepsOthers.setCell _ _ _)).trans (KeepsOthers.setCell _ _ _)).trans (KeepsOthers.setCell _ _ _)).trans (KeepsOthers.setCell _ _ _)).trans (KeepsOthers.setCell _ _ _)).trans (KeepsOthers.setCell _ _ _)).trans (KeepsOthers.setCell _ _ _)).trans (KeepsOthers.setCell _ _ _))

theorem all_any (g : Tbl) (w : World) : Calls Try.prog 78 #[.agg (tabA g)] w fun e w' => e = .returned (.func (.func 82) #[] #[.pointer (some ⟨w.heap.size, 0, none⟩)]) ∧ w' = w.alloc (.cells (tabA g) 84) := by
  obtain ⟨b0, b1, b2, b3, b4, b5, c0, c1, c2, c3, c4, c5, hT⟩ := tabA_lit g
  rw [hT]
  go_enter Try.func78, Try.ntmps78
  go_wp2
  go_ret
  exact ⟨rfl, rfl⟩

theorem all_stops (n : Nat) (hn : 1 ≤ n) (Bt : Nat) (f : Tbl) (hf : Good f) (w : World) (hBt : Blk w Bt (tabA f) 84) :
    SeqStopsK Fence.wide n Try.prog 82 #[.pointer (some ⟨Bt, 0, none⟩)] encD (Below 0) (fun ys => ys.map Subtype.val = lst f) (fun _ => True) 6 w := fun l J Jx W hW hJ _ hY h0 =>
  all1_in n _ hn l Bt f hf J Jx hJ hY W (hBt.below hW hBt.lt) h0

/-- What a loop over a table has joined. -/
def joinP (f : Tbl) (pre : List OD) : Tbl := (pre.map Subtype.val).foldl withT f
theorem joinP_snoc (f : Tbl) (pre : List OD) (x : OD) : joinP f (pre ++ [x]) = withT (joinP f pre) x.1 := by simp [joinP]

set_option maxRecDepth 100000 in
set_option maxHeartbeats 1000000 in
theorem join_any (f g : Tbl) (hg : Good g) (w : World) :
    Calls Try.prog 70 #[.agg (tabA f), .agg (tabA g)] w fun e w' => e = .returned (.agg (tabA (joinT f g))) ∧ Below w.heap.size w w' := by
  obtain ⟨b0, b1, b2, b3, b4, b5, c0, c1, c2, c3, c4, c5, hF⟩ := tabA_lit f
  obtain ⟨d0, d1, d2, d3, d4, d5, e0, e1, e2, e3, e4, e5, hG⟩ := tabA_lit g
  have HA := all_any g
  have HF : Hid _ := hF
  have HG : Hid _ := hG
  rw [hF, hG]
  rw [hG] at HA
  clear hF hG
  refine (callsIn_wide (n := 5)).1 ?_
  refine callsIn_of_wp_marks Try.func70 rfl trivial ?_ rfl
  simp only [Try.ntmps70, List.size_toArray, List.length_cons, List.length_nil, Nat.reduceAdd, Nat.reduceSub, Array.replicate_succ, Array.replicate_zero, List.push_toArray, List.append_toArray, List.nil_append, List.cons_append]
  gi_wp2
  refine ⟨trivial, ?_⟩
  gi_at_call 78
  refine (callsIn_wide.2 (HA _)).mono ?_
  rintro e w' ⟨rfl, rfl⟩
  gi_wp2
  have B0 := (((Blk.new w #[.bool b0, .int .i64 c0, .bool b1, .int .i64 c1, .bool b2, .int .i64 c2, .bool b3, .int .i64 c3, .bool b4, .int .i64 c4, .bool b5, .int .i64 c5] 84).alloc (.cells #[.bool d0, .int .i64 e0, .bool d1, .int .i64 e1, .bool d2, .int .i64 e2, .bool d3, .int .i64 e3, .bool d4, .int .i64 e4, .bool d5, .int .i64 e5] 84)).alloc (.cells zeroA 84)).alloc (.cells #[.bool d0, .int .i64 e0, .bool d1, .int .i64 e1, .bool d2, .int .i64 e2, .bool d3, .int .i64 e3, .bool d4, .int .i64 e4, .bool d5, .int .i64 e5] 84)
  have B2 := (Blk.new ((w.alloc (.cells #[.bool b0, .int .i64 c0, .bool b1, .int .i64 c1, .bool b2, .int .i64 c2, .bool b3, .int .i64 c3, .bool b4, .int .i64 c4, .bool b5, .int .i64 c5] 84)).alloc (.cells #[.bool d0, .int .i64 e0, .bool d1, .int .i64 e1, .bool d2, .int .i64 e2, .bool d3, .int .i64 e3, .bool d4, .int .i64 e4, .bool d5, .int .i64 e5] 84)) zeroA 84).alloc (.cells #[.bool d0, .int .i64 e0, .bool d1, .int .i64 e1, .bool d2, .int .i64 e2, .bool d3, .int .i64 e3, .bool d4, .int .i64 e4, .bool d5, .int .i64 e5] 84)
  have B3 := Blk.new (((w.alloc (.cells #[.bool b0, .int .i64 c0, .bool b1, .int .i64 c1, .bool b2, .int .i64 c2, .bool b3, .int .i64 c3, .bool b4, .int .i64 c4, .bool b5, .int .i64 c5] 84)).alloc (.cells #[.bool d0, .int .i64 e0, .bool d1, .int .i64 e1, .bool d2, .int .i64 e2, .bool d3, .int .i64 e3, .bool d4, .int .i64 e4, .bool d5, .int .i64 e5] 84)).alloc (.cells zeroA 84)) #[.bool d0, .int .i64 e0, .bool d1, .int .i64 e1, .bool d2, .int .i64 e2, .bool d3, .int .i64 e3, .bool d4, .int .i64 e4, .bool d5, .int .i64 e5] 84
  have hB0 : Below w.heap.size w ((((w.alloc (.cells #[.bool b0, .int .i64 c0, .bool b1, .int .i64 c1, .bool b2, .int .i64 c2, .bool b3, .int .i64 c3, .bool b4, .int .i64 c4, .bool b5, .int .i64 c5] 84)).alloc (.cells #[.bool d0, .int .i64 e0, .bool d1, .int .i64 e1, .bool d2, .int .i64 e2, .bool d3, .int .i64 e3, .bool d4, .int .i64 e4, .bool d5, .int .i64 e5] 84)).alloc (.cells zeroA 84)).alloc (.cells #[.bool d0, .int .i64 e0, .bool d1, .int .i64 e1, .bool d2, .int .i64 e2, .bool d3, .int .i64 e3, .bool d4, .int .i64 e4, .bool d5, .int .i64 e5] 84)) := ((((Below.refl _ w).alloc (Nat.le_refl _) _).alloc (by simp) _).alloc (by simp; omega) _).alloc (by simp; omega) _
  simp only [World.size_alloc] at B2 B3
  have hsz : ((((w.alloc (.cells #[.bool b0, .int .i64 c0, .bool b1, .int .i64 c1, .bool b2, .int .i64 c2, .bool b3, .int .i64 c3, .bool b4, .int .i64 c4, .bool b5, .int .i64 c5] 84)).alloc (.cells #[.bool d0, .int .i64 e0, .bool d1, .int .i64 e1, .bool d2, .int .i64 e2, .bool d3, .int .i64 e3, .bool d4, .int .i64 e4, .bool d5, .int .i64 e5] 84)).alloc (.cells zeroA 84)).alloc (.cells #[.bool d0, .int .i64 e0, .bool d1, .int .i64 e1, .bool d2, .int .i64 e2, .bool d3, .int .i64 e3, .bool d4, .int .i64 e4, .bool d5, .int .i64 e5] 84)).heap.size = w.heap.size + 4 := by simp
  generalize ((((w.alloc (.cells #[.bool b0, .int .i64 c0, .bool b1, .int .i64 c1, .bool b2, .int .i64 c2, .bool b3, .int .i64 c3, .bool b4, .int .i64 c4, .bool b5, .int .i64 c5] 84)).alloc (.cells #[.bool d0, .int .i64 e0, .bool d1, .int .i64 e1, .bool d2, .int .i64 e2, .bool d3, .int .i64 e3, .bool d4, .int .i64 e4, .bool d5, .int .i64 e5] 84)).alloc (.cells zeroA 84)).alloc (.cells #[.bool d0, .int .i64 e0, .bool d1, .int .i64 e1, .bool d2, .int .i64 e2, .bool d3, .int .i64 e3, .bool d4, .int .i64 e4, .bool d5, .int .i64 e5] 84)) = W0 at *
  rw [← HF.out] at B0
  rw [← HG.out] at B3
  refine wpIn_rangeFunc_ownH rfl (by omega) (gf := 82) (lb := #[.pointer (some ⟨w.heap.size + 1 + 1 + 1, 0, none⟩)]) rfl trivial (enters_of Try.func82 (by kernel_rfl) rfl)
    (all_stops 4 (by omega) (w.heap.size + 1 + 1 + 1) g hg W0 B3) belowK_t (belowK_b (Nat.zero_le _)) (Below.refl _ _) (fun _ => rfl)
    (fun pre W => (Blk W w.heap.size (tabA (joinP f pre)) 84 ∧ Blk W (w.heap.size + 1 + 1) zeroA 84) ∧ Below w.heap.size w W)
    (fun _ _ _ => False)
    (OwnFrom.and (OwnFrom.and (Own.from (blk_own _ _ _) _) (Own.from (blk_own _ _ _) _)) (ownFrom_below (Nat.le_refl _) (by omega)))
    (fun _ _ _ _ _ hs _ _ => hs)
    ⟨⟨B0, B2⟩, hB0⟩
    (fun x a' W => ∃ Bx, w.heap.size + 1 + 1 < Bx ∧ Blk W Bx #[.int .i64 x.1.k, .int .i64 x.1.t, .int .i64 x.1.s] 32 ∧ a' = { tmps := #[.agg #[.bool b0, .int .i64 c0, .bool b1, .int .i64 c1, .bool b2, .int .i64 c2, .bool b3, .int .i64 c3, .bool b4, .int .i64 c4, .bool b5, .int .i64 c5], .agg #[.bool d0, .int .i64 e0, .bool d1, .int .i64 e1, .bool d2, .int .i64 e2, .bool d3, .int .i64 e3, .bool d4, .int .i64 e4, .bool d5, .int .i64 e5], .pointer (some ⟨w.heap.size, 0, none⟩), .pointer (some ⟨w.heap.size + 1, 0, none⟩), .pointer (some ⟨w.heap.size + 1 + 1, 0, none⟩), .pointer (some ⟨Bx, 0, none⟩), .agg #[.bool d0, .int .i64 e0, .bool d1, .int .i64 e1, .bool d2, .int .i64 e2, .bool d3, .int .i64 e3, .bool d4, .int .i64 e4, .bool d5, .int .i64 e5], .func (.func 82) #[] #[.pointer (some ⟨w.heap.size + 1 + 1 + 1, 0, none⟩)], depV x.1.k x.1.t x.1.s, undef, undef, undef, undef], defers := [] })
    (fun x a' s X Y row hs hgr hr => by obtain ⟨Bx, h1, h2, h3⟩ := hs; exact ⟨Bx, h1, Own.from (blk_own Bx 32 (fun _ : Unit => #[.int .i64 x.1.k, .int .i64 x.1.t, .int .i64 x.1.s])) _ s X Y row h2 hgr hr, h3⟩)
    ?assign ?body ?done ?stop
  case assign =>
    rintro l pre x W K ⟨⟨C0, C2⟩, hB⟩ hK
    gi_wp2
    exact hK _ _ ((KeepsOthers.alloc _ _).from _) ((Below.refl _ W).alloc (Nat.zero_le _) _) ⟨⟨C0.alloc _, C2.alloc _⟩, hB.alloc hB.size _⟩ ⟨W.heap.size, C2.lt, Blk.new W _ _, rfl⟩
  case body =>
    rintro l pre x a' W hl ⟨r, hr⟩ ⟨⟨C0, C2⟩, hB⟩ ⟨Bx, hBx, bX, rfl⟩ hlt
    obtain ⟨g0, g1, g2, g3, g4, g5, m0, m1, m2, m3, m4, m5, hT⟩ := tabA_lit (joinP f pre)
    have hw := with_any (joinP f pre) x.1
    rw [hT] at hw C0
    obtain ⟨r0, f0⟩ := C0.rules
    obtain ⟨r1, f1⟩ := bX.rules
    clear hT
    gi_wp2
    refine ⟨trivial, ?_⟩
    gi_at_call 67
    refine (CallsIn.inRound l (callsIn_wide.2 (hw _ x.2))).mono ?_
    rintro e w1 ⟨rfl, hb1⟩
    obtain ⟨a0, a1, a2, a3, a4, a5, x0, x1, x2, x3, x4, x5, hU⟩ := tabA_lit (withT (joinP f pre) x.1)
    have HU : Hid (tabA (joinP f (pre ++ [x])) = _) := (congrArg tabA (joinP_snoc f pre x)).trans hU
    rw [hU]
    have C01 := C0.below hb1 C0.lt
    have C21 := C2.below hb1 C2.lt
    have hB1 : Below w.heap.size w w1 := hB.trans (hb1.mono hB.size)
    clear r0 f0 r1 f1 hU
    obtain ⟨r0, f0⟩ := C01.rules
    gi_wp2
    exact ⟨(keeps_fill (keeps_of_below hb1)).from _, fill_below (hb1.mono (Nat.zero_le _)) (Nat.zero_le _), ⟨by rw [HU.out]; exact C01.fill, C21.fillOther (by omega)⟩, fill_below hB1 (Nat.le_refl _)⟩
  case done =>
    rintro D ys W hD hys ⟨⟨C0, C2⟩, hB⟩ hK
    obtain ⟨g0, g1, g2, g3, g4, g5, m0, m1, m2, m3, m4, m5, hT⟩ := tabA_lit (joinP f ys)
    have HT : Hid (tabA (joinT f g) = #[.bool g0, .int .i64 m0, .bool g1, .int .i64 m1, .bool g2, .int .i64 m2, .bool g3, .int .i64 m3, .bool g4, .int .i64 m4, .bool g5, .int .i64 m5]) := by
      show tabA (joinT f g) = #[.bool g0, .int .i64 m0, .bool g1, .int .i64 m1, .bool g2, .int .i64 m2, .bool g3, .int .i64 m3, .bool g4, .int .i64 m4, .bool g5, .int .i64 m5]
      rw [← fold_join, ← hys]; exact hT
    rw [hT] at C0
    clear hT
    obtain ⟨r0, f0⟩ := C0.rules
    obtain ⟨r1, f1⟩ := C2.rules
    gi_wp2
    refine ⟨by simp, .inl ⟨_, _, rfl, run_takeDeferred ((keeps_fill (KeepsOthers.refl W)).same D _ hK rfl), ?_⟩⟩
    refine ⟨.agg #[.bool g0, .int .i64 m0, .bool g1, .int .i64 m1, .bool g2, .int .i64 m2, .bool g3, .int .i64 m3, .bool g4, .int .i64 m4, .bool g5, .int .i64 m5], ?_, by rw [HT.out], ?_⟩
    · refine Blk.gen (B := w.heap.size + 1 + 1) (vs := #[.bool g0, .int .i64 m0, .bool g1, .int .i64 m1, .bool g2, .int .i64 m2, .bool g3, .int .i64 m3, .bool g4, .int .i64 m4, .bool g5, .int .i64 m5]) (T := 84) ?_ (P := fun W => (results Try.f70 _).run Try.prog W = .ok _ W) ?_
      · exact (Blk.fill C2).putObj _ (by omega)
      intro W hW
      obtain ⟨k, f⟩ := hW.rules
      simp [results, Try.results70, go_sem, k]
    · exact (fill_below hB (by omega)).trans (belowK_b (w := W0) (by omega) _ D _ _ hD ((keeps_fill (KeepsOthers.refl W)).same D _ hK rfl) rfl rfl)
  case stop =>
    rintro D c pre W _ _ h _
    exact h.elim
end Go.Proofs.Ytmbjfgebcpjigaa
