/- A table is joined with another one; a table as deps. -/
import Derived.Test.YthlmodafadfnfaaIter
import Derived.Test.YthlmodafadfnfaaFlat3
import Derived.Test.YthlmodafadfnfaaTableOf
import Derived.Maps.AppendAt
namespace Go.Proofs.Ythlmodafadfnfaa
open Go.ChangeShapes Go.WideShapes Go.ChangeAt Go.RowKit Go.Shelf
attribute [local go_sem] Oper.semAt_some

theorem Blk.kept {W W' : World} {row : Option Nat} {B : Nat} {vs : Array Value} {T : TypeId} (h : Blk W B vs T) (hg : W.grownBy W' row) (hne : some B ≠ row) : Blk W' B vs T := (hg.block B h.lt hne).trans h
theorem blk_own {β : Type} (B : Nat) (T : TypeId) (f : β → Array Value) : Own (fun s W => Blk W B (f s) T) := fun s X Y row hs hg hrow =>
  hs.kept hg (fun e' => by obtain ⟨o, ho, hc⟩ := hrow B e'.symm; rw [show X.heap[B]? = _ from hs] at ho; cases ho; cases hc)
theorem keeps_of_below {W W' : World} (h : Below W.heap.size W W') : KeepsOthers W W' := ⟨h.size, fun k _ hk _ => (h.block k (Array.getElem?_eq_some_iff.1 hk).1).trans hk⟩
theorem Blk.putObj {W : World} {B : Nat} {vs : Array Value} {T : TypeId} (h : Blk W B vs T) {l : Nat} (o : Obj) (hne : l ≠ B) : Blk (W.putObj l o) B vs T := (World.putObj_heap_other (by omega)).trans h

theorem keeps_fill {a w : World} {B : Nat} {v0 v1 v2 v3 v4 v5 v6 v7 v8 v9 v10 v11 : Value} (h : KeepsOthers a w) : KeepsOthers a ((((((((((((w.setCell ⟨B, 0, none⟩ v0).setCell ⟨B, 1, none⟩ v1).setCell ⟨B, 2, none⟩ v2).setCell ⟨B, 3, none⟩ v3).setCell ⟨B, 4, none⟩ v4).setCell ⟨B, 5, none⟩ v5).setCell ⟨B, 6, none⟩ v6).setCell ⟨B, 7, none⟩ v7).setCell ⟨B, 8, none⟩ v8).setCell ⟨B, 9, none⟩ v9).setCell ⟨B, 10, none⟩ v10).setCell ⟨B, 11, none⟩ v11) := ((((((((((((h.trans (KeepsOthers.setCell _ _ _)).trans (KeepsOthers.setCell _ _ _)).trans (KeepsOthers.setCell _ _ _)).trans (KeepsOthers.setCell _ _ _)).trans (KeepsOthers.setCell _ _ _)).trans (KeepsOthers.setCell _ _ _)).trans (KeepsOthers.setCell _ _ _)).trans (KeepsOthers.setCell _ _ _)).trans (KeepsOthers.setCell _ _ _)).trans (KeepsOthers.setCell _ _ _)).trans (KeepsOthers.setCell _ _ _)).trans (KeepsOthers.setCell _ _ _))

theorem all_any (g : Tbl) (w : World) : Calls Try.prog 117 #[.agg (tabA g)] w fun e w' => e = .returned (.func (.func 125) #[] #[.pointer (some ⟨w.heap.size, 0, none⟩)]) ∧ w' = w.alloc (.cells (tabA g) 105) := by
  obtain ⟨b0, b1, b2, b3, b4, b5, c0, c1, c2, c3, c4, c5, hT⟩ := tabA_lit g
  rw [hT]
  go_enter Try.func117, Try.ntmps117
  go_wp2
  go_ret
  exact ⟨rfl, rfl⟩

theorem all_stops (n : Nat) (hn : 1 ≤ n) (Bt : Nat) (f : Tbl) (hf : Good f) (w : World) (hBt : Blk w Bt (tabA f) 105) :
    SeqStopsK Fence.wide n Try.prog 125 #[.pointer (some ⟨Bt, 0, none⟩)] encD (Below 0) (fun ys => ys.map Subtype.val = lst f) (fun _ => True) 6 w := fun l J Jx W hW hJ _ hY h0 =>
  all1_in n _ hn l Bt f hf J Jx hJ hY W (hBt.below hW hBt.lt) h0

/-- What a loop over a table has joined. -/
def joinP (f : Tbl) (pre : List OD) : Tbl := (pre.map Subtype.val).foldl withT f
theorem joinP_snoc (f : Tbl) (pre : List OD) (x : OD) : joinP f (pre ++ [x]) = withT (joinP f pre) x.1 := by simp [joinP]

end Go.Proofs.Ythlmodafadfnfaa
