/- A block of cells, and what becomes of it. -/
import Derived.Test.YthlmodafadfnfaaBase
namespace Go.Proofs.Ythlmodafadfnfaa
open Go.ChangeShapes Go.WideShapes Go.ChangeAt Go.RowKit

/-- The block B is cells that hold vs. -/
def Blk (w : World) (B : Nat) (vs : Array Value) (T : TypeId) : Prop := w.heap[B]? = some (.cells vs T (0, 0))
theorem Blk.lt {w : World} {B : Nat} {vs : Array Value} {T : TypeId} (h : Blk w B vs T) : B < w.heap.size := (Array.getElem?_eq_some_iff.1 h).1
theorem Blk.cell {w : World} {B : Nat} {vs : Array Value} {T : TypeId} (h : Blk w B vs T) (j : Nat) : w.cell? ⟨B, j, none⟩ = vs[j]? := by simp [World.cell?, show w.heap[B]? = _ from h]
theorem Blk.frozen {w : World} {B : Nat} {vs : Array Value} {T : TypeId} (h : Blk w B vs T) (j : Nat) : w.frozen? ⟨B, j, none⟩ = false := by simp [World.frozen?, show w.heap[B]? = _ from h]
theorem Blk.rules {w : World} {B : Nat} {vs : Array Value} {T : TypeId} (h : Blk w B vs T) : (∀ j, w.cell? ⟨B, j, none⟩ = vs[j]?) ∧ (∀ j, w.frozen? ⟨B, j, none⟩ = false) := ⟨h.cell, h.frozen⟩
theorem Blk.new (w : World) (vs : Array Value) (T : TypeId) : Blk (w.alloc (.cells vs T)) w.heap.size vs T := by unfold Blk World.alloc; simp
theorem Blk.below {w w' : World} {B : Nat} {vs : Array Value} {T : TypeId} (h : Blk w B vs T) {n : Nat} (k : Below n w w') (hn : B < n) : Blk w' B vs T := (k.block B hn).trans h
theorem Blk.alloc {w : World} {B : Nat} {vs : Array Value} {T : TypeId} (h : Blk w B vs T) (o : Obj) : Blk (w.alloc o) B vs T := (Below.heap_alloc _ _ _ h.lt).trans h
theorem Blk.draws {w : World} {B : Nat} {vs : Array Value} {T : TypeId} (h : Blk w B vs T) (m : Nat) : Blk (w.drewN m) B vs T := h
theorem Blk.other {w : World} {B : Nat} {vs : Array Value} {T : TypeId} (h : Blk w B vs T) {a : Addr} (ha : B ≠ a.block) (v : Value) : Blk (w.setCell a v) B vs T := (Below.heap_setCell _ _ _ _ ha).trans h
theorem Blk.set {w : World} {B : Nat} {vs : Array Value} {T : TypeId} (h : Blk w B vs T) (j : Nat) (v : Value) : Blk (w.setCell ⟨B, j, none⟩ v) B (vs.setIfInBounds j v) T := by
  obtain ⟨hlt, hk⟩ := Array.getElem?_eq_some_iff.1 h
  show (w.heap.modify B _)[B]? = _
  rw [Array.getElem?_eq_getElem (by rw [Array.size_modify]; exact hlt), Array.getElem_modify_self, hk]
  rfl
/-- What holds of every world in which the block lies so holds here. -/
theorem Blk.gen {W : World} {B : Nat} {vs : Array Value} {T : TypeId} (h : Blk W B vs T) {P : World → Prop} (k : ∀ W, Blk W B vs T → P W) : P W := k W h
/-- Twelve cells are written. -/
theorem Blk.fill {w : World} {B : Nat} {x0 x1 x2 x3 x4 x5 x6 x7 x8 x9 x10 x11 v0 v1 v2 v3 v4 v5 v6 v7 v8 v9 v10 v11 : Value} {T : TypeId} (h : Blk w B #[x0, x1, x2, x3, x4, x5, x6, x7, x8, x9, x10, x11] T) : Blk ((((((((((((w.setCell ⟨B, 0, none⟩ v0).setCell ⟨B, 1, none⟩ v1).setCell ⟨B, 2, none⟩ v2).setCell ⟨B, 3, none⟩ v3).setCell ⟨B, 4, none⟩ v4).setCell ⟨B, 5, none⟩ v5).setCell ⟨B, 6, none⟩ v6).setCell ⟨B, 7, none⟩ v7).setCell ⟨B, 8, none⟩ v8).setCell ⟨B, 9, none⟩ v9).setCell ⟨B, 10, none⟩ v10).setCell ⟨B, 11, none⟩ v11) B #[v0, v1, v2, v3, v4, v5, v6, v7, v8, v9, v10, v11] T := by
  have := ((((((((((((h.set 0 v0).set 1 v1).set 2 v2).set 3 v3).set 4 v4).set 5 v5).set 6 v6).set 7 v7).set 8 v8).set 9 v9).set 10 v10).set 11 v11)
  simpa using this
theorem Blk.fillOther {w : World} {B A : Nat} {vs : Array Value} {v0 v1 v2 v3 v4 v5 v6 v7 v8 v9 v10 v11 : Value} {T : TypeId} (h : Blk w A vs T) (hne : A ≠ B) : Blk ((((((((((((w.setCell ⟨B, 0, none⟩ v0).setCell ⟨B, 1, none⟩ v1).setCell ⟨B, 2, none⟩ v2).setCell ⟨B, 3, none⟩ v3).setCell ⟨B, 4, none⟩ v4).setCell ⟨B, 5, none⟩ v5).setCell ⟨B, 6, none⟩ v6).setCell ⟨B, 7, none⟩ v7).setCell ⟨B, 8, none⟩ v8).setCell ⟨B, 9, none⟩ v9).setCell ⟨B, 10, none⟩ v10).setCell ⟨B, 11, none⟩ v11) A vs T := ((((((((((((h.other (a := ⟨B, 0, none⟩) hne v0).other (a := ⟨B, 1, none⟩) hne v1).other (a := ⟨B, 2, none⟩) hne v2).other (a := ⟨B, 3, none⟩) hne v3).other (a := ⟨B, 4, none⟩) hne v4).other (a := ⟨B, 5, none⟩) hne v5).other (a := ⟨B, 6, none⟩) hne v6).other (a := ⟨B, 7, none⟩) hne v7).other (a := ⟨B, 8, none⟩) hne v8).other (a := ⟨B, 9, none⟩) hne v9).other (a := ⟨B, 10, none⟩) hne v10).other (a := ⟨B, 11, none⟩) hne v11)
theorem fill_below {w a : World} {B n : Nat} {v0 v1 v2 v3 v4 v5 v6 v7 v8 v9 v10 v11 : Value} (h : Below n a w) (hB : n ≤ B) : Below n a ((((((((((((w.setCell ⟨B, 0, none⟩ v0).setCell ⟨B, 1, none⟩ v1).setCell ⟨B, 2, none⟩ v2).setCell ⟨B, 3, none⟩ v3).setCell ⟨B, 4, none⟩ v4).setCell ⟨B, 5, none⟩ v5).setCell ⟨B, 6, none⟩ v6).setCell ⟨B, 7, none⟩ v7).setCell ⟨B, 8, none⟩ v8).setCell ⟨B, 9, none⟩ v9).setCell ⟨B, 10, none⟩ v10).setCell ⟨B, 11, none⟩ v11) := ((((((((((((h.setCell (p := ⟨B, 0, none⟩) hB v0).setCell (p := ⟨B, 1, none⟩) hB v1).setCell (p := ⟨B, 2, none⟩) hB v2).setCell (p := ⟨B, 3, none⟩) hB v3).setCell (p := ⟨B, 4, none⟩) hB v4).setCell (p := ⟨B, 5, none⟩) hB v5).setCell (p := ⟨B, 6, none⟩) hB v6).setCell (p := ⟨B, 7, none⟩) hB v7).setCell (p := ⟨B, 8, none⟩) hB v8).setCell (p := ⟨B, 9, none⟩) hB v9).setCell (p := ⟨B, 10, none⟩) hB v10).setCell (p := ⟨B, 11, none⟩) hB v11)
end Go.Proofs.Ythlmodafadfnfaa
