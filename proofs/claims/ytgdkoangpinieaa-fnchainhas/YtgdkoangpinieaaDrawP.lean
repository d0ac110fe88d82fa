/- Deps and one more are drawn. -/
import Derived.Test.YtgdkoangpinieaaDrawD
namespace Go.Proofs.Ytgdkoangpinieaa
open Go.ChangeShapes Go.WideShapes Go.ChangeAt Go.RowKit

/-- The dep that was drawn lies in the block E. -/
def InE (B E : Nat) (k t s : Int) (W : World) : Prop := E ≠ B ∧ E < W.heap.size ∧ W.cell? ⟨E, 0, none⟩ = some (.int .i64 k) ∧ W.cell? ⟨E, 1, none⟩ = some (.int .i64 t) ∧ W.cell? ⟨E, 2, none⟩ = some (.int .i64 s)
theorem InE.stp {B E : Nat} {k t s : Int} {W W' : World} (h : InE B E k t s W) (hs : Stp B W W') : InE B E k t s W' := by
  obtain ⟨h1, h2, h3, h4, h5⟩ := h
  exact ⟨h1, Nat.lt_of_lt_of_le h2 hs.size, (hs.cell h2 h1).trans h3, (hs.cell h2 h1).trans h4, (hs.cell h2 h1).trans h5⟩
theorem InE.drew {B E : Nat} {k t s : Int} {W : World} (h : InE B E k t s W) : InE B E k t s W.drew := h

theorem InE.fill {B E A : Nat} {k t s : Int} {W : World} {x y z : Value} (h : InE B E k t s W) (hA : E ≠ A) : InE B E k t s (((W.setCell ⟨A, 0, none⟩ x).setCell ⟨A, 1, none⟩ y).setCell ⟨A, 2, none⟩ z) := by
  obtain ⟨h1, h2, h3, h4, h5⟩ := h
  have keep : (((W.setCell ⟨A, 0, none⟩ x).setCell ⟨A, 1, none⟩ y).setCell ⟨A, 2, none⟩ z).heap[E]? = W.heap[E]? := ((Below.heap_setCell _ _ _ _ hA).trans (Below.heap_setCell _ _ _ _ hA)).trans (Below.heap_setCell _ _ _ _ hA)
  have kc : ∀ j, (((W.setCell ⟨A, 0, none⟩ x).setCell ⟨A, 1, none⟩ y).setCell ⟨A, 2, none⟩ z).cell? ⟨E, j, none⟩ = W.cell? ⟨E, j, none⟩ := fun j => World.cell?_of_block (w := W) keep
  exact ⟨h1, by simpa [World.setCell] using h2, (kc _).trans h3, (kc _).trans h4, (kc _).trans h5⟩
theorem row_fill3 {w : World} {base B n : Nat} {e : TypeId} {size : Nat} {v x y z : Value} {xs : List Value} (h : w.ownsRow base e size v n xs) (hB : B < base) : (((w.setCell ⟨B, 0, none⟩ x).setCell ⟨B, 1, none⟩ y).setCell ⟨B, 2, none⟩ z).ownsRow base e size v n xs := by
  have keep : ∀ k, k ≠ B → (((w.setCell ⟨B, 0, none⟩ x).setCell ⟨B, 1, none⟩ y).setCell ⟨B, 2, none⟩ z).heap[k]? = w.heap[k]? := fun k hk => ((Below.heap_setCell _ _ _ _ hk).trans (Below.heap_setCell _ _ _ _ hk)).trans (Below.heap_setCell _ _ _ _ hk)
  refine ⟨h.1, ?_⟩
  rcases h.2 with hn | ⟨g, cap, cur, rfl, hb, hg, rest⟩
  · exact .inl hn
  · exact .inr ⟨g, cap, cur, rfl, hb, (keep g (by omega)).trans hg, rest⟩

end Go.Proofs.Ytgdkoangpinieaa
