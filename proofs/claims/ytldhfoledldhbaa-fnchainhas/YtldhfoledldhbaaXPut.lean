/- The exact law of DepsPut. -/
import Derived.Test.YtldhfoledldhbaaGAK
import Derived.Test.YtldhfoledldhbaaXOk
import Derived.Test.YtldhfoledldhbaaGAB
namespace Go.Proofs.Ytldhfoledldhbaa
open Go.ChangeShapes Go.WideShapes Go.ChangeAt Go.RowKit


/-- What is known in a region of the law: nothing old has turned, and the dep that came in. -/
def InX (w0 : World) (B : Nat) (dk dt ds : Int) (W : World) : Prop := Below w0.heap.size w0 W ∧ B < W.heap.size ∧ W.cell? ⟨B, 0, none⟩ = some (.int .i64 dk) ∧ W.cell? ⟨B, 1, none⟩ = some (.int .i64 dt) ∧ W.cell? ⟨B, 2, none⟩ = some (.int .i64 ds)
theorem InX.below {w0 w w' : World} {B : Nat} {dk dt ds : Int} (h : InX w0 B dk dt ds w) (k : Below w.heap.size w w') : InX w0 B dk dt ds w' := by
  obtain ⟨h1, h2, h3, h4, h5⟩ := h
  exact ⟨h1.trans (k.mono h1.size), Nat.lt_of_lt_of_le h2 k.size, (k.cell (p := ⟨B, _, none⟩) h2).trans h3, (k.cell (p := ⟨B, _, none⟩) h2).trans h4, (k.cell (p := ⟨B, _, none⟩) h2).trans h5⟩
theorem InX.drew {w0 w : World} {B : Nat} {dk dt ds : Int} (h : InX w0 B dk dt ds w) : InX w0 B dk dt ds w.drew := h.below (Below.refl _ _).drew
theorem InX.grown {w0 w w' : World} {B : Nat} {dk dt ds : Int} (h : InX w0 B dk dt ds w) {row : Option Nat} (hg : w.grownBy w' row) (hr : ∀ j, row = some j → w0.heap.size ≤ j ∧ j ≠ B) : InX w0 B dk dt ds w' := by
  obtain ⟨h1, h2, h3, h4, h5⟩ := h
  have hk : w'.heap[B]? = w.heap[B]? := hg.block B h2 (fun e => (hr B e.symm).2 rfl)
  have hc : ∀ j, w'.cell? ⟨B, j, none⟩ = w.cell? ⟨B, j, none⟩ := fun j => World.cell?_of_block (w := w) hk
  exact ⟨h1.grown hg h1.size (fun j hj => (hr j hj).1), Nat.lt_of_lt_of_le h2 hg.size, (hc _).trans h3, (hc _).trans h4, (hc _).trans h5⟩

end Go.Proofs.Ytldhfoledldhbaa
