/- What the laws of deps draw. -/
import Derived.Test.YtgdkoangpinieaaGAB
namespace Go.Proofs.Ytgdkoangpinieaa
open Go.ChangeShapes Go.WideShapes Go.ChangeAt Go.RowKit

theorem Rd.drew {w : World} {B : Nat} {p : Int} (h : Rd w B p) : Rd w.drew B p := h.of_block (Nat.le_refl _) fun _ _ => rfl

theorem row_at {w : World} {base g n cap : Nat} {xs : List D} (h : w.ownsRow base 51 3 (.slice (some ⟨g, 0, none⟩) n cap) xs.length (flat3 xs)) {k : Nat} (hk : k < xs.length) : ∃ z : Int, w.cell? ⟨g, k * 3, none⟩ = some (.int .i64 z) := by
  obtain ⟨a', c, he, hD, _⟩ := deps_of_row h
  simp at he
  obtain ⟨rfl, _⟩ := he
  obtain ⟨b, o, he, _, e0, _, _⟩ := hD.at hk
  simp at he
  obtain ⟨rfl, rfl⟩ := he
  exact ⟨_, by simpa using e0⟩

end Go.Proofs.Ytgdkoangpinieaa
