/- Rows, and what they read as. -/
import Derived.Test.YthlmodafadfnfaaXDeps
namespace Go.Proofs.Ythlmodafadfnfaa
open Go.ChangeShapes Go.WideShapes Go.ChangeAt Go.RowKit

theorem row_set {W : World} {base n : Nat} {e : TypeId} {size : Nat} {v : Value} {xs : List Value} (h : W.ownsRow base e size v n xs) {A i : Nat} (hA : ∀ j, v.ownBlock = some j → j ≠ A) (y : Value) : (W.setCell ⟨A, i, none⟩ y).ownsRow base e size v n xs := by
  refine ⟨h.1, ?_⟩
  rcases h.2 with hn | ⟨g, cap, cur, rfl, hb, hg, rest⟩
  · exact .inl hn
  · exact .inr ⟨g, cap, cur, rfl, hb, (Below.heap_setCell _ _ _ _ (hA g rfl)).trans hg, rest⟩
theorem row_deps {w : World} {base b n : Nat} {cap : Nat} {xs : List D} (h : w.ownsRow base 51 3 (.slice (some ⟨b, 0, none⟩) n cap) xs.length (flat3 xs)) : Deps w (some ⟨b, 0, none⟩) xs := by
  obtain ⟨a, c, he, hD, _⟩ := deps_of_row h
  simp at he
  obtain ⟨rfl, _⟩ := he
  exact hD
/-- A row's deps, whatever its form. -/
theorem row_deps' {w : World} {base n cap : Nat} {a : Option Addr} {xs : List D} (h : w.ownsRow base 51 3 (.slice a n cap) xs.length (flat3 xs)) : Deps w a xs := by
  obtain ⟨a', c, he, hD, _⟩ := deps_of_row h
  simp at he
  obtain ⟨rfl, _⟩ := he
  exact hD
/-- Two rows, the second made behind the first, lie apart. -/
theorem row_apart {w1 w2 : World} {b1 b2 s1 s2 n m : Nat} {e1 e2 : TypeId} {v1 v2 : Value} {xs ys : List Value} (h1 : w1.ownsRow b1 e1 s1 v1 n xs) (h2 : w2.ownsRow b2 e2 s2 v2 m ys) (hle : w1.heap.size ≤ b2) : (v2.ownBlock = none ∨ v2.ownBlock ≠ v1.ownBlock) ∧ (v1.ownBlock = none ∨ v1.ownBlock ≠ v2.ownBlock) := by
  rcases h : v2.ownBlock with _ | k2
  · exact ⟨.inl rfl, by rcases h' : v1.ownBlock with _ | k1; exact .inl rfl; exact .inr (by simp)⟩
  · have := (h2.lt k2 h).1
    rcases h' : v1.ownBlock with _ | k1
    · exact ⟨.inr (by simp), .inl rfl⟩
    · have := (h1.lt k1 h').2
      exact ⟨.inr (by simp; omega), .inr (by simp; omega)⟩
theorem below_row {w w1 w2 : World} {b e s n : Nat} {v : Value} {xs : List Value} (hB : Below w.heap.size w w1) (h : w1.ownsRow b e s v n xs) (hb : w.heap.size ≤ b) (hg : w1.grownBy w2 v.ownBlock) : Below w.heap.size w w2 :=
  hB.grown hg hB.size (fun j hj => by have := (h.lt j hj).1; omega)
end Go.Proofs.Ythlmodafadfnfaa
