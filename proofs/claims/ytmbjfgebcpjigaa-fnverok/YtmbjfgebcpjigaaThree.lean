/- Three rows of deps, and how they stay. -/
import Derived.Test.YtmbjfgebcpjigaaLawKit
namespace Go.Proofs.Ytmbjfgebcpjigaa
open Go.ChangeShapes Go.WideShapes Go.ChangeAt Go.RowKit

/-- Nothing old has turned, and three rows lie ahead of Z. -/
def Three (w0 : World) (Z : Nat) (u v x : Value) (xs ys zs : List D) (W : World) : Prop :=
  Below w0.heap.size w0 W ∧ Z ≤ W.heap.size ∧ (RowD W w0.heap.size u xs ∧ ∀ j, u.ownBlock = some j → j < Z) ∧ (RowD W w0.heap.size v ys ∧ ∀ j, v.ownBlock = some j → j < Z) ∧ (RowD W w0.heap.size x zs ∧ ∀ j, x.ownBlock = some j → j < Z)
section
variable {w0 W W' : World} {Z : Nat} {u v x : Value} {xs ys zs : List D}
theorem Three.below (h : Three w0 Z u v x xs ys zs W) (k : Below W.heap.size W W') : Three w0 Z u v x xs ys zs W' := by
  obtain ⟨h1, h2, ⟨a1, a2⟩, ⟨b1, b2⟩, ⟨c1, c2⟩⟩ := h
  exact ⟨h1.trans (k.mono h1.size), Nat.le_trans h2 k.size, ⟨row_below a1 k (Nat.le_refl _), a2⟩, ⟨row_below b1 k (Nat.le_refl _), b2⟩, ⟨row_below c1 k (Nat.le_refl _), c2⟩⟩
theorem Three.alloc (h : Three w0 Z u v x xs ys zs W) (o : Obj) : Three w0 Z u v x xs ys zs (W.alloc o) := h.below ((Below.refl _ _).alloc (Nat.le_refl _) o)
theorem row_set {base n : Nat} {e : TypeId} {size : Nat} {v : Value} {xs : List Value} (h : W.ownsRow base e size v n xs) {A i : Nat} (hA : ∀ j, v.ownBlock = some j → j ≠ A) (y : Value) : (W.setCell ⟨A, i, none⟩ y).ownsRow base e size v n xs := by
  refine ⟨h.1, ?_⟩
  rcases h.2 with hn | ⟨g, cap, cur, rfl, hb, hg, rest⟩
  · exact .inl hn
  · exact .inr ⟨g, cap, cur, rfl, hb, (Below.heap_setCell _ _ _ _ (hA g rfl)).trans hg, rest⟩
theorem Three.set (h : Three w0 Z u v x xs ys zs W) {A i : Nat} (hA : Z ≤ A) (hA0 : w0.heap.size ≤ A) (y : Value) : Three w0 Z u v x xs ys zs (W.setCell ⟨A, i, none⟩ y) := by
  obtain ⟨h1, h2, ⟨a1, a2⟩, ⟨b1, b2⟩, ⟨c1, c2⟩⟩ := h
  exact ⟨h1.setCell (by simpa using hA0) _, by simpa [World.setCell] using h2, ⟨row_set a1 (fun j hj => by have := a2 j hj; omega) y, a2⟩, ⟨row_set b1 (fun j hj => by have := b2 j hj; omega) y, b2⟩, ⟨row_set c1 (fun j hj => by have := c2 j hj; omega) y, c2⟩⟩
theorem three_of (hB : Below w0.heap.size w0 W) (a : RowD W w0.heap.size u xs) (b : RowD W w0.heap.size v ys) (c : RowD W w0.heap.size x zs) : Three w0 W.heap.size u v x xs ys zs W :=
  ⟨hB, Nat.le_refl _, ⟨a, fun j hj => (a.lt j hj).2⟩, ⟨b, fun j hj => (b.lt j hj).2⟩, ⟨c, fun j hj => (c.lt j hj).2⟩⟩
end
theorem less_code (A B : Int) : lessB (A / 4) (A % 4) (B / 4) (B % 4) = decide (A < B) := by
  unfold lessB; rw [decide_eq_decide]; omega
/-- What is told of a key among joined deps is the newer of both. -/
theorem atC_join {xs ys : List D} (hx : depsOk xs = true) (hy : depsOk ys = true) {k : Int} (h0 : 0 ≤ k) (h5 : k ≤ 5) : atC (joinL xs ys) k = if atC xs k < atC ys k then atC ys k else atC xs k := by
  rw [atC_ok (joinL_ok xs ys), atC_ok hx, atC_ok hy, tab_join hx hy h0 h5]
  rcases h1 : tab xs k with _ | p <;> rcases h2 : tab ys k with _ | q
  · simp [omax]
  · have := good_tab (ok_iff.1 hy) _ _ h2; simp [omax]; omega
  · have := good_tab (ok_iff.1 hx) _ _ h1; simp [omax]; omega
  · simp only [omax, Option.getD_some]
/-- .. and among deps with one more. -/
theorem atC_put {xs : List D} {d : D} (hx : depsOk xs = true) (hd : okD d = true) {k : Int} (h0 : 0 ≤ k) (h5 : k ≤ 5) : atC (putL xs d) k = if d.k = k ∧ atC xs k < codeD d then codeD d else atC xs k := by
  rw [atC_ok (putL_ok xs d), atC_ok hx, tab_put hx hd h0 h5]
  have hb := okD_bounds hd
  have hc : 4 ≤ codeD d := by simp only [codeD]; omega
  unfold withT
  by_cases hk : d.k = k
  · rw [if_pos hk]
    rcases h1 : tab xs k with _ | p
    · simp [omax, hk]; omega
    · simp [omax, hk]
  · rw [if_neg hk, if_neg (fun h => hk h.1)]
theorem since_rules {w : World} {B : Nat} {vs : Array Value} {T : TypeId} (h : Blk w B vs T) : ∀ (n : Wof (Since w)) (j : Nat), n.W.cell? ⟨B, j, none⟩ = vs[j]? := fun n j => (h.below n.h h.lt).cell j
end Go.Proofs.Ytmbjfgebcpjigaa
