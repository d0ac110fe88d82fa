/- A region that draws its order, by an invariant; the operations of a draw. -/
import Derived.Test.YtgdkoangpinieaaDrawCA
import Derived.Test.YtgdkoangpinieaaWNum
import Derived.Orders
namespace Go.Proofs.Ytgdkoangpinieaa
open Go.ChangeShapes Go.WideShapes Go.ChangeAt Go.RowKit

theorem count_set {l : List Bool} {i : Nat} (hi : i < l.length) (h : l[i] = false) : (l.set i true).count false + 1 = l.count false := by
  induction l generalizing i with
  | nil => simp at hi
  | cons b l ih =>
    cases i with
    | zero => simp at h; subst h; simp
    | succ i =>
      have := ih (by simpa using hi) (by simpa using h)
      cases b <;> simp <;> omega
/-- A region that draws its order keeps an invariant, whatever comes up. -/
theorem wpAny_inv {P : Program} {md : Region.Mode} {ops : Array Oper} {Q : Exit → Act → World → Prop} (I : Array Bool → Act → World → Prop)
    (step : ∀ l a w i, I l a w → i ∈ Region.ready md ops l → wpOp P ops Q i (I (l.setIfInBounds i true)) a w)
    (fin : ∀ l a w, I l a w → Region.ready md ops l = [] → Q .normal a w) :
    ∀ (fuel : Nat) (l : Array Bool) (a : Act) (w : World), l.toList.count false ≤ fuel → I l a w → wpAny P md ops Q fuel l a w := by
  intro fuel
  induction fuel with
  | zero =>
    intro l a w hc hI
    have hr : Region.ready md ops l = [] := by
      cases hr : Region.ready md ops l with
      | nil => rfl
      | cons i t =>
        have hm : i ∈ Region.ready md ops l := by rw [hr]; simp
        have h0 := (mem_ready.1 hm).1
        rcases Nat.lt_or_ge i l.size with hlt | hge
        · have h1 : l[i] = false := by simpa [hlt] using h0
          have h2 := count_set (l := l.toList) (i := i) (by simpa using hlt) (by simpa using h1)
          omega
        · rw [Array.getD_eq_getD_getElem?, Array.getElem?_eq_none hge] at h0
          cases h0
    exact ⟨hr, fin l a w hI hr⟩
  | succ fuel ih =>
    intro l a w hc hI
    refine ⟨fun hr => fin l a w hI hr, fun i hi => ?_⟩
    have h0 := (mem_ready.1 hi).1
    refine wpOp_mono (fun a' w' h => ih _ a' w' ?_ h) (step l a w i hI hi)
    rcases Nat.lt_or_ge i l.size with hlt | hge
    · have h1 : l[i] = false := by simpa [hlt] using h0
      have h2 := count_set (l := l.toList) (i := i) (by simpa using hlt) (by simpa using h1)
      rw [Array.toList_setIfInBounds]
      omega
    · rw [Array.getD_eq_getD_getElem?, Array.getElem?_eq_none hge] at h0
      cases h0
section
variable {P : Program} {ops : Array Oper} {Q : Exit → Act → World → Prop} {K : Act → World → Prop} {a : Act} {w : World} {i : Nat} {o : Oper}
theorem wpOp_of (hi : ops[i]? = some o) (hg : o.guard = none) (h : o.wp P a w K Q) : wpOp P ops Q i K a w := by
  unfold wpOp
  rw [hi]
  simp only [Region.wanted, hg]
  exact .inl h
theorem op_move {s : Nat} (hop : o.op = .move (.tmp s)) (h : K (a.put o.dst (a.eval (.tmp s))) w) : o.wp P a w K Q := by
  unfold Oper.wp
  simp only [execOp, hop]
  simpa [go_sem] using h
end
end Go.Proofs.Ytgdkoangpinieaa
