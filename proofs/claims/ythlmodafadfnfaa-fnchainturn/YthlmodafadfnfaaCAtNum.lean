/- Plain facts on what is found among versions. -/
import Derived.Test.YthlmodafadfnfaaSPutV
namespace Go.Proofs.Ythlmodafadfnfaa
open Go.ChangeShapes Go.WideShapes Go.ChangeAt Go.RowKit

theorem below_draws {n : Nat} {a w : World} (h : Below n a w) (m : Nat) : Below n a (w.drewN m) := h.trans ⟨rfl, rfl, rfl, Nat.le_refl _, fun _ _ => rfl⟩
theorem hdraws {w : World} {B : Nat} {vs : Array Value} {T : TypeId} (h : Blk w B vs T) (m : Nat) : Blk (w.drewN m) B vs T := h
/-- Nothing. -/
def zeroV : V := ⟨0, 0, 0, 0, 0, 0, []⟩
/-- What is answered of a key and stamp. -/
def atA (vs : List V) (k t s : Int) : Option V := if chainB vs = true then cAt vs k t s else none
/-- What is answered of a key. -/
def topA (vs : List V) (k : Int) : Option V := if chainB vs = true then cTop vs k else none
theorem atA_no {vs : List V} (h : chainB vs = false) (k t s : Int) : atA vs k t s = none := by unfold atA; rw [h]; rfl
theorem atA_yes {vs : List V} (h : chainB vs = true) (k t s : Int) : atA vs k t s = cAt vs k t s := by unfold atA; rw [h]; rfl
theorem topA_no {vs : List V} (h : chainB vs = false) (k : Int) : topA vs k = none := by unfold topA; rw [h]; rfl
theorem topA_yes {vs : List V} (h : chainB vs = true) (k : Int) : topA vs k = cTop vs k := by unfold topA; rw [h]; rfl
theorem cAt_step {vs : List V} {i : Nat} {k t s : Int} (hi : i < vs.length) (h : cAt (vs.take i) k t s = none) (hs : sameB vs[i] k t s = false) : cAt (vs.take (i + 1)) k t s = none := by
  unfold cAt at *
  rw [takeV vs i hi, List.find?_append, h]
  simp [hs]
theorem cAt_hit {vs : List V} {i : Nat} {k t s : Int} (hi : i < vs.length) (h : cAt (vs.take i) k t s = none) (hs : sameB vs[i] k t s = true) : cAt vs k t s = some vs[i] := by
  unfold cAt at *
  have e : vs = vs.take i ++ vs[i] :: vs.drop (i + 1) := by rw [← List.drop_eq_getElem_cons hi, List.take_append_drop]
  rw [congrArg (List.find? fun v => sameB v k t s) e, List.find?_append, h, List.find?_cons, hs]
  rfl
theorem same_key {v : V} {k t s : Int} (h : v.k ≠ k) : sameB v k t s = false := by unfold sameB; simp [h]
theorem same_time {v : V} {k t s : Int} (h : v.t ≠ t) : sameB v k t s = false := by unfold sameB; simp [h]
theorem same_site {v : V} {k t s : Int} (h : v.s ≠ s) : sameB v k t s = false := by unfold sameB; simp [h]
theorem cTop_step {vs : List V} {i : Nat} {k : Int} (hi : i < vs.length) (h : cTop (vs.drop (i + 1)) k = none) (hs : vs[i].k ≠ k) : cTop (vs.drop i) k = none := by
  unfold cTop at *
  rw [List.find?_eq_none] at *
  intro x hx
  rw [List.mem_reverse, List.drop_eq_getElem_cons hi] at hx
  rcases List.mem_cons.1 hx with rfl | hx
  · simpa using hs
  · exact h x (by simpa using hx)
theorem cTop_hit {vs : List V} {i : Nat} {k : Int} (hi : i < vs.length) (h : cTop (vs.drop (i + 1)) k = none) (hs : vs[i].k = k) : cTop vs k = some vs[i] := by
  unfold cTop at *
  have e0 : vs = vs.take i ++ vs[i] :: vs.drop (i + 1) := by rw [← List.drop_eq_getElem_cons hi, List.take_append_drop]
  have e : vs.reverse = (vs.drop (i + 1)).reverse ++ (vs[i] :: (vs.take i).reverse) := by
    rw [congrArg List.reverse e0]
    simp
  rw [e, List.find?_append, h]
  simp [hs]
theorem cTop_nil (k : Int) : cTop [] k = none := rfl
end Go.Proofs.Ythlmodafadfnfaa
