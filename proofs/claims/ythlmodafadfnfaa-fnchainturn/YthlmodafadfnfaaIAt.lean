/- The program's DepsAt. -/
import Derived.Test.YthlmodafadfnfaaIDeps
namespace Go.Proofs.Ythlmodafadfnfaa
open Go.ChangeShapes Go.WideShapes Go.ChangeAt Go.RowKit

/-- What is told of a key among deps, as one number: two cells are written. -/
theorem Blk.fill2 {w : World} {B : Nat} {x0 x1 v0 v1 : Value} {T : TypeId} (h : Blk w B #[x0, x1] T) : Blk ((w.setCell ⟨B, 0, none⟩ v0).setCell ⟨B, 1, none⟩ v1) B #[v0, v1] T := by
  have := (h.set 0 v0).set 1 v1
  simpa using this
/-- What is told of a key among deps, as one number. -/
def atC (xs : List D) (key : Int) : Int := if depsOk xs = true then (tab xs key).getD 0 else 0
theorem atC_no {xs : List D} (h : depsOk xs = false) (key : Int) : atC xs key = 0 := if_neg (by rw [h]; exact Bool.false_ne_true)
theorem atC_ok {xs : List D} (h : depsOk xs = true) (key : Int) : atC xs key = (tab xs key).getD 0 := if_pos h
theorem tab_out {xs : List D} (h : depsOk xs = true) {key : Int} (hk : inB key 0 5 = false) : tab xs key = none := by
  refine tab_none fun e he => ?_
  have := okD_bounds ((ok_iff.1 h).2 e he)
  simp [inB] at hk
  omega
/-- .. and as a stamp. -/
abbrev atV (xs : List D) (key : Int) : Value := stampV (atC xs key / 4) (atC xs key % 4)
theorem atV_zero {xs : List D} {key : Int} (h : atC xs key = 0) : atV xs key = stampV 0 0 := by simp [h]

end Go.Proofs.Ythlmodafadfnfaa
