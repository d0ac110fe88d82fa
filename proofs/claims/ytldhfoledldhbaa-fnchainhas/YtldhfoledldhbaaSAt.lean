/- The specification's DepsAt. -/
import Derived.Test.YtldhfoledldhbaaGAE
import Derived.Test.YtldhfoledldhbaaGAG
namespace Go.Proofs.Ytldhfoledldhbaa
open Go.ChangeShapes Go.WideShapes Go.ChangeAt Go.RowKit

theorem tab_first {xs : List D} {k : Nat} (hk : k < xs.length) {key : Int} (h : ∀ e ∈ xs.take k, e.k ≠ key) (he : xs[k].k = key) : tab xs key = some (codeD xs[k]) := by
  unfold tab
  have hx : xs = xs.take k ++ xs[k] :: xs.drop (k + 1) := by rw [List.getElem_cons_drop, List.take_append_drop]
  have hn : (xs.take k).find? (fun d => d.k == key) = none := by rw [List.find?_eq_none]; intro e h'; simpa using h e h'
  have hf : xs.find? (fun d => d.k == key) = some xs[k] := by
    conv => lhs; rw [hx]
    rw [List.find?_append, hn, List.find?_cons]
    simp [he]
  rw [hf]; rfl

end Go.Proofs.Ytldhfoledldhbaa
