/- The exact law of SiteSide. -/
import Derived.Test.YtlmffgeknlfpkatSideI
import Derived.Test.YtlmffgeknlfpkatSideS
namespace Go.Proofs.Ytlmffgeknlfpkat
open Go.ChangeShapes Go.WideShapes Go.ChangeAt Go.RowKit

theorem lawExactSide (n : Int) (w : World) : Calls Try.prog 3 #[.int .i64 n] w fun e w' => e = .returned (.bool true) ∧ Below w.heap.size w w' := by
  go_enter Try.func3, Try.ntmps3
  go_wp2_with fail
  refine (sSide_any _ _).mono ?_
  rintro e w1 ⟨rfl, rfl⟩
  go_wp2_with fail
  refine (iSide_any _ _).mono ?_
  rintro e w2 ⟨rfl, rfl⟩
  go_wp2
  go_ret
  exact ⟨rfl, Below.refl _ _⟩
end Go.Proofs.Ytlmffgeknlfpkat
