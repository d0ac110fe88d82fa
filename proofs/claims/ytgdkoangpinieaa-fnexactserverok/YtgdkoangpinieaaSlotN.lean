/- The slot of a key. -/
import Derived.Test.YtgdkoangpinieaaGAF
namespace Go.Proofs.Ytgdkoangpinieaa
open Go.ChangeShapes Go.WideShapes Go.ChangeAt Go.RowKit

/-- The slot of a key. -/
def slotOf (n : Int) : Int := if inB n 0 5 = true then n * 3 / 6 else -1
theorem slot_is {n r : Int} (h : slotOf n = r) (w : World) : Calls Try.prog 50 #[.int .i64 n] w fun e w' => e = .returned (.int .i64 r) ∧ w' = w := by rw [← h]; exact iSlot_any n w
theorem sslot_is {n r : Int} (h : slotOf n = r) (w : World) : Calls Try.prog 119 #[.int .i64 n] w fun e w' => e = .returned (.int .i64 r) ∧ w' = w := by rw [← h]; exact sSlot_any n w
end Go.Proofs.Ytgdkoangpinieaa
