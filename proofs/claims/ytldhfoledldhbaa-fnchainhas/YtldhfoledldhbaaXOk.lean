/- The exact laws of DepsOk and DepsAt. -/
import Derived.Test.YtldhfoledldhbaaGAH
import Derived.Test.YtldhfoledldhbaaSAt
namespace Go.Proofs.Ytldhfoledldhbaa
open Go.ChangeShapes Go.WideShapes Go.ChangeAt Go.RowKit


end Go.Proofs.Ytldhfoledldhbaa
