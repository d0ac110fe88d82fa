/- The specification's WordOk. -/
import Derived.Test.YtgdkoangpinieaaWSa
import Derived.Test.YtgdkoangpinieaaWSb
import Derived.Test.YtgdkoangpinieaaWSc
import Derived.Test.YtgdkoangpinieaaWSd
import Derived.Test.YtgdkoangpinieaaWSe
import Derived.Test.YtgdkoangpinieaaWSf
import Derived.Test.YtgdkoangpinieaaWSg
namespace Go.Proofs.Ytgdkoangpinieaa
open Go.ChangeShapes Go.WideShapes Go.ChangeAt Go.RowKit

theorem sWord_any (x : Wd) (a : Wa) (w : World) (hl : LenL x) (h : InL w x a) : Calls Try.prog 53 #[wordV x a] w fun e w' => e = .returned (.bool (wordB x)) ∧ Below w.heap.size w w' := by
  rcases f1 : inB x.fr 0 3 with _ | _
  · rcases f2 : inB x.fr 10 11 with _ | _
    · exact sWord_n x a w h f1 f2
    · rcases t1 : inB x.to 0 3 with _ | _
      · rcases t2 : inB x.to 10 11 with _ | _
        · exact sWord_cn x a w h f1 f2 t1 t2
        · exact sWord_cc x a w hl h f1 f2 t1 t2
      · exact sWord_cs x a w hl h f1 f2 t1
  · rcases t1 : inB x.to 0 3 with _ | _
    · rcases t2 : inB x.to 10 11 with _ | _
      · exact sWord_sn x a w h f1 t1 t2
      · exact sWord_sc x a w hl h f1 t1 t2
    · exact sWord_ss x a w hl h f1 t1
end Go.Proofs.Ytgdkoangpinieaa
