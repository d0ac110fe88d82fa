/- StampNext of the specification and of the program, one behind the other. -/
import Derived.Test.YtlmffgeknlfpkaaDrawNext
import Derived.Test.YtlmffgeknlfpkaaSNext
import Derived.Test.YtlmffgeknlfpkaaINext2
namespace Go.Proofs.Ytlmffgeknlfpkaa
open Go.ChangeShapes Go.WideShapes Go.ChangeAt Go.RowKit

theorem sNext_any (site : Int) (a : Option Addr) (cap : Nat) (xs : List (Int × Int)) (w : World) (hn : xs.length ≤ 1099511627776) (h : Stamps w a xs) :
    Calls Try.prog 14 #[.int .i64 site, .slice a xs.length cap] w fun e w' => e = .returned (nextV site xs) ∧ Below w.heap.size w w' := by
  rcases hs : inB site 0 3 with _ | _
  · exact sNext_no site a _ cap xs w hs
  · exact sNext_yes site a cap xs w hs hn h

/-- What a law knows behind the two calls: the two stamps that were told, in memory, and the list. -/
theorem bothNext (b : Option Addr) (xs : List (Int × Int)) (w w1 : World) (t s : Int) (hB : Below w.heap.size w w1) (hS : Stamps w1 b xs) (w2 : World) (h2 : Below w1.heap.size w1 w2) (w3 : World)
    (h3 : Below (w2.heap.size + 1) (w2.alloc (.cells #[.int .i64 t, .int .i64 s] 24)) w3) :
    Below w.heap.size w (w3.alloc (.cells #[.int .i64 t, .int .i64 s] 24)) ∧ Stamps (w3.alloc (.cells #[.int .i64 t, .int .i64 s] 24)) b xs ∧
    w3.cell? ⟨w2.heap.size, 0, none⟩ = some (.int .i64 t) ∧ w3.cell? ⟨w2.heap.size, 1, none⟩ = some (.int .i64 s) ∧ w2.heap.size < w3.heap.size := by
  have k1 : Below w1.heap.size w1 (w2.alloc (.cells #[.int .i64 t, .int .i64 s] 24)) := h2.alloc h2.size _
  have k2 : Below w1.heap.size w1 w3 := k1.trans (h3.mono (by have := h2.size; omega))
  have k3 : Below w1.heap.size w1 (w3.alloc (.cells #[.int .i64 t, .int .i64 s] 24)) := k2.alloc k2.size _
  refine ⟨hB.trans (k3.mono hB.size), hS.below k3, ?_, ?_, by have := h3.size; simp at this; omega⟩
  · exact (h3.cell (p := ⟨w2.heap.size, 0, none⟩) (by simp)).trans (by simp [go_sem])
  · exact (h3.cell (p := ⟨w2.heap.size, 1, none⟩) (by simp)).trans (by simp [go_sem])

end Go.Proofs.Ytlmffgeknlfpkaa
