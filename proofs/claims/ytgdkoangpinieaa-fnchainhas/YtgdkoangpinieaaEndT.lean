/- Behind a call of ChainAt: the version in its block, its deps in memory. -/
import Derived.Test.YtgdkoangpinieaaLMath
import Derived.Test.YtgdkoangpinieaaLiHas
import Derived.Test.YtgdkoangpinieaaIAtV
namespace Go.Proofs.Ytgdkoangpinieaa
open Go.ChangeShapes Go.WideShapes Go.ChangeAt Go.RowKit

/-- Behind a call whose answer is a version of new deps. -/
structure EndT (w1 : World) (b x : Nat) (k t s : Int) (u : V) (D : Nat) (pa : Option Addr) (pc : Nat) (wx : World) : Prop where
  q : EndQ w1 b x k t s u D pa pc wx
  r : Deps wx pa u.ds
theorem EndT.fill {w1 w3 : World} {b x c : Nat} {k t s : Int} {D : Nat} {u : V} {pa : Option Addr} {pc : Nat} (I : InT w1 b x k t s w3) (hb : b < w1.heap.size) (Z : Blk w3 D #[.int .i64 0, .int .i64 0, .int .i64 0, .int .i64 0, .int .i64 0, .int .i64 0, .slice none 0 0] 28) (hD : w1.heap.size ≤ D) (R : RowD w3 c (.slice pa u.ds.length pc) u.ds) (hc : D < c) : EndT w1 b x k t s u D pa pc (((((((w3.setCell ⟨D, 0, none⟩ (.int .i64 u.k)).setCell ⟨D, 1, none⟩ (.int .i64 u.t)).setCell ⟨D, 2, none⟩ (.int .i64 u.s)).setCell ⟨D, 3, none⟩ (.int .i64 u.val)).setCell ⟨D, 4, none⟩ (.int .i64 u.cl)).setCell ⟨D, 5, none⟩ (.int .i64 u.ca)).setCell ⟨D, 6, none⟩ (.slice pa u.ds.length pc)) :=
  ⟨EndQ.fill I hb Z hD, row_deps' (row_fill7 R (fun j hj => by have := (R.lt j hj).1; omega))⟩
theorem EndT.new {w1 w3 : World} {b x c : Nat} {k t s : Int} {u : V} {pa : Option Addr} {pc : Nat} (I : InT w1 b x k t s w3) (R : RowD w3 c (.slice pa u.ds.length pc) u.ds) : EndT w1 b x k t s u w3.heap.size pa pc (w3.alloc (.cells #[.int .i64 u.k, .int .i64 u.t, .int .i64 u.s, .int .i64 u.val, .int .i64 u.cl, .int .i64 u.ca, .slice pa u.ds.length pc] 28)) :=
  ⟨EndQ.new I, row_deps' (R.alloc _)⟩
theorem key5_wf {k : Int} (h0 : 0 ≤ k) (h5 : k ≤ 5) : (Lit.int .i64 k).wf = true := by
  have : k = 0 ∨ k = 1 ∨ k = 2 ∨ k = 3 ∨ k = 4 ∨ k = 5 := by omega
  rcases this with rfl | rfl | rfl | rfl | rfl | rfl <;> rfl
end Go.Proofs.Ytgdkoangpinieaa
