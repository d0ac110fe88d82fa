/- The specification's ServerOk: what is looked for among versions. -/
import Derived.Test.YtgdkoangpinieaaSvHere
import Derived.Test.YtgdkoangpinieaaSAtV
import Derived.Test.YtgdkoangpinieaaGAJ
namespace Go.Proofs.Ytgdkoangpinieaa
open Go.ChangeShapes Go.WideShapes Go.ChangeAt Go.RowKit

/-- What a region reads: a server's box, and three cells. -/
abbrev InQ (B : Nat) (vs : Array Value) (b p : Nat) (dk dt dss : Int) (W : World) : Prop := (∀ j, W.cell? ⟨B, j, none⟩ = vs[j]?) ∧ W.cell? ⟨b, p, none⟩ = some (.int .i64 dk) ∧ W.cell? ⟨b, p + 1, none⟩ = some (.int .i64 dt) ∧ W.cell? ⟨b, p + 2, none⟩ = some (.int .i64 dss)
theorem InQ.at {w W : World} {B b p : Nat} {vs : Array Value} {T : TypeId} {dk dt dss : Int} {n : Nat} (hA : Blk w B vs T) (hB : B < n) (hb : b < n) (c0 : w.cell? ⟨b, p, none⟩ = some (.int .i64 dk)) (c1 : w.cell? ⟨b, p + 1, none⟩ = some (.int .i64 dt)) (c2 : w.cell? ⟨b, p + 2, none⟩ = some (.int .i64 dss)) (k : Below n w W) : InQ B vs b p dk dt dss W :=
  ⟨fun j => (hA.below k hB).cell j, (k.cell (p := ⟨b, _, none⟩) hb).trans c0, (k.cell (p := ⟨b, _, none⟩) hb).trans c1, (k.cell (p := ⟨b, _, none⟩) hb).trans c2⟩
theorem InQ.since {W : World} {B b p : Nat} {vs : Array Value} {dk dt dss : Int} (h : InQ B vs b p dk dt dss W) (hB : B < W.heap.size) (hb : b < W.heap.size) : (∀ (n : Wof (Since W)) (j : Nat), n.W.cell? ⟨B, j, none⟩ = vs[j]?) ∧ (∀ n : Wof (Since W), n.W.cell? ⟨b, p, none⟩ = some (.int .i64 dk)) ∧ (∀ n : Wof (Since W), n.W.cell? ⟨b, p + 1, none⟩ = some (.int .i64 dt)) ∧ (∀ n : Wof (Since W), n.W.cell? ⟨b, p + 2, none⟩ = some (.int .i64 dss)) :=
  ⟨fun n j => (n.h.cell (p := ⟨B, j, none⟩) hB).trans (h.1 j), fun n => (n.h.cell (p := ⟨b, _, none⟩) hb).trans h.2.1, fun n => (n.h.cell (p := ⟨b, _, none⟩) hb).trans h.2.2.1, fun n => (n.h.cell (p := ⟨b, _, none⟩) hb).trans h.2.2.2⟩
theorem InQ.ne {W : World} {B b p : Nat} {vs : Array Value} {dk dt dss : Int} (_ : InQ B vs b p dk dt dss W) : Nonempty (Wof (Since W)) := since_ne W
theorem sside_b (n : Int) {w : World} : Calls Try.prog 150 #[.int .i64 n] w fun e w' => e = .returned (.int .i64 (sideOf n)) ∧ Below w.heap.size w w' := (sSide_any n w).mono fun e w' h => ⟨h.1, by rw [h.2]; exact Below.refl _ _⟩
end Go.Proofs.Ytgdkoangpinieaa
