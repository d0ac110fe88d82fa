/-
  No cell of these rows narrows 'for every input' (looked for: loops, veiled, ifaces, maps, wideKeys, modest, calm, conditions, laid).
  DERIVED. THE GIVEN ROWS OF THIS SEAT. 3 by the template 'for every input the law returns true; each argument reads behind the call as it read before'; 0 by the template 'total and deterministic' (their statements: YtlmffgeknlfpkatTotals.lean).
  GIVEN WITH THE SEED: the statements are not yours to turn. If you find one false, say at which input.
  Laid BY PROGRAM, IN A SANDBOX (cutbox-rows.mjs): the forced cells as the released guide's own fill.sh prints them over the translation 311637fdae92e240… (all of the seat's roots in one cut). By AI agents, Wed Nov 11 2026. No macro, syntax, notation, axiom, sorry.
-/
import Derived.Test.YtlmffgeknlfpkatChecked
import GoSem.Claim
import GoSem.ClaimJoined
import GoSem.ClaimMapViews
import Derived.JoinedTies
import Derived.KernelRfl
namespace Go.Proofs.Ytlmffgeknlfpkat
/- THE CELL 'sum', in the pinned program and in every row, IS THE sha256 OF THE DUMP (.gsa) THAT YtlmffgeknlfpkatProg.lean LOADS. Nothing in Lean hashes anything: it is a label: what it is worth is what the hold of that sum in a sandbox is worth. -/
noncomputable def Try.pinned : Pinned := { name := "ytlmffgeknlfpkat", sum := "311637fdae92e2401382b078e3427a3d825e1c66fe63d027b0df2e0a3ff27e26", checked := Try.checked }
namespace Rows
def none {H : Type} : Left H := { results := [], args := [] }

/-- 'laws.FnExactSiteSide': WHATEVER THE INPUT: true; the input reads as it did. -/
def fnExactSiteSideSpec : ChangeSpec := { name := "fnExactSiteSide", fn := fun _ => fun
  | [d] => { results := [.lit (.bool true)], args := [d] }
  | _ => none }
def fnExactSiteSideRow : OpenClaim := { program := "ytlmffgeknlfpkat", sum := "311637fdae92e2401382b078e3427a3d825e1c66fe63d027b0df2e0a3ff27e26", func := "loop.example/tombolo/laws.FnExactSiteSide", spec := "fnExactSiteSide", apart := false }
def FnExactSiteSideSaid : Prop := fnExactSiteSideRow.holds Try.pinned (OpenSpec.ofChange fnExactSiteSideSpec)

/-- ITS FALSE NEIGHBOUR: 'it returns false'. Refute it at one input. -/
def fnExactSiteSideWrong : ChangeSpec := { name := "fnExactSiteSide", fn := fun _ => fun
  | [d] => { results := [.lit (.bool false)], args := [d] }
  | _ => none }
def FnExactSiteSideWrongFalsely : Prop := fnExactSiteSideRow.holds Try.pinned (OpenSpec.ofChange fnExactSiteSideWrong)

/-- 'laws.FnExactServerOwns': WHATEVER THE INPUT: true; the input reads as it did. -/
def fnExactServerOwnsSpec : ChangeSpec := { name := "fnExactServerOwns", fn := fun _ => fun
  | [d1, d2] => { results := [.lit (.bool true)], args := [d1, d2] }
  | _ => none }
def fnExactServerOwnsRow : OpenClaim := { program := "ytlmffgeknlfpkat", sum := "311637fdae92e2401382b078e3427a3d825e1c66fe63d027b0df2e0a3ff27e26", func := "loop.example/tombolo/laws.FnExactServerOwns", spec := "fnExactServerOwns", apart := false }
def FnExactServerOwnsSaid : Prop := fnExactServerOwnsRow.holds Try.pinned (OpenSpec.ofChange fnExactServerOwnsSpec)

/-- ITS FALSE NEIGHBOUR: 'it returns false'. Refute it at one input. -/
def fnExactServerOwnsWrong : ChangeSpec := { name := "fnExactServerOwns", fn := fun _ => fun
  | [d1, d2] => { results := [.lit (.bool false)], args := [d1, d2] }
  | _ => none }
def FnExactServerOwnsWrongFalsely : Prop := fnExactServerOwnsRow.holds Try.pinned (OpenSpec.ofChange fnExactServerOwnsWrong)

/-- 'laws.FnExactServerMove': WHATEVER THE INPUT: true; the input reads as it did. -/
def fnExactServerMoveSpec : ChangeSpec := { name := "fnExactServerMove", fn := fun _ => fun
  | [d1, d2] => { results := [.lit (.bool true)], args := [d1, d2] }
  | _ => none }
def fnExactServerMoveRow : OpenClaim := { program := "ytlmffgeknlfpkat", sum := "311637fdae92e2401382b078e3427a3d825e1c66fe63d027b0df2e0a3ff27e26", func := "loop.example/tombolo/laws.FnExactServerMove", spec := "fnExactServerMove", apart := false }
def FnExactServerMoveSaid : Prop := fnExactServerMoveRow.holds Try.pinned (OpenSpec.ofChange fnExactServerMoveSpec)

/-- ITS FALSE NEIGHBOUR: 'it returns false'. Refute it at one input. -/
def fnExactServerMoveWrong : ChangeSpec := { name := "fnExactServerMove", fn := fun _ => fun
  | [d1, d2] => { results := [.lit (.bool false)], args := [d1, d2] }
  | _ => none }
def FnExactServerMoveWrongFalsely : Prop := fnExactServerMoveRow.holds Try.pinned (OpenSpec.ofChange fnExactServerMoveWrong)

/- THE SECOND FORM. 'bulk': how many values and letters a reading holds, each counted each time it is reached (what is shared counts as often as it is met; a slice's spare places count too). A statement '..UptoSaid' is the law's where the arguments, and the package variables that the reading takes, are together of bulk at most 1048576: NARROWER than '..Said'. Prove '..Said' where nothing that the law and all that it calls make is longer than what came in: it says more and counts as full. Else prove '..UptoSaid'. A law counts once. -/
mutual
def uptoBulk {H : Type} : DataW H → Nat
  | .lit (.string bytes) => bytes.length + 1
  | .lit _ => 1
  | .nil => 1
  | .ptr d => uptoBulk d + 1
  | .slice elems spare => uptoBulkAll elems + uptoBulkAll spare + 1
  | .agg parts => uptoBulkAll parts + 1
  | .iface _ d => uptoBulk d + 1
  | .map entries => uptoBulkEntries entries + 1
  | .held _ => 1
def uptoBulkAll {H : Type} : List (DataW H) → Nat
  | [] => 0
  | d :: r => uptoBulk d + uptoBulkAll r
def uptoBulkEntries {H : Type} : List (Lit × DataW H) → Nat
  | [] => 0
  | x :: r => uptoBulkEntry x + uptoBulkEntries r
def uptoBulkEntry {H : Type} : Lit × DataW H → Nat
  | (.string bytes, d) => bytes.length + uptoBulk d + 1
  | (_, d) => uptoBulk d + 1
 end
def uptoSmall : (H : Type) → List (DataW H) → Bool := fun _ ds => decide (uptoBulkAll ds ≤ 1048576)
def OpenSpec.upto (s : _root_.Go.ChangeSpec) : _root_.Go.OpenSpec := { _root_.Go.OpenSpec.ofChange s with cond := some uptoSmall }

/-- 'laws.FnExactSiteSide', WHERE WHAT IT READS IS OF BULK AT MOST 1048576: true; the input reads as it did. -/
def fnExactSiteSideUptoRow : OpenClaim := { program := "ytlmffgeknlfpkat", sum := "311637fdae92e2401382b078e3427a3d825e1c66fe63d027b0df2e0a3ff27e26", func := "loop.example/tombolo/laws.FnExactSiteSide", spec := "fnExactSiteSide", apart := false, narrowed := true }
def FnExactSiteSideUptoSaid : Prop := fnExactSiteSideUptoRow.holds Try.pinned (OpenSpec.upto fnExactSiteSideSpec)

/-- 'laws.FnExactServerOwns', WHERE WHAT IT READS IS OF BULK AT MOST 1048576: true; the input reads as it did. -/
def fnExactServerOwnsUptoRow : OpenClaim := { program := "ytlmffgeknlfpkat", sum := "311637fdae92e2401382b078e3427a3d825e1c66fe63d027b0df2e0a3ff27e26", func := "loop.example/tombolo/laws.FnExactServerOwns", spec := "fnExactServerOwns", apart := false, narrowed := true }
def FnExactServerOwnsUptoSaid : Prop := fnExactServerOwnsUptoRow.holds Try.pinned (OpenSpec.upto fnExactServerOwnsSpec)

/-- 'laws.FnExactServerMove', WHERE WHAT IT READS IS OF BULK AT MOST 1048576: true; the input reads as it did. -/
def fnExactServerMoveUptoRow : OpenClaim := { program := "ytlmffgeknlfpkat", sum := "311637fdae92e2401382b078e3427a3d825e1c66fe63d027b0df2e0a3ff27e26", func := "loop.example/tombolo/laws.FnExactServerMove", spec := "fnExactServerMove", apart := false, narrowed := true }
def FnExactServerMoveUptoSaid : Prop := fnExactServerMoveUptoRow.holds Try.pinned (OpenSpec.upto fnExactServerMoveSpec)

end Rows
end Go.Proofs.Ytlmffgeknlfpkat
