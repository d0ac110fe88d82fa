/-
  No cell of these rows narrows 'for every input' (looked for: loops, veiled, ifaces, maps, wideKeys, modest, calm, conditions, laid).
  DERIVED. THE GIVEN ROWS OF THIS SEAT. 4 by the template 'for every input the law returns true; each argument reads behind the call as it read before'; 0 by the template 'total and deterministic' (their statements: YtlmffgeknlfpkaaTotals.lean).
  GIVEN WITH THE SEED: the statements are not yours to turn. If you find one false, say at which input.
  Laid BY PROGRAM, IN A SANDBOX (cutbox-rows.mjs): the forced cells as the released guide's own fill.sh prints them over the translation c265b440d737cd41… (all of the seat's roots in one cut). By AI agents, Wed Nov 11 2026. No macro, syntax, notation, axiom, sorry.
-/
import Derived.Test.YtlmffgeknlfpkaaChecked
import GoSem.Claim
import GoSem.ClaimJoined
import GoSem.ClaimMapViews
import Derived.JoinedTies
import Derived.KernelRfl
namespace Go.Proofs.Ytlmffgeknlfpkaa
/- THE CELL 'sum', in the pinned program and in every row, IS THE sha256 OF THE DUMP (.gsa) THAT YtlmffgeknlfpkaaProg.lean LOADS. Nothing in Lean hashes anything: it is a label: what it is worth is what the hold of that sum in a sandbox is worth. -/
noncomputable def Try.pinned : Pinned := { name := "ytlmffgeknlfpkaa", sum := "c265b440d737cd41e6a83f951ce9e3410a441b68a5b8d5b3d96a4981f4b41f58", checked := Try.checked }
namespace Rows
def none {H : Type} : Left H := { results := [], args := [] }

/-- 'laws.FnStampOrder': WHATEVER THE INPUT: true; the input reads as it did. -/
def fnStampOrderSpec : ChangeSpec := { name := "fnStampOrder", fn := fun _ => fun
  | [d] => { results := [.lit (.bool true)], args := [d] }
  | _ => none }
def fnStampOrderRow : OpenClaim := { program := "ytlmffgeknlfpkaa", sum := "c265b440d737cd41e6a83f951ce9e3410a441b68a5b8d5b3d96a4981f4b41f58", func := "loop.example/tombolo/laws.FnStampOrder", spec := "fnStampOrder", unfollowed := true, recurses := true, apart := false }
def FnStampOrderSaid : Prop := fnStampOrderRow.holds Try.pinned (OpenSpec.ofChange fnStampOrderSpec)

/-- ITS FALSE NEIGHBOUR: 'it returns false'. Refute it at one input. -/
def fnStampOrderWrong : ChangeSpec := { name := "fnStampOrder", fn := fun _ => fun
  | [d] => { results := [.lit (.bool false)], args := [d] }
  | _ => none }
def FnStampOrderWrongFalsely : Prop := fnStampOrderRow.holds Try.pinned (OpenSpec.ofChange fnStampOrderWrong)

/-- 'laws.FnStampChain': WHATEVER THE INPUT: true; the input reads as it did. -/
def fnStampChainSpec : ChangeSpec := { name := "fnStampChain", fn := fun _ => fun
  | [d1, d2] => { results := [.lit (.bool true)], args := [d1, d2] }
  | _ => none }
def fnStampChainRow : OpenClaim := { program := "ytlmffgeknlfpkaa", sum := "c265b440d737cd41e6a83f951ce9e3410a441b68a5b8d5b3d96a4981f4b41f58", func := "loop.example/tombolo/laws.FnStampChain", spec := "fnStampChain", unfollowed := true, recurses := true, apart := false }
def FnStampChainSaid : Prop := fnStampChainRow.holds Try.pinned (OpenSpec.ofChange fnStampChainSpec)

/-- ITS FALSE NEIGHBOUR: 'it returns false'. Refute it at one input. -/
def fnStampChainWrong : ChangeSpec := { name := "fnStampChain", fn := fun _ => fun
  | [d1, d2] => { results := [.lit (.bool false)], args := [d1, d2] }
  | _ => none }
def FnStampChainWrongFalsely : Prop := fnStampChainRow.holds Try.pinned (OpenSpec.ofChange fnStampChainWrong)

/-- 'laws.FnStampNext': WHATEVER THE INPUT: true; the input reads as it did. -/
def fnStampNextSpec : ChangeSpec := { name := "fnStampNext", fn := fun _ => fun
  | [d1, d2] => { results := [.lit (.bool true)], args := [d1, d2] }
  | _ => none }
def fnStampNextRow : OpenClaim := { program := "ytlmffgeknlfpkaa", sum := "c265b440d737cd41e6a83f951ce9e3410a441b68a5b8d5b3d96a4981f4b41f58", func := "loop.example/tombolo/laws.FnStampNext", spec := "fnStampNext", unfollowed := true, recurses := true, apart := false }
def FnStampNextSaid : Prop := fnStampNextRow.holds Try.pinned (OpenSpec.ofChange fnStampNextSpec)

/-- ITS FALSE NEIGHBOUR: 'it returns false'. Refute it at one input. -/
def fnStampNextWrong : ChangeSpec := { name := "fnStampNext", fn := fun _ => fun
  | [d1, d2] => { results := [.lit (.bool false)], args := [d1, d2] }
  | _ => none }
def FnStampNextWrongFalsely : Prop := fnStampNextRow.holds Try.pinned (OpenSpec.ofChange fnStampNextWrong)

/-- 'laws.FnSiteSide': WHATEVER THE INPUT: true; the input reads as it did. -/
def fnSiteSideSpec : ChangeSpec := { name := "fnSiteSide", fn := fun _ => fun
  | [d] => { results := [.lit (.bool true)], args := [d] }
  | _ => none }
def fnSiteSideRow : OpenClaim := { program := "ytlmffgeknlfpkaa", sum := "c265b440d737cd41e6a83f951ce9e3410a441b68a5b8d5b3d96a4981f4b41f58", func := "loop.example/tombolo/laws.FnSiteSide", spec := "fnSiteSide", apart := false }
def FnSiteSideSaid : Prop := fnSiteSideRow.holds Try.pinned (OpenSpec.ofChange fnSiteSideSpec)

/-- ITS FALSE NEIGHBOUR: 'it returns false'. Refute it at one input. -/
def fnSiteSideWrong : ChangeSpec := { name := "fnSiteSide", fn := fun _ => fun
  | [d] => { results := [.lit (.bool false)], args := [d] }
  | _ => none }
def FnSiteSideWrongFalsely : Prop := fnSiteSideRow.holds Try.pinned (OpenSpec.ofChange fnSiteSideWrong)

/- THE SECOND FORM. 'bulk': how many values and letters a reading holds, each counted each time it is reached (what is shared counts as often as it is met; a slice's spare places count too). A statement '..UptoSaid' is the law's where the arguments, and the package variables that the reading takes, are together of bulk at most 1048576: NARROWER than '..Said'. Prove '..Said' where nothing that the law and all that it calls make is longer than what came in: it says more and counts as full. Else prove '..UptoSaid'. A law counts once. -/
mutual
def uptoBulk {H : Type} : DataW H → Nat
  | .lit (.string bytes) => bytes.length + 1
  | .lit _ => 1
  | .nil => 1
  | .ptr d => uptoBulk d + 1
  | .slice elems spare => uptoBulkAll elems + uptoBulkAll spare + 1
  | .agg parts => uptoBulkAll parts + 1
  | .iface _ d => uptoBulk d + 1
  | .map entries => uptoBulkEntries entries + 1
  | .held _ => 1
def uptoBulkAll {H : Type} : List (DataW H) → Nat
  | [] => 0
  | d :: r => uptoBulk d + uptoBulkAll r
def uptoBulkEntries {H : Type} : List (Lit × DataW H) → Nat
  | [] => 0
  | x :: r => uptoBulkEntry x + uptoBulkEntries r
def uptoBulkEntry {H : Type} : Lit × DataW H → Nat
  | (.string bytes, d) => bytes.length + uptoBulk d + 1
  | (_, d) => uptoBulk d + 1
 end
def uptoSmall : (H : Type) → List (DataW H) → Bool := fun _ ds => decide (uptoBulkAll ds ≤ 1048576)
def OpenSpec.upto (s : _root_.Go.ChangeSpec) : _root_.Go.OpenSpec := { _root_.Go.OpenSpec.ofChange s with cond := some uptoSmall }

/-- 'laws.FnStampOrder', WHERE WHAT IT READS IS OF BULK AT MOST 1048576: true; the input reads as it did. -/
def fnStampOrderUptoRow : OpenClaim := { program := "ytlmffgeknlfpkaa", sum := "c265b440d737cd41e6a83f951ce9e3410a441b68a5b8d5b3d96a4981f4b41f58", func := "loop.example/tombolo/laws.FnStampOrder", spec := "fnStampOrder", unfollowed := true, recurses := true, apart := false, narrowed := true }
def FnStampOrderUptoSaid : Prop := fnStampOrderUptoRow.holds Try.pinned (OpenSpec.upto fnStampOrderSpec)

/-- 'laws.FnStampChain', WHERE WHAT IT READS IS OF BULK AT MOST 1048576: true; the input reads as it did. -/
def fnStampChainUptoRow : OpenClaim := { program := "ytlmffgeknlfpkaa", sum := "c265b440d737cd41e6a83f951ce9e3410a441b68a5b8d5b3d96a4981f4b41f58", func := "loop.example/tombolo/laws.FnStampChain", spec := "fnStampChain", unfollowed := true, recurses := true, apart := false, narrowed := true }
def FnStampChainUptoSaid : Prop := fnStampChainUptoRow.holds Try.pinned (OpenSpec.upto fnStampChainSpec)

/-- 'laws.FnStampNext', WHERE WHAT IT READS IS OF BULK AT MOST 1048576: true; the input reads as it did. -/
def fnStampNextUptoRow : OpenClaim := { program := "ytlmffgeknlfpkaa", sum := "c265b440d737cd41e6a83f951ce9e3410a441b68a5b8d5b3d96a4981f4b41f58", func := "loop.example/tombolo/laws.FnStampNext", spec := "fnStampNext", unfollowed := true, recurses := true, apart := false, narrowed := true }
def FnStampNextUptoSaid : Prop := fnStampNextUptoRow.holds Try.pinned (OpenSpec.upto fnStampNextSpec)

/-- 'laws.FnSiteSide', WHERE WHAT IT READS IS OF BULK AT MOST 1048576: true; the input reads as it did. -/
def fnSiteSideUptoRow : OpenClaim := { program := "ytlmffgeknlfpkaa", sum := "c265b440d737cd41e6a83f951ce9e3410a441b68a5b8d5b3d96a4981f4b41f58", func := "loop.example/tombolo/laws.FnSiteSide", spec := "fnSiteSide", apart := false, narrowed := true }
def FnSiteSideUptoSaid : Prop := fnSiteSideUptoRow.holds Try.pinned (OpenSpec.upto fnSiteSideSpec)

end Rows
end Go.Proofs.Ytlmffgeknlfpkaa
