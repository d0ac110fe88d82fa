/-
  No cell of these rows narrows 'for every input' (looked for: loops, veiled, ifaces, maps, wideKeys, modest, calm, conditions, laid).
  DERIVED. THE GIVEN ROWS OF THIS SEAT. 6 by the template 'for every input the law returns true; each argument reads behind the call as it read before'; 0 by the template 'total and deterministic' (their statements: YtpjidogilofppaaGreatTotals.lean).
  GIVEN WITH THE SEED: the statements are not yours to turn. If you find one false, say at which input.
  Laid BY PROGRAM, IN A SANDBOX (cutbox-rows.mjs): the forced cells as the released guide's own fill.sh prints them over the translation a268f14be3105299… (all of the seat's roots in one cut). By AI agents, Wed Nov 11 2026. No macro, syntax, notation, axiom, sorry.
-/
import Derived.Test.YtpjidogilofppaaGreatChecked
import GoSem.Claim
import GoSem.ClaimJoined
import GoSem.ClaimMapViews
import Derived.JoinedTies
import Derived.KernelRfl
namespace Go.Proofs.YtpjidogilofppaaGreat
/- THE CELL 'sum', in the pinned program and in every row, IS THE sha256 OF THE DUMP (.gsa) THAT YtpjidogilofppaaGreatProg.lean LOADS. Nothing in Lean hashes anything: it is a label: what it is worth is what the hold of that sum in a sandbox is worth. -/
noncomputable def Tryz.pinned : Pinned := { name := "ytpjidogilofppaagreat", sum := "a268f14be3105299b6788ede2231df3d38c6d97e9a02e89ab1e334e0e5a9bdd4", checked := Tryz.checked }
namespace Rows
def none {H : Type} : Left H := { results := [], args := [] }

/-- 'laws.FnExactServerSettle': WHATEVER THE INPUT: true; the input reads as it did. -/
def fnExactServerSettleSpec : ChangeSpec := { name := "fnExactServerSettle", fn := fun _ => fun
  | [d] => { results := [.lit (.bool true)], args := [d] }
  | _ => none }
def fnExactServerSettleRow : OpenClaim := { program := "ytpjidogilofppaagreat", sum := "a268f14be3105299b6788ede2231df3d38c6d97e9a02e89ab1e334e0e5a9bdd4", func := "loop.example/tombolo/laws.FnExactServerSettle", spec := "fnExactServerSettle", inPlace := ["slices.overlaps[int]", "slices.overlaps[loop.example/tombolo/impl.Ver]"], unfollowed := true, recurses := true, plainKeys := false, apart := false }
def FnExactServerSettleSaid : Prop := fnExactServerSettleRow.holds Tryz.pinned (OpenSpec.ofChange fnExactServerSettleSpec)

/-- ITS FALSE NEIGHBOUR: 'it returns false'. Refute it at one input. -/
def fnExactServerSettleWrong : ChangeSpec := { name := "fnExactServerSettle", fn := fun _ => fun
  | [d] => { results := [.lit (.bool false)], args := [d] }
  | _ => none }
def FnExactServerSettleWrongFalsely : Prop := fnExactServerSettleRow.holds Tryz.pinned (OpenSpec.ofChange fnExactServerSettleWrong)

/-- 'laws.FnExactServerMove': WHATEVER THE INPUT: true; the input reads as it did. -/
def fnExactServerMoveSpec : ChangeSpec := { name := "fnExactServerMove", fn := fun _ => fun
  | [d1, d2] => { results := [.lit (.bool true)], args := [d1, d2] }
  | _ => none }
def fnExactServerMoveRow : OpenClaim := { program := "ytpjidogilofppaagreat", sum := "a268f14be3105299b6788ede2231df3d38c6d97e9a02e89ab1e334e0e5a9bdd4", func := "loop.example/tombolo/laws.FnExactServerMove", spec := "fnExactServerMove", unfollowed := true, recurses := true, plainKeys := false, apart := false }
def FnExactServerMoveSaid : Prop := fnExactServerMoveRow.holds Tryz.pinned (OpenSpec.ofChange fnExactServerMoveSpec)

/-- ITS FALSE NEIGHBOUR: 'it returns false'. Refute it at one input. -/
def fnExactServerMoveWrong : ChangeSpec := { name := "fnExactServerMove", fn := fun _ => fun
  | [d1, d2] => { results := [.lit (.bool false)], args := [d1, d2] }
  | _ => none }
def FnExactServerMoveWrongFalsely : Prop := fnExactServerMoveRow.holds Tryz.pinned (OpenSpec.ofChange fnExactServerMoveWrong)

/-- 'laws.FnExactServerHear': WHATEVER THE INPUT: true; the input reads as it did. -/
def fnExactServerHearSpec : ChangeSpec := { name := "fnExactServerHear", fn := fun _ => fun
  | [d1, d2] => { results := [.lit (.bool true)], args := [d1, d2] }
  | _ => none }
def fnExactServerHearRow : OpenClaim := { program := "ytpjidogilofppaagreat", sum := "a268f14be3105299b6788ede2231df3d38c6d97e9a02e89ab1e334e0e5a9bdd4", func := "loop.example/tombolo/laws.FnExactServerHear", spec := "fnExactServerHear", unfollowed := true, recurses := true, plainKeys := false, apart := false }
def FnExactServerHearSaid : Prop := fnExactServerHearRow.holds Tryz.pinned (OpenSpec.ofChange fnExactServerHearSpec)

/-- ITS FALSE NEIGHBOUR: 'it returns false'. Refute it at one input. -/
def fnExactServerHearWrong : ChangeSpec := { name := "fnExactServerHear", fn := fun _ => fun
  | [d1, d2] => { results := [.lit (.bool false)], args := [d1, d2] }
  | _ => none }
def FnExactServerHearWrongFalsely : Prop := fnExactServerHearRow.holds Tryz.pinned (OpenSpec.ofChange fnExactServerHearWrong)

/-- 'laws.FnExactServerTend': WHATEVER THE INPUT: true; the input reads as it did. -/
def fnExactServerTendSpec : ChangeSpec := { name := "fnExactServerTend", fn := fun _ => fun
  | [d] => { results := [.lit (.bool true)], args := [d] }
  | _ => none }
def fnExactServerTendRow : OpenClaim := { program := "ytpjidogilofppaagreat", sum := "a268f14be3105299b6788ede2231df3d38c6d97e9a02e89ab1e334e0e5a9bdd4", func := "loop.example/tombolo/laws.FnExactServerTend", spec := "fnExactServerTend", inPlace := ["slices.overlaps[loop.example/tombolo/impl.Dep]"], unfollowed := true, recurses := true, plainKeys := false, apart := false }
def FnExactServerTendSaid : Prop := fnExactServerTendRow.holds Tryz.pinned (OpenSpec.ofChange fnExactServerTendSpec)

/-- ITS FALSE NEIGHBOUR: 'it returns false'. Refute it at one input. -/
def fnExactServerTendWrong : ChangeSpec := { name := "fnExactServerTend", fn := fun _ => fun
  | [d] => { results := [.lit (.bool false)], args := [d] }
  | _ => none }
def FnExactServerTendWrongFalsely : Prop := fnExactServerTendRow.holds Tryz.pinned (OpenSpec.ofChange fnExactServerTendWrong)

/-- 'laws.FnExactCallWords': WHATEVER THE INPUT: true; the input reads as it did. -/
def fnExactCallWordsSpec : ChangeSpec := { name := "fnExactCallWords", fn := fun _ => fun
  | [d] => { results := [.lit (.bool true)], args := [d] }
  | _ => none }
def fnExactCallWordsRow : OpenClaim := { program := "ytpjidogilofppaagreat", sum := "a268f14be3105299b6788ede2231df3d38c6d97e9a02e89ab1e334e0e5a9bdd4", func := "loop.example/tombolo/laws.FnExactCallWords", spec := "fnExactCallWords", unfollowed := true, recurses := true, plainKeys := false, apart := false }
def FnExactCallWordsSaid : Prop := fnExactCallWordsRow.holds Tryz.pinned (OpenSpec.ofChange fnExactCallWordsSpec)

/-- ITS FALSE NEIGHBOUR: 'it returns false'. Refute it at one input. -/
def fnExactCallWordsWrong : ChangeSpec := { name := "fnExactCallWords", fn := fun _ => fun
  | [d] => { results := [.lit (.bool false)], args := [d] }
  | _ => none }
def FnExactCallWordsWrongFalsely : Prop := fnExactCallWordsRow.holds Tryz.pinned (OpenSpec.ofChange fnExactCallWordsWrong)

/-- 'laws.FnExactCallHear': WHATEVER THE INPUT: true; the input reads as it did. -/
def fnExactCallHearSpec : ChangeSpec := { name := "fnExactCallHear", fn := fun _ => fun
  | [d1, d2, d3] => { results := [.lit (.bool true)], args := [d1, d2, d3] }
  | _ => none }
def fnExactCallHearRow : OpenClaim := { program := "ytpjidogilofppaagreat", sum := "a268f14be3105299b6788ede2231df3d38c6d97e9a02e89ab1e334e0e5a9bdd4", func := "loop.example/tombolo/laws.FnExactCallHear", spec := "fnExactCallHear", unfollowed := true, recurses := true, plainKeys := false, apart := false }
def FnExactCallHearSaid : Prop := fnExactCallHearRow.holds Tryz.pinned (OpenSpec.ofChange fnExactCallHearSpec)

/-- ITS FALSE NEIGHBOUR: 'it returns false'. Refute it at one input. -/
def fnExactCallHearWrong : ChangeSpec := { name := "fnExactCallHear", fn := fun _ => fun
  | [d1, d2, d3] => { results := [.lit (.bool false)], args := [d1, d2, d3] }
  | _ => none }
def FnExactCallHearWrongFalsely : Prop := fnExactCallHearRow.holds Tryz.pinned (OpenSpec.ofChange fnExactCallHearWrong)

/- THE SECOND FORM. 'bulk': how many values and letters a reading holds, each counted each time it is reached (what is shared counts as often as it is met; a slice's spare places count too). A statement '..UptoSaid' is the law's where the arguments, and the package variables that the reading takes, are together of bulk at most 1048576: NARROWER than '..Said'. Prove '..Said' where nothing that the law and all that it calls make is longer than what came in: it says more and counts as full. Else prove '..UptoSaid'. A law counts once. -/
mutual
def uptoBulk {H : Type} : DataW H → Nat
  | .lit (.string bytes) => bytes.length + 1
  | .lit _ => 1
  | .nil => 1
  | .ptr d => uptoBulk d + 1
  | .slice elems spare => uptoBulkAll elems + uptoBulkAll spare + 1
  | .agg parts => uptoBulkAll parts + 1
  | .iface _ d => uptoBulk d + 1
  | .map entries => uptoBulkEntries entries + 1
  | .held _ => 1
def uptoBulkAll {H : Type} : List (DataW H) → Nat
  | [] => 0
  | d :: r => uptoBulk d + uptoBulkAll r
def uptoBulkEntries {H : Type} : List (Lit × DataW H) → Nat
  | [] => 0
  | x :: r => uptoBulkEntry x + uptoBulkEntries r
def uptoBulkEntry {H : Type} : Lit × DataW H → Nat
  | (.string bytes, d) => bytes.length + uptoBulk d + 1
  | (_, d) => uptoBulk d + 1
 end
def uptoSmall : (H : Type) → List (DataW H) → Bool := fun _ ds => decide (uptoBulkAll ds ≤ 1048576)
def OpenSpec.upto (s : _root_.Go.ChangeSpec) : _root_.Go.OpenSpec := { _root_.Go.OpenSpec.ofChange s with cond := some uptoSmall }

/-- 'laws.FnExactServerSettle', WHERE WHAT IT READS IS OF BULK AT MOST 1048576: true; the input reads as it did. -/
def fnExactServerSettleUptoRow : OpenClaim := { program := "ytpjidogilofppaagreat", sum := "a268f14be3105299b6788ede2231df3d38c6d97e9a02e89ab1e334e0e5a9bdd4", func := "loop.example/tombolo/laws.FnExactServerSettle", spec := "fnExactServerSettle", inPlace := ["slices.overlaps[int]", "slices.overlaps[loop.example/tombolo/impl.Ver]"], unfollowed := true, recurses := true, plainKeys := false, apart := false, narrowed := true }
def FnExactServerSettleUptoSaid : Prop := fnExactServerSettleUptoRow.holds Tryz.pinned (OpenSpec.upto fnExactServerSettleSpec)

/-- 'laws.FnExactServerMove', WHERE WHAT IT READS IS OF BULK AT MOST 1048576: true; the input reads as it did. -/
def fnExactServerMoveUptoRow : OpenClaim := { program := "ytpjidogilofppaagreat", sum := "a268f14be3105299b6788ede2231df3d38c6d97e9a02e89ab1e334e0e5a9bdd4", func := "loop.example/tombolo/laws.FnExactServerMove", spec := "fnExactServerMove", unfollowed := true, recurses := true, plainKeys := false, apart := false, narrowed := true }
def FnExactServerMoveUptoSaid : Prop := fnExactServerMoveUptoRow.holds Tryz.pinned (OpenSpec.upto fnExactServerMoveSpec)

/-- 'laws.FnExactServerHear', WHERE WHAT IT READS IS OF BULK AT MOST 1048576: true; the input reads as it did. -/
def fnExactServerHearUptoRow : OpenClaim := { program := "ytpjidogilofppaagreat", sum := "a268f14be3105299b6788ede2231df3d38c6d97e9a02e89ab1e334e0e5a9bdd4", func := "loop.example/tombolo/laws.FnExactServerHear", spec := "fnExactServerHear", unfollowed := true, recurses := true, plainKeys := false, apart := false, narrowed := true }
def FnExactServerHearUptoSaid : Prop := fnExactServerHearUptoRow.holds Tryz.pinned (OpenSpec.upto fnExactServerHearSpec)

/-- 'laws.FnExactServerTend', WHERE WHAT IT READS IS OF BULK AT MOST 1048576: true; the input reads as it did. -/
def fnExactServerTendUptoRow : OpenClaim := { program := "ytpjidogilofppaagreat", sum := "a268f14be3105299b6788ede2231df3d38c6d97e9a02e89ab1e334e0e5a9bdd4", func := "loop.example/tombolo/laws.FnExactServerTend", spec := "fnExactServerTend", inPlace := ["slices.overlaps[loop.example/tombolo/impl.Dep]"], unfollowed := true, recurses := true, plainKeys := false, apart := false, narrowed := true }
def FnExactServerTendUptoSaid : Prop := fnExactServerTendUptoRow.holds Tryz.pinned (OpenSpec.upto fnExactServerTendSpec)

/-- 'laws.FnExactCallWords', WHERE WHAT IT READS IS OF BULK AT MOST 1048576: true; the input reads as it did. -/
def fnExactCallWordsUptoRow : OpenClaim := { program := "ytpjidogilofppaagreat", sum := "a268f14be3105299b6788ede2231df3d38c6d97e9a02e89ab1e334e0e5a9bdd4", func := "loop.example/tombolo/laws.FnExactCallWords", spec := "fnExactCallWords", unfollowed := true, recurses := true, plainKeys := false, apart := false, narrowed := true }
def FnExactCallWordsUptoSaid : Prop := fnExactCallWordsUptoRow.holds Tryz.pinned (OpenSpec.upto fnExactCallWordsSpec)

/-- 'laws.FnExactCallHear', WHERE WHAT IT READS IS OF BULK AT MOST 1048576: true; the input reads as it did. -/
def fnExactCallHearUptoRow : OpenClaim := { program := "ytpjidogilofppaagreat", sum := "a268f14be3105299b6788ede2231df3d38c6d97e9a02e89ab1e334e0e5a9bdd4", func := "loop.example/tombolo/laws.FnExactCallHear", spec := "fnExactCallHear", unfollowed := true, recurses := true, plainKeys := false, apart := false, narrowed := true }
def FnExactCallHearUptoSaid : Prop := fnExactCallHearUptoRow.holds Tryz.pinned (OpenSpec.upto fnExactCallHearSpec)

end Rows
end Go.Proofs.YtpjidogilofppaaGreat
