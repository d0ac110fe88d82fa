/-
  No cell of these rows narrows 'for every input' (looked for: loops, veiled, ifaces, maps, wideKeys, modest, calm, conditions, laid).
  DERIVED. THE GIVEN ROWS OF THIS SEAT. 25 by the template 'for every input the law returns true; each argument reads behind the call as it read before'; 0 by the template 'total and deterministic' (their statements: YtgdkoangpinieaaTotals.lean).
  GIVEN WITH THE SEED: the statements are not yours to turn. If you find one false, say at which input.
  Laid BY PROGRAM, IN A SANDBOX (cutbox-rows.mjs): the forced cells as the released guide's own fill.sh prints them over the translation d7220138bcdaadb3… (all of the seat's roots in one cut). By AI agents, Wed Nov 11 2026. No macro, syntax, notation, axiom, sorry.
-/
import Derived.Test.YtgdkoangpinieaaChecked
import GoSem.Claim
import GoSem.ClaimJoined
import GoSem.ClaimMapViews
import Derived.JoinedTies
import Derived.KernelRfl
namespace Go.Proofs.Ytgdkoangpinieaa
/- THE CELL 'sum', in the pinned program and in every row, IS THE sha256 OF THE DUMP (.gsa) THAT YtgdkoangpinieaaProg.lean LOADS. Nothing in Lean hashes anything: it is a label: what it is worth is what the hold of that sum in a sandbox is worth. -/
noncomputable def Try.pinned : Pinned := { name := "ytgdkoangpinieaa", sum := "d7220138bcdaadb310a9aef65cc531033fbb41ca1ba86a5a7fa9c15d16000797", checked := Try.checked }
namespace Rows
def none {H : Type} : Left H := { results := [], args := [] }

/-- 'laws.FnChainPut': WHATEVER THE INPUT: true; the input reads as it did. -/
def fnChainPutSpec : ChangeSpec := { name := "fnChainPut", fn := fun _ => fun
  | [d] => { results := [.lit (.bool true)], args := [d] }
  | _ => none }
def fnChainPutRow : OpenClaim := { program := "ytgdkoangpinieaa", sum := "d7220138bcdaadb310a9aef65cc531033fbb41ca1ba86a5a7fa9c15d16000797", func := "loop.example/tombolo/laws.FnChainPut", spec := "fnChainPut", inPlace := ["slices.overlaps[loop.example/tombolo/impl.Ver]"], unfollowed := true, recurses := true, apart := false }
def FnChainPutSaid : Prop := fnChainPutRow.holds Try.pinned (OpenSpec.ofChange fnChainPutSpec)

/-- ITS FALSE NEIGHBOUR: 'it returns false'. Refute it at one input. -/
def fnChainPutWrong : ChangeSpec := { name := "fnChainPut", fn := fun _ => fun
  | [d] => { results := [.lit (.bool false)], args := [d] }
  | _ => none }
def FnChainPutWrongFalsely : Prop := fnChainPutRow.holds Try.pinned (OpenSpec.ofChange fnChainPutWrong)

/-- 'laws.FnChainTurn': WHATEVER THE INPUT: true; the input reads as it did. -/
def fnChainTurnSpec : ChangeSpec := { name := "fnChainTurn", fn := fun _ => fun
  | [d1, d2] => { results := [.lit (.bool true)], args := [d1, d2] }
  | _ => none }
def fnChainTurnRow : OpenClaim := { program := "ytgdkoangpinieaa", sum := "d7220138bcdaadb310a9aef65cc531033fbb41ca1ba86a5a7fa9c15d16000797", func := "loop.example/tombolo/laws.FnChainTurn", spec := "fnChainTurn", inPlace := ["slices.overlaps[loop.example/tombolo/impl.Ver]"], unfollowed := true, recurses := true, apart := false }
def FnChainTurnSaid : Prop := fnChainTurnRow.holds Try.pinned (OpenSpec.ofChange fnChainTurnSpec)

/-- ITS FALSE NEIGHBOUR: 'it returns false'. Refute it at one input. -/
def fnChainTurnWrong : ChangeSpec := { name := "fnChainTurn", fn := fun _ => fun
  | [d1, d2] => { results := [.lit (.bool false)], args := [d1, d2] }
  | _ => none }
def FnChainTurnWrongFalsely : Prop := fnChainTurnRow.holds Try.pinned (OpenSpec.ofChange fnChainTurnWrong)

/-- 'laws.FnChainTop': WHATEVER THE INPUT: true; the input reads as it did. -/
def fnChainTopSpec : ChangeSpec := { name := "fnChainTop", fn := fun _ => fun
  | [d] => { results := [.lit (.bool true)], args := [d] }
  | _ => none }
def fnChainTopRow : OpenClaim := { program := "ytgdkoangpinieaa", sum := "d7220138bcdaadb310a9aef65cc531033fbb41ca1ba86a5a7fa9c15d16000797", func := "loop.example/tombolo/laws.FnChainTop", spec := "fnChainTop", unfollowed := true, recurses := true, apart := false }
def FnChainTopSaid : Prop := fnChainTopRow.holds Try.pinned (OpenSpec.ofChange fnChainTopSpec)

/-- ITS FALSE NEIGHBOUR: 'it returns false'. Refute it at one input. -/
def fnChainTopWrong : ChangeSpec := { name := "fnChainTop", fn := fun _ => fun
  | [d] => { results := [.lit (.bool false)], args := [d] }
  | _ => none }
def FnChainTopWrongFalsely : Prop := fnChainTopRow.holds Try.pinned (OpenSpec.ofChange fnChainTopWrong)

/-- 'laws.FnChainAt': WHATEVER THE INPUT: true; the input reads as it did. -/
def fnChainAtSpec : ChangeSpec := { name := "fnChainAt", fn := fun _ => fun
  | [d] => { results := [.lit (.bool true)], args := [d] }
  | _ => none }
def fnChainAtRow : OpenClaim := { program := "ytgdkoangpinieaa", sum := "d7220138bcdaadb310a9aef65cc531033fbb41ca1ba86a5a7fa9c15d16000797", func := "loop.example/tombolo/laws.FnChainAt", spec := "fnChainAt", unfollowed := true, recurses := true, apart := false }
def FnChainAtSaid : Prop := fnChainAtRow.holds Try.pinned (OpenSpec.ofChange fnChainAtSpec)

/-- ITS FALSE NEIGHBOUR: 'it returns false'. Refute it at one input. -/
def fnChainAtWrong : ChangeSpec := { name := "fnChainAt", fn := fun _ => fun
  | [d] => { results := [.lit (.bool false)], args := [d] }
  | _ => none }
def FnChainAtWrongFalsely : Prop := fnChainAtRow.holds Try.pinned (OpenSpec.ofChange fnChainAtWrong)

/-- 'laws.FnChainHas': WHATEVER THE INPUT: true; the input reads as it did. -/
def fnChainHasSpec : ChangeSpec := { name := "fnChainHas", fn := fun _ => fun
  | [d1, d2] => { results := [.lit (.bool true)], args := [d1, d2] }
  | _ => none }
def fnChainHasRow : OpenClaim := { program := "ytgdkoangpinieaa", sum := "d7220138bcdaadb310a9aef65cc531033fbb41ca1ba86a5a7fa9c15d16000797", func := "loop.example/tombolo/laws.FnChainHas", spec := "fnChainHas", inPlace := ["slices.overlaps[loop.example/tombolo/impl.Ver]"], unfollowed := true, recurses := true, apart := false }
def FnChainHasSaid : Prop := fnChainHasRow.holds Try.pinned (OpenSpec.ofChange fnChainHasSpec)

/-- ITS FALSE NEIGHBOUR: 'it returns false'. Refute it at one input. -/
def fnChainHasWrong : ChangeSpec := { name := "fnChainHas", fn := fun _ => fun
  | [d1, d2] => { results := [.lit (.bool false)], args := [d1, d2] }
  | _ => none }
def FnChainHasWrongFalsely : Prop := fnChainHasRow.holds Try.pinned (OpenSpec.ofChange fnChainHasWrong)

/-- 'laws.FnChainSlot': WHATEVER THE INPUT: true; the input reads as it did. -/
def fnChainSlotSpec : ChangeSpec := { name := "fnChainSlot", fn := fun _ => fun
  | [d] => { results := [.lit (.bool true)], args := [d] }
  | _ => none }
def fnChainSlotRow : OpenClaim := { program := "ytgdkoangpinieaa", sum := "d7220138bcdaadb310a9aef65cc531033fbb41ca1ba86a5a7fa9c15d16000797", func := "loop.example/tombolo/laws.FnChainSlot", spec := "fnChainSlot", inPlace := ["slices.overlaps[loop.example/tombolo/impl.Ver]"], unfollowed := true, recurses := true, apart := false }
def FnChainSlotSaid : Prop := fnChainSlotRow.holds Try.pinned (OpenSpec.ofChange fnChainSlotSpec)

/-- ITS FALSE NEIGHBOUR: 'it returns false'. Refute it at one input. -/
def fnChainSlotWrong : ChangeSpec := { name := "fnChainSlot", fn := fun _ => fun
  | [d] => { results := [.lit (.bool false)], args := [d] }
  | _ => none }
def FnChainSlotWrongFalsely : Prop := fnChainSlotRow.holds Try.pinned (OpenSpec.ofChange fnChainSlotWrong)

/-- 'laws.FnChainGrow': WHATEVER THE INPUT: true; the input reads as it did. -/
def fnChainGrowSpec : ChangeSpec := { name := "fnChainGrow", fn := fun _ => fun
  | [d] => { results := [.lit (.bool true)], args := [d] }
  | _ => none }
def fnChainGrowRow : OpenClaim := { program := "ytgdkoangpinieaa", sum := "d7220138bcdaadb310a9aef65cc531033fbb41ca1ba86a5a7fa9c15d16000797", func := "loop.example/tombolo/laws.FnChainGrow", spec := "fnChainGrow", inPlace := ["slices.overlaps[loop.example/tombolo/impl.Ver]"], unfollowed := true, recurses := true, apart := false }
def FnChainGrowSaid : Prop := fnChainGrowRow.holds Try.pinned (OpenSpec.ofChange fnChainGrowSpec)

/-- ITS FALSE NEIGHBOUR: 'it returns false'. Refute it at one input. -/
def fnChainGrowWrong : ChangeSpec := { name := "fnChainGrow", fn := fun _ => fun
  | [d] => { results := [.lit (.bool false)], args := [d] }
  | _ => none }
def FnChainGrowWrongFalsely : Prop := fnChainGrowRow.holds Try.pinned (OpenSpec.ofChange fnChainGrowWrong)

/-- 'laws.FnWordOk': WHATEVER THE INPUT: true; the input reads as it did. -/
def fnWordOkSpec : ChangeSpec := { name := "fnWordOk", fn := fun _ => fun
  | [d] => { results := [.lit (.bool true)], args := [d] }
  | _ => none }
def fnWordOkRow : OpenClaim := { program := "ytgdkoangpinieaa", sum := "d7220138bcdaadb310a9aef65cc531033fbb41ca1ba86a5a7fa9c15d16000797", func := "loop.example/tombolo/laws.FnWordOk", spec := "fnWordOk", unfollowed := true, recurses := true, apart := false }
def FnWordOkSaid : Prop := fnWordOkRow.holds Try.pinned (OpenSpec.ofChange fnWordOkSpec)

/-- ITS FALSE NEIGHBOUR: 'it returns false'. Refute it at one input. -/
def fnWordOkWrong : ChangeSpec := { name := "fnWordOk", fn := fun _ => fun
  | [d] => { results := [.lit (.bool false)], args := [d] }
  | _ => none }
def FnWordOkWrongFalsely : Prop := fnWordOkRow.holds Try.pinned (OpenSpec.ofChange fnWordOkWrong)

/-- 'laws.FnServerStart': WHATEVER THE INPUT: true; the input reads as it did. -/
def fnServerStartSpec : ChangeSpec := { name := "fnServerStart", fn := fun _ => fun
  | [d] => { results := [.lit (.bool true)], args := [d] }
  | _ => none }
def fnServerStartRow : OpenClaim := { program := "ytgdkoangpinieaa", sum := "d7220138bcdaadb310a9aef65cc531033fbb41ca1ba86a5a7fa9c15d16000797", func := "loop.example/tombolo/laws.FnServerStart", spec := "fnServerStart", unfollowed := true, recurses := true, apart := false }
def FnServerStartSaid : Prop := fnServerStartRow.holds Try.pinned (OpenSpec.ofChange fnServerStartSpec)

/-- ITS FALSE NEIGHBOUR: 'it returns false'. Refute it at one input. -/
def fnServerStartWrong : ChangeSpec := { name := "fnServerStart", fn := fun _ => fun
  | [d] => { results := [.lit (.bool false)], args := [d] }
  | _ => none }
def FnServerStartWrongFalsely : Prop := fnServerStartRow.holds Try.pinned (OpenSpec.ofChange fnServerStartWrong)

/-- 'laws.FnChainParts': WHATEVER THE INPUT: true; the input reads as it did. -/
def fnChainPartsSpec : ChangeSpec := { name := "fnChainParts", fn := fun _ => fun
  | [d] => { results := [.lit (.bool true)], args := [d] }
  | _ => none }
def fnChainPartsRow : OpenClaim := { program := "ytgdkoangpinieaa", sum := "d7220138bcdaadb310a9aef65cc531033fbb41ca1ba86a5a7fa9c15d16000797", func := "loop.example/tombolo/laws.FnChainParts", spec := "fnChainParts", unfollowed := true, recurses := true, apart := false }
def FnChainPartsSaid : Prop := fnChainPartsRow.holds Try.pinned (OpenSpec.ofChange fnChainPartsSpec)

/-- ITS FALSE NEIGHBOUR: 'it returns false'. Refute it at one input. -/
def fnChainPartsWrong : ChangeSpec := { name := "fnChainParts", fn := fun _ => fun
  | [d] => { results := [.lit (.bool false)], args := [d] }
  | _ => none }
def FnChainPartsWrongFalsely : Prop := fnChainPartsRow.holds Try.pinned (OpenSpec.ofChange fnChainPartsWrong)

/-- 'laws.FnChainNone': WHATEVER THE INPUT: true; the input reads as it did. -/
def fnChainNoneSpec : ChangeSpec := { name := "fnChainNone", fn := fun _ => fun
  | [d] => { results := [.lit (.bool true)], args := [d] }
  | _ => none }
def fnChainNoneRow : OpenClaim := { program := "ytgdkoangpinieaa", sum := "d7220138bcdaadb310a9aef65cc531033fbb41ca1ba86a5a7fa9c15d16000797", func := "loop.example/tombolo/laws.FnChainNone", spec := "fnChainNone", unfollowed := true, recurses := true, apart := false }
def FnChainNoneSaid : Prop := fnChainNoneRow.holds Try.pinned (OpenSpec.ofChange fnChainNoneSpec)

/-- ITS FALSE NEIGHBOUR: 'it returns false'. Refute it at one input. -/
def fnChainNoneWrong : ChangeSpec := { name := "fnChainNone", fn := fun _ => fun
  | [d] => { results := [.lit (.bool false)], args := [d] }
  | _ => none }
def FnChainNoneWrongFalsely : Prop := fnChainNoneRow.holds Try.pinned (OpenSpec.ofChange fnChainNoneWrong)

/-- 'laws.FnChainSelf': WHATEVER THE INPUT: true; the input reads as it did. -/
def fnChainSelfSpec : ChangeSpec := { name := "fnChainSelf", fn := fun _ => fun
  | [d] => { results := [.lit (.bool true)], args := [d] }
  | _ => none }
def fnChainSelfRow : OpenClaim := { program := "ytgdkoangpinieaa", sum := "d7220138bcdaadb310a9aef65cc531033fbb41ca1ba86a5a7fa9c15d16000797", func := "loop.example/tombolo/laws.FnChainSelf", spec := "fnChainSelf", unfollowed := true, recurses := true, apart := false }
def FnChainSelfSaid : Prop := fnChainSelfRow.holds Try.pinned (OpenSpec.ofChange fnChainSelfSpec)

/-- ITS FALSE NEIGHBOUR: 'it returns false'. Refute it at one input. -/
def fnChainSelfWrong : ChangeSpec := { name := "fnChainSelf", fn := fun _ => fun
  | [d] => { results := [.lit (.bool false)], args := [d] }
  | _ => none }
def FnChainSelfWrongFalsely : Prop := fnChainSelfRow.holds Try.pinned (OpenSpec.ofChange fnChainSelfWrong)

/-- 'laws.FnChainFull': WHATEVER THE INPUT: true; the input reads as it did. -/
def fnChainFullSpec : ChangeSpec := { name := "fnChainFull", fn := fun _ => fun
  | [d] => { results := [.lit (.bool true)], args := [d] }
  | _ => none }
def fnChainFullRow : OpenClaim := { program := "ytgdkoangpinieaa", sum := "d7220138bcdaadb310a9aef65cc531033fbb41ca1ba86a5a7fa9c15d16000797", func := "loop.example/tombolo/laws.FnChainFull", spec := "fnChainFull", inPlace := ["slices.overlaps[loop.example/tombolo/impl.Ver]"], unfollowed := true, recurses := true, apart := false }
def FnChainFullSaid : Prop := fnChainFullRow.holds Try.pinned (OpenSpec.ofChange fnChainFullSpec)

/-- ITS FALSE NEIGHBOUR: 'it returns false'. Refute it at one input. -/
def fnChainFullWrong : ChangeSpec := { name := "fnChainFull", fn := fun _ => fun
  | [d] => { results := [.lit (.bool false)], args := [d] }
  | _ => none }
def FnChainFullWrongFalsely : Prop := fnChainFullRow.holds Try.pinned (OpenSpec.ofChange fnChainFullWrong)

/-- 'laws.FnExactWordOk': WHATEVER THE INPUT: true; the input reads as it did. -/
def fnExactWordOkSpec : ChangeSpec := { name := "fnExactWordOk", fn := fun _ => fun
  | [d] => { results := [.lit (.bool true)], args := [d] }
  | _ => none }
def fnExactWordOkRow : OpenClaim := { program := "ytgdkoangpinieaa", sum := "d7220138bcdaadb310a9aef65cc531033fbb41ca1ba86a5a7fa9c15d16000797", func := "loop.example/tombolo/laws.FnExactWordOk", spec := "fnExactWordOk", unfollowed := true, recurses := true, apart := false }
def FnExactWordOkSaid : Prop := fnExactWordOkRow.holds Try.pinned (OpenSpec.ofChange fnExactWordOkSpec)

/-- ITS FALSE NEIGHBOUR: 'it returns false'. Refute it at one input. -/
def fnExactWordOkWrong : ChangeSpec := { name := "fnExactWordOk", fn := fun _ => fun
  | [d] => { results := [.lit (.bool false)], args := [d] }
  | _ => none }
def FnExactWordOkWrongFalsely : Prop := fnExactWordOkRow.holds Try.pinned (OpenSpec.ofChange fnExactWordOkWrong)

/-- 'laws.FnExactServerStart': WHATEVER THE INPUT: true; the input reads as it did. -/
def fnExactServerStartSpec : ChangeSpec := { name := "fnExactServerStart", fn := fun _ => fun
  | [d] => { results := [.lit (.bool true)], args := [d] }
  | _ => none }
def fnExactServerStartRow : OpenClaim := { program := "ytgdkoangpinieaa", sum := "d7220138bcdaadb310a9aef65cc531033fbb41ca1ba86a5a7fa9c15d16000797", func := "loop.example/tombolo/laws.FnExactServerStart", spec := "fnExactServerStart", apart := false }
def FnExactServerStartSaid : Prop := fnExactServerStartRow.holds Try.pinned (OpenSpec.ofChange fnExactServerStartSpec)

/-- ITS FALSE NEIGHBOUR: 'it returns false'. Refute it at one input. -/
def fnExactServerStartWrong : ChangeSpec := { name := "fnExactServerStart", fn := fun _ => fun
  | [d] => { results := [.lit (.bool false)], args := [d] }
  | _ => none }
def FnExactServerStartWrongFalsely : Prop := fnExactServerStartRow.holds Try.pinned (OpenSpec.ofChange fnExactServerStartWrong)

/-- 'laws.FnExactServerOk': WHATEVER THE INPUT: true; the input reads as it did. -/
def fnExactServerOkSpec : ChangeSpec := { name := "fnExactServerOk", fn := fun _ => fun
  | [d] => { results := [.lit (.bool true)], args := [d] }
  | _ => none }
def fnExactServerOkRow : OpenClaim := { program := "ytgdkoangpinieaa", sum := "d7220138bcdaadb310a9aef65cc531033fbb41ca1ba86a5a7fa9c15d16000797", func := "loop.example/tombolo/laws.FnExactServerOk", spec := "fnExactServerOk", unfollowed := true, recurses := true, apart := false }
def FnExactServerOkSaid : Prop := fnExactServerOkRow.holds Try.pinned (OpenSpec.ofChange fnExactServerOkSpec)

/-- ITS FALSE NEIGHBOUR: 'it returns false'. Refute it at one input. -/
def fnExactServerOkWrong : ChangeSpec := { name := "fnExactServerOk", fn := fun _ => fun
  | [d] => { results := [.lit (.bool false)], args := [d] }
  | _ => none }
def FnExactServerOkWrongFalsely : Prop := fnExactServerOkRow.holds Try.pinned (OpenSpec.ofChange fnExactServerOkWrong)

/-- 'laws.FnExactServerOwns': WHATEVER THE INPUT: true; the input reads as it did. -/
def fnExactServerOwnsSpec : ChangeSpec := { name := "fnExactServerOwns", fn := fun _ => fun
  | [d1, d2] => { results := [.lit (.bool true)], args := [d1, d2] }
  | _ => none }
def fnExactServerOwnsRow : OpenClaim := { program := "ytgdkoangpinieaa", sum := "d7220138bcdaadb310a9aef65cc531033fbb41ca1ba86a5a7fa9c15d16000797", func := "loop.example/tombolo/laws.FnExactServerOwns", spec := "fnExactServerOwns", unfollowed := true, recurses := true, apart := false }
def FnExactServerOwnsSaid : Prop := fnExactServerOwnsRow.holds Try.pinned (OpenSpec.ofChange fnExactServerOwnsSpec)

/-- ITS FALSE NEIGHBOUR: 'it returns false'. Refute it at one input. -/
def fnExactServerOwnsWrong : ChangeSpec := { name := "fnExactServerOwns", fn := fun _ => fun
  | [d1, d2] => { results := [.lit (.bool false)], args := [d1, d2] }
  | _ => none }
def FnExactServerOwnsWrongFalsely : Prop := fnExactServerOwnsRow.holds Try.pinned (OpenSpec.ofChange fnExactServerOwnsWrong)

/-- 'laws.FnExactServerFall': WHATEVER THE INPUT: true; the input reads as it did. -/
def fnExactServerFallSpec : ChangeSpec := { name := "fnExactServerFall", fn := fun _ => fun
  | [d] => { results := [.lit (.bool true)], args := [d] }
  | _ => none }
def fnExactServerFallRow : OpenClaim := { program := "ytgdkoangpinieaa", sum := "d7220138bcdaadb310a9aef65cc531033fbb41ca1ba86a5a7fa9c15d16000797", func := "loop.example/tombolo/laws.FnExactServerFall", spec := "fnExactServerFall", unfollowed := true, recurses := true, apart := false }
def FnExactServerFallSaid : Prop := fnExactServerFallRow.holds Try.pinned (OpenSpec.ofChange fnExactServerFallSpec)

/-- ITS FALSE NEIGHBOUR: 'it returns false'. Refute it at one input. -/
def fnExactServerFallWrong : ChangeSpec := { name := "fnExactServerFall", fn := fun _ => fun
  | [d] => { results := [.lit (.bool false)], args := [d] }
  | _ => none }
def FnExactServerFallWrongFalsely : Prop := fnExactServerFallRow.holds Try.pinned (OpenSpec.ofChange fnExactServerFallWrong)

/-- 'laws.FnExactServerRise': WHATEVER THE INPUT: true; the input reads as it did. -/
def fnExactServerRiseSpec : ChangeSpec := { name := "fnExactServerRise", fn := fun _ => fun
  | [d] => { results := [.lit (.bool true)], args := [d] }
  | _ => none }
def fnExactServerRiseRow : OpenClaim := { program := "ytgdkoangpinieaa", sum := "d7220138bcdaadb310a9aef65cc531033fbb41ca1ba86a5a7fa9c15d16000797", func := "loop.example/tombolo/laws.FnExactServerRise", spec := "fnExactServerRise", unfollowed := true, recurses := true, apart := false }
def FnExactServerRiseSaid : Prop := fnExactServerRiseRow.holds Try.pinned (OpenSpec.ofChange fnExactServerRiseSpec)

/-- ITS FALSE NEIGHBOUR: 'it returns false'. Refute it at one input. -/
def fnExactServerRiseWrong : ChangeSpec := { name := "fnExactServerRise", fn := fun _ => fun
  | [d] => { results := [.lit (.bool false)], args := [d] }
  | _ => none }
def FnExactServerRiseWrongFalsely : Prop := fnExactServerRiseRow.holds Try.pinned (OpenSpec.ofChange fnExactServerRiseWrong)

/-- 'laws.FnExactChainOk': WHATEVER THE INPUT: true; the input reads as it did. -/
def fnExactChainOkSpec : ChangeSpec := { name := "fnExactChainOk", fn := fun _ => fun
  | [d] => { results := [.lit (.bool true)], args := [d] }
  | _ => none }
def fnExactChainOkRow : OpenClaim := { program := "ytgdkoangpinieaa", sum := "d7220138bcdaadb310a9aef65cc531033fbb41ca1ba86a5a7fa9c15d16000797", func := "loop.example/tombolo/laws.FnExactChainOk", spec := "fnExactChainOk", unfollowed := true, recurses := true, apart := false }
def FnExactChainOkSaid : Prop := fnExactChainOkRow.holds Try.pinned (OpenSpec.ofChange fnExactChainOkSpec)

/-- ITS FALSE NEIGHBOUR: 'it returns false'. Refute it at one input. -/
def fnExactChainOkWrong : ChangeSpec := { name := "fnExactChainOk", fn := fun _ => fun
  | [d] => { results := [.lit (.bool false)], args := [d] }
  | _ => none }
def FnExactChainOkWrongFalsely : Prop := fnExactChainOkRow.holds Try.pinned (OpenSpec.ofChange fnExactChainOkWrong)

/-- 'laws.FnExactChainPut': WHATEVER THE INPUT: true; the input reads as it did. -/
def fnExactChainPutSpec : ChangeSpec := { name := "fnExactChainPut", fn := fun _ => fun
  | [d1, d2] => { results := [.lit (.bool true)], args := [d1, d2] }
  | _ => none }
def fnExactChainPutRow : OpenClaim := { program := "ytgdkoangpinieaa", sum := "d7220138bcdaadb310a9aef65cc531033fbb41ca1ba86a5a7fa9c15d16000797", func := "loop.example/tombolo/laws.FnExactChainPut", spec := "fnExactChainPut", inPlace := ["slices.overlaps[loop.example/tombolo/impl.Ver]"], unfollowed := true, recurses := true, apart := false }
def FnExactChainPutSaid : Prop := fnExactChainPutRow.holds Try.pinned (OpenSpec.ofChange fnExactChainPutSpec)

/-- ITS FALSE NEIGHBOUR: 'it returns false'. Refute it at one input. -/
def fnExactChainPutWrong : ChangeSpec := { name := "fnExactChainPut", fn := fun _ => fun
  | [d1, d2] => { results := [.lit (.bool false)], args := [d1, d2] }
  | _ => none }
def FnExactChainPutWrongFalsely : Prop := fnExactChainPutRow.holds Try.pinned (OpenSpec.ofChange fnExactChainPutWrong)

/-- 'laws.FnExactChainTop': WHATEVER THE INPUT: true; the input reads as it did. -/
def fnExactChainTopSpec : ChangeSpec := { name := "fnExactChainTop", fn := fun _ => fun
  | [d1, d2] => { results := [.lit (.bool true)], args := [d1, d2] }
  | _ => none }
def fnExactChainTopRow : OpenClaim := { program := "ytgdkoangpinieaa", sum := "d7220138bcdaadb310a9aef65cc531033fbb41ca1ba86a5a7fa9c15d16000797", func := "loop.example/tombolo/laws.FnExactChainTop", spec := "fnExactChainTop", unfollowed := true, recurses := true, apart := false }
def FnExactChainTopSaid : Prop := fnExactChainTopRow.holds Try.pinned (OpenSpec.ofChange fnExactChainTopSpec)

/-- ITS FALSE NEIGHBOUR: 'it returns false'. Refute it at one input. -/
def fnExactChainTopWrong : ChangeSpec := { name := "fnExactChainTop", fn := fun _ => fun
  | [d1, d2] => { results := [.lit (.bool false)], args := [d1, d2] }
  | _ => none }
def FnExactChainTopWrongFalsely : Prop := fnExactChainTopRow.holds Try.pinned (OpenSpec.ofChange fnExactChainTopWrong)

/-- 'laws.FnExactChainAt': WHATEVER THE INPUT: true; the input reads as it did. -/
def fnExactChainAtSpec : ChangeSpec := { name := "fnExactChainAt", fn := fun _ => fun
  | [d1, d2, d3] => { results := [.lit (.bool true)], args := [d1, d2, d3] }
  | _ => none }
def fnExactChainAtRow : OpenClaim := { program := "ytgdkoangpinieaa", sum := "d7220138bcdaadb310a9aef65cc531033fbb41ca1ba86a5a7fa9c15d16000797", func := "loop.example/tombolo/laws.FnExactChainAt", spec := "fnExactChainAt", unfollowed := true, recurses := true, apart := false }
def FnExactChainAtSaid : Prop := fnExactChainAtRow.holds Try.pinned (OpenSpec.ofChange fnExactChainAtSpec)

/-- ITS FALSE NEIGHBOUR: 'it returns false'. Refute it at one input. -/
def fnExactChainAtWrong : ChangeSpec := { name := "fnExactChainAt", fn := fun _ => fun
  | [d1, d2, d3] => { results := [.lit (.bool false)], args := [d1, d2, d3] }
  | _ => none }
def FnExactChainAtWrongFalsely : Prop := fnExactChainAtRow.holds Try.pinned (OpenSpec.ofChange fnExactChainAtWrong)

/-- 'laws.FnExactChainHas': WHATEVER THE INPUT: true; the input reads as it did. -/
def fnExactChainHasSpec : ChangeSpec := { name := "fnExactChainHas", fn := fun _ => fun
  | [d1, d2] => { results := [.lit (.bool true)], args := [d1, d2] }
  | _ => none }
def fnExactChainHasRow : OpenClaim := { program := "ytgdkoangpinieaa", sum := "d7220138bcdaadb310a9aef65cc531033fbb41ca1ba86a5a7fa9c15d16000797", func := "loop.example/tombolo/laws.FnExactChainHas", spec := "fnExactChainHas", unfollowed := true, recurses := true, apart := false }
def FnExactChainHasSaid : Prop := fnExactChainHasRow.holds Try.pinned (OpenSpec.ofChange fnExactChainHasSpec)

/-- ITS FALSE NEIGHBOUR: 'it returns false'. Refute it at one input. -/
def fnExactChainHasWrong : ChangeSpec := { name := "fnExactChainHas", fn := fun _ => fun
  | [d1, d2] => { results := [.lit (.bool false)], args := [d1, d2] }
  | _ => none }
def FnExactChainHasWrongFalsely : Prop := fnExactChainHasRow.holds Try.pinned (OpenSpec.ofChange fnExactChainHasWrong)

/-- 'laws.FnExactChainSlot': WHATEVER THE INPUT: true; the input reads as it did. -/
def fnExactChainSlotSpec : ChangeSpec := { name := "fnExactChainSlot", fn := fun _ => fun
  | [d1, d2] => { results := [.lit (.bool true)], args := [d1, d2] }
  | _ => none }
def fnExactChainSlotRow : OpenClaim := { program := "ytgdkoangpinieaa", sum := "d7220138bcdaadb310a9aef65cc531033fbb41ca1ba86a5a7fa9c15d16000797", func := "loop.example/tombolo/laws.FnExactChainSlot", spec := "fnExactChainSlot", unfollowed := true, recurses := true, apart := false }
def FnExactChainSlotSaid : Prop := fnExactChainSlotRow.holds Try.pinned (OpenSpec.ofChange fnExactChainSlotSpec)

/-- ITS FALSE NEIGHBOUR: 'it returns false'. Refute it at one input. -/
def fnExactChainSlotWrong : ChangeSpec := { name := "fnExactChainSlot", fn := fun _ => fun
  | [d1, d2] => { results := [.lit (.bool false)], args := [d1, d2] }
  | _ => none }
def FnExactChainSlotWrongFalsely : Prop := fnExactChainSlotRow.holds Try.pinned (OpenSpec.ofChange fnExactChainSlotWrong)

/- THE SECOND FORM. 'bulk': how many values and letters a reading holds, each counted each time it is reached (what is shared counts as often as it is met; a slice's spare places count too). A statement '..UptoSaid' is the law's where the arguments, and the package variables that the reading takes, are together of bulk at most 1048576: NARROWER than '..Said'. Prove '..Said' where nothing that the law and all that it calls make is longer than what came in: it says more and counts as full. Else prove '..UptoSaid'. A law counts once. -/
mutual
def uptoBulk {H : Type} : DataW H → Nat
  | .lit (.string bytes) => bytes.length + 1
  | .lit _ => 1
  | .nil => 1
  | .ptr d => uptoBulk d + 1
  | .slice elems spare => uptoBulkAll elems + uptoBulkAll spare + 1
  | .agg parts => uptoBulkAll parts + 1
  | .iface _ d => uptoBulk d + 1
  | .map entries => uptoBulkEntries entries + 1
  | .held _ => 1
def uptoBulkAll {H : Type} : List (DataW H) → Nat
  | [] => 0
  | d :: r => uptoBulk d + uptoBulkAll r
def uptoBulkEntries {H : Type} : List (Lit × DataW H) → Nat
  | [] => 0
  | x :: r => uptoBulkEntry x + uptoBulkEntries r
def uptoBulkEntry {H : Type} : Lit × DataW H → Nat
  | (.string bytes, d) => bytes.length + uptoBulk d + 1
  | (_, d) => uptoBulk d + 1
 end
def uptoSmall : (H : Type) → List (DataW H) → Bool := fun _ ds => decide (uptoBulkAll ds ≤ 1048576)
def OpenSpec.upto (s : _root_.Go.ChangeSpec) : _root_.Go.OpenSpec := { _root_.Go.OpenSpec.ofChange s with cond := some uptoSmall }

/-- 'laws.FnChainPut', WHERE WHAT IT READS IS OF BULK AT MOST 1048576: true; the input reads as it did. -/
def fnChainPutUptoRow : OpenClaim := { program := "ytgdkoangpinieaa", sum := "d7220138bcdaadb310a9aef65cc531033fbb41ca1ba86a5a7fa9c15d16000797", func := "loop.example/tombolo/laws.FnChainPut", spec := "fnChainPut", inPlace := ["slices.overlaps[loop.example/tombolo/impl.Ver]"], unfollowed := true, recurses := true, apart := false, narrowed := true }
def FnChainPutUptoSaid : Prop := fnChainPutUptoRow.holds Try.pinned (OpenSpec.upto fnChainPutSpec)

/-- 'laws.FnChainTurn', WHERE WHAT IT READS IS OF BULK AT MOST 1048576: true; the input reads as it did. -/
def fnChainTurnUptoRow : OpenClaim := { program := "ytgdkoangpinieaa", sum := "d7220138bcdaadb310a9aef65cc531033fbb41ca1ba86a5a7fa9c15d16000797", func := "loop.example/tombolo/laws.FnChainTurn", spec := "fnChainTurn", inPlace := ["slices.overlaps[loop.example/tombolo/impl.Ver]"], unfollowed := true, recurses := true, apart := false, narrowed := true }
def FnChainTurnUptoSaid : Prop := fnChainTurnUptoRow.holds Try.pinned (OpenSpec.upto fnChainTurnSpec)

/-- 'laws.FnChainTop', WHERE WHAT IT READS IS OF BULK AT MOST 1048576: true; the input reads as it did. -/
def fnChainTopUptoRow : OpenClaim := { program := "ytgdkoangpinieaa", sum := "d7220138bcdaadb310a9aef65cc531033fbb41ca1ba86a5a7fa9c15d16000797", func := "loop.example/tombolo/laws.FnChainTop", spec := "fnChainTop", unfollowed := true, recurses := true, apart := false, narrowed := true }
def FnChainTopUptoSaid : Prop := fnChainTopUptoRow.holds Try.pinned (OpenSpec.upto fnChainTopSpec)

/-- 'laws.FnChainAt', WHERE WHAT IT READS IS OF BULK AT MOST 1048576: true; the input reads as it did. -/
def fnChainAtUptoRow : OpenClaim := { program := "ytgdkoangpinieaa", sum := "d7220138bcdaadb310a9aef65cc531033fbb41ca1ba86a5a7fa9c15d16000797", func := "loop.example/tombolo/laws.FnChainAt", spec := "fnChainAt", unfollowed := true, recurses := true, apart := false, narrowed := true }
def FnChainAtUptoSaid : Prop := fnChainAtUptoRow.holds Try.pinned (OpenSpec.upto fnChainAtSpec)

/-- 'laws.FnChainHas', WHERE WHAT IT READS IS OF BULK AT MOST 1048576: true; the input reads as it did. -/
def fnChainHasUptoRow : OpenClaim := { program := "ytgdkoangpinieaa", sum := "d7220138bcdaadb310a9aef65cc531033fbb41ca1ba86a5a7fa9c15d16000797", func := "loop.example/tombolo/laws.FnChainHas", spec := "fnChainHas", inPlace := ["slices.overlaps[loop.example/tombolo/impl.Ver]"], unfollowed := true, recurses := true, apart := false, narrowed := true }
def FnChainHasUptoSaid : Prop := fnChainHasUptoRow.holds Try.pinned (OpenSpec.upto fnChainHasSpec)

/-- 'laws.FnChainSlot', WHERE WHAT IT READS IS OF BULK AT MOST 1048576: true; the input reads as it did. -/
def fnChainSlotUptoRow : OpenClaim := { program := "ytgdkoangpinieaa", sum := "d7220138bcdaadb310a9aef65cc531033fbb41ca1ba86a5a7fa9c15d16000797", func := "loop.example/tombolo/laws.FnChainSlot", spec := "fnChainSlot", inPlace := ["slices.overlaps[loop.example/tombolo/impl.Ver]"], unfollowed := true, recurses := true, apart := false, narrowed := true }
def FnChainSlotUptoSaid : Prop := fnChainSlotUptoRow.holds Try.pinned (OpenSpec.upto fnChainSlotSpec)

/-- 'laws.FnChainGrow', WHERE WHAT IT READS IS OF BULK AT MOST 1048576: true; the input reads as it did. -/
def fnChainGrowUptoRow : OpenClaim := { program := "ytgdkoangpinieaa", sum := "d7220138bcdaadb310a9aef65cc531033fbb41ca1ba86a5a7fa9c15d16000797", func := "loop.example/tombolo/laws.FnChainGrow", spec := "fnChainGrow", inPlace := ["slices.overlaps[loop.example/tombolo/impl.Ver]"], unfollowed := true, recurses := true, apart := false, narrowed := true }
def FnChainGrowUptoSaid : Prop := fnChainGrowUptoRow.holds Try.pinned (OpenSpec.upto fnChainGrowSpec)

/-- 'laws.FnWordOk', WHERE WHAT IT READS IS OF BULK AT MOST 1048576: true; the input reads as it did. -/
def fnWordOkUptoRow : OpenClaim := { program := "ytgdkoangpinieaa", sum := "d7220138bcdaadb310a9aef65cc531033fbb41ca1ba86a5a7fa9c15d16000797", func := "loop.example/tombolo/laws.FnWordOk", spec := "fnWordOk", unfollowed := true, recurses := true, apart := false, narrowed := true }
def FnWordOkUptoSaid : Prop := fnWordOkUptoRow.holds Try.pinned (OpenSpec.upto fnWordOkSpec)

/-- 'laws.FnServerStart', WHERE WHAT IT READS IS OF BULK AT MOST 1048576: true; the input reads as it did. -/
def fnServerStartUptoRow : OpenClaim := { program := "ytgdkoangpinieaa", sum := "d7220138bcdaadb310a9aef65cc531033fbb41ca1ba86a5a7fa9c15d16000797", func := "loop.example/tombolo/laws.FnServerStart", spec := "fnServerStart", unfollowed := true, recurses := true, apart := false, narrowed := true }
def FnServerStartUptoSaid : Prop := fnServerStartUptoRow.holds Try.pinned (OpenSpec.upto fnServerStartSpec)

/-- 'laws.FnChainParts', WHERE WHAT IT READS IS OF BULK AT MOST 1048576: true; the input reads as it did. -/
def fnChainPartsUptoRow : OpenClaim := { program := "ytgdkoangpinieaa", sum := "d7220138bcdaadb310a9aef65cc531033fbb41ca1ba86a5a7fa9c15d16000797", func := "loop.example/tombolo/laws.FnChainParts", spec := "fnChainParts", unfollowed := true, recurses := true, apart := false, narrowed := true }
def FnChainPartsUptoSaid : Prop := fnChainPartsUptoRow.holds Try.pinned (OpenSpec.upto fnChainPartsSpec)

/-- 'laws.FnChainNone', WHERE WHAT IT READS IS OF BULK AT MOST 1048576: true; the input reads as it did. -/
def fnChainNoneUptoRow : OpenClaim := { program := "ytgdkoangpinieaa", sum := "d7220138bcdaadb310a9aef65cc531033fbb41ca1ba86a5a7fa9c15d16000797", func := "loop.example/tombolo/laws.FnChainNone", spec := "fnChainNone", unfollowed := true, recurses := true, apart := false, narrowed := true }
def FnChainNoneUptoSaid : Prop := fnChainNoneUptoRow.holds Try.pinned (OpenSpec.upto fnChainNoneSpec)

/-- 'laws.FnChainSelf', WHERE WHAT IT READS IS OF BULK AT MOST 1048576: true; the input reads as it did. -/
def fnChainSelfUptoRow : OpenClaim := { program := "ytgdkoangpinieaa", sum := "d7220138bcdaadb310a9aef65cc531033fbb41ca1ba86a5a7fa9c15d16000797", func := "loop.example/tombolo/laws.FnChainSelf", spec := "fnChainSelf", unfollowed := true, recurses := true, apart := false, narrowed := true }
def FnChainSelfUptoSaid : Prop := fnChainSelfUptoRow.holds Try.pinned (OpenSpec.upto fnChainSelfSpec)

/-- 'laws.FnChainFull', WHERE WHAT IT READS IS OF BULK AT MOST 1048576: true; the input reads as it did. -/
def fnChainFullUptoRow : OpenClaim := { program := "ytgdkoangpinieaa", sum := "d7220138bcdaadb310a9aef65cc531033fbb41ca1ba86a5a7fa9c15d16000797", func := "loop.example/tombolo/laws.FnChainFull", spec := "fnChainFull", inPlace := ["slices.overlaps[loop.example/tombolo/impl.Ver]"], unfollowed := true, recurses := true, apart := false, narrowed := true }
def FnChainFullUptoSaid : Prop := fnChainFullUptoRow.holds Try.pinned (OpenSpec.upto fnChainFullSpec)

/-- 'laws.FnExactWordOk', WHERE WHAT IT READS IS OF BULK AT MOST 1048576: true; the input reads as it did. -/
def fnExactWordOkUptoRow : OpenClaim := { program := "ytgdkoangpinieaa", sum := "d7220138bcdaadb310a9aef65cc531033fbb41ca1ba86a5a7fa9c15d16000797", func := "loop.example/tombolo/laws.FnExactWordOk", spec := "fnExactWordOk", unfollowed := true, recurses := true, apart := false, narrowed := true }
def FnExactWordOkUptoSaid : Prop := fnExactWordOkUptoRow.holds Try.pinned (OpenSpec.upto fnExactWordOkSpec)

/-- 'laws.FnExactServerStart', WHERE WHAT IT READS IS OF BULK AT MOST 1048576: true; the input reads as it did. -/
def fnExactServerStartUptoRow : OpenClaim := { program := "ytgdkoangpinieaa", sum := "d7220138bcdaadb310a9aef65cc531033fbb41ca1ba86a5a7fa9c15d16000797", func := "loop.example/tombolo/laws.FnExactServerStart", spec := "fnExactServerStart", apart := false, narrowed := true }
def FnExactServerStartUptoSaid : Prop := fnExactServerStartUptoRow.holds Try.pinned (OpenSpec.upto fnExactServerStartSpec)

/-- 'laws.FnExactServerOk', WHERE WHAT IT READS IS OF BULK AT MOST 1048576: true; the input reads as it did. -/
def fnExactServerOkUptoRow : OpenClaim := { program := "ytgdkoangpinieaa", sum := "d7220138bcdaadb310a9aef65cc531033fbb41ca1ba86a5a7fa9c15d16000797", func := "loop.example/tombolo/laws.FnExactServerOk", spec := "fnExactServerOk", unfollowed := true, recurses := true, apart := false, narrowed := true }
def FnExactServerOkUptoSaid : Prop := fnExactServerOkUptoRow.holds Try.pinned (OpenSpec.upto fnExactServerOkSpec)

/-- 'laws.FnExactServerOwns', WHERE WHAT IT READS IS OF BULK AT MOST 1048576: true; the input reads as it did. -/
def fnExactServerOwnsUptoRow : OpenClaim := { program := "ytgdkoangpinieaa", sum := "d7220138bcdaadb310a9aef65cc531033fbb41ca1ba86a5a7fa9c15d16000797", func := "loop.example/tombolo/laws.FnExactServerOwns", spec := "fnExactServerOwns", unfollowed := true, recurses := true, apart := false, narrowed := true }
def FnExactServerOwnsUptoSaid : Prop := fnExactServerOwnsUptoRow.holds Try.pinned (OpenSpec.upto fnExactServerOwnsSpec)

/-- 'laws.FnExactServerFall', WHERE WHAT IT READS IS OF BULK AT MOST 1048576: true; the input reads as it did. -/
def fnExactServerFallUptoRow : OpenClaim := { program := "ytgdkoangpinieaa", sum := "d7220138bcdaadb310a9aef65cc531033fbb41ca1ba86a5a7fa9c15d16000797", func := "loop.example/tombolo/laws.FnExactServerFall", spec := "fnExactServerFall", unfollowed := true, recurses := true, apart := false, narrowed := true }
def FnExactServerFallUptoSaid : Prop := fnExactServerFallUptoRow.holds Try.pinned (OpenSpec.upto fnExactServerFallSpec)

/-- 'laws.FnExactServerRise', WHERE WHAT IT READS IS OF BULK AT MOST 1048576: true; the input reads as it did. -/
def fnExactServerRiseUptoRow : OpenClaim := { program := "ytgdkoangpinieaa", sum := "d7220138bcdaadb310a9aef65cc531033fbb41ca1ba86a5a7fa9c15d16000797", func := "loop.example/tombolo/laws.FnExactServerRise", spec := "fnExactServerRise", unfollowed := true, recurses := true, apart := false, narrowed := true }
def FnExactServerRiseUptoSaid : Prop := fnExactServerRiseUptoRow.holds Try.pinned (OpenSpec.upto fnExactServerRiseSpec)

/-- 'laws.FnExactChainOk', WHERE WHAT IT READS IS OF BULK AT MOST 1048576: true; the input reads as it did. -/
def fnExactChainOkUptoRow : OpenClaim := { program := "ytgdkoangpinieaa", sum := "d7220138bcdaadb310a9aef65cc531033fbb41ca1ba86a5a7fa9c15d16000797", func := "loop.example/tombolo/laws.FnExactChainOk", spec := "fnExactChainOk", unfollowed := true, recurses := true, apart := false, narrowed := true }
def FnExactChainOkUptoSaid : Prop := fnExactChainOkUptoRow.holds Try.pinned (OpenSpec.upto fnExactChainOkSpec)

/-- 'laws.FnExactChainPut', WHERE WHAT IT READS IS OF BULK AT MOST 1048576: true; the input reads as it did. -/
def fnExactChainPutUptoRow : OpenClaim := { program := "ytgdkoangpinieaa", sum := "d7220138bcdaadb310a9aef65cc531033fbb41ca1ba86a5a7fa9c15d16000797", func := "loop.example/tombolo/laws.FnExactChainPut", spec := "fnExactChainPut", inPlace := ["slices.overlaps[loop.example/tombolo/impl.Ver]"], unfollowed := true, recurses := true, apart := false, narrowed := true }
def FnExactChainPutUptoSaid : Prop := fnExactChainPutUptoRow.holds Try.pinned (OpenSpec.upto fnExactChainPutSpec)

/-- 'laws.FnExactChainTop', WHERE WHAT IT READS IS OF BULK AT MOST 1048576: true; the input reads as it did. -/
def fnExactChainTopUptoRow : OpenClaim := { program := "ytgdkoangpinieaa", sum := "d7220138bcdaadb310a9aef65cc531033fbb41ca1ba86a5a7fa9c15d16000797", func := "loop.example/tombolo/laws.FnExactChainTop", spec := "fnExactChainTop", unfollowed := true, recurses := true, apart := false, narrowed := true }
def FnExactChainTopUptoSaid : Prop := fnExactChainTopUptoRow.holds Try.pinned (OpenSpec.upto fnExactChainTopSpec)

/-- 'laws.FnExactChainAt', WHERE WHAT IT READS IS OF BULK AT MOST 1048576: true; the input reads as it did. -/
def fnExactChainAtUptoRow : OpenClaim := { program := "ytgdkoangpinieaa", sum := "d7220138bcdaadb310a9aef65cc531033fbb41ca1ba86a5a7fa9c15d16000797", func := "loop.example/tombolo/laws.FnExactChainAt", spec := "fnExactChainAt", unfollowed := true, recurses := true, apart := false, narrowed := true }
def FnExactChainAtUptoSaid : Prop := fnExactChainAtUptoRow.holds Try.pinned (OpenSpec.upto fnExactChainAtSpec)

/-- 'laws.FnExactChainHas', WHERE WHAT IT READS IS OF BULK AT MOST 1048576: true; the input reads as it did. -/
def fnExactChainHasUptoRow : OpenClaim := { program := "ytgdkoangpinieaa", sum := "d7220138bcdaadb310a9aef65cc531033fbb41ca1ba86a5a7fa9c15d16000797", func := "loop.example/tombolo/laws.FnExactChainHas", spec := "fnExactChainHas", unfollowed := true, recurses := true, apart := false, narrowed := true }
def FnExactChainHasUptoSaid : Prop := fnExactChainHasUptoRow.holds Try.pinned (OpenSpec.upto fnExactChainHasSpec)

/-- 'laws.FnExactChainSlot', WHERE WHAT IT READS IS OF BULK AT MOST 1048576: true; the input reads as it did. -/
def fnExactChainSlotUptoRow : OpenClaim := { program := "ytgdkoangpinieaa", sum := "d7220138bcdaadb310a9aef65cc531033fbb41ca1ba86a5a7fa9c15d16000797", func := "loop.example/tombolo/laws.FnExactChainSlot", spec := "fnExactChainSlot", unfollowed := true, recurses := true, apart := false, narrowed := true }
def FnExactChainSlotUptoSaid : Prop := fnExactChainSlotUptoRow.holds Try.pinned (OpenSpec.upto fnExactChainSlotSpec)

end Rows
end Go.Proofs.Ytgdkoangpinieaa
