/- The closed facts of the row of FnChainSlot: each is checked apart. -/
import Derived.Test.YtgdkoangpinieaaFP
namespace Go.Proofs.Ytgdkoangpinieaa.fnChainSlot
open Go
set_option linter.unusedVariables false

theorem band {a b : Bool} (ha : a = true) (hb : b = true) : (a && b) = true := by rw [ha, hb]; rfl
theorem bl {a b : Bool} (h : (a && b) = true) : a = true := by cases a <;> simp_all
theorem br {a b : Bool} (h : (a && b) = true) : b = true := by cases b <;> simp_all
theorem heavy : ((Rows.fnChainSlotRow.inPlace == Try.checked.prog.inPlace 8) && (Rows.fnChainSlotRow.unfollowed == Try.checked.prog.unfollowed 8) && (Rows.fnChainSlotRow.recurses == Try.checked.prog.recurses 8) && (Rows.fnChainSlotRow.named == Try.checked.prog.varsNamed 8) : Bool) = true := by kernel_rfl
theorem k0 : (Rows.fnChainSlotRow.wf (OpenSpec.ofChange Rows.fnChainSlotSpec) : Bool) = true := by kernel_rfl
theorem k1 : (laidOutB Try.checked.prog : Bool) = true := FP.p1
theorem k2 : (mapsRowed Try.checked.prog : Bool) = true := FP.p2
theorem k3 : (Try.f8.params.all (Try.checked.prog.readableRec ·) : Bool) = true := by kernel_rfl
theorem k4 : (namedTie Try.checked.prog Rows.fnChainSlotRow.named Rows.fnChainSlotSpec.vars : Bool) = true := by kernel_rfl
theorem k5 : ((Rows.fnChainSlotRow.stops == []) : Bool) = true := by kernel_rfl
theorem k6 : ((Try.checked.prog.stops == []) : Bool) = true := FP.p6
theorem k7 : ((Rows.fnChainSlotRow.knobs == []) : Bool) = true := by kernel_rfl
theorem k8 : ((Try.checked.prog.stopKnobs == []) : Bool) = true := FP.p8
theorem k9 : ((Rows.fnChainSlotRow.inPlace == Try.checked.prog.inPlace 8) : Bool) = true := bl (bl (bl heavy))
theorem k10 : ((Rows.fnChainSlotRow.unfollowed == Try.checked.prog.unfollowed 8) : Bool) = true := br (bl (bl heavy))
theorem k11 : ((Rows.fnChainSlotRow.recurses == Try.checked.prog.recurses 8) : Bool) = true := br (bl heavy)
theorem k12 : ((Rows.fnChainSlotRow.named == Try.checked.prog.varsNamed 8) : Bool) = true := br heavy
theorem k13 : ((Rows.fnChainSlotRow.maps == (Try.f8.params.toList ++ Rows.fnChainSlotSpec.plain.varTypes Try.checked.prog).any (Try.checked.prog.mapsRec ·)) : Bool) = true := by kernel_rfl
theorem k14 : ((Rows.fnChainSlotRow.ifaces == (Try.f8.params.toList ++ Rows.fnChainSlotSpec.plain.varTypes Try.checked.prog).any (Try.checked.prog.ifacesRec ·)) : Bool) = true := by kernel_rfl
theorem k15 : ((Rows.fnChainSlotRow.mapsOut == Try.checked.prog.mapsAmong Try.f8.resultTypes.toList) : Bool) = true := by kernel_rfl
theorem k16 : ((Rows.fnChainSlotRow.loops == (Try.f8.params.toList ++ Rows.fnChainSlotSpec.plain.varTypes Try.checked.prog).any (Try.checked.prog.loopsFrom ·)) : Bool) = true := by kernel_rfl
theorem k17 : ((Rows.fnChainSlotRow.wideKeys == (Try.f8.params.toList ++ Rows.fnChainSlotSpec.plain.varTypes Try.checked.prog ++ Try.f8.resultTypes.toList).any (Try.checked.prog.wideKeysFrom ·)) : Bool) = true := by kernel_rfl
theorem k18 : (Rows.fnChainSlotSpec.vars.all (Try.checked.prog.varReadable ·) : Bool) = true := by kernel_rfl
theorem k19 : (Try.f8.resultTypes.all (fun t => Try.checked.prog.readableRec t && decide (t < Try.checked.prog.types.size)) : Bool) = true := by kernel_rfl
theorem k20 : ((Rows.fnChainSlotRow.ifacesOut == Try.f8.resultTypes.toList.any (Try.checked.prog.ifacesRec ·)) : Bool) = true := by kernel_rfl
theorem k21 : ((Rows.fnChainSlotRow.loopsOut == Try.f8.resultTypes.toList.any (Try.checked.prog.loopsFrom ·)) : Bool) = true := by kernel_rfl
theorem k22 : ((Rows.fnChainSlotRow.plainKeys == Try.checked.prog.plainKeys) : Bool) = true := by kernel_rfl
theorem k23 : (Rows.fnChainSlotRow.shortTexts.isNone : Bool) = true := by kernel_rfl
theorem k24 : (Try.checked.prog.stopsHeard : Bool) = true := FP.p24
theorem k25 : (Try.checked.prog.mayEnter : Bool) = true := FP.p25
theorem k26 : ((Rows.fnChainSlotRow.lifted == Try.checked.prog.liftsFinal) : Bool) = true := (congrArg (fun b => (Rows.fnChainSlotRow.lifted == b)) FP.lifts).trans (by kernel_rfl)
theorem k27 : ((Try.checked.prog.make == some Rows.fnChainSlotRow.make) : Bool) = true := (congrArg (fun m => (m == some Rows.fnChainSlotRow.make)) FP.make).trans (by kernel_rfl)
theorem k28 : ((Rows.fnChainSlotRow.kinds == (if Rows.fnChainSlotRow.domain.isEmpty then [] else Try.f8.params.toList.map fun t => match Try.checked.prog.underlying t with | some (.int k) => some k | _ => none)) : Bool) = true := by kernel_rfl
theorem k29 : ((Rows.fnChainSlotRow.pinned == Rows.fnChainSlotRow.pinnedBy) : Bool) = true := by kernel_rfl
theorem k30 : ((Rows.fnChainSlotRow.veiled == (Try.f8.params.toList ++ Rows.fnChainSlotSpec.plain.varTypes Try.checked.prog ++ Try.f8.resultTypes.toList).any (Try.checked.prog.veiledRec ·)) : Bool) = true := by kernel_rfl
theorem k31 : (Rows.fnChainSlotRow.veiledFits Try.checked.prog Try.f8.params.toList (Try.f8.params.toList ++ Rows.fnChainSlotSpec.plain.varTypes Try.checked.prog ++ Try.f8.resultTypes.toList) : Bool) = true := by kernel_rfl
set_option maxRecDepth 100000 in
theorem closed : joinedFacts Try.checked.prog 8 Try.f8 Rows.fnChainSlotSpec Rows.fnChainSlotRow = true := by
  unfold joinedFacts
  exact (band (band (band (band (band (band (band (band (band (band (band (band (band (band (band (band (band (band (band (band (band (band (band (band (band (band (band (band (band (band (band k0 k1) k2) k3) k4) k5) k6) k7) k8) k9) k10) k11) k12) k13) k14) k15) k16) k17) k18) k19) k20) k21) k22) k23) k24) k25) k26) k27) k28) k29) k30) k31)

end Go.Proofs.Ytgdkoangpinieaa.fnChainSlot
