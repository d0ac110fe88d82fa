/- The closed facts of the row of FnExactChainTop: each is checked apart. -/
import Derived.Test.YtgdkoangpinieaaFP
namespace Go.Proofs.Ytgdkoangpinieaa.fnExactChainTop
open Go
set_option linter.unusedVariables false

theorem band {a b : Bool} (ha : a = true) (hb : b = true) : (a && b) = true := by rw [ha, hb]; rfl
theorem bl {a b : Bool} (h : (a && b) = true) : a = true := by cases a <;> simp_all
theorem br {a b : Bool} (h : (a && b) = true) : b = true := by cases b <;> simp_all
theorem heavy : ((Rows.fnExactChainTopRow.inPlace == Try.checked.prog.inPlace 24) && (Rows.fnExactChainTopRow.unfollowed == Try.checked.prog.unfollowed 24) && (Rows.fnExactChainTopRow.recurses == Try.checked.prog.recurses 24) && (Rows.fnExactChainTopRow.named == Try.checked.prog.varsNamed 24) : Bool) = true := by kernel_rfl
theorem k0 : (Rows.fnExactChainTopRow.wf (OpenSpec.ofChange Rows.fnExactChainTopSpec) : Bool) = true := by kernel_rfl
theorem k1 : (laidOutB Try.checked.prog : Bool) = true := FP.p1
theorem k2 : (mapsRowed Try.checked.prog : Bool) = true := FP.p2
theorem k3 : (Try.f24.params.all (Try.checked.prog.readableRec ·) : Bool) = true := by kernel_rfl
theorem k4 : (namedTie Try.checked.prog Rows.fnExactChainTopRow.named Rows.fnExactChainTopSpec.vars : Bool) = true := by kernel_rfl
theorem k5 : ((Rows.fnExactChainTopRow.stops == []) : Bool) = true := by kernel_rfl
theorem k6 : ((Try.checked.prog.stops == []) : Bool) = true := FP.p6
theorem k7 : ((Rows.fnExactChainTopRow.knobs == []) : Bool) = true := by kernel_rfl
theorem k8 : ((Try.checked.prog.stopKnobs == []) : Bool) = true := FP.p8
theorem k9 : ((Rows.fnExactChainTopRow.inPlace == Try.checked.prog.inPlace 24) : Bool) = true := bl (bl (bl heavy))
theorem k10 : ((Rows.fnExactChainTopRow.unfollowed == Try.checked.prog.unfollowed 24) : Bool) = true := br (bl (bl heavy))
theorem k11 : ((Rows.fnExactChainTopRow.recurses == Try.checked.prog.recurses 24) : Bool) = true := br (bl heavy)
theorem k12 : ((Rows.fnExactChainTopRow.named == Try.checked.prog.varsNamed 24) : Bool) = true := br heavy
theorem k13 : ((Rows.fnExactChainTopRow.maps == (Try.f24.params.toList ++ Rows.fnExactChainTopSpec.plain.varTypes Try.checked.prog).any (Try.checked.prog.mapsRec ·)) : Bool) = true := by kernel_rfl
theorem k14 : ((Rows.fnExactChainTopRow.ifaces == (Try.f24.params.toList ++ Rows.fnExactChainTopSpec.plain.varTypes Try.checked.prog).any (Try.checked.prog.ifacesRec ·)) : Bool) = true := by kernel_rfl
theorem k15 : ((Rows.fnExactChainTopRow.mapsOut == Try.checked.prog.mapsAmong Try.f24.resultTypes.toList) : Bool) = true := by kernel_rfl
theorem k16 : ((Rows.fnExactChainTopRow.loops == (Try.f24.params.toList ++ Rows.fnExactChainTopSpec.plain.varTypes Try.checked.prog).any (Try.checked.prog.loopsFrom ·)) : Bool) = true := by kernel_rfl
theorem k17 : ((Rows.fnExactChainTopRow.wideKeys == (Try.f24.params.toList ++ Rows.fnExactChainTopSpec.plain.varTypes Try.checked.prog ++ Try.f24.resultTypes.toList).any (Try.checked.prog.wideKeysFrom ·)) : Bool) = true := by kernel_rfl
theorem k18 : (Rows.fnExactChainTopSpec.vars.all (Try.checked.prog.varReadable ·) : Bool) = true := by kernel_rfl
theorem k19 : (Try.f24.resultTypes.all (fun t => Try.checked.prog.readableRec t && decide (t < Try.checked.prog.types.size)) : Bool) = true := by kernel_rfl
theorem k20 : ((Rows.fnExactChainTopRow.ifacesOut == Try.f24.resultTypes.toList.any (Try.checked.prog.ifacesRec ·)) : Bool) = true := by kernel_rfl
theorem k21 : ((Rows.fnExactChainTopRow.loopsOut == Try.f24.resultTypes.toList.any (Try.checked.prog.loopsFrom ·)) : Bool) = true := by kernel_rfl
theorem k22 : ((Rows.fnExactChainTopRow.plainKeys == Try.checked.prog.plainKeys) : Bool) = true := by kernel_rfl
theorem k23 : (Rows.fnExactChainTopRow.shortTexts.isNone : Bool) = true := by kernel_rfl
theorem k24 : (Try.checked.prog.stopsHeard : Bool) = true := FP.p24
theorem k25 : (Try.checked.prog.mayEnter : Bool) = true := FP.p25
theorem k26 : ((Rows.fnExactChainTopRow.lifted == Try.checked.prog.liftsFinal) : Bool) = true := (congrArg (fun b => (Rows.fnExactChainTopRow.lifted == b)) FP.lifts).trans (by kernel_rfl)
theorem k27 : ((Try.checked.prog.make == some Rows.fnExactChainTopRow.make) : Bool) = true := (congrArg (fun m => (m == some Rows.fnExactChainTopRow.make)) FP.make).trans (by kernel_rfl)
theorem k28 : ((Rows.fnExactChainTopRow.kinds == (if Rows.fnExactChainTopRow.domain.isEmpty then [] else Try.f24.params.toList.map fun t => match Try.checked.prog.underlying t with | some (.int k) => some k | _ => none)) : Bool) = true := by kernel_rfl
theorem k29 : ((Rows.fnExactChainTopRow.pinned == Rows.fnExactChainTopRow.pinnedBy) : Bool) = true := by kernel_rfl
theorem k30 : ((Rows.fnExactChainTopRow.veiled == (Try.f24.params.toList ++ Rows.fnExactChainTopSpec.plain.varTypes Try.checked.prog ++ Try.f24.resultTypes.toList).any (Try.checked.prog.veiledRec ·)) : Bool) = true := by kernel_rfl
theorem k31 : (Rows.fnExactChainTopRow.veiledFits Try.checked.prog Try.f24.params.toList (Try.f24.params.toList ++ Rows.fnExactChainTopSpec.plain.varTypes Try.checked.prog ++ Try.f24.resultTypes.toList) : Bool) = true := by kernel_rfl
set_option maxRecDepth 100000 in
theorem closed : joinedFacts Try.checked.prog 24 Try.f24 Rows.fnExactChainTopSpec Rows.fnExactChainTopRow = true := by
  unfold joinedFacts
  exact (band (band (band (band (band (band (band (band (band (band (band (band (band (band (band (band (band (band (band (band (band (band (band (band (band (band (band (band (band (band (band k0 k1) k2) k3) k4) k5) k6) k7) k8) k9) k10) k11) k12) k13) k14) k15) k16) k17) k18) k19) k20) k21) k22) k23) k24) k25) k26) k27) k28) k29) k30) k31)

end Go.Proofs.Ytgdkoangpinieaa.fnExactChainTop
