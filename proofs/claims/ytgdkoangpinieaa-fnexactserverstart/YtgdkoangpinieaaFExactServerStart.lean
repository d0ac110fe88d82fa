/- The closed facts of the row of FnExactServerStart: each is checked apart. -/
import Derived.Test.YtgdkoangpinieaaFP
namespace Go.Proofs.Ytgdkoangpinieaa.fnExactServerStart
open Go
set_option linter.unusedVariables false

theorem band {a b : Bool} (ha : a = true) (hb : b = true) : (a && b) = true := by rw [ha, hb]; rfl
theorem bl {a b : Bool} (h : (a && b) = true) : a = true := by cases a <;> simp_all
theorem br {a b : Bool} (h : (a && b) = true) : b = true := by cases b <;> simp_all
theorem heavy : ((Rows.fnExactServerStartRow.inPlace == Try.checked.prog.inPlace 17) && (Rows.fnExactServerStartRow.unfollowed == Try.checked.prog.unfollowed 17) && (Rows.fnExactServerStartRow.recurses == Try.checked.prog.recurses 17) && (Rows.fnExactServerStartRow.named == Try.checked.prog.varsNamed 17) : Bool) = true := by kernel_rfl
theorem k0 : (Rows.fnExactServerStartRow.wf (OpenSpec.ofChange Rows.fnExactServerStartSpec) : Bool) = true := by kernel_rfl
theorem k1 : (laidOutB Try.checked.prog : Bool) = true := FP.p1
theorem k2 : (mapsRowed Try.checked.prog : Bool) = true := FP.p2
theorem k3 : (Try.f17.params.all (Try.checked.prog.readableRec ·) : Bool) = true := by kernel_rfl
theorem k4 : (namedTie Try.checked.prog Rows.fnExactServerStartRow.named Rows.fnExactServerStartSpec.vars : Bool) = true := by kernel_rfl
theorem k5 : ((Rows.fnExactServerStartRow.stops == []) : Bool) = true := by kernel_rfl
theorem k6 : ((Try.checked.prog.stops == []) : Bool) = true := FP.p6
theorem k7 : ((Rows.fnExactServerStartRow.knobs == []) : Bool) = true := by kernel_rfl
theorem k8 : ((Try.checked.prog.stopKnobs == []) : Bool) = true := FP.p8
theorem k9 : ((Rows.fnExactServerStartRow.inPlace == Try.checked.prog.inPlace 17) : Bool) = true := bl (bl (bl heavy))
theorem k10 : ((Rows.fnExactServerStartRow.unfollowed == Try.checked.prog.unfollowed 17) : Bool) = true := br (bl (bl heavy))
theorem k11 : ((Rows.fnExactServerStartRow.recurses == Try.checked.prog.recurses 17) : Bool) = true := br (bl heavy)
theorem k12 : ((Rows.fnExactServerStartRow.named == Try.checked.prog.varsNamed 17) : Bool) = true := br heavy
theorem k13 : ((Rows.fnExactServerStartRow.maps == (Try.f17.params.toList ++ Rows.fnExactServerStartSpec.plain.varTypes Try.checked.prog).any (Try.checked.prog.mapsRec ·)) : Bool) = true := by kernel_rfl
theorem k14 : ((Rows.fnExactServerStartRow.ifaces == (Try.f17.params.toList ++ Rows.fnExactServerStartSpec.plain.varTypes Try.checked.prog).any (Try.checked.prog.ifacesRec ·)) : Bool) = true := by kernel_rfl
theorem k15 : ((Rows.fnExactServerStartRow.mapsOut == Try.checked.prog.mapsAmong Try.f17.resultTypes.toList) : Bool) = true := by kernel_rfl
theorem k16 : ((Rows.fnExactServerStartRow.loops == (Try.f17.params.toList ++ Rows.fnExactServerStartSpec.plain.varTypes Try.checked.prog).any (Try.checked.prog.loopsFrom ·)) : Bool) = true := by kernel_rfl
theorem k17 : ((Rows.fnExactServerStartRow.wideKeys == (Try.f17.params.toList ++ Rows.fnExactServerStartSpec.plain.varTypes Try.checked.prog ++ Try.f17.resultTypes.toList).any (Try.checked.prog.wideKeysFrom ·)) : Bool) = true := by kernel_rfl
theorem k18 : (Rows.fnExactServerStartSpec.vars.all (Try.checked.prog.varReadable ·) : Bool) = true := by kernel_rfl
theorem k19 : (Try.f17.resultTypes.all (fun t => Try.checked.prog.readableRec t && decide (t < Try.checked.prog.types.size)) : Bool) = true := by kernel_rfl
theorem k20 : ((Rows.fnExactServerStartRow.ifacesOut == Try.f17.resultTypes.toList.any (Try.checked.prog.ifacesRec ·)) : Bool) = true := by kernel_rfl
theorem k21 : ((Rows.fnExactServerStartRow.loopsOut == Try.f17.resultTypes.toList.any (Try.checked.prog.loopsFrom ·)) : Bool) = true := by kernel_rfl
theorem k22 : ((Rows.fnExactServerStartRow.plainKeys == Try.checked.prog.plainKeys) : Bool) = true := by kernel_rfl
theorem k23 : (Rows.fnExactServerStartRow.shortTexts.isNone : Bool) = true := by kernel_rfl
theorem k24 : (Try.checked.prog.stopsHeard : Bool) = true := FP.p24
theorem k25 : (Try.checked.prog.mayEnter : Bool) = true := FP.p25
theorem k26 : ((Rows.fnExactServerStartRow.lifted == Try.checked.prog.liftsFinal) : Bool) = true := (congrArg (fun b => (Rows.fnExactServerStartRow.lifted == b)) FP.lifts).trans (by kernel_rfl)
theorem k27 : ((Try.checked.prog.make == some Rows.fnExactServerStartRow.make) : Bool) = true := (congrArg (fun m => (m == some Rows.fnExactServerStartRow.make)) FP.make).trans (by kernel_rfl)
theorem k28 : ((Rows.fnExactServerStartRow.kinds == (if Rows.fnExactServerStartRow.domain.isEmpty then [] else Try.f17.params.toList.map fun t => match Try.checked.prog.underlying t with | some (.int k) => some k | _ => none)) : Bool) = true := by kernel_rfl
theorem k29 : ((Rows.fnExactServerStartRow.pinned == Rows.fnExactServerStartRow.pinnedBy) : Bool) = true := by kernel_rfl
theorem k30 : ((Rows.fnExactServerStartRow.veiled == (Try.f17.params.toList ++ Rows.fnExactServerStartSpec.plain.varTypes Try.checked.prog ++ Try.f17.resultTypes.toList).any (Try.checked.prog.veiledRec ·)) : Bool) = true := by kernel_rfl
theorem k31 : (Rows.fnExactServerStartRow.veiledFits Try.checked.prog Try.f17.params.toList (Try.f17.params.toList ++ Rows.fnExactServerStartSpec.plain.varTypes Try.checked.prog ++ Try.f17.resultTypes.toList) : Bool) = true := by kernel_rfl
set_option maxRecDepth 100000 in
theorem closed : joinedFacts Try.checked.prog 17 Try.f17 Rows.fnExactServerStartSpec Rows.fnExactServerStartRow = true := by
  unfold joinedFacts
  exact (band (band (band (band (band (band (band (band (band (band (band (band (band (band (band (band (band (band (band (band (band (band (band (band (band (band (band (band (band (band (band k0 k1) k2) k3) k4) k5) k6) k7) k8) k9) k10) k11) k12) k13) k14) k15) k16) k17) k18) k19) k20) k21) k22) k23) k24) k25) k26) k27) k28) k29) k30) k31)

end Go.Proofs.Ytgdkoangpinieaa.fnExactServerStart
