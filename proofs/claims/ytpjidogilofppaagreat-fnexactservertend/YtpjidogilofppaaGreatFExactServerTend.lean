/- The closed facts of the row of FnExactServerTend: each is checked apart. -/
import Derived.Test.YtpjidogilofppaaGreatFP
namespace Go.Proofs.YtpjidogilofppaaGreat.fnExactServerTend
open Go
set_option linter.unusedVariables false

theorem band {a b : Bool} (ha : a = true) (hb : b = true) : (a && b) = true := by rw [ha, hb]; rfl
theorem bl {a b : Bool} (h : (a && b) = true) : a = true := by cases a <;> simp_all
theorem br {a b : Bool} (h : (a && b) = true) : b = true := by cases b <;> simp_all
theorem heavy : ((Rows.fnExactServerTendRow.inPlace == Tryz.checked.prog.inPlace 6) && (Rows.fnExactServerTendRow.unfollowed == Tryz.checked.prog.unfollowed 6) && (Rows.fnExactServerTendRow.recurses == Tryz.checked.prog.recurses 6) && (Rows.fnExactServerTendRow.named == Tryz.checked.prog.varsNamed 6) : Bool) = true := by kernel_rfl
theorem k0 : (Rows.fnExactServerTendRow.wf (OpenSpec.ofChange Rows.fnExactServerTendSpec) : Bool) = true := by kernel_rfl
theorem k1 : (laidOutB Tryz.checked.prog : Bool) = true := FP.p1
theorem k2 : (mapsRowed Tryz.checked.prog : Bool) = true := FP.p2
theorem k3 : (Tryz.f6.params.all (Tryz.checked.prog.readableRec ·) : Bool) = true := by kernel_rfl
theorem k4 : (namedTie Tryz.checked.prog Rows.fnExactServerTendRow.named Rows.fnExactServerTendSpec.vars : Bool) = true := by kernel_rfl
theorem k5 : ((Rows.fnExactServerTendRow.stops == []) : Bool) = true := by kernel_rfl
theorem k6 : ((Tryz.checked.prog.stops == []) : Bool) = true := FP.p6
theorem k7 : ((Rows.fnExactServerTendRow.knobs == []) : Bool) = true := by kernel_rfl
theorem k8 : ((Tryz.checked.prog.stopKnobs == []) : Bool) = true := FP.p8
theorem k9 : ((Rows.fnExactServerTendRow.inPlace == Tryz.checked.prog.inPlace 6) : Bool) = true := bl (bl (bl heavy))
theorem k10 : ((Rows.fnExactServerTendRow.unfollowed == Tryz.checked.prog.unfollowed 6) : Bool) = true := br (bl (bl heavy))
theorem k11 : ((Rows.fnExactServerTendRow.recurses == Tryz.checked.prog.recurses 6) : Bool) = true := br (bl heavy)
theorem k12 : ((Rows.fnExactServerTendRow.named == Tryz.checked.prog.varsNamed 6) : Bool) = true := br heavy
theorem k13 : ((Rows.fnExactServerTendRow.maps == (Tryz.f6.params.toList ++ Rows.fnExactServerTendSpec.plain.varTypes Tryz.checked.prog).any (Tryz.checked.prog.mapsRec ·)) : Bool) = true := by kernel_rfl
theorem k14 : ((Rows.fnExactServerTendRow.ifaces == (Tryz.f6.params.toList ++ Rows.fnExactServerTendSpec.plain.varTypes Tryz.checked.prog).any (Tryz.checked.prog.ifacesRec ·)) : Bool) = true := by kernel_rfl
theorem k15 : ((Rows.fnExactServerTendRow.mapsOut == Tryz.checked.prog.mapsAmong Tryz.f6.resultTypes.toList) : Bool) = true := by kernel_rfl
theorem k16 : ((Rows.fnExactServerTendRow.loops == (Tryz.f6.params.toList ++ Rows.fnExactServerTendSpec.plain.varTypes Tryz.checked.prog).any (Tryz.checked.prog.loopsFrom ·)) : Bool) = true := by kernel_rfl
theorem k17 : ((Rows.fnExactServerTendRow.wideKeys == (Tryz.f6.params.toList ++ Rows.fnExactServerTendSpec.plain.varTypes Tryz.checked.prog ++ Tryz.f6.resultTypes.toList).any (Tryz.checked.prog.wideKeysFrom ·)) : Bool) = true := by kernel_rfl
theorem k18 : (Rows.fnExactServerTendSpec.vars.all (Tryz.checked.prog.varReadable ·) : Bool) = true := by kernel_rfl
theorem k19 : (Tryz.f6.resultTypes.all (fun t => Tryz.checked.prog.readableRec t && decide (t < Tryz.checked.prog.types.size)) : Bool) = true := by kernel_rfl
theorem k20 : ((Rows.fnExactServerTendRow.ifacesOut == Tryz.f6.resultTypes.toList.any (Tryz.checked.prog.ifacesRec ·)) : Bool) = true := by kernel_rfl
theorem k21 : ((Rows.fnExactServerTendRow.loopsOut == Tryz.f6.resultTypes.toList.any (Tryz.checked.prog.loopsFrom ·)) : Bool) = true := by kernel_rfl
theorem k22 : ((Rows.fnExactServerTendRow.plainKeys == Tryz.checked.prog.plainKeys) : Bool) = true := by kernel_rfl
theorem k23 : (Rows.fnExactServerTendRow.shortTexts.isNone : Bool) = true := by kernel_rfl
theorem k24 : (Tryz.checked.prog.stopsHeard : Bool) = true := FP.p24
theorem k25 : (Tryz.checked.prog.mayEnter : Bool) = true := FP.p25
theorem k26 : ((Rows.fnExactServerTendRow.lifted == Tryz.checked.prog.liftsFinal) : Bool) = true := (congrArg (fun b => (Rows.fnExactServerTendRow.lifted == b)) FP.lifts).trans (by kernel_rfl)
theorem k27 : ((Tryz.checked.prog.make == some Rows.fnExactServerTendRow.make) : Bool) = true := (congrArg (fun m => (m == some Rows.fnExactServerTendRow.make)) FP.make).trans (by kernel_rfl)
theorem k28 : ((Rows.fnExactServerTendRow.kinds == (if Rows.fnExactServerTendRow.domain.isEmpty then [] else Tryz.f6.params.toList.map fun t => match Tryz.checked.prog.underlying t with | some (.int k) => some k | _ => none)) : Bool) = true := by kernel_rfl
theorem k29 : ((Rows.fnExactServerTendRow.pinned == Rows.fnExactServerTendRow.pinnedBy) : Bool) = true := by kernel_rfl
theorem k30 : ((Rows.fnExactServerTendRow.veiled == (Tryz.f6.params.toList ++ Rows.fnExactServerTendSpec.plain.varTypes Tryz.checked.prog ++ Tryz.f6.resultTypes.toList).any (Tryz.checked.prog.veiledRec ·)) : Bool) = true := by kernel_rfl
theorem k31 : (Rows.fnExactServerTendRow.veiledFits Tryz.checked.prog Tryz.f6.params.toList (Tryz.f6.params.toList ++ Rows.fnExactServerTendSpec.plain.varTypes Tryz.checked.prog ++ Tryz.f6.resultTypes.toList) : Bool) = true := by kernel_rfl
set_option maxRecDepth 100000 in
theorem closed : joinedFacts Tryz.checked.prog 6 Tryz.f6 Rows.fnExactServerTendSpec Rows.fnExactServerTendRow = true := by
  unfold joinedFacts
  exact (band (band (band (band (band (band (band (band (band (band (band (band (band (band (band (band (band (band (band (band (band (band (band (band (band (band (band (band (band (band (band k0 k1) k2) k3) k4) k5) k6) k7) k8) k9) k10) k11) k12) k13) k14) k15) k16) k17) k18) k19) k20) k21) k22) k23) k24) k25) k26) k27) k28) k29) k30) k31)

end Go.Proofs.YtpjidogilofppaaGreat.fnExactServerTend
