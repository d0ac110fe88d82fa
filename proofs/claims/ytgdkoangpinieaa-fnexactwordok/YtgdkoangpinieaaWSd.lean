/- The specification's WordOk, from a client to a client. -/
import Derived.Test.YtgdkoangpinieaaWSmall
namespace Go.Proofs.Ytgdkoangpinieaa
open Go.ChangeShapes Go.WideShapes Go.ChangeAt Go.RowKit

set_option maxHeartbeats 20000000 in
set_option maxRecDepth 20000 in
theorem sWord_cc (x : Wd) (a : Wa) (w : World) (hl : LenL x) (h : InL w x a) (pfr1 : inB x.fr 0 3 = false) (pfr2 : inB x.fr 10 11 = true) (pto1 : inB x.to 0 3 = false) (pto2 : inB x.to 10 11 = true) : Calls Try.prog 53 #[wordV x a] w fun e w' => e = .returned (.bool (wordB x)) ∧ Below w.heap.size w w' := by
  have b0 : Below w.heap.size w (w.alloc (.cells #[.int .i64 x.kind, .int .i64 x.fr, .int .i64 x.to, .int .i64 x.call, .int .i64 x.key, .int .i64 x.t, .int .i64 x.s, .int .i64 x.val, .bool x.yes, .slice a.da x.ds.length a.dc, .int .i64 x.slot, .int .i64 x.ep, .slice a.va x.vs.length a.vc, .slice a.wa x.ws.length a.wc, .slice a.oa x.os.length a.oc] 56)) := (Below.refl _ _).alloc (Nat.le_refl _) _
  have A0 := Blk.new w #[.int .i64 x.kind, .int .i64 x.fr, .int .i64 x.to, .int .i64 x.call, .int .i64 x.key, .int .i64 x.t, .int .i64 x.s, .int .i64 x.val, .bool x.yes, .slice a.da x.ds.length a.dc, .int .i64 x.slot, .int .i64 x.ep, .slice a.va x.vs.length a.vc, .slice a.wa x.ws.length a.wc, .slice a.oa x.os.length a.oc] 56
  have L0 := h.below b0
  have hkind := fun W => in_any x.kind 1 10 W
  have hfr1 := site_is pfr1
  have hfr2 := sClient_is pfr2
  have hto1 := site_is pto1
  have hto2 := sClient_is pto2
  have hcall := fun W => in_any x.call 0 99 W
  have hkey := fun W => sKey_any x.key W
  have hstamp := fun W => sNone_any x.t x.s W
  have hval := fun W => in_any x.val 0 9999 W
  have hds := fun W h => sDepsOk_any a.da a.dc x.ds W hl.d h
  have hslot := fun W => in_any x.slot 0 2 W
  have hep := fun W => in_any x.ep 0 9999 W
  have hvs := fun W h => sChainOk_any a.va a.vc x.vs W hl.v h
  have hws := fun W h => sChainOk_any a.wa a.wc x.ws W hl.w h
  have hos := fun W h => sOwes_any a.oa a.oc x.os W hl.o h
  have HE : Hid (wordB x = ((inB x.kind 1 10) && (inB x.call 0 99) && (inB x.key 0 5) && (stamp0 x.t x.s) && (inB x.val 0 9999) && (depsOk x.ds) && (inB x.slot 0 2) && (inB x.ep 0 9999) && (chainB x.vs) && (chainB x.ws) && (owesB x.os))) := by
    show _ = _
    unfold wordB placeB numsW listsW
    rw [Bool.eq_iff_iff]
    simp only [Bool.and_eq_true, Bool.or_eq_true, pfr1, pfr2, pto1, pto2, Bool.false_eq_true, or_true, true_and, and_true]
    constructor <;> (intro h; simp_all)
  generalize wordB x = r at *
  generalize inB x.kind 1 10 = rkind at *
  generalize inB x.call 0 99 = rcall at *
  generalize inB x.key 0 5 = rkey at *
  generalize stamp0 x.t x.s = rstamp at *
  generalize inB x.val 0 9999 = rval at *
  generalize depsOk x.ds = rds at *
  generalize inB x.slot 0 2 = rslot at *
  generalize inB x.ep 0 9999 = rep at *
  generalize chainB x.vs = rvs at *
  generalize chainB x.ws = rws at *
  generalize owesB x.os = ros at *
  have HR : Hid (r = (rkind && rcall && rkey && rstamp && rval && rds && rslot && rep && rvs && rws && ros)) := HE.out
  clear HE
  clear h hl pfr1 pfr2 pto1 pto2
  go_enter Try.func53, Try.ntmps53
  go_wp2_with fail
  generalize (w.alloc (.cells #[.int .i64 x.kind, .int .i64 x.fr, .int .i64 x.to, .int .i64 x.call, .int .i64 x.key, .int .i64 x.t, .int .i64 x.s, .int .i64 x.val, .bool x.yes, .slice a.da x.ds.length a.dc, .int .i64 x.slot, .int .i64 x.ep, .slice a.va x.vs.length a.vc, .slice a.wa x.ws.length a.wc, .slice a.oa x.os.length a.oc] 56)) = w0 at *
  refine (hkind _).mono ?_
  rintro e w1 ⟨rfl, rfl⟩
  clear hkind
  rcases rkind with _ | _
  · clear A0 L0 hfr1 hfr2 hto1 hto2 hcall hkey hstamp hval hds hslot hep hvs hws hos
    go_wp2_with fail
    all_goals first
      | exact (no_undef (by assumption)).elim
      | (go_ret; exact ⟨by rw [HR.out]; simp, b0⟩)
  obtain ⟨q1, g1⟩ := A0.rules
  go_wp2_with fail
  clear q1 g1
  refine (hfr1 _).mono ?_
  rintro e w1 ⟨rfl, rfl⟩
  obtain ⟨q1, g1⟩ := A0.rules
  go_wp2_with fail
  clear q1 g1
  refine (hfr2 _).mono ?_
  rintro e w1 ⟨rfl, rfl⟩
  clear hfr1 hfr2
  obtain ⟨q1, g1⟩ := A0.rules
  go_wp2_with fail
  clear q1 g1
  refine (hto1 _).mono ?_
  rintro e w1 ⟨rfl, rfl⟩
  obtain ⟨q1, g1⟩ := A0.rules
  go_wp2_with fail
  clear q1 g1
  refine (hto2 _).mono ?_
  rintro e w1 ⟨rfl, rfl⟩
  clear hto1 hto2
  obtain ⟨q1, g1⟩ := A0.rules
  go_wp2_with fail
  clear q1 g1
  refine (hcall _).mono ?_
  rintro e w1 ⟨rfl, rfl⟩
  clear hcall
  rcases rcall with _ | _
  · clear A0 L0 hkey hstamp hval hds hslot hep hvs hws hos
    go_wp2_with fail
    all_goals first
      | exact (no_undef (by assumption)).elim
      | (go_ret; exact ⟨by rw [HR.out]; simp, b0⟩)
  obtain ⟨q1, g1⟩ := A0.rules
  go_wp2_with fail
  clear q1 g1
  refine (hkey _).mono ?_
  rintro e w1 ⟨rfl, rfl⟩
  clear hkey
  rcases rkey with _ | _
  · clear A0 L0 hstamp hval hds hslot hep hvs hws hos
    go_wp2_with fail
    all_goals first
      | exact (no_undef (by assumption)).elim
      | (go_ret; exact ⟨by rw [HR.out]; simp, b0⟩)
  obtain ⟨q1, g1⟩ := A0.rules
  go_wp2_with fail
  clear q1 g1
  refine (hstamp _).mono ?_
  rintro e z1 ⟨rfl, hb⟩
  have B1 : Below w.heap.size w z1 := b0.trans (hb.mono b0.size)
  have A1 := A0.below hb A0.lt
  have L1 := L0.below hb
  clear A0 L0 b0 hb hstamp
  rcases rstamp with _ | _
  · clear A1 L1 hval hds hslot hep hvs hws hos
    go_wp2_with fail
    all_goals first
      | exact (no_undef (by assumption)).elim
      | (go_ret; exact ⟨by rw [HR.out]; simp, B1⟩)
  obtain ⟨q1, g1⟩ := A1.rules
  go_wp2_with fail
  clear q1 g1
  refine (hval _).mono ?_
  rintro e w1 ⟨rfl, rfl⟩
  clear hval
  rcases rval with _ | _
  · clear A1 L1 hds hslot hep hvs hws hos
    go_wp2_with fail
    all_goals first
      | exact (no_undef (by assumption)).elim
      | (go_ret; exact ⟨by rw [HR.out]; simp, B1⟩)
  obtain ⟨q1, g1⟩ := A1.rules
  go_wp2_with fail
  clear q1 g1
  refine (hds _ L1.d).mono ?_
  rintro e z2 ⟨rfl, hb⟩
  have B2 : Below w.heap.size w z2 := B1.trans (hb.mono B1.size)
  have A2 := A1.below hb A1.lt
  have L2 := L1.below hb
  clear A1 L1 B1 hb hds
  rcases rds with _ | _
  · clear A2 L2 hslot hep hvs hws hos
    go_wp2_with fail
    all_goals first
      | exact (no_undef (by assumption)).elim
      | (go_ret; exact ⟨by rw [HR.out]; simp, B2⟩)
  obtain ⟨q1, g1⟩ := A2.rules
  go_wp2_with fail
  clear q1 g1
  refine (hslot _).mono ?_
  rintro e w1 ⟨rfl, rfl⟩
  clear hslot
  rcases rslot with _ | _
  · clear A2 L2 hep hvs hws hos
    go_wp2_with fail
    all_goals first
      | exact (no_undef (by assumption)).elim
      | (go_ret; exact ⟨by rw [HR.out]; simp, B2⟩)
  obtain ⟨q1, g1⟩ := A2.rules
  go_wp2_with fail
  clear q1 g1
  refine (hep _).mono ?_
  rintro e w1 ⟨rfl, rfl⟩
  clear hep
  rcases rep with _ | _
  · clear A2 L2 hvs hws hos
    go_wp2_with fail
    all_goals first
      | exact (no_undef (by assumption)).elim
      | (go_ret; exact ⟨by rw [HR.out]; simp, B2⟩)
  obtain ⟨q1, g1⟩ := A2.rules
  go_wp2_with fail
  clear q1 g1
  refine (hvs _ L2.v).mono ?_
  rintro e z3 ⟨rfl, hb⟩
  have B3 : Below w.heap.size w z3 := B2.trans (hb.mono B2.size)
  have A3 := A2.below hb A2.lt
  have L3 := L2.below hb
  clear A2 L2 B2 hb hvs
  rcases rvs with _ | _
  · clear A3 L3 hws hos
    go_wp2_with fail
    all_goals first
      | exact (no_undef (by assumption)).elim
      | (go_ret; exact ⟨by rw [HR.out]; simp, B3⟩)
  obtain ⟨q1, g1⟩ := A3.rules
  go_wp2_with fail
  clear q1 g1
  refine (hws _ L3.w).mono ?_
  rintro e z4 ⟨rfl, hb⟩
  have B4 : Below w.heap.size w z4 := B3.trans (hb.mono B3.size)
  have A4 := A3.below hb A3.lt
  have L4 := L3.below hb
  clear A3 L3 B3 hb hws
  rcases rws with _ | _
  · clear A4 L4 hos
    go_wp2_with fail
    all_goals first
      | exact (no_undef (by assumption)).elim
      | (go_ret; exact ⟨by rw [HR.out]; simp, B4⟩)
  obtain ⟨q1, g1⟩ := A4.rules
  go_wp2_with fail
  clear q1 g1
  refine (hos _ L4.o).mono ?_
  rintro e z5 ⟨rfl, hb⟩
  have B5 : Below w.heap.size w z5 := B4.trans (hb.mono B4.size)
  clear A4 L4 B4 hb hos
  go_wp2_with fail
  all_goals first
    | exact (no_undef (by assumption)).elim
    | (go_ret; exact ⟨by rw [HR.out]; simp, B5⟩)
end Go.Proofs.Ytgdkoangpinieaa
