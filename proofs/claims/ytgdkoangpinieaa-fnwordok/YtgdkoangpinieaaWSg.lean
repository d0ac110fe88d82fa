/- The specification's WordOk, from a client to nowhere. -/
import Derived.Test.YtgdkoangpinieaaWSmall
namespace Go.Proofs.Ytgdkoangpinieaa
open Go.ChangeShapes Go.WideShapes Go.ChangeAt Go.RowKit

set_option maxHeartbeats 20000000 in
set_option maxRecDepth 20000 in
theorem sWord_cn (x : Wd) (a : Wa) (w : World) (h : InL w x a) (pfr1 : inB x.fr 0 3 = false) (pfr2 : inB x.fr 10 11 = true) (pto1 : inB x.to 0 3 = false) (pto2 : inB x.to 10 11 = false) : Calls Try.prog 53 #[wordV x a] w fun e w' => e = .returned (.bool (wordB x)) ∧ Below w.heap.size w w' := by
  have b0 : Below w.heap.size w (w.alloc (.cells #[.int .i64 x.kind, .int .i64 x.fr, .int .i64 x.to, .int .i64 x.call, .int .i64 x.key, .int .i64 x.t, .int .i64 x.s, .int .i64 x.val, .bool x.yes, .slice a.da x.ds.length a.dc, .int .i64 x.slot, .int .i64 x.ep, .slice a.va x.vs.length a.vc, .slice a.wa x.ws.length a.wc, .slice a.oa x.os.length a.oc] 56)) := (Below.refl _ _).alloc (Nat.le_refl _) _
  have A0 := Blk.new w #[.int .i64 x.kind, .int .i64 x.fr, .int .i64 x.to, .int .i64 x.call, .int .i64 x.key, .int .i64 x.t, .int .i64 x.s, .int .i64 x.val, .bool x.yes, .slice a.da x.ds.length a.dc, .int .i64 x.slot, .int .i64 x.ep, .slice a.va x.vs.length a.vc, .slice a.wa x.ws.length a.wc, .slice a.oa x.os.length a.oc] 56
  have L0 := h.below b0
  have hkind := fun W => in_any x.kind 1 10 W
  have hfr1 := site_is pfr1
  have hfr2 := sClient_is pfr2
  have hto1 := site_is pto1
  have hto2 := sClient_is pto2
  have HF : Hid (wordB x = false) := by
    show _ = _
    unfold wordB placeB
    simp [pfr1, pfr2, pto1, pto2]
  generalize wordB x = r at *
  generalize inB x.kind 1 10 = rkind at *
  clear h pfr1 pfr2 pto1 pto2
  go_enter Try.func53, Try.ntmps53
  go_wp2_with fail
  generalize (w.alloc (.cells #[.int .i64 x.kind, .int .i64 x.fr, .int .i64 x.to, .int .i64 x.call, .int .i64 x.key, .int .i64 x.t, .int .i64 x.s, .int .i64 x.val, .bool x.yes, .slice a.da x.ds.length a.dc, .int .i64 x.slot, .int .i64 x.ep, .slice a.va x.vs.length a.vc, .slice a.wa x.ws.length a.wc, .slice a.oa x.os.length a.oc] 56)) = w0 at *
  refine (hkind _).mono ?_
  rintro e w1 ⟨rfl, rfl⟩
  clear hkind
  rcases rkind with _ | _
  · clear A0 L0 hfr1 hfr2 hto1 hto2
    go_wp2_with fail
    all_goals first
      | exact (no_undef (by assumption)).elim
      | (go_ret; exact ⟨by rw [HF.out]; rfl, b0⟩)
  obtain ⟨q1, g1⟩ := A0.rules
  go_wp2_with fail
  clear q1 g1
  refine (hfr1 _).mono ?_
  rintro e w1 ⟨rfl, rfl⟩
  obtain ⟨q1, g1⟩ := A0.rules
  go_wp2_with fail
  clear q1 g1
  refine (hfr2 _).mono ?_
  rintro e w1 ⟨rfl, rfl⟩
  clear hfr1 hfr2
  obtain ⟨q1, g1⟩ := A0.rules
  go_wp2_with fail
  clear q1 g1
  refine (hto1 _).mono ?_
  rintro e w1 ⟨rfl, rfl⟩
  obtain ⟨q1, g1⟩ := A0.rules
  go_wp2_with fail
  clear q1 g1
  refine (hto2 _).mono ?_
  rintro e w1 ⟨rfl, rfl⟩
  clear hto1 hto2
  clear A0 L0 
  go_wp2_with fail
  all_goals first
    | exact (no_undef (by assumption)).elim
    | (go_ret; exact ⟨by rw [HF.out]; rfl, b0⟩)
end Go.Proofs.Ytgdkoangpinieaa
