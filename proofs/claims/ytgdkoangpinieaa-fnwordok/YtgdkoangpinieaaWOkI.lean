/- The program's WordOk. -/
import Derived.Test.YtgdkoangpinieaaWPlace
import Derived.Test.YtgdkoangpinieaaGAG
namespace Go.Proofs.Ytgdkoangpinieaa
open Go.ChangeShapes Go.WideShapes Go.ChangeAt Go.RowKit

/-- Six spans that lie in a block. -/
theorem spans_of {w : World} {g : Nat} {T : TypeId} {a b c d e f a1 a2 b1 b2 c1 c2 d1 d2 e1 e2 f1 f2 : Int} (h : Blk w g #[.int .i64 a, .int .i64 a1, .int .i64 a2, .int .i64 b, .int .i64 b1, .int .i64 b2, .int .i64 c, .int .i64 c1, .int .i64 c2, .int .i64 d, .int .i64 d1, .int .i64 d2, .int .i64 e, .int .i64 e1, .int .i64 e2, .int .i64 f, .int .i64 f1, .int .i64 f2] T) : Deps w (some ⟨g, 0, none⟩) [⟨a, a1, a2⟩, ⟨b, b1, b2⟩, ⟨c, c1, c2⟩, ⟨d, d1, d2⟩, ⟨e, e1, e2⟩, ⟨f, f1, f2⟩] := by
  refine .inr ⟨g, 0, rfl, h.lt, fun i hi => ?_⟩
  have hi6 : i < 6 := hi
  have : i = 0 ∨ i = 1 ∨ i = 2 ∨ i = 3 ∨ i = 4 ∨ i = 5 := by omega
  rcases this with rfl | rfl | rfl | rfl | rfl | rfl
  · exact ⟨h.cell 0, h.cell 1, h.cell 2⟩
  · exact ⟨h.cell 3, h.cell 4, h.cell 5⟩
  · exact ⟨h.cell 6, h.cell 7, h.cell 8⟩
  · exact ⟨h.cell 9, h.cell 10, h.cell 11⟩
  · exact ⟨h.cell 12, h.cell 13, h.cell 14⟩
  · exact ⟨h.cell 15, h.cell 16, h.cell 17⟩
def spansW (x : Wd) : List D := [⟨x.kind, 1, 10⟩, ⟨x.call, 0, 99⟩, ⟨x.key, 0, 5⟩, ⟨x.val, 0, 9999⟩, ⟨x.slot, 0, 2⟩, ⟨x.ep, 0, 9999⟩]
theorem spansW_all (x : Wd) : (spansW x).all inSpan = numsW x := by
  unfold spansW numsW inSpan; simp [Bool.and_assoc]
theorem numsW_any (x : Wd) (a : Wa) (w : World) : Calls Try.prog 126 #[wordV x a] w fun e w' => e = .returned (.bool (numsW x)) ∧ Below w.heap.size w w' := by
  have b0 : Below w.heap.size w (w.alloc (.cells #[.int .i64 x.kind, .int .i64 x.fr, .int .i64 x.to, .int .i64 x.call, .int .i64 x.key, .int .i64 x.t, .int .i64 x.s, .int .i64 x.val, .bool x.yes, .slice a.da x.ds.length a.dc, .int .i64 x.slot, .int .i64 x.ep, .slice a.va x.vs.length a.vc, .slice a.wa x.ws.length a.wc, .slice a.oa x.os.length a.oc] 56)) := (Below.refl _ _).alloc (Nat.le_refl _) _
  have hW := fun (g : Nat) (W : World) h => within_any (some ⟨g, 0, none⟩) 6 (spansW x) W (by simp [spansW]) h
  rw [spansW_all] at hW
  generalize numsW x = r at *
  go_enter Try.func126, Try.ntmps126
  go_wp2_with fail
  refine (hW _ _ ?_).mono ?_
  · have S0 := Blk.new (w.alloc (.cells #[.int .i64 x.kind, .int .i64 x.fr, .int .i64 x.to, .int .i64 x.call, .int .i64 x.key, .int .i64 x.t, .int .i64 x.s, .int .i64 x.val, .bool x.yes, .slice a.da x.ds.length a.dc, .int .i64 x.slot, .int .i64 x.ep, .slice a.va x.vs.length a.vc, .slice a.wa x.ws.length a.wc, .slice a.oa x.os.length a.oc] 56)) #[.int .i64 x.kind, .int .i64 1, .int .i64 10, .int .i64 x.call, .int .i64 0, .int .i64 99, .int .i64 x.key, .int .i64 0, .int .i64 5, .int .i64 x.val, .int .i64 0, .int .i64 9999, .int .i64 x.slot, .int .i64 0, .int .i64 2, .int .i64 x.ep, .int .i64 0, .int .i64 9999] 181
    simp only [World.size_alloc] at S0
    exact spans_of S0
  rintro e w1 ⟨rfl, hb⟩
  have B1 : Below w.heap.size w w1 := (b0.alloc b0.size _).trans (hb.mono (by simp; omega))
  clear hb b0 hW
  go_wp2_with fail
  go_ret
  exact ⟨rfl, B1⟩
theorem listsW_any (x : Wd) (a : Wa) (w : World) (hl : LenL x) (h : InL w x a) : Calls Try.prog 128 #[wordV x a] w fun e w' => e = .returned (.bool (listsW x)) ∧ Below w.heap.size w w' := by
  have b0 : Below w.heap.size w (w.alloc (.cells #[.int .i64 x.kind, .int .i64 x.fr, .int .i64 x.to, .int .i64 x.call, .int .i64 x.key, .int .i64 x.t, .int .i64 x.s, .int .i64 x.val, .bool x.yes, .slice a.da x.ds.length a.dc, .int .i64 x.slot, .int .i64 x.ep, .slice a.va x.vs.length a.vc, .slice a.wa x.ws.length a.wc, .slice a.oa x.os.length a.oc] 56)) := (Below.refl _ _).alloc (Nat.le_refl _) _
  have A0 := Blk.new w #[.int .i64 x.kind, .int .i64 x.fr, .int .i64 x.to, .int .i64 x.call, .int .i64 x.key, .int .i64 x.t, .int .i64 x.s, .int .i64 x.val, .bool x.yes, .slice a.da x.ds.length a.dc, .int .i64 x.slot, .int .i64 x.ep, .slice a.va x.vs.length a.vc, .slice a.wa x.ws.length a.wc, .slice a.oa x.os.length a.oc] 56
  have L0 := h.below b0
  have h1 := fun W h => iDepsOk_any a.da a.dc x.ds W hl.d h
  have h2 := fun W h => iChainOk_any a.va a.vc x.vs W hl.v h
  have h3 := fun W h => iChainOk_any a.wa a.wc x.ws W hl.w h
  have h4 := fun W h => debts_any a.oa a.oc x.os W hl.o h
  have HE : Hid (listsW x = (depsOk x.ds && chainB x.vs && chainB x.ws && owesB x.os)) := rfl
  generalize listsW x = r at *
  generalize depsOk x.ds = r1 at *
  generalize chainB x.vs = r2 at *
  generalize chainB x.ws = r3 at *
  generalize owesB x.os = r4 at *
  have HR : Hid (r = (r1 && r2 && r3 && r4)) := HE.out
  clear HE h hl
  go_enter Try.func128, Try.ntmps128
  go_wp2_with fail
  generalize (w.alloc (.cells #[.int .i64 x.kind, .int .i64 x.fr, .int .i64 x.to, .int .i64 x.call, .int .i64 x.key, .int .i64 x.t, .int .i64 x.s, .int .i64 x.val, .bool x.yes, .slice a.da x.ds.length a.dc, .int .i64 x.slot, .int .i64 x.ep, .slice a.va x.vs.length a.vc, .slice a.wa x.ws.length a.wc, .slice a.oa x.os.length a.oc] 56)) = w0 at *
  refine (h1 _ L0.d).mono ?_
  rintro e w1 ⟨rfl, hb1⟩
  have A1 := A0.below hb1 A0.lt
  have L1 := L0.below hb1
  have B1 : Below w.heap.size w w1 := b0.trans (hb1.mono b0.size)
  clear A0 L0 b0 hb1 h1
  rcases r1 with _ | _
  · clear A1 L1 h2 h3 h4
    go_wp2_with fail
    go_ret
    exact ⟨by rw [HR.out]; simp, B1⟩
  obtain ⟨q1, g1⟩ := A1.rules
  go_wp2_with fail
  clear q1 g1
  refine (h2 _ L1.v).mono ?_
  rintro e w2 ⟨rfl, hb2⟩
  have A2 := A1.below hb2 A1.lt
  have L2 := L1.below hb2
  have B2 : Below w.heap.size w w2 := B1.trans (hb2.mono B1.size)
  clear A1 L1 B1 hb2 h2
  rcases r2 with _ | _
  · clear A2 L2 h3 h4
    go_wp2_with fail
    go_ret
    exact ⟨by rw [HR.out]; simp, B2⟩
  obtain ⟨q1, g1⟩ := A2.rules
  go_wp2_with fail
  clear q1 g1
  refine (h3 _ L2.w).mono ?_
  rintro e w3 ⟨rfl, hb3⟩
  have A3 := A2.below hb3 A2.lt
  have L3 := L2.below hb3
  have B3 : Below w.heap.size w w3 := B2.trans (hb3.mono B2.size)
  clear A2 L2 B2 hb3 h3
  rcases r3 with _ | _
  · clear A3 L3 h4
    go_wp2_with fail
    go_ret
    exact ⟨by rw [HR.out]; simp, B3⟩
  obtain ⟨q1, g1⟩ := A3.rules
  go_wp2_with fail
  clear q1 g1
  refine (h4 _ L3.o).mono ?_
  rintro e w4 ⟨rfl, hb4⟩
  have B4 : Below w.heap.size w w4 := B3.trans (hb4.mono B3.size)
  clear A3 L3 B3 hb4 h4
  go_wp2_with fail
  go_ret
  exact ⟨by rw [HR.out]; simp, B4⟩

set_option maxHeartbeats 1000000 in
theorem iWord_any (x : Wd) (a : Wa) (w : World) (hl : LenL x) (h : InL w x a) : Calls Try.prog 52 #[wordV x a] w fun e w' => e = .returned (.bool (wordB x)) ∧ Below w.heap.size w w' := by
  have b0 : Below w.heap.size w ((w.alloc (.cells #[.int .i64 x.kind, .int .i64 x.fr, .int .i64 x.to, .int .i64 x.call, .int .i64 x.key, .int .i64 x.t, .int .i64 x.s, .int .i64 x.val, .bool x.yes, .slice a.da x.ds.length a.dc, .int .i64 x.slot, .int .i64 x.ep, .slice a.va x.vs.length a.vc, .slice a.wa x.ws.length a.wc, .slice a.oa x.os.length a.oc] 56)).alloc (.cells #[.int .i64 x.fr, .int .i64 x.to] 3)) := ((Below.refl _ _).alloc (Nat.le_refl _) _).alloc (by simp) _
  have A0 : Blk ((w.alloc (.cells #[.int .i64 x.kind, .int .i64 x.fr, .int .i64 x.to, .int .i64 x.call, .int .i64 x.key, .int .i64 x.t, .int .i64 x.s, .int .i64 x.val, .bool x.yes, .slice a.da x.ds.length a.dc, .int .i64 x.slot, .int .i64 x.ep, .slice a.va x.vs.length a.vc, .slice a.wa x.ws.length a.wc, .slice a.oa x.os.length a.oc] 56)).alloc (.cells #[.int .i64 x.fr, .int .i64 x.to] 3)) w.heap.size #[.int .i64 x.kind, .int .i64 x.fr, .int .i64 x.to, .int .i64 x.call, .int .i64 x.key, .int .i64 x.t, .int .i64 x.s, .int .i64 x.val, .bool x.yes, .slice a.da x.ds.length a.dc, .int .i64 x.slot, .int .i64 x.ep, .slice a.va x.vs.length a.vc, .slice a.wa x.ws.length a.wc, .slice a.oa x.os.length a.oc] 56 := (Blk.new w _ _).alloc _
  have P0 : Blk ((w.alloc (.cells #[.int .i64 x.kind, .int .i64 x.fr, .int .i64 x.to, .int .i64 x.call, .int .i64 x.key, .int .i64 x.t, .int .i64 x.s, .int .i64 x.val, .bool x.yes, .slice a.da x.ds.length a.dc, .int .i64 x.slot, .int .i64 x.ep, .slice a.va x.vs.length a.vc, .slice a.wa x.ws.length a.wc, .slice a.oa x.os.length a.oc] 56)).alloc (.cells #[.int .i64 x.fr, .int .i64 x.to] 3)) (w.heap.size + 1) #[.int .i64 x.fr, .int .i64 x.to] 3 := by have := Blk.new (w.alloc (.cells #[.int .i64 x.kind, .int .i64 x.fr, .int .i64 x.to, .int .i64 x.call, .int .i64 x.key, .int .i64 x.t, .int .i64 x.s, .int .i64 x.val, .bool x.yes, .slice a.da x.ds.length a.dc, .int .i64 x.slot, .int .i64 x.ep, .slice a.va x.vs.length a.vc, .slice a.wa x.ws.length a.wc, .slice a.oa x.os.length a.oc] 56)) #[.int .i64 x.fr, .int .i64 x.to] 3; simpa using this
  have L0 := h.below b0
  have hp : ∀ i, (hi : i < [x.fr, x.to].length) → ((w.alloc (.cells #[.int .i64 x.kind, .int .i64 x.fr, .int .i64 x.to, .int .i64 x.call, .int .i64 x.key, .int .i64 x.t, .int .i64 x.s, .int .i64 x.val, .bool x.yes, .slice a.da x.ds.length a.dc, .int .i64 x.slot, .int .i64 x.ep, .slice a.va x.vs.length a.vc, .slice a.wa x.ws.length a.wc, .slice a.oa x.os.length a.oc] 56)).alloc (.cells #[.int .i64 x.fr, .int .i64 x.to] 3)).cell? ⟨w.heap.size + 1, i, none⟩ = some (.int .i64 [x.fr, x.to][i]) := fun i hi => by
    have hi2 : i < 2 := hi
    have : i = 0 ∨ i = 1 := by omega
    rcases this with rfl | rfl
    · exact P0.cell 0
    · exact P0.cell 1
  have h1 := places_any (w.heap.size + 1) 2 [x.fr, x.to] _ (by simp) hp
  have h2 := fun W => numsW_any x a W
  have h3 := fun W => none_any x.t x.s W
  have h4 := fun W h => listsW_any x a W hl h
  have HE : Hid (wordB x = (([x.fr, x.to].all placeB) && numsW x && stamp0 x.t x.s && listsW x)) := by show _ = _; unfold wordB; simp
  generalize wordB x = r at *
  generalize [x.fr, x.to].all placeB = r1 at *
  generalize numsW x = r2 at *
  generalize stamp0 x.t x.s = r3 at *
  generalize listsW x = r4 at *
  have HR : Hid (r = (r1 && r2 && r3 && r4)) := HE.out
  clear HE h hl hp P0
  go_enter Try.func52, Try.ntmps52
  go_wp2_with fail
  generalize ((w.alloc (.cells #[.int .i64 x.kind, .int .i64 x.fr, .int .i64 x.to, .int .i64 x.call, .int .i64 x.key, .int .i64 x.t, .int .i64 x.s, .int .i64 x.val, .bool x.yes, .slice a.da x.ds.length a.dc, .int .i64 x.slot, .int .i64 x.ep, .slice a.va x.vs.length a.vc, .slice a.wa x.ws.length a.wc, .slice a.oa x.os.length a.oc] 56)).alloc (.cells #[.int .i64 x.fr, .int .i64 x.to] 3)) = w0 at *
  refine h1.mono ?_
  rintro e w1 ⟨rfl, rfl⟩
  clear h1
  rcases r1 with _ | _
  · clear A0 L0 h2 h3 h4
    go_wp2_with fail
    go_ret
    exact ⟨by rw [HR.out]; simp, b0⟩
  obtain ⟨q1, g1⟩ := A0.rules
  go_wp2_with fail
  clear q1 g1
  refine (h2 _).mono ?_
  rintro e w2 ⟨rfl, hb2⟩
  have A2 := A0.below hb2 A0.lt
  have L2 := L0.below hb2
  have B2 : Below w.heap.size w w2 := b0.trans (hb2.mono b0.size)
  clear A0 L0 b0 hb2 h2
  rcases r2 with _ | _
  · clear A2 L2 h3 h4
    go_wp2_with fail
    go_ret
    exact ⟨by rw [HR.out]; simp, B2⟩
  obtain ⟨q1, g1⟩ := A2.rules
  go_wp2_with fail
  clear q1 g1
  refine (h3 _).mono ?_
  rintro e w3 ⟨rfl, hb3⟩
  have A3 := A2.below hb3 A2.lt
  have L3 := L2.below hb3
  have B3 : Below w.heap.size w w3 := B2.trans (hb3.mono B2.size)
  clear A2 L2 B2 hb3 h3
  rcases r3 with _ | _
  · clear A3 L3 h4
    go_wp2_with fail
    go_ret
    exact ⟨by rw [HR.out]; simp, B3⟩
  obtain ⟨q1, g1⟩ := A3.rules
  go_wp2_with fail
  clear q1 g1
  refine (h4 _ L3).mono ?_
  rintro e w4 ⟨rfl, hb4⟩
  have B4 : Below w.heap.size w w4 := B3.trans (hb4.mono B3.size)
  clear A3 L3 B3 hb4 h4
  go_wp2_with fail
  go_ret
  exact ⟨by rw [HR.out]; simp, B4⟩
end Go.Proofs.Ytgdkoangpinieaa
