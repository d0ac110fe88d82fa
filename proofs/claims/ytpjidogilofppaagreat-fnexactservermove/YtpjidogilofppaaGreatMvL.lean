/- The specification's ServerMove of a slot that leaves. -/
import Derived.Test.YtpjidogilofppaaGreatMvK
import Derived.Test.YtpjidogilofppaaGreatMvS1
import Derived.Test.YtpjidogilofppaaGreatMvS2
namespace Go.Proofs.YtpjidogilofppaaGreat
open Go.ChangeShapes Go.WideShapes Go.ChangeAt Go.RowKit

theorem set2_other {cur : Array Value} {p q j : Nat} {a b : Value} (hp : p ≠ j) (hq : q ≠ j) : ((cur.setIfInBounds p a).setIfInBounds q b)[j]? = cur[j]? := by rw [Array.getElem?_setIfInBounds_ne hq, Array.getElem?_setIfInBounds_ne hp]
theorem set2_fst {cur : Array Value} {p q : Nat} {a b : Value} (h : p < cur.size) (hq : q ≠ p) : ((cur.setIfInBounds p a).setIfInBounds q b)[p]? = some a := by rw [Array.getElem?_setIfInBounds_ne hq, Array.getElem?_setIfInBounds_self_of_lt h]
theorem set2_snd {cur : Array Value} {p q : Nat} {a b : Value} (h : q < cur.size) : ((cur.setIfInBounds p a).setIfInBounds q b)[q]? = some b := by rw [Array.getElem?_setIfInBounds_self_of_lt (by simpa using h)]
theorem Only.cell1 {w w' : World} {S : Nat → Prop} (o : Only w w' S) {B j : Nat} (hB : B < w.heap.size) (hS : ¬ S B) : w'.cell? ⟨B, j, none⟩ = w.cell? ⟨B, j, none⟩ := World.cell?_of_block (w := w) (o.block B hB hS)
theorem slots_left0 {U : World} {g : Nat} {cur : Array Value} {t1 t2 t3 : Sl} (h : ∀ (i : Nat) (hi : i < 3), U.cell? ⟨g, i * 2, none⟩ = some (.int .i64 ([t1, t2, t3][i]'(by simpa using hi)).ep) ∧ U.cell? ⟨g, i * 2 + 1, none⟩ = some (.int .i64 ([t1, t2, t3][i]'(by simpa using hi)).st)) (G : Blk U g cur 84) : ∃ cur3, Blk ((U.setCell ⟨g, 0, none⟩ (.int .i64 (t1.ep + 1))).setCell ⟨g, 1, none⟩ (.int .i64 2)).drew g cur3 84 ∧ Hid (∀ W : World, Blk W g cur3 84 → Slots W (some ⟨g, 0, none⟩) [⟨t1.ep + 1, 2⟩, t2, t3]) := by
  have c0 : cur[0]? = some (.int .i64 t1.ep) ∧ cur[1]? = some (.int .i64 t1.st) := ⟨(G.cell 0).symm.trans (h 0 (by omega)).1, (G.cell 1).symm.trans (h 0 (by omega)).2⟩
  have c1 : cur[2]? = some (.int .i64 t2.ep) ∧ cur[3]? = some (.int .i64 t2.st) := ⟨(G.cell 2).symm.trans (h 1 (by omega)).1, (G.cell 3).symm.trans (h 1 (by omega)).2⟩
  have c2 : cur[4]? = some (.int .i64 t3.ep) ∧ cur[5]? = some (.int .i64 t3.st) := ⟨(G.cell 4).symm.trans (h 2 (by omega)).1, (G.cell 5).symm.trans (h 2 (by omega)).2⟩
  have G2 := (G.set 0 (.int .i64 (t1.ep + 1))).set 1 (.int .i64 2)
  have G3 := G2.below (Below.refl _ _).drew G2.lt
  have hsz : 6 ≤ cur.size := by
    have h5 := c2.2
    rcases Nat.lt_or_ge 5 cur.size with h6 | h6
    · exact h6
    · rw [Array.getElem?_eq_none h6] at h5; cases h5
  refine ⟨_, G3, ?_⟩
  show ∀ W : World, _
  intro W G4
  refine .inr ⟨g, 0, rfl, G4.lt, fun i hi => ?_⟩
  have hi3 : i < 3 := hi
  have hh : i = 0 ∨ i = 1 ∨ i = 2 := by omega
  rcases hh with rfl | rfl | rfl
  · exact ⟨(G4.cell 0).trans (set2_fst (by omega) (by omega)), (G4.cell 1).trans (set2_snd (by omega))⟩
  · exact ⟨(G4.cell 2).trans ((set2_other (by omega) (by omega)).trans c1.1), (G4.cell 3).trans ((set2_other (by omega) (by omega)).trans c1.2)⟩
  · exact ⟨(G4.cell 4).trans ((set2_other (by omega) (by omega)).trans c2.1), (G4.cell 5).trans ((set2_other (by omega) (by omega)).trans c2.2)⟩
theorem slots_left1 {U : World} {g : Nat} {cur : Array Value} {t1 t2 t3 : Sl} (h : ∀ (i : Nat) (hi : i < 3), U.cell? ⟨g, i * 2, none⟩ = some (.int .i64 ([t1, t2, t3][i]'(by simpa using hi)).ep) ∧ U.cell? ⟨g, i * 2 + 1, none⟩ = some (.int .i64 ([t1, t2, t3][i]'(by simpa using hi)).st)) (G : Blk U g cur 84) : ∃ cur3, Blk ((U.setCell ⟨g, 2, none⟩ (.int .i64 (t2.ep + 1))).setCell ⟨g, 3, none⟩ (.int .i64 2)).drew g cur3 84 ∧ Hid (∀ W : World, Blk W g cur3 84 → Slots W (some ⟨g, 0, none⟩) [t1, ⟨t2.ep + 1, 2⟩, t3]) := by
  have c0 : cur[0]? = some (.int .i64 t1.ep) ∧ cur[1]? = some (.int .i64 t1.st) := ⟨(G.cell 0).symm.trans (h 0 (by omega)).1, (G.cell 1).symm.trans (h 0 (by omega)).2⟩
  have c1 : cur[2]? = some (.int .i64 t2.ep) ∧ cur[3]? = some (.int .i64 t2.st) := ⟨(G.cell 2).symm.trans (h 1 (by omega)).1, (G.cell 3).symm.trans (h 1 (by omega)).2⟩
  have c2 : cur[4]? = some (.int .i64 t3.ep) ∧ cur[5]? = some (.int .i64 t3.st) := ⟨(G.cell 4).symm.trans (h 2 (by omega)).1, (G.cell 5).symm.trans (h 2 (by omega)).2⟩
  have G2 := (G.set 2 (.int .i64 (t2.ep + 1))).set 3 (.int .i64 2)
  have G3 := G2.below (Below.refl _ _).drew G2.lt
  have hsz : 6 ≤ cur.size := by
    have h5 := c2.2
    rcases Nat.lt_or_ge 5 cur.size with h6 | h6
    · exact h6
    · rw [Array.getElem?_eq_none h6] at h5; cases h5
  refine ⟨_, G3, ?_⟩
  show ∀ W : World, _
  intro W G4
  refine .inr ⟨g, 0, rfl, G4.lt, fun i hi => ?_⟩
  have hi3 : i < 3 := hi
  have hh : i = 0 ∨ i = 1 ∨ i = 2 := by omega
  rcases hh with rfl | rfl | rfl
  · exact ⟨(G4.cell 0).trans ((set2_other (by omega) (by omega)).trans c0.1), (G4.cell 1).trans ((set2_other (by omega) (by omega)).trans c0.2)⟩
  · exact ⟨(G4.cell 2).trans (set2_fst (by omega) (by omega)), (G4.cell 3).trans (set2_snd (by omega))⟩
  · exact ⟨(G4.cell 4).trans ((set2_other (by omega) (by omega)).trans c2.1), (G4.cell 5).trans ((set2_other (by omega) (by omega)).trans c2.2)⟩
theorem slots_left2 {U : World} {g : Nat} {cur : Array Value} {t1 t2 t3 : Sl} (h : ∀ (i : Nat) (hi : i < 3), U.cell? ⟨g, i * 2, none⟩ = some (.int .i64 ([t1, t2, t3][i]'(by simpa using hi)).ep) ∧ U.cell? ⟨g, i * 2 + 1, none⟩ = some (.int .i64 ([t1, t2, t3][i]'(by simpa using hi)).st)) (G : Blk U g cur 84) : ∃ cur3, Blk ((U.setCell ⟨g, 4, none⟩ (.int .i64 (t3.ep + 1))).setCell ⟨g, 5, none⟩ (.int .i64 2)).drew g cur3 84 ∧ Hid (∀ W : World, Blk W g cur3 84 → Slots W (some ⟨g, 0, none⟩) [t1, t2, ⟨t3.ep + 1, 2⟩]) := by
  have c0 : cur[0]? = some (.int .i64 t1.ep) ∧ cur[1]? = some (.int .i64 t1.st) := ⟨(G.cell 0).symm.trans (h 0 (by omega)).1, (G.cell 1).symm.trans (h 0 (by omega)).2⟩
  have c1 : cur[2]? = some (.int .i64 t2.ep) ∧ cur[3]? = some (.int .i64 t2.st) := ⟨(G.cell 2).symm.trans (h 1 (by omega)).1, (G.cell 3).symm.trans (h 1 (by omega)).2⟩
  have c2 : cur[4]? = some (.int .i64 t3.ep) ∧ cur[5]? = some (.int .i64 t3.st) := ⟨(G.cell 4).symm.trans (h 2 (by omega)).1, (G.cell 5).symm.trans (h 2 (by omega)).2⟩
  have G2 := (G.set 4 (.int .i64 (t3.ep + 1))).set 5 (.int .i64 2)
  have G3 := G2.below (Below.refl _ _).drew G2.lt
  have hsz : 6 ≤ cur.size := by
    have h5 := c2.2
    rcases Nat.lt_or_ge 5 cur.size with h6 | h6
    · exact h6
    · rw [Array.getElem?_eq_none h6] at h5; cases h5
  refine ⟨_, G3, ?_⟩
  show ∀ W : World, _
  intro W G4
  refine .inr ⟨g, 0, rfl, G4.lt, fun i hi => ?_⟩
  have hi3 : i < 3 := hi
  have hh : i = 0 ∨ i = 1 ∨ i = 2 := by omega
  rcases hh with rfl | rfl | rfl
  · exact ⟨(G4.cell 0).trans ((set2_other (by omega) (by omega)).trans c0.1), (G4.cell 1).trans ((set2_other (by omega) (by omega)).trans c0.2)⟩
  · exact ⟨(G4.cell 2).trans ((set2_other (by omega) (by omega)).trans c1.1), (G4.cell 3).trans ((set2_other (by omega) (by omega)).trans c1.2)⟩
  · exact ⟨(G4.cell 4).trans (set2_fst (by omega) (by omega)), (G4.cell 5).trans (set2_snd (by omega))⟩
theorem slots_cell2 {w : World} {g : Nat} {xs : List Sl} {t1 t2 t3 : Sl} (h : Slots w (some ⟨g, 0, none⟩) xs) (he : xs = [t1, t2, t3]) (i : Nat) (hi : i < 3) : w.cell? ⟨g, i * 2, none⟩ = some (.int .i64 ([t1, t2, t3][i]'(by simpa using hi)).ep) ∧ w.cell? ⟨g, i * 2 + 1, none⟩ = some (.int .i64 ([t1, t2, t3][i]'(by simpa using hi)).st) := by
  subst he
  obtain ⟨b, o, e, hb, c0, c1⟩ := h.at (k := i) (by simpa using hi)
  simp at e
  obtain ⟨rfl, rfl⟩ := e
  exact ⟨by simpa using c0, by simpa using c1⟩

set_option maxHeartbeats 4000000 in
set_option maxRecDepth 20000 in
theorem sMove_goes0 (x : Sv) (a : Sa) (w : World) (hl : LenS x) (h : InS w x a) (hs : servB x = true) (hg : goB x 0 = true) : Calls Tryz.prog 16 #[servV x a, .int .i64 0] w fun e w' => ∃ b c, e = .returned (.tuple #[servV (moveS x 0) b, wordV (moveW x 0) c, .bool (moveB x 0)]) ∧ InS w' (moveS x 0) b ∧ InL w' (moveW x 0) c ∧ Below w.heap.size w w' := by
  obtain ⟨t1, t2, t3, he⟩ := slotsB_three (xs := x.sl) (by unfold servB at hs; simp at hs; exact hs.1.1.1.1.1.1.1)
  obtain ⟨s0, s3, hu, hw1, he1, hz1⟩ := goes0 hs hg he
  have ht : t1.st = 1 := by
    have h2 : standAt [t1, t2, t3] 0 = t1.st := rfl
    unfold ownsB at hw1
    rw [h2] at hw1
    simpa using hw1
  have HU : Hid (x.up = true) := hu
  have lsl : x.sl.length = 3 := by rw [he]; rfl
  have HLS : Hid (x.sl.length = 3) := lsl
  have HSL : Hid (x.sl = [t1, t2, t3]) := he
  obtain ⟨sb, so, hla, hsb, c0, c1⟩ := h.l.at (k := 0) (by omega)
  have HLA : Hid (a.la = some ⟨sb, so, none⟩) := hla
  have e9 : x.sl[0]'(by omega) = t1 := by simp [he]
  rw [e9] at c0 c1
  rw [ht] at c1
  have d0 : w.cell? ⟨sb, so, none⟩ = some (.int .i64 t1.ep) := by simpa using c0
  have d1 : w.cell? ⟨sb, so + 1, none⟩ = some (.int .i64 1) := by simpa using c1
  have hI := fun W => in_any 0 0 2 W
  have hin : inB 0 0 2 = true := by decide
  rw [hin] at hI
  have dn : decide (9999 ≤ t1.ep) = false := by simp; omega
  have hwr : IntKind.i64.wrap (t1.ep + 1) = t1.ep + 1 := by simp only [IntKind.wrap, IntKind.bits, IntKind.signed]; simp; omega
  have HN : leftX x 0 = ⟨x.site, x.up, [⟨t1.ep + 1, 2⟩, t2, t3], x.vs, x.ws, x.os, x.kn⟩ ∧ bulkX (leftX x 0) 0 = parcelX x.site 0 (t1.ep + 1) x.vs x.ws x.os := by
    unfold leftX bulkX parcelX
    rw [he]
    exact ⟨rfl, rfl⟩
  have ly : LenS ⟨x.site, x.up, [⟨t1.ep + 1, 2⟩, t2, t3], x.vs, x.ws, x.os, x.kn⟩ := ⟨by simp, hl.v, hl.w, hl.o, hl.k⟩
  have hBk := fun b W h => sBulk0_any ⟨x.site, x.up, [⟨t1.ep + 1, 2⟩, t2, t3], x.vs, x.ws, x.os, x.kn⟩ b ⟨t1.ep + 1, 2⟩ t2 t3 W ly h rfl s0 s3
  dsimp only at hBk
  clear c0 c1 hu hla hw1 he1 hz1 ht
  clear e9
  clear lsl hin
  have b0 : Below w.heap.size w (((w.alloc (.cells #[.int .i64 x.site, .bool x.up, .slice a.la x.sl.length a.lc, .slice a.va x.vs.length a.vc, .slice a.wa x.ws.length a.wc, .slice a.oa x.os.length a.oc, .slice a.ka x.kn.length a.kc] 32)).alloc (.cells #[.int .i64 0, .bool false, .slice none 0 0, .slice none 0 0, .slice none 0 0, .slice none 0 0, .slice none 0 0] 32)).alloc (.cells #[.int .i64 0, .int .i64 0, .int .i64 0, .int .i64 0, .int .i64 0, .int .i64 0, .int .i64 0, .int .i64 0, .bool false, .slice none 0 0, .int .i64 0, .int .i64 0, .slice none 0 0, .slice none 0 0, .slice none 0 0] 41)) := (((Below.refl _ _).alloc (Nat.le_refl _) _).alloc (by simp) _).alloc (by simp; omega) _
  have A0 : Blk (((w.alloc (.cells #[.int .i64 x.site, .bool x.up, .slice a.la x.sl.length a.lc, .slice a.va x.vs.length a.vc, .slice a.wa x.ws.length a.wc, .slice a.oa x.os.length a.oc, .slice a.ka x.kn.length a.kc] 32)).alloc (.cells #[.int .i64 0, .bool false, .slice none 0 0, .slice none 0 0, .slice none 0 0, .slice none 0 0, .slice none 0 0] 32)).alloc (.cells #[.int .i64 0, .int .i64 0, .int .i64 0, .int .i64 0, .int .i64 0, .int .i64 0, .int .i64 0, .int .i64 0, .bool false, .slice none 0 0, .int .i64 0, .int .i64 0, .slice none 0 0, .slice none 0 0, .slice none 0 0] 41)) w.heap.size #[.int .i64 x.site, .bool x.up, .slice a.la x.sl.length a.lc, .slice a.va x.vs.length a.vc, .slice a.wa x.ws.length a.wc, .slice a.oa x.os.length a.oc, .slice a.ka x.kn.length a.kc] 32 := ((Blk.new w _ _).alloc _).alloc _
  have S0 : Blk (((w.alloc (.cells #[.int .i64 x.site, .bool x.up, .slice a.la x.sl.length a.lc, .slice a.va x.vs.length a.vc, .slice a.wa x.ws.length a.wc, .slice a.oa x.os.length a.oc, .slice a.ka x.kn.length a.kc] 32)).alloc (.cells #[.int .i64 0, .bool false, .slice none 0 0, .slice none 0 0, .slice none 0 0, .slice none 0 0, .slice none 0 0] 32)).alloc (.cells #[.int .i64 0, .int .i64 0, .int .i64 0, .int .i64 0, .int .i64 0, .int .i64 0, .int .i64 0, .int .i64 0, .bool false, .slice none 0 0, .int .i64 0, .int .i64 0, .slice none 0 0, .slice none 0 0, .slice none 0 0] 41)) (w.heap.size + 1) #[.int .i64 0, .bool false, .slice none 0 0, .slice none 0 0, .slice none 0 0, .slice none 0 0, .slice none 0 0] 32 := by have := (Blk.new (w.alloc (.cells #[.int .i64 x.site, .bool x.up, .slice a.la x.sl.length a.lc, .slice a.va x.vs.length a.vc, .slice a.wa x.ws.length a.wc, .slice a.oa x.os.length a.oc, .slice a.ka x.kn.length a.kc] 32)) #[.int .i64 0, .bool false, .slice none 0 0, .slice none 0 0, .slice none 0 0, .slice none 0 0, .slice none 0 0] 32).alloc (.cells #[.int .i64 0, .int .i64 0, .int .i64 0, .int .i64 0, .int .i64 0, .int .i64 0, .int .i64 0, .int .i64 0, .bool false, .slice none 0 0, .int .i64 0, .int .i64 0, .slice none 0 0, .slice none 0 0, .slice none 0 0] 41); simpa using this
  have W0 : Blk (((w.alloc (.cells #[.int .i64 x.site, .bool x.up, .slice a.la x.sl.length a.lc, .slice a.va x.vs.length a.vc, .slice a.wa x.ws.length a.wc, .slice a.oa x.os.length a.oc, .slice a.ka x.kn.length a.kc] 32)).alloc (.cells #[.int .i64 0, .bool false, .slice none 0 0, .slice none 0 0, .slice none 0 0, .slice none 0 0, .slice none 0 0] 32)).alloc (.cells #[.int .i64 0, .int .i64 0, .int .i64 0, .int .i64 0, .int .i64 0, .int .i64 0, .int .i64 0, .int .i64 0, .bool false, .slice none 0 0, .int .i64 0, .int .i64 0, .slice none 0 0, .slice none 0 0, .slice none 0 0] 41)) (w.heap.size + 1 + 1) #[.int .i64 0, .int .i64 0, .int .i64 0, .int .i64 0, .int .i64 0, .int .i64 0, .int .i64 0, .int .i64 0, .bool false, .slice none 0 0, .int .i64 0, .int .i64 0, .slice none 0 0, .slice none 0 0, .slice none 0 0] 41 := by have := Blk.new ((w.alloc (.cells #[.int .i64 x.site, .bool x.up, .slice a.la x.sl.length a.lc, .slice a.va x.vs.length a.vc, .slice a.wa x.ws.length a.wc, .slice a.oa x.os.length a.oc, .slice a.ka x.kn.length a.kc] 32)).alloc (.cells #[.int .i64 0, .bool false, .slice none 0 0, .slice none 0 0, .slice none 0 0, .slice none 0 0, .slice none 0 0] 32)) #[.int .i64 0, .int .i64 0, .int .i64 0, .int .i64 0, .int .i64 0, .int .i64 0, .int .i64 0, .int .i64 0, .bool false, .slice none 0 0, .int .i64 0, .int .i64 0, .slice none 0 0, .slice none 0 0, .slice none 0 0] 41; simpa using this
  have L0 := h.below b0
  have hO := fun W h => sServerOk_any x a W hl h
  rw [hs] at hO
  obtain ⟨m1, m2, m3⟩ := move_goes hs hg
  rw [m1, m2, m3, HN.2, HN.1]
  clear m1 m2 m3 HN hg he
  generalize parcelX x.site 0 (t1.ep + 1) x.vs x.ws x.os = z at *
  go_enter Tryz.func16, Tryz.ntmps16
  go_wp2_with fail
  generalize (((w.alloc (.cells #[.int .i64 x.site, .bool x.up, .slice a.la x.sl.length a.lc, .slice a.va x.vs.length a.vc, .slice a.wa x.ws.length a.wc, .slice a.oa x.os.length a.oc, .slice a.ka x.kn.length a.kc] 32)).alloc (.cells #[.int .i64 0, .bool false, .slice none 0 0, .slice none 0 0, .slice none 0 0, .slice none 0 0, .slice none 0 0] 32)).alloc (.cells #[.int .i64 0, .int .i64 0, .int .i64 0, .int .i64 0, .int .i64 0, .int .i64 0, .int .i64 0, .int .i64 0, .bool false, .slice none 0 0, .int .i64 0, .int .i64 0, .slice none 0 0, .slice none 0 0, .slice none 0 0] 41)) = v0 at *
  refine (hO _ L0).mono ?_
  rintro e w1 ⟨rfl, hb⟩
  have A1 := A0.below hb A0.lt
  have S1 := S0.below hb S0.lt
  have W1 := W0.below hb W0.lt
  have B1 : Below w.heap.size w w1 := b0.trans (hb.mono b0.size)
  have n1 := hb.size
  have n0 := b0.size
  have z0 := W0.lt
  clear S0 W0 A0 b0 hb L0 hs hO
  obtain ⟨q1, g1⟩ := A1.rules
  go_wp2_with fail
  clear q1 g1
  refine (sCopySv_any x a _ hl (h.below B1)).mono ?_
  rintro e w2 ⟨b, ys, zs, rfl, P2, hb⟩
  have bt : Below w2.heap.size w2 (w2.alloc (.cells #[.int .i64 x.site, .bool x.up, .slice b.la x.sl.length b.lc, .slice b.va x.vs.length b.vc, .slice b.wa x.ws.length b.wc, .slice b.oa x.os.length b.oc, .slice b.ka x.kn.length b.kc] 32)) := (Below.refl _ _).alloc (Nat.le_refl _) _
  have kk := hb.trans (bt.mono hb.size)
  have A2 := A1.below kk A1.lt
  have S2 := S1.below kk S1.lt
  have W2 := W1.below kk W1.lt
  have D2 := Blk.new w2 #[.int .i64 x.site, .bool x.up, .slice b.la x.sl.length b.lc, .slice b.va x.vs.length b.vc, .slice b.wa x.ws.length b.wc, .slice b.oa x.os.length b.oc, .slice b.ka x.kn.length b.kc] 32
  have B2 : Below w.heap.size w (w2.alloc (.cells #[.int .i64 x.site, .bool x.up, .slice b.la x.sl.length b.lc, .slice b.va x.vs.length b.vc, .slice b.wa x.ws.length b.wc, .slice b.oa x.os.length b.oc, .slice b.ka x.kn.length b.kc] 32)) := B1.trans (kk.mono B1.size)
  have P3 := P2.below bt (Nat.le_refl _)
  have n2 := hb.size
  clear A1 S1 W1 B1 kk bt hb P2
  have g1 := A2.rules.2
  have q1 : ∀ j, (w2.alloc (.cells #[.int .i64 x.site, .bool x.up, .slice b.la x.sl.length b.lc, .slice b.va x.vs.length b.vc, .slice b.wa x.ws.length b.wc, .slice b.oa x.os.length b.oc, .slice b.ka x.kn.length b.kc] 32)).cell? ⟨w.heap.size, j, none⟩ = #[.int .i64 x.site, .bool true, .slice (some ⟨sb, so, none⟩) 3 a.lc, .slice a.va x.vs.length a.vc, .slice a.wa x.ws.length a.wc, .slice a.oa x.os.length a.oc, .slice a.ka x.kn.length a.kc][j]? := fun j => by
    have e1 : (#[.int .i64 x.site, .bool x.up, .slice a.la x.sl.length a.lc, .slice a.va x.vs.length a.vc, .slice a.wa x.ws.length a.wc, .slice a.oa x.os.length a.oc, .slice a.ka x.kn.length a.kc] : Array Value) = #[.int .i64 x.site, .bool true, .slice (some ⟨sb, so, none⟩) 3 a.lc, .slice a.va x.vs.length a.vc, .slice a.wa x.ws.length a.wc, .slice a.oa x.os.length a.oc, .slice a.ka x.kn.length a.kc] := by rw [HU.out, HLA.out, HLS.out]
    rw [← e1]
    exact A2.cell j
  obtain ⟨q2, g2⟩ := S2.rules
  obtain ⟨q3, g3⟩ := W2.rules
  have d0' := (B2.cell (p := ⟨sb, so, none⟩) hsb).trans d0
  have d1' := (B2.cell (p := ⟨sb, so + 1, none⟩) hsb).trans d1
  obtain ⟨g, hbl, hgb⟩ : ∃ g, b.la = some ⟨g, 0, none⟩ ∧ ∃ cur, Blk (w2.alloc (.cells #[.int .i64 x.site, .bool x.up, .slice b.la x.sl.length b.lc, .slice b.va x.vs.length b.vc, .slice b.wa x.ws.length b.wc, .slice b.oa x.os.length b.oc, .slice b.ka x.kn.length b.kc] 32)) g cur 84 ∧ w1.heap.size ≤ g := by
    have hrow := P3.l
    rcases hrow.2 with ⟨e1, e2⟩ | ⟨g, cap, cur, e1, hcap, hg2, _⟩
    · rw [HLS.out] at e2; cases e2
    · injection e1 with e1 _ _
      exact ⟨g, e1, cur, hg2, (hrow.lt g (by rw [e1]; rfl)).1⟩
  obtain ⟨cur, G2, hg1⟩ := hgb
  have HBL : Hid (b.la = some ⟨g, 0, none⟩) := hbl
  have sl2 : Slots (w2.alloc (.cells #[.int .i64 x.site, .bool x.up, .slice b.la x.sl.length b.lc, .slice b.va x.vs.length b.vc, .slice b.wa x.ws.length b.wc, .slice b.oa x.os.length b.oc, .slice b.ka x.kn.length b.kc] 32)) (some ⟨g, 0, none⟩) x.sl := by
    have h3 := rowS_slots P3.l
    generalize (w2.alloc (.cells #[.int .i64 x.site, .bool x.up, .slice b.la x.sl.length b.lc, .slice b.va x.vs.length b.vc, .slice b.wa x.ws.length b.wc, .slice b.oa x.os.length b.oc, .slice b.ka x.kn.length b.kc] 32)) = U at h3 ⊢
    rw [HBL.out] at h3
    exact h3
  clear hbl
  have g4 := D2.rules.2
  have q4 : ∀ j, (w2.alloc (.cells #[.int .i64 x.site, .bool x.up, .slice b.la x.sl.length b.lc, .slice b.va x.vs.length b.vc, .slice b.wa x.ws.length b.wc, .slice b.oa x.os.length b.oc, .slice b.ka x.kn.length b.kc] 32)).cell? ⟨w2.heap.size, j, none⟩ = #[.int .i64 x.site, .bool x.up, .slice (some ⟨g, 0, none⟩) 3 b.lc, .slice b.va x.vs.length b.vc, .slice b.wa x.ws.length b.wc, .slice b.oa x.os.length b.oc, .slice b.ka x.kn.length b.kc][j]? := fun j => by
    have e1 : (#[.int .i64 x.site, .bool x.up, .slice b.la x.sl.length b.lc, .slice b.va x.vs.length b.vc, .slice b.wa x.ws.length b.wc, .slice b.oa x.os.length b.oc, .slice b.ka x.kn.length b.kc] : Array Value) = #[.int .i64 x.site, .bool x.up, .slice (some ⟨g, 0, none⟩) 3 b.lc, .slice b.va x.vs.length b.vc, .slice b.wa x.ws.length b.wc, .slice b.oa x.os.length b.oc, .slice b.ka x.kn.length b.kc] := by rw [HBL.out, HLS.out]
    rw [← e1]
    exact D2.cell j
  have gg := G2.rules.2
  have hold := fun (i : Nat) (hi : i < 3) => slots_cell2 sl2 HSL.out i hi
  have sg0 := (hold 0 (by omega)).1
  have sg1 := (hold 0 (by omega)).2
  simp at sg0 sg1
  have on3 : Only (w2.alloc (.cells #[.int .i64 x.site, .bool x.up, .slice b.la x.sl.length b.lc, .slice b.va x.vs.length b.vc, .slice b.wa x.ws.length b.wc, .slice b.oa x.os.length b.oc, .slice b.ka x.kn.length b.kc] 32)) ((((w2.alloc (.cells #[.int .i64 x.site, .bool x.up, .slice b.la x.sl.length b.lc, .slice b.va x.vs.length b.vc, .slice b.wa x.ws.length b.wc, .slice b.oa x.os.length b.oc, .slice b.ka x.kn.length b.kc] 32)).setCell ⟨g, 0, none⟩ (.int .i64 (t1.ep + 1))).setCell ⟨g, 1, none⟩ (.int .i64 2)).drew) (fun j => j = g) := Only.drew1 (((Only.refl _ (fun j => j = g)).set (A := g) rfl _).set (A := g) rfl _)
  have hgne : g ≠ w2.heap.size := fun e => by
    have h1 := G2
    rw [e] at h1
    have h2 := D2
    unfold Blk at h1 h2
    rw [h1] at h2
    simp at h2
  have A3 := on3.blk A2 (by omega)
  have S3 := on3.blk S2 (by omega)
  have W3 := on3.blk W2 (by omega)
  have D3 := on3.blk D2 (fun e => hgne e.symm)
  obtain ⟨cur3, G3, HC3⟩ := slots_left0 hold G2
  have la : ∀ j, j = g → (Value.slice b.la x.sl.length b.lc).ownBlock = some j := fun j e => by rw [HBL.out, e]; rfl
  have V3 := on3.ownV P3.v (fun j hj e => slot_apart P3.l P3.v j (la j e) hj)
  have X3 := on3.ownV P3.w (fun j hj e => slot_apart P3.l P3.w j (la j e) hj)
  have O3 : RowD ((((w2.alloc (.cells #[.int .i64 x.site, .bool x.up, .slice b.la x.sl.length b.lc, .slice b.va x.vs.length b.vc, .slice b.wa x.ws.length b.wc, .slice b.oa x.os.length b.oc, .slice b.ka x.kn.length b.kc] 32)).setCell ⟨g, 0, none⟩ (.int .i64 (t1.ep + 1))).setCell ⟨g, 1, none⟩ (.int .i64 2)).drew) w1.heap.size (.slice b.oa x.os.length b.oc) x.os := on3.row P3.o (fun j hj e => slot_apartD P3.l P3.o j (la j e) hj)
  have K3 : RowD ((((w2.alloc (.cells #[.int .i64 x.site, .bool x.up, .slice b.la x.sl.length b.lc, .slice b.va x.vs.length b.vc, .slice b.wa x.ws.length b.wc, .slice b.oa x.os.length b.oc, .slice b.ka x.kn.length b.kc] 32)).setCell ⟨g, 0, none⟩ (.int .i64 (t1.ep + 1))).setCell ⟨g, 1, none⟩ (.int .i64 2)).drew) w1.heap.size (.slice b.ka x.kn.length b.kc) x.kn := on3.row P3.k (fun j hj e => slot_apartD P3.l P3.k j (la j e) hj)
  have HYZ : Hid (ys.map XV.v = x.vs ∧ zs.map XV.v = x.ws) := ⟨P3.hy, P3.hz⟩
  have B3 : Below w.heap.size w ((((w2.alloc (.cells #[.int .i64 x.site, .bool x.up, .slice b.la x.sl.length b.lc, .slice b.va x.vs.length b.vc, .slice b.wa x.ws.length b.wc, .slice b.oa x.os.length b.oc, .slice b.ka x.kn.length b.kc] 32)).setCell ⟨g, 0, none⟩ (.int .i64 (t1.ep + 1))).setCell ⟨g, 1, none⟩ (.int .i64 2)).drew) := B2.trans (on3.below B2.size (fun j hj => by omega))
  have q5 : ∀ j, ((((w2.alloc (.cells #[.int .i64 x.site, .bool x.up, .slice b.la x.sl.length b.lc, .slice b.va x.vs.length b.vc, .slice b.wa x.ws.length b.wc, .slice b.oa x.os.length b.oc, .slice b.ka x.kn.length b.kc] 32)).setCell ⟨g, 0, none⟩ (.int .i64 (t1.ep + 1))).setCell ⟨g, 1, none⟩ (.int .i64 2)).drew).cell? ⟨w2.heap.size, j, none⟩ = #[.int .i64 x.site, .bool x.up, .slice (some ⟨g, 0, none⟩) 3 b.lc, .slice b.va x.vs.length b.vc, .slice b.wa x.ws.length b.wc, .slice b.oa x.os.length b.oc, .slice b.ka x.kn.length b.kc][j]? := fun j => by
    have e1 : (#[.int .i64 x.site, .bool x.up, .slice b.la x.sl.length b.lc, .slice b.va x.vs.length b.vc, .slice b.wa x.ws.length b.wc, .slice b.oa x.os.length b.oc, .slice b.ka x.kn.length b.kc] : Array Value) = #[.int .i64 x.site, .bool x.up, .slice (some ⟨g, 0, none⟩) 3 b.lc, .slice b.va x.vs.length b.vc, .slice b.wa x.ws.length b.wc, .slice b.oa x.os.length b.oc, .slice b.ka x.kn.length b.kc] := by rw [HBL.out, HLS.out]
    rw [← e1]
    exact D3.cell j
  have q6 : ∀ j, ((((w2.alloc (.cells #[.int .i64 x.site, .bool x.up, .slice b.la x.sl.length b.lc, .slice b.va x.vs.length b.vc, .slice b.wa x.ws.length b.wc, .slice b.oa x.os.length b.oc, .slice b.ka x.kn.length b.kc] 32)).setCell ⟨g, 0, none⟩ (.int .i64 (t1.ep + 1))).setCell ⟨g, 1, none⟩ (.int .i64 2)).drew).cell? ⟨w.heap.size, j, none⟩ = #[.int .i64 x.site, .bool true, .slice (some ⟨sb, so, none⟩) 3 a.lc, .slice a.va x.vs.length a.vc, .slice a.wa x.ws.length a.wc, .slice a.oa x.os.length a.oc, .slice a.ka x.kn.length a.kc][j]? := fun j => by
    have e1 : (#[.int .i64 x.site, .bool x.up, .slice a.la x.sl.length a.lc, .slice a.va x.vs.length a.vc, .slice a.wa x.ws.length a.wc, .slice a.oa x.os.length a.oc, .slice a.ka x.kn.length a.kc] : Array Value) = #[.int .i64 x.site, .bool true, .slice (some ⟨sb, so, none⟩) 3 a.lc, .slice a.va x.vs.length a.vc, .slice a.wa x.ws.length a.wc, .slice a.oa x.os.length a.oc, .slice a.ka x.kn.length a.kc] := by rw [HU.out, HLA.out, HLS.out]
    rw [← e1]
    exact A3.cell j
  have k1 : (w2.alloc (.cells #[.int .i64 x.site, .bool x.up, .slice b.la x.sl.length b.lc, .slice b.va x.vs.length b.vc, .slice b.wa x.ws.length b.wc, .slice b.oa x.os.length b.oc, .slice b.ka x.kn.length b.kc] 32)).drew.cell? ⟨w2.heap.size, 2, none⟩ = some (.slice (some ⟨g, 0, none⟩) 3 b.lc) ∧ (w2.alloc (.cells #[.int .i64 x.site, .bool x.up, .slice b.la x.sl.length b.lc, .slice b.va x.vs.length b.vc, .slice b.wa x.ws.length b.wc, .slice b.oa x.os.length b.oc, .slice b.ka x.kn.length b.kc] 32)).drew.cell? ⟨w.heap.size, 2, none⟩ = some (.slice (some ⟨sb, so, none⟩) 3 a.lc) ∧ (w2.alloc (.cells #[.int .i64 x.site, .bool x.up, .slice b.la x.sl.length b.lc, .slice b.va x.vs.length b.vc, .slice b.wa x.ws.length b.wc, .slice b.oa x.os.length b.oc, .slice b.ka x.kn.length b.kc] 32)).drew.cell? ⟨sb, so, none⟩ = some (.int .i64 t1.ep) := ⟨q4 2, q1 2, d0'⟩
  have k2 : (((w2.alloc (.cells #[.int .i64 x.site, .bool x.up, .slice b.la x.sl.length b.lc, .slice b.va x.vs.length b.vc, .slice b.wa x.ws.length b.wc, .slice b.oa x.os.length b.oc, .slice b.ka x.kn.length b.kc] 32)).setCell ⟨g, 0, none⟩ (.int .i64 (t1.ep + 1))).setCell ⟨g, 1, none⟩ (.int .i64 2)).drew.cell? ⟨w2.heap.size, 2, none⟩ = some (.slice (some ⟨g, 0, none⟩) 3 b.lc) ∧ (((w2.alloc (.cells #[.int .i64 x.site, .bool x.up, .slice b.la x.sl.length b.lc, .slice b.va x.vs.length b.vc, .slice b.wa x.ws.length b.wc, .slice b.oa x.os.length b.oc, .slice b.ka x.kn.length b.kc] 32)).setCell ⟨g, 0, none⟩ (.int .i64 (t1.ep + 1))).setCell ⟨g, 1, none⟩ (.int .i64 2)).drew.cell? ⟨w.heap.size, 2, none⟩ = some (.slice (some ⟨sb, so, none⟩) 3 a.lc) ∧ (((w2.alloc (.cells #[.int .i64 x.site, .bool x.up, .slice b.la x.sl.length b.lc, .slice b.va x.vs.length b.vc, .slice b.wa x.ws.length b.wc, .slice b.oa x.os.length b.oc, .slice b.ka x.kn.length b.kc] 32)).setCell ⟨g, 0, none⟩ (.int .i64 (t1.ep + 1))).setCell ⟨g, 1, none⟩ (.int .i64 2)).drew.cell? ⟨sb, so, none⟩ = some (.int .i64 t1.ep) := ⟨q5 2, q6 2, (B3.cell (p := ⟨sb, so, none⟩) hsb).trans d0⟩
  go_wp2_with (first | (go_at_call 60; refine (hI _).mono ?_; rintro e wy ⟨rfl, rfl⟩))
  go_region_held3 (fun W => W.cell? ⟨w2.heap.size, 2, none⟩ = some (.slice (some ⟨g, 0, none⟩) 3 b.lc) ∧ W.cell? ⟨w.heap.size, 2, none⟩ = some (.slice (some ⟨sb, so, none⟩) 3 a.lc) ∧ W.cell? ⟨sb, so, none⟩ = some (.int .i64 t1.ep)) (with_reducible (first | exact k1 | exact k2)) (fail)
  clear A2 S2 W2 D2 P3 q1 g1 q2 g2 q3 g3 q4 g4 gg G2 on3 d0' d1' sg0 sg1 hold sl2 B2 k1 k2 q5 q6 A3
  have q7 : ∀ j, ((((w2.alloc (.cells #[.int .i64 x.site, .bool x.up, .slice b.la x.sl.length b.lc, .slice b.va x.vs.length b.vc, .slice b.wa x.ws.length b.wc, .slice b.oa x.os.length b.oc, .slice b.ka x.kn.length b.kc] 32)).setCell ⟨g, 0, none⟩ (.int .i64 (t1.ep + 1))).setCell ⟨g, 1, none⟩ (.int .i64 2)).drew).cell? ⟨w2.heap.size, j, none⟩ = #[.int .i64 x.site, .bool x.up, .slice b.la 3 b.lc, .slice b.va x.vs.length b.vc, .slice b.wa x.ws.length b.wc, .slice b.oa x.os.length b.oc, .slice b.ka x.kn.length b.kc][j]? := fun j => by
    have e1 : (#[.int .i64 x.site, .bool x.up, .slice b.la x.sl.length b.lc, .slice b.va x.vs.length b.vc, .slice b.wa x.ws.length b.wc, .slice b.oa x.os.length b.oc, .slice b.ka x.kn.length b.kc] : Array Value) = #[.int .i64 x.site, .bool x.up, .slice b.la 3 b.lc, .slice b.va x.vs.length b.vc, .slice b.wa x.ws.length b.wc, .slice b.oa x.os.length b.oc, .slice b.ka x.kn.length b.kc] := by rw [HLS.out]
    rw [← e1]
    exact D3.cell j
  generalize ((((w2.alloc (.cells #[.int .i64 x.site, .bool x.up, .slice b.la x.sl.length b.lc, .slice b.va x.vs.length b.vc, .slice b.wa x.ws.length b.wc, .slice b.oa x.os.length b.oc, .slice b.ka x.kn.length b.kc] 32)).setCell ⟨g, 0, none⟩ (.int .i64 (t1.ep + 1))).setCell ⟨g, 1, none⟩ (.int .i64 2)).drew) = u3 at *
  have mkI : ∀ W, OwnV W w1.heap.size (.slice b.va x.vs.length b.vc) ys → OwnV W w1.heap.size (.slice b.wa x.ws.length b.wc) zs → RowD W w1.heap.size (.slice b.oa x.os.length b.oc) x.os → RowD W w1.heap.size (.slice b.ka x.kn.length b.kc) x.kn → Blk W g cur3 84 → InS W ⟨x.site, x.up, [⟨t1.ep + 1, 2⟩, t2, t3], x.vs, x.ws, x.os, x.kn⟩ b := fun W i1 i2 i3 i4 i5 => by
    refine ⟨?_, i1.asV HYZ.out.1, i2.asV HYZ.out.2, row_deps' i3, row_deps' i4⟩
    show Slots W b.la _
    rw [HBL.out]
    exact HC3.out W i5
  have I3 := mkI u3 V3 X3 O3 K3 G3
  go_wp2_with fail
  have k1 : ∀ j, u3.drew.cell? ⟨w2.heap.size, j, none⟩ = #[.int .i64 x.site, .bool x.up, .slice b.la 3 b.lc, .slice b.va x.vs.length b.vc, .slice b.wa x.ws.length b.wc, .slice b.oa x.os.length b.oc, .slice b.ka x.kn.length b.kc][j]? := q7
  go_region_held3 (fun W => ∀ j, W.cell? ⟨w2.heap.size, j, none⟩ = #[.int .i64 x.site, .bool x.up, .slice b.la 3 b.lc, .slice b.va x.vs.length b.vc, .slice b.wa x.ws.length b.wc, .slice b.oa x.os.length b.oc, .slice b.ka x.kn.length b.kc][j]?) (with_reducible (first | exact k1 | exact k2 | exact k3 | exact k4)) (first | (go_at_call 61; refine (hBk b _ (I3.below (Below.refl _ _).drew)).mono ?_; rintro e w4 ⟨c, us, ts, rfl, IL, hb4⟩; have b4 : Below u3.heap.size u3 w4 := ((Below.refl u3.heap.size u3).drew).trans hb4; have S4 := S3.below b4 S3.lt; have W4 := W3.below b4 W3.lt; have D4 := D3.below b4 D3.lt; have k2 : ∀ j, w4.cell? ⟨w2.heap.size, j, none⟩ = #[.int .i64 x.site, .bool x.up, .slice b.la 3 b.lc, .slice b.va x.vs.length b.vc, .slice b.wa x.ws.length b.wc, .slice b.oa x.os.length b.oc, .slice b.ka x.kn.length b.kc][j]? := fun j => (b4.cell (p := ⟨w2.heap.size, j, none⟩) D3.lt).trans (q7 j); have k3 : ∀ j, (((((((w4.setCell ⟨w.heap.size + 1, 0, none⟩ (.int .i64 x.site)).setCell ⟨w.heap.size + 1, 1, none⟩ (.bool x.up)).setCell ⟨w.heap.size + 1, 2, none⟩ (.slice b.la 3 b.lc)).setCell ⟨w.heap.size + 1, 3, none⟩ (.slice b.va x.vs.length b.vc)).setCell ⟨w.heap.size + 1, 4, none⟩ (.slice b.wa x.ws.length b.wc)).setCell ⟨w.heap.size + 1, 5, none⟩ (.slice b.oa x.os.length b.oc)).setCell ⟨w.heap.size + 1, 6, none⟩ (.slice b.ka x.kn.length b.kc)).cell? ⟨w2.heap.size, j, none⟩ = #[.int .i64 x.site, .bool x.up, .slice b.la 3 b.lc, .slice b.va x.vs.length b.vc, .slice b.wa x.ws.length b.wc, .slice b.oa x.os.length b.oc, .slice b.ka x.kn.length b.kc][j]? := fun j => (fill7_only.cell1 D4.lt (by omega)).trans (k2 j); have k4 : ∀ j, ((((((((((((((((((((((w4.setCell ⟨w.heap.size + 1, 0, none⟩ (.int .i64 x.site)).setCell ⟨w.heap.size + 1, 1, none⟩ (.bool x.up)).setCell ⟨w.heap.size + 1, 2, none⟩ (.slice b.la 3 b.lc)).setCell ⟨w.heap.size + 1, 3, none⟩ (.slice b.va x.vs.length b.vc)).setCell ⟨w.heap.size + 1, 4, none⟩ (.slice b.wa x.ws.length b.wc)).setCell ⟨w.heap.size + 1, 5, none⟩ (.slice b.oa x.os.length b.oc)).setCell ⟨w.heap.size + 1, 6, none⟩ (.slice b.ka x.kn.length b.kc)).setCell ⟨w.heap.size + 1 + 1, 0, none⟩ (.int .i64 z.kind)).setCell ⟨w.heap.size + 1 + 1, 1, none⟩ (.int .i64 z.fr)).setCell ⟨w.heap.size + 1 + 1, 2, none⟩ (.int .i64 z.to)).setCell ⟨w.heap.size + 1 + 1, 3, none⟩ (.int .i64 z.call)).setCell ⟨w.heap.size + 1 + 1, 4, none⟩ (.int .i64 z.key)).setCell ⟨w.heap.size + 1 + 1, 5, none⟩ (.int .i64 z.t)).setCell ⟨w.heap.size + 1 + 1, 6, none⟩ (.int .i64 z.s)).setCell ⟨w.heap.size + 1 + 1, 7, none⟩ (.int .i64 z.val)).setCell ⟨w.heap.size + 1 + 1, 8, none⟩ (.bool z.yes)).setCell ⟨w.heap.size + 1 + 1, 9, none⟩ (.slice c.da z.ds.length c.dc)).setCell ⟨w.heap.size + 1 + 1, 10, none⟩ (.int .i64 z.slot)).setCell ⟨w.heap.size + 1 + 1, 11, none⟩ (.int .i64 z.ep)).setCell ⟨w.heap.size + 1 + 1, 12, none⟩ (.slice c.va z.vs.length c.vc)).setCell ⟨w.heap.size + 1 + 1, 13, none⟩ (.slice c.wa z.ws.length c.wc)).setCell ⟨w.heap.size + 1 + 1, 14, none⟩ (.slice c.oa z.os.length c.oc)).cell? ⟨w2.heap.size, j, none⟩ = #[.int .i64 x.site, .bool x.up, .slice b.la 3 b.lc, .slice b.va x.vs.length b.vc, .slice b.wa x.ws.length b.wc, .slice b.oa x.os.length b.oc, .slice b.ka x.kn.length b.kc][j]? := fun j => (fill22_only.cell1 D4.lt (by omega)).trans (k2 j); obtain ⟨qs, gs⟩ := S4.rules; obtain ⟨qw, gw⟩ := W4.rules))
  all_goals go_wp2_with fail
  all_goals
    have zd := D3.lt
    have ed : u3.drew.heap.size = u3.heap.size := rfl
    have V4 := V3.below b4 (Nat.le_refl _)
    have X4 := X3.below b4 (Nat.le_refl _)
    have O4 := row_below O3 b4 (Nat.le_refl _)
    have K4 := row_below K3 b4 (Nat.le_refl _)
    have G4 := G3.below b4 G3.lt
    refine bodyPost_ret (v := .tuple #[.agg #[.int .i64 x.site, .bool x.up, .slice b.la 3 b.lc, .slice b.va x.vs.length b.vc, .slice b.wa x.ws.length b.wc, .slice b.oa x.os.length b.oc, .slice b.ka x.kn.length b.kc], .agg #[.int .i64 z.kind, .int .i64 z.fr, .int .i64 z.to, .int .i64 z.call, .int .i64 z.key, .int .i64 z.t, .int .i64 z.s, .int .i64 z.val, .bool z.yes, .slice c.da z.ds.length c.dc, .int .i64 z.slot, .int .i64 z.ep, .slice c.va z.vs.length c.vc, .slice c.wa z.ws.length c.wc, .slice c.oa z.os.length c.oc], .bool true]) ?_ rfl ⟨b, c, rfl, ?_, ?_, fill22_below (B3.trans (b4.mono B3.size)) (by omega) (by omega)⟩
    · refine Blk.gen2 (A := w.heap.size + 1) (B := w.heap.size + 1 + 1) (vs := #[.int .i64 x.site, .bool x.up, .slice b.la 3 b.lc, .slice b.va x.vs.length b.vc, .slice b.wa x.ws.length b.wc, .slice b.oa x.os.length b.oc, .slice b.ka x.kn.length b.kc]) (us := #[.int .i64 z.kind, .int .i64 z.fr, .int .i64 z.to, .int .i64 z.call, .int .i64 z.key, .int .i64 z.t, .int .i64 z.s, .int .i64 z.val, .bool z.yes, .slice c.da z.ds.length c.dc, .int .i64 z.slot, .int .i64 z.ep, .slice c.va z.vs.length c.vc, .slice c.wa z.ws.length c.wc, .slice c.oa z.os.length c.oc]) (T := 32) (T' := 41) (P := fun W => (results Tryz.f16 _).run Tryz.prog W = .ok _ W) (fill22 S4 W4 (by omega)).1 (fill22 S4 W4 (by omega)).2 ?_
      intro W hA hB
      obtain ⟨k1, f1⟩ := hA.rules
      obtain ⟨k2, f2⟩ := hB.rules
      simp [results, Tryz.results16, go_sem, k1, k2]
    · exact mkI _ (fill22_only.ownV V4 (fun j hj hS => by have := (V4.lt hj).1; rcases hS with hS | hS <;> omega)) (fill22_only.ownV X4 (fun j hj hS => by have := (X4.lt hj).1; rcases hS with hS | hS <;> omega)) (fill22_only.row O4 (fun j hj hS => by have := (O4.lt j hj).1; rcases hS with hS | hS <;> omega)) (fill22_only.row K4 (fun j hj hS => by have := (K4.lt j hj).1; rcases hS with hS | hS <;> omega)) (fill22_only.blk G4 (fun hS => by rcases hS with hS | hS <;> omega))
    · exact (fill22_only.ownH IL (fun j hj hS => by rcases hS with hS | hS <;> omega)).inL

set_option maxHeartbeats 4000000 in
set_option maxRecDepth 20000 in
theorem sMove_goes1 (x : Sv) (a : Sa) (w : World) (hl : LenS x) (h : InS w x a) (hs : servB x = true) (hg : goB x 1 = true) : Calls Tryz.prog 16 #[servV x a, .int .i64 1] w fun e w' => ∃ b c, e = .returned (.tuple #[servV (moveS x 1) b, wordV (moveW x 1) c, .bool (moveB x 1)]) ∧ InS w' (moveS x 1) b ∧ InL w' (moveW x 1) c ∧ Below w.heap.size w w' := by
  obtain ⟨t1, t2, t3, he⟩ := slotsB_three (xs := x.sl) (by unfold servB at hs; simp at hs; exact hs.1.1.1.1.1.1.1)
  obtain ⟨s0, s3, hu, hw1, he1, hz1⟩ := goes1 hs hg he
  have ht : t2.st = 1 := by
    have h2 : standAt [t1, t2, t3] 1 = t2.st := rfl
    unfold ownsB at hw1
    rw [h2] at hw1
    simpa using hw1
  have HU : Hid (x.up = true) := hu
  have lsl : x.sl.length = 3 := by rw [he]; rfl
  have HLS : Hid (x.sl.length = 3) := lsl
  have HSL : Hid (x.sl = [t1, t2, t3]) := he
  obtain ⟨sb, so, hla, hsb, c0, c1⟩ := h.l.at (k := 1) (by omega)
  have HLA : Hid (a.la = some ⟨sb, so, none⟩) := hla
  have e9 : x.sl[1]'(by omega) = t2 := by simp [he]
  rw [e9] at c0 c1
  rw [ht] at c1
  have d0 : w.cell? ⟨sb, so + 2, none⟩ = some (.int .i64 t2.ep) := by simpa using c0
  have d1 : w.cell? ⟨sb, so + 2 + 1, none⟩ = some (.int .i64 1) := by simpa using c1
  have hI := fun W => in_any 1 0 2 W
  have hin : inB 1 0 2 = true := by decide
  rw [hin] at hI
  have dn : decide (9999 ≤ t2.ep) = false := by simp; omega
  have hwr : IntKind.i64.wrap (t2.ep + 1) = t2.ep + 1 := by simp only [IntKind.wrap, IntKind.bits, IntKind.signed]; simp; omega
  have HN : leftX x 1 = ⟨x.site, x.up, [t1, ⟨t2.ep + 1, 2⟩, t3], x.vs, x.ws, x.os, x.kn⟩ ∧ bulkX (leftX x 1) 1 = parcelX x.site 1 (t2.ep + 1) x.vs x.ws x.os := by
    unfold leftX bulkX parcelX
    rw [he]
    exact ⟨rfl, rfl⟩
  have ly : LenS ⟨x.site, x.up, [t1, ⟨t2.ep + 1, 2⟩, t3], x.vs, x.ws, x.os, x.kn⟩ := ⟨by simp, hl.v, hl.w, hl.o, hl.k⟩
  have hBk := fun b W h => sBulk1_any ⟨x.site, x.up, [t1, ⟨t2.ep + 1, 2⟩, t3], x.vs, x.ws, x.os, x.kn⟩ b t1 ⟨t2.ep + 1, 2⟩ t3 W ly h rfl s0 s3
  dsimp only at hBk
  clear c0 c1 hu hla hw1 he1 hz1 ht
  clear e9
  clear lsl hin
  have b0 : Below w.heap.size w (((w.alloc (.cells #[.int .i64 x.site, .bool x.up, .slice a.la x.sl.length a.lc, .slice a.va x.vs.length a.vc, .slice a.wa x.ws.length a.wc, .slice a.oa x.os.length a.oc, .slice a.ka x.kn.length a.kc] 32)).alloc (.cells #[.int .i64 0, .bool false, .slice none 0 0, .slice none 0 0, .slice none 0 0, .slice none 0 0, .slice none 0 0] 32)).alloc (.cells #[.int .i64 0, .int .i64 0, .int .i64 0, .int .i64 0, .int .i64 0, .int .i64 0, .int .i64 0, .int .i64 0, .bool false, .slice none 0 0, .int .i64 0, .int .i64 0, .slice none 0 0, .slice none 0 0, .slice none 0 0] 41)) := (((Below.refl _ _).alloc (Nat.le_refl _) _).alloc (by simp) _).alloc (by simp; omega) _
  have A0 : Blk (((w.alloc (.cells #[.int .i64 x.site, .bool x.up, .slice a.la x.sl.length a.lc, .slice a.va x.vs.length a.vc, .slice a.wa x.ws.length a.wc, .slice a.oa x.os.length a.oc, .slice a.ka x.kn.length a.kc] 32)).alloc (.cells #[.int .i64 0, .bool false, .slice none 0 0, .slice none 0 0, .slice none 0 0, .slice none 0 0, .slice none 0 0] 32)).alloc (.cells #[.int .i64 0, .int .i64 0, .int .i64 0, .int .i64 0, .int .i64 0, .int .i64 0, .int .i64 0, .int .i64 0, .bool false, .slice none 0 0, .int .i64 0, .int .i64 0, .slice none 0 0, .slice none 0 0, .slice none 0 0] 41)) w.heap.size #[.int .i64 x.site, .bool x.up, .slice a.la x.sl.length a.lc, .slice a.va x.vs.length a.vc, .slice a.wa x.ws.length a.wc, .slice a.oa x.os.length a.oc, .slice a.ka x.kn.length a.kc] 32 := ((Blk.new w _ _).alloc _).alloc _
  have S0 : Blk (((w.alloc (.cells #[.int .i64 x.site, .bool x.up, .slice a.la x.sl.length a.lc, .slice a.va x.vs.length a.vc, .slice a.wa x.ws.length a.wc, .slice a.oa x.os.length a.oc, .slice a.ka x.kn.length a.kc] 32)).alloc (.cells #[.int .i64 0, .bool false, .slice none 0 0, .slice none 0 0, .slice none 0 0, .slice none 0 0, .slice none 0 0] 32)).alloc (.cells #[.int .i64 0, .int .i64 0, .int .i64 0, .int .i64 0, .int .i64 0, .int .i64 0, .int .i64 0, .int .i64 0, .bool false, .slice none 0 0, .int .i64 0, .int .i64 0, .slice none 0 0, .slice none 0 0, .slice none 0 0] 41)) (w.heap.size + 1) #[.int .i64 0, .bool false, .slice none 0 0, .slice none 0 0, .slice none 0 0, .slice none 0 0, .slice none 0 0] 32 := by have := (Blk.new (w.alloc (.cells #[.int .i64 x.site, .bool x.up, .slice a.la x.sl.length a.lc, .slice a.va x.vs.length a.vc, .slice a.wa x.ws.length a.wc, .slice a.oa x.os.length a.oc, .slice a.ka x.kn.length a.kc] 32)) #[.int .i64 0, .bool false, .slice none 0 0, .slice none 0 0, .slice none 0 0, .slice none 0 0, .slice none 0 0] 32).alloc (.cells #[.int .i64 0, .int .i64 0, .int .i64 0, .int .i64 0, .int .i64 0, .int .i64 0, .int .i64 0, .int .i64 0, .bool false, .slice none 0 0, .int .i64 0, .int .i64 0, .slice none 0 0, .slice none 0 0, .slice none 0 0] 41); simpa using this
  have W0 : Blk (((w.alloc (.cells #[.int .i64 x.site, .bool x.up, .slice a.la x.sl.length a.lc, .slice a.va x.vs.length a.vc, .slice a.wa x.ws.length a.wc, .slice a.oa x.os.length a.oc, .slice a.ka x.kn.length a.kc] 32)).alloc (.cells #[.int .i64 0, .bool false, .slice none 0 0, .slice none 0 0, .slice none 0 0, .slice none 0 0, .slice none 0 0] 32)).alloc (.cells #[.int .i64 0, .int .i64 0, .int .i64 0, .int .i64 0, .int .i64 0, .int .i64 0, .int .i64 0, .int .i64 0, .bool false, .slice none 0 0, .int .i64 0, .int .i64 0, .slice none 0 0, .slice none 0 0, .slice none 0 0] 41)) (w.heap.size + 1 + 1) #[.int .i64 0, .int .i64 0, .int .i64 0, .int .i64 0, .int .i64 0, .int .i64 0, .int .i64 0, .int .i64 0, .bool false, .slice none 0 0, .int .i64 0, .int .i64 0, .slice none 0 0, .slice none 0 0, .slice none 0 0] 41 := by have := Blk.new ((w.alloc (.cells #[.int .i64 x.site, .bool x.up, .slice a.la x.sl.length a.lc, .slice a.va x.vs.length a.vc, .slice a.wa x.ws.length a.wc, .slice a.oa x.os.length a.oc, .slice a.ka x.kn.length a.kc] 32)).alloc (.cells #[.int .i64 0, .bool false, .slice none 0 0, .slice none 0 0, .slice none 0 0, .slice none 0 0, .slice none 0 0] 32)) #[.int .i64 0, .int .i64 0, .int .i64 0, .int .i64 0, .int .i64 0, .int .i64 0, .int .i64 0, .int .i64 0, .bool false, .slice none 0 0, .int .i64 0, .int .i64 0, .slice none 0 0, .slice none 0 0, .slice none 0 0] 41; simpa using this
  have L0 := h.below b0
  have hO := fun W h => sServerOk_any x a W hl h
  rw [hs] at hO
  obtain ⟨m1, m2, m3⟩ := move_goes hs hg
  rw [m1, m2, m3, HN.2, HN.1]
  clear m1 m2 m3 HN hg he
  generalize parcelX x.site 1 (t2.ep + 1) x.vs x.ws x.os = z at *
  go_enter Tryz.func16, Tryz.ntmps16
  go_wp2_with fail
  generalize (((w.alloc (.cells #[.int .i64 x.site, .bool x.up, .slice a.la x.sl.length a.lc, .slice a.va x.vs.length a.vc, .slice a.wa x.ws.length a.wc, .slice a.oa x.os.length a.oc, .slice a.ka x.kn.length a.kc] 32)).alloc (.cells #[.int .i64 0, .bool false, .slice none 0 0, .slice none 0 0, .slice none 0 0, .slice none 0 0, .slice none 0 0] 32)).alloc (.cells #[.int .i64 0, .int .i64 0, .int .i64 0, .int .i64 0, .int .i64 0, .int .i64 0, .int .i64 0, .int .i64 0, .bool false, .slice none 0 0, .int .i64 0, .int .i64 0, .slice none 0 0, .slice none 0 0, .slice none 0 0] 41)) = v0 at *
  refine (hO _ L0).mono ?_
  rintro e w1 ⟨rfl, hb⟩
  have A1 := A0.below hb A0.lt
  have S1 := S0.below hb S0.lt
  have W1 := W0.below hb W0.lt
  have B1 : Below w.heap.size w w1 := b0.trans (hb.mono b0.size)
  have n1 := hb.size
  have n0 := b0.size
  have z0 := W0.lt
  clear S0 W0 A0 b0 hb L0 hs hO
  obtain ⟨q1, g1⟩ := A1.rules
  go_wp2_with fail
  clear q1 g1
  refine (sCopySv_any x a _ hl (h.below B1)).mono ?_
  rintro e w2 ⟨b, ys, zs, rfl, P2, hb⟩
  have bt : Below w2.heap.size w2 (w2.alloc (.cells #[.int .i64 x.site, .bool x.up, .slice b.la x.sl.length b.lc, .slice b.va x.vs.length b.vc, .slice b.wa x.ws.length b.wc, .slice b.oa x.os.length b.oc, .slice b.ka x.kn.length b.kc] 32)) := (Below.refl _ _).alloc (Nat.le_refl _) _
  have kk := hb.trans (bt.mono hb.size)
  have A2 := A1.below kk A1.lt
  have S2 := S1.below kk S1.lt
  have W2 := W1.below kk W1.lt
  have D2 := Blk.new w2 #[.int .i64 x.site, .bool x.up, .slice b.la x.sl.length b.lc, .slice b.va x.vs.length b.vc, .slice b.wa x.ws.length b.wc, .slice b.oa x.os.length b.oc, .slice b.ka x.kn.length b.kc] 32
  have B2 : Below w.heap.size w (w2.alloc (.cells #[.int .i64 x.site, .bool x.up, .slice b.la x.sl.length b.lc, .slice b.va x.vs.length b.vc, .slice b.wa x.ws.length b.wc, .slice b.oa x.os.length b.oc, .slice b.ka x.kn.length b.kc] 32)) := B1.trans (kk.mono B1.size)
  have P3 := P2.below bt (Nat.le_refl _)
  have n2 := hb.size
  clear A1 S1 W1 B1 kk bt hb P2
  have g1 := A2.rules.2
  have q1 : ∀ j, (w2.alloc (.cells #[.int .i64 x.site, .bool x.up, .slice b.la x.sl.length b.lc, .slice b.va x.vs.length b.vc, .slice b.wa x.ws.length b.wc, .slice b.oa x.os.length b.oc, .slice b.ka x.kn.length b.kc] 32)).cell? ⟨w.heap.size, j, none⟩ = #[.int .i64 x.site, .bool true, .slice (some ⟨sb, so, none⟩) 3 a.lc, .slice a.va x.vs.length a.vc, .slice a.wa x.ws.length a.wc, .slice a.oa x.os.length a.oc, .slice a.ka x.kn.length a.kc][j]? := fun j => by
    have e1 : (#[.int .i64 x.site, .bool x.up, .slice a.la x.sl.length a.lc, .slice a.va x.vs.length a.vc, .slice a.wa x.ws.length a.wc, .slice a.oa x.os.length a.oc, .slice a.ka x.kn.length a.kc] : Array Value) = #[.int .i64 x.site, .bool true, .slice (some ⟨sb, so, none⟩) 3 a.lc, .slice a.va x.vs.length a.vc, .slice a.wa x.ws.length a.wc, .slice a.oa x.os.length a.oc, .slice a.ka x.kn.length a.kc] := by rw [HU.out, HLA.out, HLS.out]
    rw [← e1]
    exact A2.cell j
  obtain ⟨q2, g2⟩ := S2.rules
  obtain ⟨q3, g3⟩ := W2.rules
  have d0' := (B2.cell (p := ⟨sb, so + 2, none⟩) hsb).trans d0
  have d1' := (B2.cell (p := ⟨sb, so + 2 + 1, none⟩) hsb).trans d1
  obtain ⟨g, hbl, hgb⟩ : ∃ g, b.la = some ⟨g, 0, none⟩ ∧ ∃ cur, Blk (w2.alloc (.cells #[.int .i64 x.site, .bool x.up, .slice b.la x.sl.length b.lc, .slice b.va x.vs.length b.vc, .slice b.wa x.ws.length b.wc, .slice b.oa x.os.length b.oc, .slice b.ka x.kn.length b.kc] 32)) g cur 84 ∧ w1.heap.size ≤ g := by
    have hrow := P3.l
    rcases hrow.2 with ⟨e1, e2⟩ | ⟨g, cap, cur, e1, hcap, hg2, _⟩
    · rw [HLS.out] at e2; cases e2
    · injection e1 with e1 _ _
      exact ⟨g, e1, cur, hg2, (hrow.lt g (by rw [e1]; rfl)).1⟩
  obtain ⟨cur, G2, hg1⟩ := hgb
  have HBL : Hid (b.la = some ⟨g, 0, none⟩) := hbl
  have sl2 : Slots (w2.alloc (.cells #[.int .i64 x.site, .bool x.up, .slice b.la x.sl.length b.lc, .slice b.va x.vs.length b.vc, .slice b.wa x.ws.length b.wc, .slice b.oa x.os.length b.oc, .slice b.ka x.kn.length b.kc] 32)) (some ⟨g, 0, none⟩) x.sl := by
    have h3 := rowS_slots P3.l
    generalize (w2.alloc (.cells #[.int .i64 x.site, .bool x.up, .slice b.la x.sl.length b.lc, .slice b.va x.vs.length b.vc, .slice b.wa x.ws.length b.wc, .slice b.oa x.os.length b.oc, .slice b.ka x.kn.length b.kc] 32)) = U at h3 ⊢
    rw [HBL.out] at h3
    exact h3
  clear hbl
  have g4 := D2.rules.2
  have q4 : ∀ j, (w2.alloc (.cells #[.int .i64 x.site, .bool x.up, .slice b.la x.sl.length b.lc, .slice b.va x.vs.length b.vc, .slice b.wa x.ws.length b.wc, .slice b.oa x.os.length b.oc, .slice b.ka x.kn.length b.kc] 32)).cell? ⟨w2.heap.size, j, none⟩ = #[.int .i64 x.site, .bool x.up, .slice (some ⟨g, 0, none⟩) 3 b.lc, .slice b.va x.vs.length b.vc, .slice b.wa x.ws.length b.wc, .slice b.oa x.os.length b.oc, .slice b.ka x.kn.length b.kc][j]? := fun j => by
    have e1 : (#[.int .i64 x.site, .bool x.up, .slice b.la x.sl.length b.lc, .slice b.va x.vs.length b.vc, .slice b.wa x.ws.length b.wc, .slice b.oa x.os.length b.oc, .slice b.ka x.kn.length b.kc] : Array Value) = #[.int .i64 x.site, .bool x.up, .slice (some ⟨g, 0, none⟩) 3 b.lc, .slice b.va x.vs.length b.vc, .slice b.wa x.ws.length b.wc, .slice b.oa x.os.length b.oc, .slice b.ka x.kn.length b.kc] := by rw [HBL.out, HLS.out]
    rw [← e1]
    exact D2.cell j
  have gg := G2.rules.2
  have hold := fun (i : Nat) (hi : i < 3) => slots_cell2 sl2 HSL.out i hi
  have sg0 := (hold 1 (by omega)).1
  have sg1 := (hold 1 (by omega)).2
  simp at sg0 sg1
  have on3 : Only (w2.alloc (.cells #[.int .i64 x.site, .bool x.up, .slice b.la x.sl.length b.lc, .slice b.va x.vs.length b.vc, .slice b.wa x.ws.length b.wc, .slice b.oa x.os.length b.oc, .slice b.ka x.kn.length b.kc] 32)) ((((w2.alloc (.cells #[.int .i64 x.site, .bool x.up, .slice b.la x.sl.length b.lc, .slice b.va x.vs.length b.vc, .slice b.wa x.ws.length b.wc, .slice b.oa x.os.length b.oc, .slice b.ka x.kn.length b.kc] 32)).setCell ⟨g, 2, none⟩ (.int .i64 (t2.ep + 1))).setCell ⟨g, 3, none⟩ (.int .i64 2)).drew) (fun j => j = g) := Only.drew1 (((Only.refl _ (fun j => j = g)).set (A := g) rfl _).set (A := g) rfl _)
  have hgne : g ≠ w2.heap.size := fun e => by
    have h1 := G2
    rw [e] at h1
    have h2 := D2
    unfold Blk at h1 h2
    rw [h1] at h2
    simp at h2
  have A3 := on3.blk A2 (by omega)
  have S3 := on3.blk S2 (by omega)
  have W3 := on3.blk W2 (by omega)
  have D3 := on3.blk D2 (fun e => hgne e.symm)
  obtain ⟨cur3, G3, HC3⟩ := slots_left1 hold G2
  have la : ∀ j, j = g → (Value.slice b.la x.sl.length b.lc).ownBlock = some j := fun j e => by rw [HBL.out, e]; rfl
  have V3 := on3.ownV P3.v (fun j hj e => slot_apart P3.l P3.v j (la j e) hj)
  have X3 := on3.ownV P3.w (fun j hj e => slot_apart P3.l P3.w j (la j e) hj)
  have O3 : RowD ((((w2.alloc (.cells #[.int .i64 x.site, .bool x.up, .slice b.la x.sl.length b.lc, .slice b.va x.vs.length b.vc, .slice b.wa x.ws.length b.wc, .slice b.oa x.os.length b.oc, .slice b.ka x.kn.length b.kc] 32)).setCell ⟨g, 2, none⟩ (.int .i64 (t2.ep + 1))).setCell ⟨g, 3, none⟩ (.int .i64 2)).drew) w1.heap.size (.slice b.oa x.os.length b.oc) x.os := on3.row P3.o (fun j hj e => slot_apartD P3.l P3.o j (la j e) hj)
  have K3 : RowD ((((w2.alloc (.cells #[.int .i64 x.site, .bool x.up, .slice b.la x.sl.length b.lc, .slice b.va x.vs.length b.vc, .slice b.wa x.ws.length b.wc, .slice b.oa x.os.length b.oc, .slice b.ka x.kn.length b.kc] 32)).setCell ⟨g, 2, none⟩ (.int .i64 (t2.ep + 1))).setCell ⟨g, 3, none⟩ (.int .i64 2)).drew) w1.heap.size (.slice b.ka x.kn.length b.kc) x.kn := on3.row P3.k (fun j hj e => slot_apartD P3.l P3.k j (la j e) hj)
  have HYZ : Hid (ys.map XV.v = x.vs ∧ zs.map XV.v = x.ws) := ⟨P3.hy, P3.hz⟩
  have B3 : Below w.heap.size w ((((w2.alloc (.cells #[.int .i64 x.site, .bool x.up, .slice b.la x.sl.length b.lc, .slice b.va x.vs.length b.vc, .slice b.wa x.ws.length b.wc, .slice b.oa x.os.length b.oc, .slice b.ka x.kn.length b.kc] 32)).setCell ⟨g, 2, none⟩ (.int .i64 (t2.ep + 1))).setCell ⟨g, 3, none⟩ (.int .i64 2)).drew) := B2.trans (on3.below B2.size (fun j hj => by omega))
  have q5 : ∀ j, ((((w2.alloc (.cells #[.int .i64 x.site, .bool x.up, .slice b.la x.sl.length b.lc, .slice b.va x.vs.length b.vc, .slice b.wa x.ws.length b.wc, .slice b.oa x.os.length b.oc, .slice b.ka x.kn.length b.kc] 32)).setCell ⟨g, 2, none⟩ (.int .i64 (t2.ep + 1))).setCell ⟨g, 3, none⟩ (.int .i64 2)).drew).cell? ⟨w2.heap.size, j, none⟩ = #[.int .i64 x.site, .bool x.up, .slice (some ⟨g, 0, none⟩) 3 b.lc, .slice b.va x.vs.length b.vc, .slice b.wa x.ws.length b.wc, .slice b.oa x.os.length b.oc, .slice b.ka x.kn.length b.kc][j]? := fun j => by
    have e1 : (#[.int .i64 x.site, .bool x.up, .slice b.la x.sl.length b.lc, .slice b.va x.vs.length b.vc, .slice b.wa x.ws.length b.wc, .slice b.oa x.os.length b.oc, .slice b.ka x.kn.length b.kc] : Array Value) = #[.int .i64 x.site, .bool x.up, .slice (some ⟨g, 0, none⟩) 3 b.lc, .slice b.va x.vs.length b.vc, .slice b.wa x.ws.length b.wc, .slice b.oa x.os.length b.oc, .slice b.ka x.kn.length b.kc] := by rw [HBL.out, HLS.out]
    rw [← e1]
    exact D3.cell j
  have q6 : ∀ j, ((((w2.alloc (.cells #[.int .i64 x.site, .bool x.up, .slice b.la x.sl.length b.lc, .slice b.va x.vs.length b.vc, .slice b.wa x.ws.length b.wc, .slice b.oa x.os.length b.oc, .slice b.ka x.kn.length b.kc] 32)).setCell ⟨g, 2, none⟩ (.int .i64 (t2.ep + 1))).setCell ⟨g, 3, none⟩ (.int .i64 2)).drew).cell? ⟨w.heap.size, j, none⟩ = #[.int .i64 x.site, .bool true, .slice (some ⟨sb, so, none⟩) 3 a.lc, .slice a.va x.vs.length a.vc, .slice a.wa x.ws.length a.wc, .slice a.oa x.os.length a.oc, .slice a.ka x.kn.length a.kc][j]? := fun j => by
    have e1 : (#[.int .i64 x.site, .bool x.up, .slice a.la x.sl.length a.lc, .slice a.va x.vs.length a.vc, .slice a.wa x.ws.length a.wc, .slice a.oa x.os.length a.oc, .slice a.ka x.kn.length a.kc] : Array Value) = #[.int .i64 x.site, .bool true, .slice (some ⟨sb, so, none⟩) 3 a.lc, .slice a.va x.vs.length a.vc, .slice a.wa x.ws.length a.wc, .slice a.oa x.os.length a.oc, .slice a.ka x.kn.length a.kc] := by rw [HU.out, HLA.out, HLS.out]
    rw [← e1]
    exact A3.cell j
  have k1 : (w2.alloc (.cells #[.int .i64 x.site, .bool x.up, .slice b.la x.sl.length b.lc, .slice b.va x.vs.length b.vc, .slice b.wa x.ws.length b.wc, .slice b.oa x.os.length b.oc, .slice b.ka x.kn.length b.kc] 32)).drew.cell? ⟨w2.heap.size, 2, none⟩ = some (.slice (some ⟨g, 0, none⟩) 3 b.lc) ∧ (w2.alloc (.cells #[.int .i64 x.site, .bool x.up, .slice b.la x.sl.length b.lc, .slice b.va x.vs.length b.vc, .slice b.wa x.ws.length b.wc, .slice b.oa x.os.length b.oc, .slice b.ka x.kn.length b.kc] 32)).drew.cell? ⟨w.heap.size, 2, none⟩ = some (.slice (some ⟨sb, so, none⟩) 3 a.lc) ∧ (w2.alloc (.cells #[.int .i64 x.site, .bool x.up, .slice b.la x.sl.length b.lc, .slice b.va x.vs.length b.vc, .slice b.wa x.ws.length b.wc, .slice b.oa x.os.length b.oc, .slice b.ka x.kn.length b.kc] 32)).drew.cell? ⟨sb, so + 2, none⟩ = some (.int .i64 t2.ep) := ⟨q4 2, q1 2, d0'⟩
  have k2 : (((w2.alloc (.cells #[.int .i64 x.site, .bool x.up, .slice b.la x.sl.length b.lc, .slice b.va x.vs.length b.vc, .slice b.wa x.ws.length b.wc, .slice b.oa x.os.length b.oc, .slice b.ka x.kn.length b.kc] 32)).setCell ⟨g, 2, none⟩ (.int .i64 (t2.ep + 1))).setCell ⟨g, 3, none⟩ (.int .i64 2)).drew.cell? ⟨w2.heap.size, 2, none⟩ = some (.slice (some ⟨g, 0, none⟩) 3 b.lc) ∧ (((w2.alloc (.cells #[.int .i64 x.site, .bool x.up, .slice b.la x.sl.length b.lc, .slice b.va x.vs.length b.vc, .slice b.wa x.ws.length b.wc, .slice b.oa x.os.length b.oc, .slice b.ka x.kn.length b.kc] 32)).setCell ⟨g, 2, none⟩ (.int .i64 (t2.ep + 1))).setCell ⟨g, 3, none⟩ (.int .i64 2)).drew.cell? ⟨w.heap.size, 2, none⟩ = some (.slice (some ⟨sb, so, none⟩) 3 a.lc) ∧ (((w2.alloc (.cells #[.int .i64 x.site, .bool x.up, .slice b.la x.sl.length b.lc, .slice b.va x.vs.length b.vc, .slice b.wa x.ws.length b.wc, .slice b.oa x.os.length b.oc, .slice b.ka x.kn.length b.kc] 32)).setCell ⟨g, 2, none⟩ (.int .i64 (t2.ep + 1))).setCell ⟨g, 3, none⟩ (.int .i64 2)).drew.cell? ⟨sb, so + 2, none⟩ = some (.int .i64 t2.ep) := ⟨q5 2, q6 2, (B3.cell (p := ⟨sb, so + 2, none⟩) hsb).trans d0⟩
  go_wp2_with (first | (go_at_call 60; refine (hI _).mono ?_; rintro e wy ⟨rfl, rfl⟩))
  go_region_held3 (fun W => W.cell? ⟨w2.heap.size, 2, none⟩ = some (.slice (some ⟨g, 0, none⟩) 3 b.lc) ∧ W.cell? ⟨w.heap.size, 2, none⟩ = some (.slice (some ⟨sb, so, none⟩) 3 a.lc) ∧ W.cell? ⟨sb, so + 2, none⟩ = some (.int .i64 t2.ep)) (with_reducible (first | exact k1 | exact k2)) (fail)
  clear A2 S2 W2 D2 P3 q1 g1 q2 g2 q3 g3 q4 g4 gg G2 on3 d0' d1' sg0 sg1 hold sl2 B2 k1 k2 q5 q6 A3
  have q7 : ∀ j, ((((w2.alloc (.cells #[.int .i64 x.site, .bool x.up, .slice b.la x.sl.length b.lc, .slice b.va x.vs.length b.vc, .slice b.wa x.ws.length b.wc, .slice b.oa x.os.length b.oc, .slice b.ka x.kn.length b.kc] 32)).setCell ⟨g, 2, none⟩ (.int .i64 (t2.ep + 1))).setCell ⟨g, 3, none⟩ (.int .i64 2)).drew).cell? ⟨w2.heap.size, j, none⟩ = #[.int .i64 x.site, .bool x.up, .slice b.la 3 b.lc, .slice b.va x.vs.length b.vc, .slice b.wa x.ws.length b.wc, .slice b.oa x.os.length b.oc, .slice b.ka x.kn.length b.kc][j]? := fun j => by
    have e1 : (#[.int .i64 x.site, .bool x.up, .slice b.la x.sl.length b.lc, .slice b.va x.vs.length b.vc, .slice b.wa x.ws.length b.wc, .slice b.oa x.os.length b.oc, .slice b.ka x.kn.length b.kc] : Array Value) = #[.int .i64 x.site, .bool x.up, .slice b.la 3 b.lc, .slice b.va x.vs.length b.vc, .slice b.wa x.ws.length b.wc, .slice b.oa x.os.length b.oc, .slice b.ka x.kn.length b.kc] := by rw [HLS.out]
    rw [← e1]
    exact D3.cell j
  generalize ((((w2.alloc (.cells #[.int .i64 x.site, .bool x.up, .slice b.la x.sl.length b.lc, .slice b.va x.vs.length b.vc, .slice b.wa x.ws.length b.wc, .slice b.oa x.os.length b.oc, .slice b.ka x.kn.length b.kc] 32)).setCell ⟨g, 2, none⟩ (.int .i64 (t2.ep + 1))).setCell ⟨g, 3, none⟩ (.int .i64 2)).drew) = u3 at *
  have mkI : ∀ W, OwnV W w1.heap.size (.slice b.va x.vs.length b.vc) ys → OwnV W w1.heap.size (.slice b.wa x.ws.length b.wc) zs → RowD W w1.heap.size (.slice b.oa x.os.length b.oc) x.os → RowD W w1.heap.size (.slice b.ka x.kn.length b.kc) x.kn → Blk W g cur3 84 → InS W ⟨x.site, x.up, [t1, ⟨t2.ep + 1, 2⟩, t3], x.vs, x.ws, x.os, x.kn⟩ b := fun W i1 i2 i3 i4 i5 => by
    refine ⟨?_, i1.asV HYZ.out.1, i2.asV HYZ.out.2, row_deps' i3, row_deps' i4⟩
    show Slots W b.la _
    rw [HBL.out]
    exact HC3.out W i5
  have I3 := mkI u3 V3 X3 O3 K3 G3
  go_wp2_with fail
  have k1 : ∀ j, u3.drew.cell? ⟨w2.heap.size, j, none⟩ = #[.int .i64 x.site, .bool x.up, .slice b.la 3 b.lc, .slice b.va x.vs.length b.vc, .slice b.wa x.ws.length b.wc, .slice b.oa x.os.length b.oc, .slice b.ka x.kn.length b.kc][j]? := q7
  go_region_held3 (fun W => ∀ j, W.cell? ⟨w2.heap.size, j, none⟩ = #[.int .i64 x.site, .bool x.up, .slice b.la 3 b.lc, .slice b.va x.vs.length b.vc, .slice b.wa x.ws.length b.wc, .slice b.oa x.os.length b.oc, .slice b.ka x.kn.length b.kc][j]?) (with_reducible (first | exact k1 | exact k2 | exact k3 | exact k4)) (first | (go_at_call 61; refine (hBk b _ (I3.below (Below.refl _ _).drew)).mono ?_; rintro e w4 ⟨c, us, ts, rfl, IL, hb4⟩; have b4 : Below u3.heap.size u3 w4 := ((Below.refl u3.heap.size u3).drew).trans hb4; have S4 := S3.below b4 S3.lt; have W4 := W3.below b4 W3.lt; have D4 := D3.below b4 D3.lt; have k2 : ∀ j, w4.cell? ⟨w2.heap.size, j, none⟩ = #[.int .i64 x.site, .bool x.up, .slice b.la 3 b.lc, .slice b.va x.vs.length b.vc, .slice b.wa x.ws.length b.wc, .slice b.oa x.os.length b.oc, .slice b.ka x.kn.length b.kc][j]? := fun j => (b4.cell (p := ⟨w2.heap.size, j, none⟩) D3.lt).trans (q7 j); have k3 : ∀ j, (((((((w4.setCell ⟨w.heap.size + 1, 0, none⟩ (.int .i64 x.site)).setCell ⟨w.heap.size + 1, 1, none⟩ (.bool x.up)).setCell ⟨w.heap.size + 1, 2, none⟩ (.slice b.la 3 b.lc)).setCell ⟨w.heap.size + 1, 3, none⟩ (.slice b.va x.vs.length b.vc)).setCell ⟨w.heap.size + 1, 4, none⟩ (.slice b.wa x.ws.length b.wc)).setCell ⟨w.heap.size + 1, 5, none⟩ (.slice b.oa x.os.length b.oc)).setCell ⟨w.heap.size + 1, 6, none⟩ (.slice b.ka x.kn.length b.kc)).cell? ⟨w2.heap.size, j, none⟩ = #[.int .i64 x.site, .bool x.up, .slice b.la 3 b.lc, .slice b.va x.vs.length b.vc, .slice b.wa x.ws.length b.wc, .slice b.oa x.os.length b.oc, .slice b.ka x.kn.length b.kc][j]? := fun j => (fill7_only.cell1 D4.lt (by omega)).trans (k2 j); have k4 : ∀ j, ((((((((((((((((((((((w4.setCell ⟨w.heap.size + 1, 0, none⟩ (.int .i64 x.site)).setCell ⟨w.heap.size + 1, 1, none⟩ (.bool x.up)).setCell ⟨w.heap.size + 1, 2, none⟩ (.slice b.la 3 b.lc)).setCell ⟨w.heap.size + 1, 3, none⟩ (.slice b.va x.vs.length b.vc)).setCell ⟨w.heap.size + 1, 4, none⟩ (.slice b.wa x.ws.length b.wc)).setCell ⟨w.heap.size + 1, 5, none⟩ (.slice b.oa x.os.length b.oc)).setCell ⟨w.heap.size + 1, 6, none⟩ (.slice b.ka x.kn.length b.kc)).setCell ⟨w.heap.size + 1 + 1, 0, none⟩ (.int .i64 z.kind)).setCell ⟨w.heap.size + 1 + 1, 1, none⟩ (.int .i64 z.fr)).setCell ⟨w.heap.size + 1 + 1, 2, none⟩ (.int .i64 z.to)).setCell ⟨w.heap.size + 1 + 1, 3, none⟩ (.int .i64 z.call)).setCell ⟨w.heap.size + 1 + 1, 4, none⟩ (.int .i64 z.key)).setCell ⟨w.heap.size + 1 + 1, 5, none⟩ (.int .i64 z.t)).setCell ⟨w.heap.size + 1 + 1, 6, none⟩ (.int .i64 z.s)).setCell ⟨w.heap.size + 1 + 1, 7, none⟩ (.int .i64 z.val)).setCell ⟨w.heap.size + 1 + 1, 8, none⟩ (.bool z.yes)).setCell ⟨w.heap.size + 1 + 1, 9, none⟩ (.slice c.da z.ds.length c.dc)).setCell ⟨w.heap.size + 1 + 1, 10, none⟩ (.int .i64 z.slot)).setCell ⟨w.heap.size + 1 + 1, 11, none⟩ (.int .i64 z.ep)).setCell ⟨w.heap.size + 1 + 1, 12, none⟩ (.slice c.va z.vs.length c.vc)).setCell ⟨w.heap.size + 1 + 1, 13, none⟩ (.slice c.wa z.ws.length c.wc)).setCell ⟨w.heap.size + 1 + 1, 14, none⟩ (.slice c.oa z.os.length c.oc)).cell? ⟨w2.heap.size, j, none⟩ = #[.int .i64 x.site, .bool x.up, .slice b.la 3 b.lc, .slice b.va x.vs.length b.vc, .slice b.wa x.ws.length b.wc, .slice b.oa x.os.length b.oc, .slice b.ka x.kn.length b.kc][j]? := fun j => (fill22_only.cell1 D4.lt (by omega)).trans (k2 j); obtain ⟨qs, gs⟩ := S4.rules; obtain ⟨qw, gw⟩ := W4.rules))
  all_goals go_wp2_with fail
  all_goals
    have zd := D3.lt
    have ed : u3.drew.heap.size = u3.heap.size := rfl
    have V4 := V3.below b4 (Nat.le_refl _)
    have X4 := X3.below b4 (Nat.le_refl _)
    have O4 := row_below O3 b4 (Nat.le_refl _)
    have K4 := row_below K3 b4 (Nat.le_refl _)
    have G4 := G3.below b4 G3.lt
    refine bodyPost_ret (v := .tuple #[.agg #[.int .i64 x.site, .bool x.up, .slice b.la 3 b.lc, .slice b.va x.vs.length b.vc, .slice b.wa x.ws.length b.wc, .slice b.oa x.os.length b.oc, .slice b.ka x.kn.length b.kc], .agg #[.int .i64 z.kind, .int .i64 z.fr, .int .i64 z.to, .int .i64 z.call, .int .i64 z.key, .int .i64 z.t, .int .i64 z.s, .int .i64 z.val, .bool z.yes, .slice c.da z.ds.length c.dc, .int .i64 z.slot, .int .i64 z.ep, .slice c.va z.vs.length c.vc, .slice c.wa z.ws.length c.wc, .slice c.oa z.os.length c.oc], .bool true]) ?_ rfl ⟨b, c, rfl, ?_, ?_, fill22_below (B3.trans (b4.mono B3.size)) (by omega) (by omega)⟩
    · refine Blk.gen2 (A := w.heap.size + 1) (B := w.heap.size + 1 + 1) (vs := #[.int .i64 x.site, .bool x.up, .slice b.la 3 b.lc, .slice b.va x.vs.length b.vc, .slice b.wa x.ws.length b.wc, .slice b.oa x.os.length b.oc, .slice b.ka x.kn.length b.kc]) (us := #[.int .i64 z.kind, .int .i64 z.fr, .int .i64 z.to, .int .i64 z.call, .int .i64 z.key, .int .i64 z.t, .int .i64 z.s, .int .i64 z.val, .bool z.yes, .slice c.da z.ds.length c.dc, .int .i64 z.slot, .int .i64 z.ep, .slice c.va z.vs.length c.vc, .slice c.wa z.ws.length c.wc, .slice c.oa z.os.length c.oc]) (T := 32) (T' := 41) (P := fun W => (results Tryz.f16 _).run Tryz.prog W = .ok _ W) (fill22 S4 W4 (by omega)).1 (fill22 S4 W4 (by omega)).2 ?_
      intro W hA hB
      obtain ⟨k1, f1⟩ := hA.rules
      obtain ⟨k2, f2⟩ := hB.rules
      simp [results, Tryz.results16, go_sem, k1, k2]
    · exact mkI _ (fill22_only.ownV V4 (fun j hj hS => by have := (V4.lt hj).1; rcases hS with hS | hS <;> omega)) (fill22_only.ownV X4 (fun j hj hS => by have := (X4.lt hj).1; rcases hS with hS | hS <;> omega)) (fill22_only.row O4 (fun j hj hS => by have := (O4.lt j hj).1; rcases hS with hS | hS <;> omega)) (fill22_only.row K4 (fun j hj hS => by have := (K4.lt j hj).1; rcases hS with hS | hS <;> omega)) (fill22_only.blk G4 (fun hS => by rcases hS with hS | hS <;> omega))
    · exact (fill22_only.ownH IL (fun j hj hS => by rcases hS with hS | hS <;> omega)).inL

set_option maxHeartbeats 4000000 in
set_option maxRecDepth 20000 in
theorem sMove_goes2 (x : Sv) (a : Sa) (w : World) (hl : LenS x) (h : InS w x a) (hs : servB x = true) (hg : goB x 2 = true) : Calls Tryz.prog 16 #[servV x a, .int .i64 2] w fun e w' => ∃ b c, e = .returned (.tuple #[servV (moveS x 2) b, wordV (moveW x 2) c, .bool (moveB x 2)]) ∧ InS w' (moveS x 2) b ∧ InL w' (moveW x 2) c ∧ Below w.heap.size w w' := by
  obtain ⟨t1, t2, t3, he⟩ := slotsB_three (xs := x.sl) (by unfold servB at hs; simp at hs; exact hs.1.1.1.1.1.1.1)
  obtain ⟨s0, s3, hu, hw1, he1, hz1⟩ := goes2 hs hg he
  have ht : t3.st = 1 := by
    have h2 : standAt [t1, t2, t3] 2 = t3.st := rfl
    unfold ownsB at hw1
    rw [h2] at hw1
    simpa using hw1
  have HU : Hid (x.up = true) := hu
  have lsl : x.sl.length = 3 := by rw [he]; rfl
  have HLS : Hid (x.sl.length = 3) := lsl
  have HSL : Hid (x.sl = [t1, t2, t3]) := he
  obtain ⟨sb, so, hla, hsb, c0, c1⟩ := h.l.at (k := 2) (by omega)
  have HLA : Hid (a.la = some ⟨sb, so, none⟩) := hla
  have e9 : x.sl[2]'(by omega) = t3 := by simp [he]
  rw [e9] at c0 c1
  rw [ht] at c1
  have d0 : w.cell? ⟨sb, so + 4, none⟩ = some (.int .i64 t3.ep) := by simpa using c0
  have d1 : w.cell? ⟨sb, so + 4 + 1, none⟩ = some (.int .i64 1) := by simpa using c1
  have hI := fun W => in_any 2 0 2 W
  have hin : inB 2 0 2 = true := by decide
  rw [hin] at hI
  have dn : decide (9999 ≤ t3.ep) = false := by simp; omega
  have hwr : IntKind.i64.wrap (t3.ep + 1) = t3.ep + 1 := by simp only [IntKind.wrap, IntKind.bits, IntKind.signed]; simp; omega
  have HN : leftX x 2 = ⟨x.site, x.up, [t1, t2, ⟨t3.ep + 1, 2⟩], x.vs, x.ws, x.os, x.kn⟩ ∧ bulkX (leftX x 2) 2 = parcelX x.site 2 (t3.ep + 1) x.vs x.ws x.os := by
    unfold leftX bulkX parcelX
    rw [he]
    exact ⟨rfl, rfl⟩
  have ly : LenS ⟨x.site, x.up, [t1, t2, ⟨t3.ep + 1, 2⟩], x.vs, x.ws, x.os, x.kn⟩ := ⟨by simp, hl.v, hl.w, hl.o, hl.k⟩
  have hBk := fun b W h => sBulk2_any ⟨x.site, x.up, [t1, t2, ⟨t3.ep + 1, 2⟩], x.vs, x.ws, x.os, x.kn⟩ b t1 t2 ⟨t3.ep + 1, 2⟩ W ly h rfl s0 s3
  dsimp only at hBk
  clear c0 c1 hu hla hw1 he1 hz1 ht
  clear e9
  clear lsl hin
  have b0 : Below w.heap.size w (((w.alloc (.cells #[.int .i64 x.site, .bool x.up, .slice a.la x.sl.length a.lc, .slice a.va x.vs.length a.vc, .slice a.wa x.ws.length a.wc, .slice a.oa x.os.length a.oc, .slice a.ka x.kn.length a.kc] 32)).alloc (.cells #[.int .i64 0, .bool false, .slice none 0 0, .slice none 0 0, .slice none 0 0, .slice none 0 0, .slice none 0 0] 32)).alloc (.cells #[.int .i64 0, .int .i64 0, .int .i64 0, .int .i64 0, .int .i64 0, .int .i64 0, .int .i64 0, .int .i64 0, .bool false, .slice none 0 0, .int .i64 0, .int .i64 0, .slice none 0 0, .slice none 0 0, .slice none 0 0] 41)) := (((Below.refl _ _).alloc (Nat.le_refl _) _).alloc (by simp) _).alloc (by simp; omega) _
  have A0 : Blk (((w.alloc (.cells #[.int .i64 x.site, .bool x.up, .slice a.la x.sl.length a.lc, .slice a.va x.vs.length a.vc, .slice a.wa x.ws.length a.wc, .slice a.oa x.os.length a.oc, .slice a.ka x.kn.length a.kc] 32)).alloc (.cells #[.int .i64 0, .bool false, .slice none 0 0, .slice none 0 0, .slice none 0 0, .slice none 0 0, .slice none 0 0] 32)).alloc (.cells #[.int .i64 0, .int .i64 0, .int .i64 0, .int .i64 0, .int .i64 0, .int .i64 0, .int .i64 0, .int .i64 0, .bool false, .slice none 0 0, .int .i64 0, .int .i64 0, .slice none 0 0, .slice none 0 0, .slice none 0 0] 41)) w.heap.size #[.int .i64 x.site, .bool x.up, .slice a.la x.sl.length a.lc, .slice a.va x.vs.length a.vc, .slice a.wa x.ws.length a.wc, .slice a.oa x.os.length a.oc, .slice a.ka x.kn.length a.kc] 32 := ((Blk.new w _ _).alloc _).alloc _
  have S0 : Blk (((w.alloc (.cells #[.int .i64 x.site, .bool x.up, .slice a.la x.sl.length a.lc, .slice a.va x.vs.length a.vc, .slice a.wa x.ws.length a.wc, .slice a.oa x.os.length a.oc, .slice a.ka x.kn.length a.kc] 32)).alloc (.cells #[.int .i64 0, .bool false, .slice none 0 0, .slice none 0 0, .slice none 0 0, .slice none 0 0, .slice none 0 0] 32)).alloc (.cells #[.int .i64 0, .int .i64 0, .int .i64 0, .int .i64 0, .int .i64 0, .int .i64 0, .int .i64 0, .int .i64 0, .bool false, .slice none 0 0, .int .i64 0, .int .i64 0, .slice none 0 0, .slice none 0 0, .slice none 0 0] 41)) (w.heap.size + 1) #[.int .i64 0, .bool false, .slice none 0 0, .slice none 0 0, .slice none 0 0, .slice none 0 0, .slice none 0 0] 32 := by have := (Blk.new (w.alloc (.cells #[.int .i64 x.site, .bool x.up, .slice a.la x.sl.length a.lc, .slice a.va x.vs.length a.vc, .slice a.wa x.ws.length a.wc, .slice a.oa x.os.length a.oc, .slice a.ka x.kn.length a.kc] 32)) #[.int .i64 0, .bool false, .slice none 0 0, .slice none 0 0, .slice none 0 0, .slice none 0 0, .slice none 0 0] 32).alloc (.cells #[.int .i64 0, .int .i64 0, .int .i64 0, .int .i64 0, .int .i64 0, .int .i64 0, .int .i64 0, .int .i64 0, .bool false, .slice none 0 0, .int .i64 0, .int .i64 0, .slice none 0 0, .slice none 0 0, .slice none 0 0] 41); simpa using this
  have W0 : Blk (((w.alloc (.cells #[.int .i64 x.site, .bool x.up, .slice a.la x.sl.length a.lc, .slice a.va x.vs.length a.vc, .slice a.wa x.ws.length a.wc, .slice a.oa x.os.length a.oc, .slice a.ka x.kn.length a.kc] 32)).alloc (.cells #[.int .i64 0, .bool false, .slice none 0 0, .slice none 0 0, .slice none 0 0, .slice none 0 0, .slice none 0 0] 32)).alloc (.cells #[.int .i64 0, .int .i64 0, .int .i64 0, .int .i64 0, .int .i64 0, .int .i64 0, .int .i64 0, .int .i64 0, .bool false, .slice none 0 0, .int .i64 0, .int .i64 0, .slice none 0 0, .slice none 0 0, .slice none 0 0] 41)) (w.heap.size + 1 + 1) #[.int .i64 0, .int .i64 0, .int .i64 0, .int .i64 0, .int .i64 0, .int .i64 0, .int .i64 0, .int .i64 0, .bool false, .slice none 0 0, .int .i64 0, .int .i64 0, .slice none 0 0, .slice none 0 0, .slice none 0 0] 41 := by have := Blk.new ((w.alloc (.cells #[.int .i64 x.site, .bool x.up, .slice a.la x.sl.length a.lc, .slice a.va x.vs.length a.vc, .slice a.wa x.ws.length a.wc, .slice a.oa x.os.length a.oc, .slice a.ka x.kn.length a.kc] 32)).alloc (.cells #[.int .i64 0, .bool false, .slice none 0 0, .slice none 0 0, .slice none 0 0, .slice none 0 0, .slice none 0 0] 32)) #[.int .i64 0, .int .i64 0, .int .i64 0, .int .i64 0, .int .i64 0, .int .i64 0, .int .i64 0, .int .i64 0, .bool false, .slice none 0 0, .int .i64 0, .int .i64 0, .slice none 0 0, .slice none 0 0, .slice none 0 0] 41; simpa using this
  have L0 := h.below b0
  have hO := fun W h => sServerOk_any x a W hl h
  rw [hs] at hO
  obtain ⟨m1, m2, m3⟩ := move_goes hs hg
  rw [m1, m2, m3, HN.2, HN.1]
  clear m1 m2 m3 HN hg he
  generalize parcelX x.site 2 (t3.ep + 1) x.vs x.ws x.os = z at *
  go_enter Tryz.func16, Tryz.ntmps16
  go_wp2_with fail
  generalize (((w.alloc (.cells #[.int .i64 x.site, .bool x.up, .slice a.la x.sl.length a.lc, .slice a.va x.vs.length a.vc, .slice a.wa x.ws.length a.wc, .slice a.oa x.os.length a.oc, .slice a.ka x.kn.length a.kc] 32)).alloc (.cells #[.int .i64 0, .bool false, .slice none 0 0, .slice none 0 0, .slice none 0 0, .slice none 0 0, .slice none 0 0] 32)).alloc (.cells #[.int .i64 0, .int .i64 0, .int .i64 0, .int .i64 0, .int .i64 0, .int .i64 0, .int .i64 0, .int .i64 0, .bool false, .slice none 0 0, .int .i64 0, .int .i64 0, .slice none 0 0, .slice none 0 0, .slice none 0 0] 41)) = v0 at *
  refine (hO _ L0).mono ?_
  rintro e w1 ⟨rfl, hb⟩
  have A1 := A0.below hb A0.lt
  have S1 := S0.below hb S0.lt
  have W1 := W0.below hb W0.lt
  have B1 : Below w.heap.size w w1 := b0.trans (hb.mono b0.size)
  have n1 := hb.size
  have n0 := b0.size
  have z0 := W0.lt
  clear S0 W0 A0 b0 hb L0 hs hO
  obtain ⟨q1, g1⟩ := A1.rules
  go_wp2_with fail
  clear q1 g1
  refine (sCopySv_any x a _ hl (h.below B1)).mono ?_
  rintro e w2 ⟨b, ys, zs, rfl, P2, hb⟩
  have bt : Below w2.heap.size w2 (w2.alloc (.cells #[.int .i64 x.site, .bool x.up, .slice b.la x.sl.length b.lc, .slice b.va x.vs.length b.vc, .slice b.wa x.ws.length b.wc, .slice b.oa x.os.length b.oc, .slice b.ka x.kn.length b.kc] 32)) := (Below.refl _ _).alloc (Nat.le_refl _) _
  have kk := hb.trans (bt.mono hb.size)
  have A2 := A1.below kk A1.lt
  have S2 := S1.below kk S1.lt
  have W2 := W1.below kk W1.lt
  have D2 := Blk.new w2 #[.int .i64 x.site, .bool x.up, .slice b.la x.sl.length b.lc, .slice b.va x.vs.length b.vc, .slice b.wa x.ws.length b.wc, .slice b.oa x.os.length b.oc, .slice b.ka x.kn.length b.kc] 32
  have B2 : Below w.heap.size w (w2.alloc (.cells #[.int .i64 x.site, .bool x.up, .slice b.la x.sl.length b.lc, .slice b.va x.vs.length b.vc, .slice b.wa x.ws.length b.wc, .slice b.oa x.os.length b.oc, .slice b.ka x.kn.length b.kc] 32)) := B1.trans (kk.mono B1.size)
  have P3 := P2.below bt (Nat.le_refl _)
  have n2 := hb.size
  clear A1 S1 W1 B1 kk bt hb P2
  have g1 := A2.rules.2
  have q1 : ∀ j, (w2.alloc (.cells #[.int .i64 x.site, .bool x.up, .slice b.la x.sl.length b.lc, .slice b.va x.vs.length b.vc, .slice b.wa x.ws.length b.wc, .slice b.oa x.os.length b.oc, .slice b.ka x.kn.length b.kc] 32)).cell? ⟨w.heap.size, j, none⟩ = #[.int .i64 x.site, .bool true, .slice (some ⟨sb, so, none⟩) 3 a.lc, .slice a.va x.vs.length a.vc, .slice a.wa x.ws.length a.wc, .slice a.oa x.os.length a.oc, .slice a.ka x.kn.length a.kc][j]? := fun j => by
    have e1 : (#[.int .i64 x.site, .bool x.up, .slice a.la x.sl.length a.lc, .slice a.va x.vs.length a.vc, .slice a.wa x.ws.length a.wc, .slice a.oa x.os.length a.oc, .slice a.ka x.kn.length a.kc] : Array Value) = #[.int .i64 x.site, .bool true, .slice (some ⟨sb, so, none⟩) 3 a.lc, .slice a.va x.vs.length a.vc, .slice a.wa x.ws.length a.wc, .slice a.oa x.os.length a.oc, .slice a.ka x.kn.length a.kc] := by rw [HU.out, HLA.out, HLS.out]
    rw [← e1]
    exact A2.cell j
  obtain ⟨q2, g2⟩ := S2.rules
  obtain ⟨q3, g3⟩ := W2.rules
  have d0' := (B2.cell (p := ⟨sb, so + 4, none⟩) hsb).trans d0
  have d1' := (B2.cell (p := ⟨sb, so + 4 + 1, none⟩) hsb).trans d1
  obtain ⟨g, hbl, hgb⟩ : ∃ g, b.la = some ⟨g, 0, none⟩ ∧ ∃ cur, Blk (w2.alloc (.cells #[.int .i64 x.site, .bool x.up, .slice b.la x.sl.length b.lc, .slice b.va x.vs.length b.vc, .slice b.wa x.ws.length b.wc, .slice b.oa x.os.length b.oc, .slice b.ka x.kn.length b.kc] 32)) g cur 84 ∧ w1.heap.size ≤ g := by
    have hrow := P3.l
    rcases hrow.2 with ⟨e1, e2⟩ | ⟨g, cap, cur, e1, hcap, hg2, _⟩
    · rw [HLS.out] at e2; cases e2
    · injection e1 with e1 _ _
      exact ⟨g, e1, cur, hg2, (hrow.lt g (by rw [e1]; rfl)).1⟩
  obtain ⟨cur, G2, hg1⟩ := hgb
  have HBL : Hid (b.la = some ⟨g, 0, none⟩) := hbl
  have sl2 : Slots (w2.alloc (.cells #[.int .i64 x.site, .bool x.up, .slice b.la x.sl.length b.lc, .slice b.va x.vs.length b.vc, .slice b.wa x.ws.length b.wc, .slice b.oa x.os.length b.oc, .slice b.ka x.kn.length b.kc] 32)) (some ⟨g, 0, none⟩) x.sl := by
    have h3 := rowS_slots P3.l
    generalize (w2.alloc (.cells #[.int .i64 x.site, .bool x.up, .slice b.la x.sl.length b.lc, .slice b.va x.vs.length b.vc, .slice b.wa x.ws.length b.wc, .slice b.oa x.os.length b.oc, .slice b.ka x.kn.length b.kc] 32)) = U at h3 ⊢
    rw [HBL.out] at h3
    exact h3
  clear hbl
  have g4 := D2.rules.2
  have q4 : ∀ j, (w2.alloc (.cells #[.int .i64 x.site, .bool x.up, .slice b.la x.sl.length b.lc, .slice b.va x.vs.length b.vc, .slice b.wa x.ws.length b.wc, .slice b.oa x.os.length b.oc, .slice b.ka x.kn.length b.kc] 32)).cell? ⟨w2.heap.size, j, none⟩ = #[.int .i64 x.site, .bool x.up, .slice (some ⟨g, 0, none⟩) 3 b.lc, .slice b.va x.vs.length b.vc, .slice b.wa x.ws.length b.wc, .slice b.oa x.os.length b.oc, .slice b.ka x.kn.length b.kc][j]? := fun j => by
    have e1 : (#[.int .i64 x.site, .bool x.up, .slice b.la x.sl.length b.lc, .slice b.va x.vs.length b.vc, .slice b.wa x.ws.length b.wc, .slice b.oa x.os.length b.oc, .slice b.ka x.kn.length b.kc] : Array Value) = #[.int .i64 x.site, .bool x.up, .slice (some ⟨g, 0, none⟩) 3 b.lc, .slice b.va x.vs.length b.vc, .slice b.wa x.ws.length b.wc, .slice b.oa x.os.length b.oc, .slice b.ka x.kn.length b.kc] := by rw [HBL.out, HLS.out]
    rw [← e1]
    exact D2.cell j
  have gg := G2.rules.2
  have hold := fun (i : Nat) (hi : i < 3) => slots_cell2 sl2 HSL.out i hi
  have sg0 := (hold 2 (by omega)).1
  have sg1 := (hold 2 (by omega)).2
  simp at sg0 sg1
  have on3 : Only (w2.alloc (.cells #[.int .i64 x.site, .bool x.up, .slice b.la x.sl.length b.lc, .slice b.va x.vs.length b.vc, .slice b.wa x.ws.length b.wc, .slice b.oa x.os.length b.oc, .slice b.ka x.kn.length b.kc] 32)) ((((w2.alloc (.cells #[.int .i64 x.site, .bool x.up, .slice b.la x.sl.length b.lc, .slice b.va x.vs.length b.vc, .slice b.wa x.ws.length b.wc, .slice b.oa x.os.length b.oc, .slice b.ka x.kn.length b.kc] 32)).setCell ⟨g, 4, none⟩ (.int .i64 (t3.ep + 1))).setCell ⟨g, 5, none⟩ (.int .i64 2)).drew) (fun j => j = g) := Only.drew1 (((Only.refl _ (fun j => j = g)).set (A := g) rfl _).set (A := g) rfl _)
  have hgne : g ≠ w2.heap.size := fun e => by
    have h1 := G2
    rw [e] at h1
    have h2 := D2
    unfold Blk at h1 h2
    rw [h1] at h2
    simp at h2
  have A3 := on3.blk A2 (by omega)
  have S3 := on3.blk S2 (by omega)
  have W3 := on3.blk W2 (by omega)
  have D3 := on3.blk D2 (fun e => hgne e.symm)
  obtain ⟨cur3, G3, HC3⟩ := slots_left2 hold G2
  have la : ∀ j, j = g → (Value.slice b.la x.sl.length b.lc).ownBlock = some j := fun j e => by rw [HBL.out, e]; rfl
  have V3 := on3.ownV P3.v (fun j hj e => slot_apart P3.l P3.v j (la j e) hj)
  have X3 := on3.ownV P3.w (fun j hj e => slot_apart P3.l P3.w j (la j e) hj)
  have O3 : RowD ((((w2.alloc (.cells #[.int .i64 x.site, .bool x.up, .slice b.la x.sl.length b.lc, .slice b.va x.vs.length b.vc, .slice b.wa x.ws.length b.wc, .slice b.oa x.os.length b.oc, .slice b.ka x.kn.length b.kc] 32)).setCell ⟨g, 4, none⟩ (.int .i64 (t3.ep + 1))).setCell ⟨g, 5, none⟩ (.int .i64 2)).drew) w1.heap.size (.slice b.oa x.os.length b.oc) x.os := on3.row P3.o (fun j hj e => slot_apartD P3.l P3.o j (la j e) hj)
  have K3 : RowD ((((w2.alloc (.cells #[.int .i64 x.site, .bool x.up, .slice b.la x.sl.length b.lc, .slice b.va x.vs.length b.vc, .slice b.wa x.ws.length b.wc, .slice b.oa x.os.length b.oc, .slice b.ka x.kn.length b.kc] 32)).setCell ⟨g, 4, none⟩ (.int .i64 (t3.ep + 1))).setCell ⟨g, 5, none⟩ (.int .i64 2)).drew) w1.heap.size (.slice b.ka x.kn.length b.kc) x.kn := on3.row P3.k (fun j hj e => slot_apartD P3.l P3.k j (la j e) hj)
  have HYZ : Hid (ys.map XV.v = x.vs ∧ zs.map XV.v = x.ws) := ⟨P3.hy, P3.hz⟩
  have B3 : Below w.heap.size w ((((w2.alloc (.cells #[.int .i64 x.site, .bool x.up, .slice b.la x.sl.length b.lc, .slice b.va x.vs.length b.vc, .slice b.wa x.ws.length b.wc, .slice b.oa x.os.length b.oc, .slice b.ka x.kn.length b.kc] 32)).setCell ⟨g, 4, none⟩ (.int .i64 (t3.ep + 1))).setCell ⟨g, 5, none⟩ (.int .i64 2)).drew) := B2.trans (on3.below B2.size (fun j hj => by omega))
  have q5 : ∀ j, ((((w2.alloc (.cells #[.int .i64 x.site, .bool x.up, .slice b.la x.sl.length b.lc, .slice b.va x.vs.length b.vc, .slice b.wa x.ws.length b.wc, .slice b.oa x.os.length b.oc, .slice b.ka x.kn.length b.kc] 32)).setCell ⟨g, 4, none⟩ (.int .i64 (t3.ep + 1))).setCell ⟨g, 5, none⟩ (.int .i64 2)).drew).cell? ⟨w2.heap.size, j, none⟩ = #[.int .i64 x.site, .bool x.up, .slice (some ⟨g, 0, none⟩) 3 b.lc, .slice b.va x.vs.length b.vc, .slice b.wa x.ws.length b.wc, .slice b.oa x.os.length b.oc, .slice b.ka x.kn.length b.kc][j]? := fun j => by
    have e1 : (#[.int .i64 x.site, .bool x.up, .slice b.la x.sl.length b.lc, .slice b.va x.vs.length b.vc, .slice b.wa x.ws.length b.wc, .slice b.oa x.os.length b.oc, .slice b.ka x.kn.length b.kc] : Array Value) = #[.int .i64 x.site, .bool x.up, .slice (some ⟨g, 0, none⟩) 3 b.lc, .slice b.va x.vs.length b.vc, .slice b.wa x.ws.length b.wc, .slice b.oa x.os.length b.oc, .slice b.ka x.kn.length b.kc] := by rw [HBL.out, HLS.out]
    rw [← e1]
    exact D3.cell j
  have q6 : ∀ j, ((((w2.alloc (.cells #[.int .i64 x.site, .bool x.up, .slice b.la x.sl.length b.lc, .slice b.va x.vs.length b.vc, .slice b.wa x.ws.length b.wc, .slice b.oa x.os.length b.oc, .slice b.ka x.kn.length b.kc] 32)).setCell ⟨g, 4, none⟩ (.int .i64 (t3.ep + 1))).setCell ⟨g, 5, none⟩ (.int .i64 2)).drew).cell? ⟨w.heap.size, j, none⟩ = #[.int .i64 x.site, .bool true, .slice (some ⟨sb, so, none⟩) 3 a.lc, .slice a.va x.vs.length a.vc, .slice a.wa x.ws.length a.wc, .slice a.oa x.os.length a.oc, .slice a.ka x.kn.length a.kc][j]? := fun j => by
    have e1 : (#[.int .i64 x.site, .bool x.up, .slice a.la x.sl.length a.lc, .slice a.va x.vs.length a.vc, .slice a.wa x.ws.length a.wc, .slice a.oa x.os.length a.oc, .slice a.ka x.kn.length a.kc] : Array Value) = #[.int .i64 x.site, .bool true, .slice (some ⟨sb, so, none⟩) 3 a.lc, .slice a.va x.vs.length a.vc, .slice a.wa x.ws.length a.wc, .slice a.oa x.os.length a.oc, .slice a.ka x.kn.length a.kc] := by rw [HU.out, HLA.out, HLS.out]
    rw [← e1]
    exact A3.cell j
  have k1 : (w2.alloc (.cells #[.int .i64 x.site, .bool x.up, .slice b.la x.sl.length b.lc, .slice b.va x.vs.length b.vc, .slice b.wa x.ws.length b.wc, .slice b.oa x.os.length b.oc, .slice b.ka x.kn.length b.kc] 32)).drew.cell? ⟨w2.heap.size, 2, none⟩ = some (.slice (some ⟨g, 0, none⟩) 3 b.lc) ∧ (w2.alloc (.cells #[.int .i64 x.site, .bool x.up, .slice b.la x.sl.length b.lc, .slice b.va x.vs.length b.vc, .slice b.wa x.ws.length b.wc, .slice b.oa x.os.length b.oc, .slice b.ka x.kn.length b.kc] 32)).drew.cell? ⟨w.heap.size, 2, none⟩ = some (.slice (some ⟨sb, so, none⟩) 3 a.lc) ∧ (w2.alloc (.cells #[.int .i64 x.site, .bool x.up, .slice b.la x.sl.length b.lc, .slice b.va x.vs.length b.vc, .slice b.wa x.ws.length b.wc, .slice b.oa x.os.length b.oc, .slice b.ka x.kn.length b.kc] 32)).drew.cell? ⟨sb, so + 4, none⟩ = some (.int .i64 t3.ep) := ⟨q4 2, q1 2, d0'⟩
  have k2 : (((w2.alloc (.cells #[.int .i64 x.site, .bool x.up, .slice b.la x.sl.length b.lc, .slice b.va x.vs.length b.vc, .slice b.wa x.ws.length b.wc, .slice b.oa x.os.length b.oc, .slice b.ka x.kn.length b.kc] 32)).setCell ⟨g, 4, none⟩ (.int .i64 (t3.ep + 1))).setCell ⟨g, 5, none⟩ (.int .i64 2)).drew.cell? ⟨w2.heap.size, 2, none⟩ = some (.slice (some ⟨g, 0, none⟩) 3 b.lc) ∧ (((w2.alloc (.cells #[.int .i64 x.site, .bool x.up, .slice b.la x.sl.length b.lc, .slice b.va x.vs.length b.vc, .slice b.wa x.ws.length b.wc, .slice b.oa x.os.length b.oc, .slice b.ka x.kn.length b.kc] 32)).setCell ⟨g, 4, none⟩ (.int .i64 (t3.ep + 1))).setCell ⟨g, 5, none⟩ (.int .i64 2)).drew.cell? ⟨w.heap.size, 2, none⟩ = some (.slice (some ⟨sb, so, none⟩) 3 a.lc) ∧ (((w2.alloc (.cells #[.int .i64 x.site, .bool x.up, .slice b.la x.sl.length b.lc, .slice b.va x.vs.length b.vc, .slice b.wa x.ws.length b.wc, .slice b.oa x.os.length b.oc, .slice b.ka x.kn.length b.kc] 32)).setCell ⟨g, 4, none⟩ (.int .i64 (t3.ep + 1))).setCell ⟨g, 5, none⟩ (.int .i64 2)).drew.cell? ⟨sb, so + 4, none⟩ = some (.int .i64 t3.ep) := ⟨q5 2, q6 2, (B3.cell (p := ⟨sb, so + 4, none⟩) hsb).trans d0⟩
  go_wp2_with (first | (go_at_call 60; refine (hI _).mono ?_; rintro e wy ⟨rfl, rfl⟩))
  go_region_held3 (fun W => W.cell? ⟨w2.heap.size, 2, none⟩ = some (.slice (some ⟨g, 0, none⟩) 3 b.lc) ∧ W.cell? ⟨w.heap.size, 2, none⟩ = some (.slice (some ⟨sb, so, none⟩) 3 a.lc) ∧ W.cell? ⟨sb, so + 4, none⟩ = some (.int .i64 t3.ep)) (with_reducible (first | exact k1 | exact k2)) (fail)
  clear A2 S2 W2 D2 P3 q1 g1 q2 g2 q3 g3 q4 g4 gg G2 on3 d0' d1' sg0 sg1 hold sl2 B2 k1 k2 q5 q6 A3
  have q7 : ∀ j, ((((w2.alloc (.cells #[.int .i64 x.site, .bool x.up, .slice b.la x.sl.length b.lc, .slice b.va x.vs.length b.vc, .slice b.wa x.ws.length b.wc, .slice b.oa x.os.length b.oc, .slice b.ka x.kn.length b.kc] 32)).setCell ⟨g, 4, none⟩ (.int .i64 (t3.ep + 1))).setCell ⟨g, 5, none⟩ (.int .i64 2)).drew).cell? ⟨w2.heap.size, j, none⟩ = #[.int .i64 x.site, .bool x.up, .slice b.la 3 b.lc, .slice b.va x.vs.length b.vc, .slice b.wa x.ws.length b.wc, .slice b.oa x.os.length b.oc, .slice b.ka x.kn.length b.kc][j]? := fun j => by
    have e1 : (#[.int .i64 x.site, .bool x.up, .slice b.la x.sl.length b.lc, .slice b.va x.vs.length b.vc, .slice b.wa x.ws.length b.wc, .slice b.oa x.os.length b.oc, .slice b.ka x.kn.length b.kc] : Array Value) = #[.int .i64 x.site, .bool x.up, .slice b.la 3 b.lc, .slice b.va x.vs.length b.vc, .slice b.wa x.ws.length b.wc, .slice b.oa x.os.length b.oc, .slice b.ka x.kn.length b.kc] := by rw [HLS.out]
    rw [← e1]
    exact D3.cell j
  generalize ((((w2.alloc (.cells #[.int .i64 x.site, .bool x.up, .slice b.la x.sl.length b.lc, .slice b.va x.vs.length b.vc, .slice b.wa x.ws.length b.wc, .slice b.oa x.os.length b.oc, .slice b.ka x.kn.length b.kc] 32)).setCell ⟨g, 4, none⟩ (.int .i64 (t3.ep + 1))).setCell ⟨g, 5, none⟩ (.int .i64 2)).drew) = u3 at *
  have mkI : ∀ W, OwnV W w1.heap.size (.slice b.va x.vs.length b.vc) ys → OwnV W w1.heap.size (.slice b.wa x.ws.length b.wc) zs → RowD W w1.heap.size (.slice b.oa x.os.length b.oc) x.os → RowD W w1.heap.size (.slice b.ka x.kn.length b.kc) x.kn → Blk W g cur3 84 → InS W ⟨x.site, x.up, [t1, t2, ⟨t3.ep + 1, 2⟩], x.vs, x.ws, x.os, x.kn⟩ b := fun W i1 i2 i3 i4 i5 => by
    refine ⟨?_, i1.asV HYZ.out.1, i2.asV HYZ.out.2, row_deps' i3, row_deps' i4⟩
    show Slots W b.la _
    rw [HBL.out]
    exact HC3.out W i5
  have I3 := mkI u3 V3 X3 O3 K3 G3
  go_wp2_with fail
  have k1 : ∀ j, u3.drew.cell? ⟨w2.heap.size, j, none⟩ = #[.int .i64 x.site, .bool x.up, .slice b.la 3 b.lc, .slice b.va x.vs.length b.vc, .slice b.wa x.ws.length b.wc, .slice b.oa x.os.length b.oc, .slice b.ka x.kn.length b.kc][j]? := q7
  go_region_held3 (fun W => ∀ j, W.cell? ⟨w2.heap.size, j, none⟩ = #[.int .i64 x.site, .bool x.up, .slice b.la 3 b.lc, .slice b.va x.vs.length b.vc, .slice b.wa x.ws.length b.wc, .slice b.oa x.os.length b.oc, .slice b.ka x.kn.length b.kc][j]?) (with_reducible (first | exact k1 | exact k2 | exact k3 | exact k4)) (first | (go_at_call 61; refine (hBk b _ (I3.below (Below.refl _ _).drew)).mono ?_; rintro e w4 ⟨c, us, ts, rfl, IL, hb4⟩; have b4 : Below u3.heap.size u3 w4 := ((Below.refl u3.heap.size u3).drew).trans hb4; have S4 := S3.below b4 S3.lt; have W4 := W3.below b4 W3.lt; have D4 := D3.below b4 D3.lt; have k2 : ∀ j, w4.cell? ⟨w2.heap.size, j, none⟩ = #[.int .i64 x.site, .bool x.up, .slice b.la 3 b.lc, .slice b.va x.vs.length b.vc, .slice b.wa x.ws.length b.wc, .slice b.oa x.os.length b.oc, .slice b.ka x.kn.length b.kc][j]? := fun j => (b4.cell (p := ⟨w2.heap.size, j, none⟩) D3.lt).trans (q7 j); have k3 : ∀ j, (((((((w4.setCell ⟨w.heap.size + 1, 0, none⟩ (.int .i64 x.site)).setCell ⟨w.heap.size + 1, 1, none⟩ (.bool x.up)).setCell ⟨w.heap.size + 1, 2, none⟩ (.slice b.la 3 b.lc)).setCell ⟨w.heap.size + 1, 3, none⟩ (.slice b.va x.vs.length b.vc)).setCell ⟨w.heap.size + 1, 4, none⟩ (.slice b.wa x.ws.length b.wc)).setCell ⟨w.heap.size + 1, 5, none⟩ (.slice b.oa x.os.length b.oc)).setCell ⟨w.heap.size + 1, 6, none⟩ (.slice b.ka x.kn.length b.kc)).cell? ⟨w2.heap.size, j, none⟩ = #[.int .i64 x.site, .bool x.up, .slice b.la 3 b.lc, .slice b.va x.vs.length b.vc, .slice b.wa x.ws.length b.wc, .slice b.oa x.os.length b.oc, .slice b.ka x.kn.length b.kc][j]? := fun j => (fill7_only.cell1 D4.lt (by omega)).trans (k2 j); have k4 : ∀ j, ((((((((((((((((((((((w4.setCell ⟨w.heap.size + 1, 0, none⟩ (.int .i64 x.site)).setCell ⟨w.heap.size + 1, 1, none⟩ (.bool x.up)).setCell ⟨w.heap.size + 1, 2, none⟩ (.slice b.la 3 b.lc)).setCell ⟨w.heap.size + 1, 3, none⟩ (.slice b.va x.vs.length b.vc)).setCell ⟨w.heap.size + 1, 4, none⟩ (.slice b.wa x.ws.length b.wc)).setCell ⟨w.heap.size + 1, 5, none⟩ (.slice b.oa x.os.length b.oc)).setCell ⟨w.heap.size + 1, 6, none⟩ (.slice b.ka x.kn.length b.kc)).setCell ⟨w.heap.size + 1 + 1, 0, none⟩ (.int .i64 z.kind)).setCell ⟨w.heap.size + 1 + 1, 1, none⟩ (.int .i64 z.fr)).setCell ⟨w.heap.size + 1 + 1, 2, none⟩ (.int .i64 z.to)).setCell ⟨w.heap.size + 1 + 1, 3, none⟩ (.int .i64 z.call)).setCell ⟨w.heap.size + 1 + 1, 4, none⟩ (.int .i64 z.key)).setCell ⟨w.heap.size + 1 + 1, 5, none⟩ (.int .i64 z.t)).setCell ⟨w.heap.size + 1 + 1, 6, none⟩ (.int .i64 z.s)).setCell ⟨w.heap.size + 1 + 1, 7, none⟩ (.int .i64 z.val)).setCell ⟨w.heap.size + 1 + 1, 8, none⟩ (.bool z.yes)).setCell ⟨w.heap.size + 1 + 1, 9, none⟩ (.slice c.da z.ds.length c.dc)).setCell ⟨w.heap.size + 1 + 1, 10, none⟩ (.int .i64 z.slot)).setCell ⟨w.heap.size + 1 + 1, 11, none⟩ (.int .i64 z.ep)).setCell ⟨w.heap.size + 1 + 1, 12, none⟩ (.slice c.va z.vs.length c.vc)).setCell ⟨w.heap.size + 1 + 1, 13, none⟩ (.slice c.wa z.ws.length c.wc)).setCell ⟨w.heap.size + 1 + 1, 14, none⟩ (.slice c.oa z.os.length c.oc)).cell? ⟨w2.heap.size, j, none⟩ = #[.int .i64 x.site, .bool x.up, .slice b.la 3 b.lc, .slice b.va x.vs.length b.vc, .slice b.wa x.ws.length b.wc, .slice b.oa x.os.length b.oc, .slice b.ka x.kn.length b.kc][j]? := fun j => (fill22_only.cell1 D4.lt (by omega)).trans (k2 j); obtain ⟨qs, gs⟩ := S4.rules; obtain ⟨qw, gw⟩ := W4.rules))
  all_goals go_wp2_with fail
  all_goals
    have zd := D3.lt
    have ed : u3.drew.heap.size = u3.heap.size := rfl
    have V4 := V3.below b4 (Nat.le_refl _)
    have X4 := X3.below b4 (Nat.le_refl _)
    have O4 := row_below O3 b4 (Nat.le_refl _)
    have K4 := row_below K3 b4 (Nat.le_refl _)
    have G4 := G3.below b4 G3.lt
    refine bodyPost_ret (v := .tuple #[.agg #[.int .i64 x.site, .bool x.up, .slice b.la 3 b.lc, .slice b.va x.vs.length b.vc, .slice b.wa x.ws.length b.wc, .slice b.oa x.os.length b.oc, .slice b.ka x.kn.length b.kc], .agg #[.int .i64 z.kind, .int .i64 z.fr, .int .i64 z.to, .int .i64 z.call, .int .i64 z.key, .int .i64 z.t, .int .i64 z.s, .int .i64 z.val, .bool z.yes, .slice c.da z.ds.length c.dc, .int .i64 z.slot, .int .i64 z.ep, .slice c.va z.vs.length c.vc, .slice c.wa z.ws.length c.wc, .slice c.oa z.os.length c.oc], .bool true]) ?_ rfl ⟨b, c, rfl, ?_, ?_, fill22_below (B3.trans (b4.mono B3.size)) (by omega) (by omega)⟩
    · refine Blk.gen2 (A := w.heap.size + 1) (B := w.heap.size + 1 + 1) (vs := #[.int .i64 x.site, .bool x.up, .slice b.la 3 b.lc, .slice b.va x.vs.length b.vc, .slice b.wa x.ws.length b.wc, .slice b.oa x.os.length b.oc, .slice b.ka x.kn.length b.kc]) (us := #[.int .i64 z.kind, .int .i64 z.fr, .int .i64 z.to, .int .i64 z.call, .int .i64 z.key, .int .i64 z.t, .int .i64 z.s, .int .i64 z.val, .bool z.yes, .slice c.da z.ds.length c.dc, .int .i64 z.slot, .int .i64 z.ep, .slice c.va z.vs.length c.vc, .slice c.wa z.ws.length c.wc, .slice c.oa z.os.length c.oc]) (T := 32) (T' := 41) (P := fun W => (results Tryz.f16 _).run Tryz.prog W = .ok _ W) (fill22 S4 W4 (by omega)).1 (fill22 S4 W4 (by omega)).2 ?_
      intro W hA hB
      obtain ⟨k1, f1⟩ := hA.rules
      obtain ⟨k2, f2⟩ := hB.rules
      simp [results, Tryz.results16, go_sem, k1, k2]
    · exact mkI _ (fill22_only.ownV V4 (fun j hj hS => by have := (V4.lt hj).1; rcases hS with hS | hS <;> omega)) (fill22_only.ownV X4 (fun j hj hS => by have := (X4.lt hj).1; rcases hS with hS | hS <;> omega)) (fill22_only.row O4 (fun j hj hS => by have := (O4.lt j hj).1; rcases hS with hS | hS <;> omega)) (fill22_only.row K4 (fun j hj hS => by have := (K4.lt j hj).1; rcases hS with hS | hS <;> omega)) (fill22_only.blk G4 (fun hS => by rcases hS with hS | hS <;> omega))
    · exact (fill22_only.ownH IL (fun j hj hS => by rcases hS with hS | hS <;> omega)).inL
end Go.Proofs.YtpjidogilofppaaGreat
