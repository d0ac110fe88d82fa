/- The lists of a word that is made. -/
import Derived.Test.YtgdkoangpinieaaWInv
namespace Go.Proofs.Ytgdkoangpinieaa
open Go.ChangeShapes Go.WideShapes Go.ChangeAt Go.RowKit

theorem KW21 {B n0 : Nat} {v : Value} {w : World} : KW B n0 21 v w = ∃ b, v = .bool b := by
  unfold KW
  rw [if_neg (by decide), if_neg (by decide), if_neg (by decide), if_pos rfl]
theorem KW3 {B n0 : Nat} {v : Value} {w : World} : KW B n0 3 v w = ∃ g, v = .slice (some ⟨g, 0, none⟩) 6 6 ∧ Six n0 w g := by
  unfold KW
  rw [if_neg (by decide), if_neg (by decide), if_neg (by decide), if_neg (by decide), if_pos (by decide)]
theorem KW8 {B n0 : Nat} {v : Value} {w : World} : KW B n0 8 v w = ∃ g, v = .slice (some ⟨g, 0, none⟩) 6 6 ∧ Six n0 w g := by
  unfold KW
  rw [if_neg (by decide), if_neg (by decide), if_neg (by decide), if_neg (by decide), if_pos (by decide)]
theorem KW6 {B n0 : Nat} {v : Value} {w : World} : KW B n0 6 v w = ∃ g i, v = .pointer (some ⟨g, i, none⟩) ∧ i < 6 ∧ Six n0 w g := by
  unfold KW
  rw [if_neg (by decide), if_neg (by decide), if_neg (by decide), if_neg (by decide), if_neg (by decide), if_pos (by decide)]
theorem KW11 {B n0 : Nat} {v : Value} {w : World} : KW B n0 11 v w = ∃ g i, v = .pointer (some ⟨g, i, none⟩) ∧ i < 6 ∧ Six n0 w g := by
  unfold KW
  rw [if_neg (by decide), if_neg (by decide), if_neg (by decide), if_neg (by decide), if_neg (by decide), if_pos (by decide)]
theorem KW26 {B n0 : Nat} {v : Value} {w : World} : KW B n0 26 v w = ∃ k f t c y x b s e, v = .agg (wz k f t c y x b s e) := by
  unfold KW
  rw [if_neg (by decide), if_neg (by decide), if_neg (by decide), if_neg (by decide), if_neg (by decide), if_neg (by decide), if_pos rfl]
theorem KW27 {B n0 : Nat} {v : Value} {w : World} : KW B n0 27 v w = ∃ D k f t c y x b s e, v = .pointer (some ⟨D, 0, none⟩) ∧ n0 ≤ D ∧ Blk w D (wz k f t c y x b s e) 56 := by
  unfold KW
  rw [if_neg (by decide), if_neg (by decide), if_neg (by decide), if_neg (by decide), if_neg (by decide), if_neg (by decide), if_neg (by decide)]
/-- The lists of a word, each of the call's own. -/
structure WLs (W : World) (base : Nat) (x : Wd) (a : Wa) : Prop where
  d : RowD W base (.slice a.da x.ds.length a.dc) x.ds
  v : ∃ ys, OwnV W base (.slice a.va x.vs.length a.vc) ys ∧ ys.map XV.v = x.vs
  w : ∃ ys, OwnV W base (.slice a.wa x.ws.length a.wc) ys ∧ ys.map XV.v = x.ws
  o : RowD W base (.slice a.oa x.os.length a.oc) x.os
  dl : x.ds.length ≤ 7
  vl : Few 81 x.vs
  wl : Few 81 x.ws
  ol : x.os.length ≤ 7
theorem WLs.stp {W W' : World} {base B : Nat} {x : Wd} {a : Wa} (h : WLs W base x a) (k : Stp B W W') (hB : B < base) : WLs W' base x a := by
  obtain ⟨ys, h1, h2⟩ := h.v
  obtain ⟨zs, h3, h4⟩ := h.w
  exact ⟨row_step h.d k hB, ⟨ys, h1.step k hB, h2⟩, ⟨zs, h3.step k hB, h4⟩, row_step h.o k hB, h.dl, h.vl, h.wl, h.ol⟩
theorem WLs.setB {W : World} {base Z j : Nat} {u : Value} {x : Wd} {a : Wa} (h : WLs W base x a) (hB : Z < base) : WLs (W.setCell ⟨Z, j, none⟩ u) base x a := by
  obtain ⟨ys, h1, h2⟩ := h.v
  obtain ⟨zs, h3, h4⟩ := h.w
  exact ⟨rowSetB h.d hB, ⟨ys, h1.setB hB, h2⟩, ⟨zs, h3.setB hB, h4⟩, rowSetB h.o hB, h.dl, h.vl, h.wl, h.ol⟩
theorem WLs.fill15 {W : World} {base Z : Nat} {v0 v1 v2 v3 v4 v5 v6 v7 v8 v9 v10 v11 v12 v13 v14 : Value} {x : Wd} {a : Wa} (h : WLs W base x a) (hB : Z < base) : WLs (((((((((((((((W.setCell ⟨Z, 0, none⟩ v0).setCell ⟨Z, 1, none⟩ v1).setCell ⟨Z, 2, none⟩ v2).setCell ⟨Z, 3, none⟩ v3).setCell ⟨Z, 4, none⟩ v4).setCell ⟨Z, 5, none⟩ v5).setCell ⟨Z, 6, none⟩ v6).setCell ⟨Z, 7, none⟩ v7).setCell ⟨Z, 8, none⟩ v8).setCell ⟨Z, 9, none⟩ v9).setCell ⟨Z, 10, none⟩ v10).setCell ⟨Z, 11, none⟩ v11).setCell ⟨Z, 12, none⟩ v12).setCell ⟨Z, 13, none⟩ v13).setCell ⟨Z, 14, none⟩ v14) base x a := by
  obtain ⟨ys, h1, h2⟩ := h.v
  obtain ⟨zs, h3, h4⟩ := h.w
  exact ⟨rowFill15 h.d hB, ⟨ys, h1.fill15 hB, h2⟩, ⟨zs, h3.fill15 hB, h4⟩, rowFill15 h.o hB, h.dl, h.vl, h.wl, h.ol⟩
theorem WLs.inL {W : World} {base : Nat} {x : Wd} {a : Wa} (h : WLs W base x a) : InL W x a := by
  obtain ⟨ys, h1, h2⟩ := h.v
  obtain ⟨zs, h3, h4⟩ := h.w
  exact ⟨row_deps' h.d, h1.at' h2, h3.at' h4, row_deps' h.o⟩
theorem WLs.nil {W : World} {base : Nat} {k f t c y r s v : Int} {b : Bool} {sl ep : Int} : WLs W base ⟨k, f, t, c, y, r, s, v, b, [], sl, ep, [], [], []⟩ ⟨none, 0, none, 0, none, 0, none, 0⟩ :=
  ⟨World.ownsRow_nil _ _ _ _, ⟨[], OwnV.nil _ _, rfl⟩, ⟨[], OwnV.nil _ _, rfl⟩, World.ownsRow_nil _ _ _ _, by simp, ⟨by simp, fun _ h => (by cases h)⟩, ⟨by simp, fun _ h => (by cases h)⟩, by simp⟩
/-- The numbers may turn. -/
theorem WLs.nums {W : World} {base : Nat} {x : Wd} {a : Wa} (h : WLs W base x a) (k f t c y r s v : Int) (b : Bool) (sl ep : Int) : WLs W base ⟨k, f, t, c, y, r, s, v, b, x.ds, sl, ep, x.vs, x.ws, x.os⟩ a := ⟨h.d, h.v, h.w, h.o, h.dl, h.vl, h.wl, h.ol⟩
end Go.Proofs.Ytgdkoangpinieaa
