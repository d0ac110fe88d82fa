/- A word is drawn: what comes up in any order. -/
import Derived.Test.YtgdkoangpinieaaWReg
import Derived.Test.YtgdkoangpinieaaWCopy
namespace Go.Proofs.Ytgdkoangpinieaa
open Go.ChangeShapes Go.WideShapes Go.ChangeAt Go.RowKit

theorem count_true {l : List Bool} {i : Nat} (hi : i < l.length) (h : l[i] = false) : (l.set i true).count true = l.count true + 1 := by
  induction l generalizing i with
  | nil => simp at hi
  | cons b l ih =>
    cases i with
    | zero => simp at h; subst h; simp
    | succ i =>
      have := ih (by simpa using hi) (by simpa using h)
      cases b <;> simp <;> omega
/-- The numbers of a word without lists, cell by cell. -/
abbrev wz (k f t c y v : Int) (b : Bool) (s e : Int) : Array Value := #[.int .i64 k, .int .i64 f, .int .i64 t, .int .i64 c, .int .i64 y, .int .i64 0, .int .i64 0, .int .i64 v, .bool b, .slice none 0 0, .int .i64 s, .int .i64 e, .slice none 0 0, .slice none 0 0, .slice none 0 0]
/-- Six places in a block of their own. -/
def Six (n0 : Nat) (w : World) (g : Nat) : Prop := n0 ≤ g ∧ Blk w g #[.int .i64 0, .int .i64 1, .int .i64 2, .int .i64 3, .int .i64 10, .int .i64 11] 3
theorem Six.cell {n0 : Nat} {w : World} {g i : Nat} (h : Six n0 w g) (hi : i < 6) : ∃ m : Int, w.cell? ⟨g, i, none⟩ = some (.int .i64 m) := by
  have : i = 0 ∨ i = 1 ∨ i = 2 ∨ i = 3 ∨ i = 4 ∨ i = 5 := by omega
  rcases this with rfl | rfl | rfl | rfl | rfl | rfl
  · exact ⟨_, h.2.cell 0⟩
  · exact ⟨_, h.2.cell 1⟩
  · exact ⟨_, h.2.cell 2⟩
  · exact ⟨_, h.2.cell 3⟩
  · exact ⟨_, h.2.cell 4⟩
  · exact ⟨_, h.2.cell 5⟩
/-- What is known of each operation's value, once it has come up. -/
def KW (B n0 : Nat) (j : Nat) (v : Value) (w : World) : Prop :=
  if j ∈ [0, 4, 9, 13, 15, 17, 19, 22, 24] then v = .pointer (some ⟨B, 0, none⟩)
  else if j ∈ [5, 10] then ∃ n : Nat, v = .int .i64 n ∧ n < 6
  else if j ∈ [1, 14, 16, 18, 20, 23, 25, 2, 7, 12] then ∃ n : Int, v = .int .i64 n
  else if j = 21 then ∃ b, v = .bool b
  else if j ∈ [3, 8] then ∃ g, v = .slice (some ⟨g, 0, none⟩) 6 6 ∧ Six n0 w g
  else if j ∈ [6, 11] then ∃ g i, v = .pointer (some ⟨g, i, none⟩) ∧ i < 6 ∧ Six n0 w g
  else if j = 26 then ∃ k f t c y x b s e, v = .agg (wz k f t c y x b s e)
  else ∃ D k f t c y x b s e, v = .pointer (some ⟨D, 0, none⟩) ∧ n0 ≤ D ∧ Blk w D (wz k f t c y x b s e) 56
theorem Six.stp {B n0 g : Nat} {w w' : World} (h : Six n0 w g) (hB : B < n0) (k : Stp B w w') : Six n0 w' g := ⟨h.1, h.2.stp k (by have := h.1; omega)⟩
theorem KW.stp {B n0 j : Nat} {v : Value} {w w' : World} (hB : B < n0) (k : Stp B w w') (h : KW B n0 j v w) : KW B n0 j v w' := by
  unfold KW at *
  split at h
  · simp [*]
  split at h
  · simp [*]
  split at h
  · simp [*]
  split at h
  · simp [*]
  split at h
  · obtain ⟨g, h1, h2⟩ := h
    have := h2.stp hB k
    simp only [*, if_true, if_false]
    exact ⟨g, rfl, this⟩
  split at h
  · obtain ⟨g, i, h1, h2, h3⟩ := h
    have := h3.stp hB k
    simp only [*, if_true, if_false]
    exact ⟨g, i, rfl, h2, this⟩
  split at h
  · simpa [*] using h
  · obtain ⟨D, z1, z2, z3, z4, z5, z6, z7, z8, z9, h1, h2, h3⟩ := h
    have := h3.stp k (by omega)
    simp only [*, if_false]
    exact ⟨D, z1, z2, z3, z4, z5, z6, z7, z8, z9, rfl, h2, this⟩
/-- Where an operation's value lies. -/
def dstW (j : Nat) : Nat := if j = 27 then 3 else j + 4
/-- What holds whatever has come up. -/
structure InvW (B : Nat) (p : Int) (w0 : World) (T0 : Array Value) (l : Array Bool) (a : Act) (w : World) : Prop where
  ls : l.size = 29
  ts : a.tmps.size = 91
  df : a.defers = []
  fr : ∀ k, (k < 3 ∨ 31 ≤ k) → a.tmps[k]? = T0[k]?
  kv : ∀ j, j < 28 → l[j]? = some true → ∃ v, a.tmps[dstW j]? = some v ∧ KW B w0.heap.size j v w
  st : Stp B w0 w
  rd : ∃ q, Rd w B q ∧ q ≤ p + l.toList.count true
theorem InvW.step {B : Nat} {p : Int} {w0 : World} {T0 : Array Value} {l : Array Bool} {a : Act} {w w' : World} {i d : Nat} {v : Value} (h : InvW B p w0 T0 l a w) (hB : B < w0.heap.size) (hi : i < 28) (hun : l[i]? = some false) (hd : d = dstW i) (hK : KW B w0.heap.size i v w') (hS : Stp B w w') (hR : ∃ q, Rd w' B q ∧ q ≤ p + l.toList.count true + 1) :
    InvW B p w0 T0 (l.setIfInBounds i true) { tmps := a.tmps.setIfInBounds d v, defers := a.defers } w' := by
  subst hd
  have hls := h.ls
  have hts := h.ts
  have hd3 : 3 ≤ dstW i ∧ dstW i ≤ 30 := by unfold dstW; split <;> omega
  refine ⟨by simpa using hls, by simpa using hts, h.df, fun k hk => ?_, fun j hj hl => ?_, h.st.trans hS, ?_⟩
  · have hne : dstW i ≠ k := by omega
    rw [Array.getElem?_setIfInBounds_ne hne]
    exact h.fr k hk
  · by_cases hji : j = i
    · subst hji
      exact ⟨v, by rw [Array.getElem?_setIfInBounds_self_of_lt (by omega)], hK⟩
    · rw [Array.getElem?_setIfInBounds_ne (fun e => hji e.symm)] at hl
      obtain ⟨u, h1, h2⟩ := h.kv j hj hl
      refine ⟨u, ?_, h2.stp hB hS⟩
      rw [Array.getElem?_setIfInBounds_ne (by unfold dstW; split <;> split <;> omega)]
      exact h1
  · obtain ⟨q, h1, h2⟩ := hR
    refine ⟨q, h1, ?_⟩
    have hlt : i < l.size := by omega
    have hf : l.toList[i]'(by simpa using hlt) = false := by
      have := hun
      rw [Array.getElem?_eq_getElem hlt] at this
      simpa using this
    rw [Array.toList_setIfInBounds, count_true (by simpa using hlt) hf]
    omega
theorem getT {l : Array Bool} {k : Nat} (h : l.getD k false = true) : l[k]? = some true := by
  rw [Array.getD_eq_getD_getElem?] at h
  cases e : l[k]? with
  | none => rw [e] at h; cases h
  | some b => rw [e] at h; simpa using h
theorem getF {l : Array Bool} {k : Nat} (h : l.getD k true = false) : l[k]? = some false := by
  rw [Array.getD_eq_getD_getElem?] at h
  cases e : l[k]? with
  | none => rw [e] at h; cases h
  | some b => rw [e] at h; simpa using h
theorem InvW.store {B : Nat} {p : Int} {w0 : World} {T0 : Array Value} {l : Array Bool} {a : Act} {w : World} {Z : Nat} {z1 z2 z3 z4 z5 z6 : Int} {z7 : Bool} {z8 z9 : Int} {k f t c y x : Int} {b : Bool} {s e : Int} (h : InvW B p w0 T0 l a w) (hB : B < w0.heap.size) (hun : l[28]? = some false) (hZ : w0.heap.size ≤ Z) (hK : Blk w Z (wz z1 z2 z3 z4 z5 z6 z7 z8 z9) 56) :
    InvW B p w0 T0 (l.setIfInBounds 28 true) a (((((((((((((((w.setCell ⟨Z, 0, none⟩ (.int .i64 k)).setCell ⟨Z, 1, none⟩ (.int .i64 f)).setCell ⟨Z, 2, none⟩ (.int .i64 t)).setCell ⟨Z, 3, none⟩ (.int .i64 c)).setCell ⟨Z, 4, none⟩ (.int .i64 y)).setCell ⟨Z, 5, none⟩ (.int .i64 0)).setCell ⟨Z, 6, none⟩ (.int .i64 0)).setCell ⟨Z, 7, none⟩ (.int .i64 x)).setCell ⟨Z, 8, none⟩ (.bool b)).setCell ⟨Z, 9, none⟩ (.slice none 0 0)).setCell ⟨Z, 10, none⟩ (.int .i64 s)).setCell ⟨Z, 11, none⟩ (.int .i64 e)).setCell ⟨Z, 12, none⟩ (.slice none 0 0)).setCell ⟨Z, 13, none⟩ (.slice none 0 0)).setCell ⟨Z, 14, none⟩ (.slice none 0 0)) := by
  have hls := h.ls
  have hN := Blk.fill15 (v0 := .int .i64 k) (v1 := .int .i64 f) (v2 := .int .i64 t) (v3 := .int .i64 c) (v4 := .int .i64 y) (v5 := .int .i64 0) (v6 := .int .i64 0) (v7 := .int .i64 x) (v8 := .bool b) (v9 := .slice none 0 0) (v10 := .int .i64 s) (v11 := .int .i64 e) (v12 := .slice none 0 0) (v13 := .slice none 0 0) (v14 := .slice none 0 0) hK
  have hO : ∀ {g : Nat} {vs : Array Value} {T : TypeId}, g ≠ Z → Blk w g vs T → Blk (((((((((((((((w.setCell ⟨Z, 0, none⟩ (.int .i64 k)).setCell ⟨Z, 1, none⟩ (.int .i64 f)).setCell ⟨Z, 2, none⟩ (.int .i64 t)).setCell ⟨Z, 3, none⟩ (.int .i64 c)).setCell ⟨Z, 4, none⟩ (.int .i64 y)).setCell ⟨Z, 5, none⟩ (.int .i64 0)).setCell ⟨Z, 6, none⟩ (.int .i64 0)).setCell ⟨Z, 7, none⟩ (.int .i64 x)).setCell ⟨Z, 8, none⟩ (.bool b)).setCell ⟨Z, 9, none⟩ (.slice none 0 0)).setCell ⟨Z, 10, none⟩ (.int .i64 s)).setCell ⟨Z, 11, none⟩ (.int .i64 e)).setCell ⟨Z, 12, none⟩ (.slice none 0 0)).setCell ⟨Z, 13, none⟩ (.slice none 0 0)).setCell ⟨Z, 14, none⟩ (.slice none 0 0)) g vs T := fun hg hb => (((((((((((((((hb.other (a := ⟨Z, 0, none⟩) hg _).other (a := ⟨Z, 1, none⟩) hg _).other (a := ⟨Z, 2, none⟩) hg _).other (a := ⟨Z, 3, none⟩) hg _).other (a := ⟨Z, 4, none⟩) hg _).other (a := ⟨Z, 5, none⟩) hg _).other (a := ⟨Z, 6, none⟩) hg _).other (a := ⟨Z, 7, none⟩) hg _).other (a := ⟨Z, 8, none⟩) hg _).other (a := ⟨Z, 9, none⟩) hg _).other (a := ⟨Z, 10, none⟩) hg _).other (a := ⟨Z, 11, none⟩) hg _).other (a := ⟨Z, 12, none⟩) hg _).other (a := ⟨Z, 13, none⟩) hg _).other (a := ⟨Z, 14, none⟩) hg _)
  have hS6 : ∀ {g : Nat}, Six w0.heap.size w g → Six w0.heap.size (((((((((((((((w.setCell ⟨Z, 0, none⟩ (.int .i64 k)).setCell ⟨Z, 1, none⟩ (.int .i64 f)).setCell ⟨Z, 2, none⟩ (.int .i64 t)).setCell ⟨Z, 3, none⟩ (.int .i64 c)).setCell ⟨Z, 4, none⟩ (.int .i64 y)).setCell ⟨Z, 5, none⟩ (.int .i64 0)).setCell ⟨Z, 6, none⟩ (.int .i64 0)).setCell ⟨Z, 7, none⟩ (.int .i64 x)).setCell ⟨Z, 8, none⟩ (.bool b)).setCell ⟨Z, 9, none⟩ (.slice none 0 0)).setCell ⟨Z, 10, none⟩ (.int .i64 s)).setCell ⟨Z, 11, none⟩ (.int .i64 e)).setCell ⟨Z, 12, none⟩ (.slice none 0 0)).setCell ⟨Z, 13, none⟩ (.slice none 0 0)).setCell ⟨Z, 14, none⟩ (.slice none 0 0)) g := fun {g} hs => ⟨hs.1, hO (fun e => by
    have h1 := hs.2
    subst e
    unfold Blk at h1 hK
    rw [h1] at hK
    simp at hK) hs.2⟩
  refine ⟨by simpa using hls, h.ts, h.df, h.fr, fun j hj hl => ?_, ?_, ?_⟩
  · rw [Array.getElem?_setIfInBounds_ne (by omega)] at hl
    obtain ⟨u, h1, h2⟩ := h.kv j hj hl
    refine ⟨u, h1, ?_⟩
    unfold KW at *
    split at h2
    · simp [*]
    split at h2
    · simp [*]
    split at h2
    · simp [*]
    split at h2
    · simp [*]
    split at h2
    · obtain ⟨g, e1, e2⟩ := h2
      have := hS6 e2
      simp only [*, if_true, if_false]
      exact ⟨g, rfl, this⟩
    split at h2
    · obtain ⟨g, i, e1, e2, e3⟩ := h2
      have := hS6 e3
      simp only [*, if_true, if_false]
      exact ⟨g, i, rfl, e2, this⟩
    split at h2
    · simpa [*] using h2
    · obtain ⟨D, y1, y2, y3, y4, y5, y6, y7, y8, y9, e1, e2, e3⟩ := h2
      by_cases hD : D = Z
      · subst hD
        simp only [*, if_false]
        exact ⟨D, k, f, t, c, y, x, b, s, e, rfl, e2, hN⟩
      · have := hO hD e3
        simp only [*, if_false]
        exact ⟨D, y1, y2, y3, y4, y5, y6, y7, y8, y9, rfl, e2, this⟩
  · exact (((((((((((((((h.st.setNew (p := ⟨Z, 0, none⟩) hZ _).setNew (p := ⟨Z, 1, none⟩) hZ _).setNew (p := ⟨Z, 2, none⟩) hZ _).setNew (p := ⟨Z, 3, none⟩) hZ _).setNew (p := ⟨Z, 4, none⟩) hZ _).setNew (p := ⟨Z, 5, none⟩) hZ _).setNew (p := ⟨Z, 6, none⟩) hZ _).setNew (p := ⟨Z, 7, none⟩) hZ _).setNew (p := ⟨Z, 8, none⟩) hZ _).setNew (p := ⟨Z, 9, none⟩) hZ _).setNew (p := ⟨Z, 10, none⟩) hZ _).setNew (p := ⟨Z, 11, none⟩) hZ _).setNew (p := ⟨Z, 12, none⟩) hZ _).setNew (p := ⟨Z, 13, none⟩) hZ _).setNew (p := ⟨Z, 14, none⟩) hZ _)
  · obtain ⟨q, h1, h2⟩ := h.rd
    refine ⟨q, (((((((((((((((h1.setNew (a := ⟨Z, 0, none⟩) (by simp; omega) _).setNew (a := ⟨Z, 1, none⟩) (by simp; omega) _).setNew (a := ⟨Z, 2, none⟩) (by simp; omega) _).setNew (a := ⟨Z, 3, none⟩) (by simp; omega) _).setNew (a := ⟨Z, 4, none⟩) (by simp; omega) _).setNew (a := ⟨Z, 5, none⟩) (by simp; omega) _).setNew (a := ⟨Z, 6, none⟩) (by simp; omega) _).setNew (a := ⟨Z, 7, none⟩) (by simp; omega) _).setNew (a := ⟨Z, 8, none⟩) (by simp; omega) _).setNew (a := ⟨Z, 9, none⟩) (by simp; omega) _).setNew (a := ⟨Z, 10, none⟩) (by simp; omega) _).setNew (a := ⟨Z, 11, none⟩) (by simp; omega) _).setNew (a := ⟨Z, 12, none⟩) (by simp; omega) _).setNew (a := ⟨Z, 13, none⟩) (by simp; omega) _).setNew (a := ⟨Z, 14, none⟩) (by simp; omega) _), ?_⟩
    have hlt : 28 < l.size := by omega
    have hf : l.toList[28]'(by simpa using hlt) = false := by
      have := hun
      rw [Array.getElem?_eq_getElem hlt] at this
      simpa using this
    rw [Array.toList_setIfInBounds, count_true (by simpa using hlt) hf]
    omega
end Go.Proofs.Ytgdkoangpinieaa
