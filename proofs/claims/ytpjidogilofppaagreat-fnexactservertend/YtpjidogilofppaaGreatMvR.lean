/- A dep is appended to a word's own debts, in whatever order that comes up. -/
import Derived.Test.YtpjidogilofppaaGreatMvC
namespace Go.Proofs.YtpjidogilofppaaGreat
open Go.ChangeShapes Go.WideShapes Go.ChangeAt Go.RowKit

/-- What holds whatever has come up. -/
structure InvB (w5 : World) (dB : Nat) (d : D) (ds : List D) (old : Value) (c : Nat → Value) (WQ : Value → Array Value) (T0 : Array Value) (l : Array Bool) (a : Act) (w : World) : Prop where
  ls : l.size = 11
  ts : a.tmps.size = 63
  df : a.defers = []
  fr : ∀ j, (j < 52 ∨ 62 ≤ j) → a.tmps[j]? = T0[j]?
  kv : ∀ j, j < 10 → j ≠ 7 → j ≠ 8 → l[j]? = some true → a.tmps[52 + j]? = some (c j)
  k7 : l[7]? = some true → l[8]? = some false → ∃ g, a.tmps[59]? = some (.slice (some ⟨g, 0, none⟩) 1 1) ∧ Blk w g #[.int .i64 d.k, .int .i64 d.t, .int .i64 d.s] 116
  k8 : l[8]? = some true → ∃ oq oqc, a.tmps[60]? = some (.slice oq (ds ++ [d]).length oqc) ∧ RowD w w5.heap.size (.slice oq (ds ++ [d]).length oqc) (ds ++ [d]) ∧ (l[10]? = some true → Blk w dB (WQ (.slice oq (ds ++ [d]).length oqc)) 41)
  d14 : l[10]? = some false → Blk w dB (WQ old) 41
  row : l[8]? = some false → RowD w w5.heap.size old ds
  on : Only w5 w (fun b => w5.heap.size ≤ b ∨ b = dB)
  oA : l[8]? = some true → l[7]? = some true
  oB : l[10]? = some true → l[8]? = some true
  oC : l[8]? = some true → l[1]? = some true
theorem bit_or {l : Array Bool} {k : Nat} (h : k < l.size) : l[k]? = some false ∨ l[k]? = some true := by
  rw [Array.getElem?_eq_getElem h]
  cases l[k] <;> simp
theorem InvB.quiet {w5 : World} {dB : Nat} {d : D} {ds : List D} {old : Value} {c : Nat → Value} {WQ : Value → Array Value} {T0 : Array Value} {l : Array Bool} {a : Act} {w : World} {i e : Nat} (h : InvB w5 dB d ds old c WQ T0 l a w) (hi : i < 10) (h7 : i ≠ 7) (h8 : i ≠ 8) (he : e = 52 + i) : InvB w5 dB d ds old c WQ T0 (l.setIfInBounds i true) { tmps := a.tmps.setIfInBounds e (c i), defers := a.defers } w := by
  subst he
  have hls := h.ls
  have hts := h.ts
  have g : ∀ k, k ≠ i → (l.setIfInBounds i true)[k]? = l[k]? := fun k hk => Array.getElem?_setIfInBounds_ne (fun e => hk e.symm)
  refine ⟨by simpa using hls, by simpa using hts, h.df, fun j hj => ?_, fun j hj j7 j8 hl => ?_, ?_, ?_, ?_, ?_, h.on, ?_, ?_, ?_⟩
  · rw [Array.getElem?_setIfInBounds_ne (by omega)]; exact h.fr j hj
  · by_cases hji : j = i
    · subst hji; rw [Array.getElem?_setIfInBounds_self_of_lt (by omega)]
    · rw [g j hji] at hl
      rw [Array.getElem?_setIfInBounds_ne (by omega)]
      exact h.kv j hj j7 j8 hl
  · rw [g 7 (fun e => h7 e.symm), g 8 (fun e => h8 e.symm)]
    intro x y
    rw [Array.getElem?_setIfInBounds_ne (by omega)]
    exact h.k7 x y
  · rw [g 8 (fun e => h8 e.symm), g 10 (by omega)]
    intro x
    rw [Array.getElem?_setIfInBounds_ne (by omega)]
    exact h.k8 x
  · rw [g 10 (by omega)]; exact h.d14
  · rw [g 8 (fun e => h8 e.symm)]; exact h.row
  · rw [g 8 (fun e => h8 e.symm), g 7 (fun e => h7 e.symm)]; exact h.oA
  · rw [g 10 (by omega), g 8 (fun e => h8 e.symm)]; exact h.oB
  · rw [g 8 (fun e => h8 e.symm)]
    intro x
    by_cases i1 : i = 1
    · subst i1; rw [Array.getElem?_setIfInBounds_self_of_lt (by omega)]
    · rw [g 1 (fun e => i1 e.symm)]; exact h.oC x
theorem InvB.made {w5 : World} {dB : Nat} {d : D} {ds : List D} {old : Value} {c : Nat → Value} {WQ : Value → Array Value} {T0 : Array Value} {l : Array Bool} {a : Act} {w : World} (h : InvB w5 dB d ds old c WQ T0 l a w) (hu : l[7]? = some false) : InvB w5 dB d ds old c WQ T0 (l.setIfInBounds 7 true) { tmps := a.tmps.setIfInBounds 59 (.slice (some ⟨w.heap.size, 0, none⟩) 1 1), defers := a.defers } (w.alloc (.cells #[.int .i64 d.k, .int .i64 d.t, .int .i64 d.s] 116)) := by
  have hls := h.ls
  have hts := h.ts
  have so := h.on.size
  have b : Below w.heap.size w (w.alloc (.cells #[.int .i64 d.k, .int .i64 d.t, .int .i64 d.s] 116)) := (Below.refl _ _).alloc (Nat.le_refl _) _
  have g : ∀ k, k ≠ 7 → (l.setIfInBounds 7 true)[k]? = l[k]? := fun k hk => Array.getElem?_setIfInBounds_ne (fun e => hk e.symm)
  have n8 : l[8]? ≠ some true := fun e => by have := h.oA e; rw [hu] at this; cases this
  refine ⟨by simpa using hls, by simpa using hts, h.df, fun j hj => ?_, fun j hj j7 j8 hl => ?_, fun _ _ => ⟨w.heap.size, ?_, Blk.new _ _ _⟩, ?_, ?_, ?_, h.on.trans ((only_alloc w _).wide fun j hj => .inl (by omega)), ?_, ?_, ?_⟩
  · rw [Array.getElem?_setIfInBounds_ne (by omega)]; exact h.fr j hj
  · rw [g j j7] at hl
    rw [Array.getElem?_setIfInBounds_ne (by omega)]
    exact h.kv j hj j7 j8 hl
  · rw [Array.getElem?_setIfInBounds_self_of_lt (by omega)]
  · rw [g 8 (by omega)]; intro x; exact absurd x n8
  · rw [g 10 (by omega)]; intro x; exact (h.d14 x).below b (h.d14 x).lt
  · rw [g 8 (by omega)]; intro x; exact row_below (h.row x) b (Nat.le_refl _)
  · rw [g 8 (by omega)]; intro x; exact absurd x n8
  · rw [g 10 (by omega), g 8 (by omega)]; exact h.oB
  · rw [g 8 (by omega)]; intro x; exact absurd x n8
theorem InvB.grows {w5 : World} {dB : Nat} {d : D} {ds : List D} {old : Value} {c : Nat → Value} {WQ : Value → Array Value} {T0 : Array Value} {l : Array Bool} {a : Act} {w w' : World} {oq : Option Addr} {oqc : Nat} (h : InvB w5 dB d ds old c WQ T0 l a w) (hu : l[8]? = some false) (h7 : l[7]? = some true) (h1 : l[1]? = some true) (hd : dB < w5.heap.size) (hr : RowD w' w5.heap.size (.slice oq (ds ++ [d]).length oqc) (ds ++ [d])) (hg : w.grownBy w' old.ownBlock) : InvB w5 dB d ds old c WQ T0 (l.setIfInBounds 8 true) { tmps := a.tmps.setIfInBounds 60 (.slice oq (ds ++ [d]).length oqc), defers := a.defers } w' := by
  have hls := h.ls
  have hts := h.ts
  have g : ∀ k, k ≠ 8 → (l.setIfInBounds 8 true)[k]? = l[k]? := fun k hk => Array.getElem?_setIfInBounds_ne (fun e => hk e.symm)
  have n10 : l[10]? ≠ some true := fun e => by have := h.oB e; rw [hu] at this; cases this
  have hro : ∀ j, old.ownBlock = some j → w5.heap.size ≤ j := fun j hj => ((h.row hu).lt j hj).1
  have f10 : l[10]? = some false := by
    rcases bit_or (l := l) (k := 10) (by omega) with e | e
    · exact e
    · exact absurd e n10
  have t8 : (l.setIfInBounds 8 true)[8]? = some true := by rw [Array.getElem?_setIfInBounds_self_of_lt (by omega)]
  refine ⟨by simpa using hls, by simpa using hts, h.df, fun j hj => ?_, fun j hj j7 j8 hl => ?_, ?_, fun _ => ⟨oq, oqc, ?_, hr, ?_⟩, fun _ => (h.d14 f10).grown hg (fun e => by have := hro dB e.symm; omega), ?_, h.on.trans ((only_grown hg).wide fun j hj => .inl (hro j hj)), ?_, ?_, ?_⟩
  · rw [Array.getElem?_setIfInBounds_ne (by omega)]; exact h.fr j hj
  · rw [g j j8] at hl
    rw [Array.getElem?_setIfInBounds_ne (by omega)]
    exact h.kv j hj j7 j8 hl
  · rw [t8]; intro _ x; cases x
  · rw [Array.getElem?_setIfInBounds_self_of_lt (by omega)]
  · rw [g 10 (by omega)]; intro x; exact absurd x n10
  · rw [t8]; intro x; cases x
  · rw [g 7 (by omega)]; intro _; exact h7
  · rw [g 10 (by omega)]; intro x; exact absurd x n10
  · rw [g 1 (by omega)]; intro _; exact h1
theorem InvB.stored {w5 : World} {dB : Nat} {d : D} {ds : List D} {old : Value} {c : Nat → Value} {WQ : Value → Array Value} {T0 : Array Value} {l : Array Bool} {a : Act} {w : World} {oq : Option Addr} {oqc : Nat} (h : InvB w5 dB d ds old c WQ T0 l a w) (hu : l[10]? = some false) (h8 : l[8]? = some true) (ht : a.tmps[60]? = some (.slice oq (ds ++ [d]).length oqc)) (hd : dB < w5.heap.size) (hW : ∀ v W, Blk W dB (WQ old) 41 → Blk (W.setCell ⟨dB, 14, none⟩ v) dB (WQ v) 41) : InvB w5 dB d ds old c WQ T0 (l.setIfInBounds 10 true) a (w.setCell ⟨dB, 14, none⟩ (.slice oq (ds ++ [d]).length oqc)) := by
  have hls := h.ls
  have g : ∀ k, k ≠ 10 → (l.setIfInBounds 10 true)[k]? = l[k]? := fun k hk => Array.getElem?_setIfInBounds_ne (fun e => hk e.symm)
  have t10 : (l.setIfInBounds 10 true)[10]? = some true := by rw [Array.getElem?_setIfInBounds_self_of_lt (by omega)]
  obtain ⟨p, pc, e1, hr, _⟩ := h.k8 h8
  rw [ht] at e1
  injection e1 with e1
  injection e1 with e2 _ e4
  subst e2 e4
  refine ⟨by simpa using hls, h.ts, h.df, h.fr, fun j hj j7 j8 hl => ?_, ?_, fun _ => ⟨oq, oqc, ht, row_set hr (fun j hj => by have := (hr.lt j hj).1; omega) _, fun _ => hW _ _ (h.d14 hu)⟩, ?_, ?_, h.on.set (A := dB) (.inr rfl) _, ?_, ?_, ?_⟩
  · rw [g j (by omega)] at hl
    exact h.kv j hj j7 j8 hl
  · rw [g 8 (by omega)]; intro _ x; rw [h8] at x; cases x
  · rw [t10]; intro x; cases x
  · rw [g 8 (by omega)]; intro x; rw [h8] at x; cases x
  · rw [g 8 (by omega), g 7 (by omega)]; exact h.oA
  · rw [g 8 (by omega)]; intro _; exact h8
  · rw [g 8 (by omega), g 1 (by omega)]; exact h.oC
end Go.Proofs.YtpjidogilofppaaGreat
