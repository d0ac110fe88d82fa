/- 5 texts in one: WsNum, WsEq, WsMark, WsHeld, WsApp. -/
import Derived.Test.YtpjidogilofppaaGreatZY
import Derived.Deep.DeepCutAuto
/- Lists of words in memory. -/
namespace Go.Proofs.YtpjidogilofppaaGreat
open Go.ChangeShapes Go.WideShapes Go.ChangeAt Go.RowKit

/-- A word lies at a place: its numbers, and its lists. -/
structure WAt (w : World) (b p : Nat) (x : Wd) (a : Wa) : Prop where
  c0 : w.cell? ⟨b, p, none⟩ = some (.int .i64 x.kind)
  c1 : w.cell? ⟨b, p + 1, none⟩ = some (.int .i64 x.fr)
  c2 : w.cell? ⟨b, p + 2, none⟩ = some (.int .i64 x.to)
  c3 : w.cell? ⟨b, p + 3, none⟩ = some (.int .i64 x.call)
  c4 : w.cell? ⟨b, p + 4, none⟩ = some (.int .i64 x.key)
  c5 : w.cell? ⟨b, p + 5, none⟩ = some (.int .i64 x.t)
  c6 : w.cell? ⟨b, p + 6, none⟩ = some (.int .i64 x.s)
  c7 : w.cell? ⟨b, p + 7, none⟩ = some (.int .i64 x.val)
  c8 : w.cell? ⟨b, p + 8, none⟩ = some (.bool x.yes)
  c9 : w.cell? ⟨b, p + 9, none⟩ = some (.slice a.da x.ds.length a.dc)
  c10 : w.cell? ⟨b, p + 10, none⟩ = some (.int .i64 x.slot)
  c11 : w.cell? ⟨b, p + 11, none⟩ = some (.int .i64 x.ep)
  c12 : w.cell? ⟨b, p + 12, none⟩ = some (.slice a.va x.vs.length a.vc)
  c13 : w.cell? ⟨b, p + 13, none⟩ = some (.slice a.wa x.ws.length a.wc)
  c14 : w.cell? ⟨b, p + 14, none⟩ = some (.slice a.oa x.os.length a.oc)
  l : InL w x a
theorem WAt.below {w w' : World} {b p : Nat} {x : Wd} {a : Wa} (h : WAt w b p x a) (k : Below w.heap.size w w') : WAt w' b p x a := by
  have hb : b < w.heap.size := World.block_lt_of_cell? _ _ h.c0
  exact ⟨(k.cell (p := ⟨b, _, none⟩) hb).trans h.c0, (k.cell (p := ⟨b, _, none⟩) hb).trans h.c1, (k.cell (p := ⟨b, _, none⟩) hb).trans h.c2, (k.cell (p := ⟨b, _, none⟩) hb).trans h.c3, (k.cell (p := ⟨b, _, none⟩) hb).trans h.c4, (k.cell (p := ⟨b, _, none⟩) hb).trans h.c5, (k.cell (p := ⟨b, _, none⟩) hb).trans h.c6, (k.cell (p := ⟨b, _, none⟩) hb).trans h.c7, (k.cell (p := ⟨b, _, none⟩) hb).trans h.c8, (k.cell (p := ⟨b, _, none⟩) hb).trans h.c9, (k.cell (p := ⟨b, _, none⟩) hb).trans h.c10, (k.cell (p := ⟨b, _, none⟩) hb).trans h.c11, (k.cell (p := ⟨b, _, none⟩) hb).trans h.c12, (k.cell (p := ⟨b, _, none⟩) hb).trans h.c13, (k.cell (p := ⟨b, _, none⟩) hb).trans h.c14, h.l.below k⟩
/-- A list of words that lies in memory. -/
def Wds (w : World) (a : Option Addr) (xs : List Wd) : Prop :=
  xs = [] ∨ ∃ b o, a = some ⟨b, o, none⟩ ∧ b < w.heap.size ∧ ∀ i, (h : i < xs.length) → ∃ c, WAt w b (o + i * 15) xs[i] c
theorem Wds.nil (w : World) (a : Option Addr) : Wds w a [] := .inl rfl
theorem Wds.below {w w' : World} {a : Option Addr} {xs : List Wd} (h : Wds w a xs) (k : Below w.heap.size w w') : Wds w' a xs := by
  rcases h with h | ⟨b, o, ha, hb, h⟩
  · exact .inl h
  · refine .inr ⟨b, o, ha, Nat.lt_of_lt_of_le hb k.size, fun i hi => ?_⟩
    obtain ⟨c, h⟩ := h i hi
    exact ⟨c, h.below k⟩
theorem Wds.at {w : World} {a : Option Addr} {xs : List Wd} (h : Wds w a xs) {k : Nat} (hk : k < xs.length) : ∃ b o c, a = some ⟨b, o, none⟩ ∧ b < w.heap.size ∧ WAt w b (o + k * 15) xs[k] c := by
  rcases h with h | ⟨b, o, ha, hb, h⟩
  · rw [h] at hk; simp at hk
  · obtain ⟨c, h⟩ := h k hk
    exact ⟨b, o, c, ha, hb, h⟩

/-- A word with its places and its rows. -/
structure XW where
  x : Wd
  a : Wa
  ys : List XV
  zs : List XV
abbrev OwnX (w : World) (base : Nat) (X : XW) : Prop := OwnW w base X.x X.a X.ys X.zs
abbrev inX (X : XW) (b : Nat) : Prop := inWd X.x X.a X.ys X.zs b
/-- Words as cells, one behind the other. -/
def flat15 (xs : List XW) : List Value := xs.flatMap fun X => [.int .i64 X.x.kind, .int .i64 X.x.fr, .int .i64 X.x.to, .int .i64 X.x.call, .int .i64 X.x.key, .int .i64 X.x.t, .int .i64 X.x.s, .int .i64 X.x.val, .bool X.x.yes, .slice X.a.da X.x.ds.length X.a.dc, .int .i64 X.x.slot, .int .i64 X.x.ep, .slice X.a.va X.x.vs.length X.a.vc, .slice X.a.wa X.x.ws.length X.a.wc, .slice X.a.oa X.x.os.length X.a.oc]
theorem flat15_nil : flat15 [] = [] := rfl
theorem flat15_cons (x : XW) (xs : List XW) : flat15 (x :: xs) = .int .i64 x.x.kind :: .int .i64 x.x.fr :: .int .i64 x.x.to :: .int .i64 x.x.call :: .int .i64 x.x.key :: .int .i64 x.x.t :: .int .i64 x.x.s :: .int .i64 x.x.val :: .bool x.x.yes :: .slice x.a.da x.x.ds.length x.a.dc :: .int .i64 x.x.slot :: .int .i64 x.x.ep :: .slice x.a.va x.x.vs.length x.a.vc :: .slice x.a.wa x.x.ws.length x.a.wc :: .slice x.a.oa x.x.os.length x.a.oc :: flat15 xs := rfl
theorem flat15_append (xs ys : List XW) : flat15 (xs ++ ys) = flat15 xs ++ flat15 ys := by simp [flat15]
theorem flat15_snoc (xs : List XW) (x : XW) : flat15 (xs ++ [x]) = flat15 xs ++ [.int .i64 x.x.kind, .int .i64 x.x.fr, .int .i64 x.x.to, .int .i64 x.x.call, .int .i64 x.x.key, .int .i64 x.x.t, .int .i64 x.x.s, .int .i64 x.x.val, .bool x.x.yes, .slice x.a.da x.x.ds.length x.a.dc, .int .i64 x.x.slot, .int .i64 x.x.ep, .slice x.a.va x.x.vs.length x.a.vc, .slice x.a.wa x.x.ws.length x.a.wc, .slice x.a.oa x.x.os.length x.a.oc] := by rw [flat15_append]; rfl
theorem flat15_len (xs : List XW) : (flat15 xs).length = xs.length * 15 := by
  induction xs with
  | nil => rfl
  | cons x xs ih => rw [flat15_cons]; simp only [List.length_cons, ih]; omega
theorem flat15_at (xs : List XW) : ∀ k, (hk : k < xs.length) → (flat15 xs)[k * 15]? = some (.int .i64 xs[k].x.kind) ∧ (flat15 xs)[k * 15 + 1]? = some (.int .i64 xs[k].x.fr) ∧ (flat15 xs)[k * 15 + 2]? = some (.int .i64 xs[k].x.to) ∧ (flat15 xs)[k * 15 + 3]? = some (.int .i64 xs[k].x.call) ∧ (flat15 xs)[k * 15 + 4]? = some (.int .i64 xs[k].x.key) ∧ (flat15 xs)[k * 15 + 5]? = some (.int .i64 xs[k].x.t) ∧ (flat15 xs)[k * 15 + 6]? = some (.int .i64 xs[k].x.s) ∧ (flat15 xs)[k * 15 + 7]? = some (.int .i64 xs[k].x.val) ∧ (flat15 xs)[k * 15 + 8]? = some (.bool xs[k].x.yes) ∧ (flat15 xs)[k * 15 + 9]? = some (.slice xs[k].a.da xs[k].x.ds.length xs[k].a.dc) ∧ (flat15 xs)[k * 15 + 10]? = some (.int .i64 xs[k].x.slot) ∧ (flat15 xs)[k * 15 + 11]? = some (.int .i64 xs[k].x.ep) ∧ (flat15 xs)[k * 15 + 12]? = some (.slice xs[k].a.va xs[k].x.vs.length xs[k].a.vc) ∧ (flat15 xs)[k * 15 + 13]? = some (.slice xs[k].a.wa xs[k].x.ws.length xs[k].a.wc) ∧ (flat15 xs)[k * 15 + 14]? = some (.slice xs[k].a.oa xs[k].x.os.length xs[k].a.oc) := by
  induction xs with
  | nil => intro k hk; cases hk
  | cons x xs ih =>
    intro k hk
    rw [flat15_cons]
    cases k with
    | zero => simp
    | succ k =>
      have := ih k (by simpa using hk)
      rw [show (k + 1) * 15 = k * 15 + 1 + 1 + 1 + 1 + 1 + 1 + 1 + 1 + 1 + 1 + 1 + 1 + 1 + 1 + 1 by omega]
      simpa using this
theorem flat15_one (xs : List XW) : ∀ u ∈ flat15 xs, u.oneCell' = true := by
  intro u hu
  simp only [flat15, List.mem_flatMap] at hu
  obtain ⟨x, hx, hu⟩ := hu
  simp only [List.mem_cons, List.not_mem_nil, or_false] at hu
  rcases hu with rfl | rfl | rfl | rfl | rfl | rfl | rfl | rfl | rfl | rfl | rfl | rfl | rfl | rfl | rfl <;> rfl
theorem flat15_setA (zs : List XW) (u0 u1 u2 u3 u4 u5 u6 u7 : Int) (u8 : Bool) : ∀ j, (h : j < zs.length) → (((((((((flat15 zs).set (j * 15) (.int .i64 u0)).set (j * 15 + 1) (.int .i64 u1)).set (j * 15 + 2) (.int .i64 u2)).set (j * 15 + 3) (.int .i64 u3)).set (j * 15 + 4) (.int .i64 u4)).set (j * 15 + 5) (.int .i64 u5)).set (j * 15 + 6) (.int .i64 u6)).set (j * 15 + 7) (.int .i64 u7)).set (j * 15 + 8) (.bool u8) = flat15 (zs.set j ⟨⟨u0, u1, u2, u3, u4, u5, u6, u7, u8, zs[j].x.ds, zs[j].x.slot, zs[j].x.ep, zs[j].x.vs, zs[j].x.ws, zs[j].x.os⟩, zs[j].a, zs[j].ys, zs[j].zs⟩) := by
  induction zs with
  | nil => intro j h; cases h
  | cons x xs ih =>
    intro j h
    cases j with
    | zero => simp [flat15_cons]
    | succ j =>
      have := ih j (by simpa using h)
      rw [show (j + 1) * 15 = j * 15 + 1 + 1 + 1 + 1 + 1 + 1 + 1 + 1 + 1 + 1 + 1 + 1 + 1 + 1 + 1 by omega]
      simp only [List.set_cons_succ, List.getElem_cons_succ, flat15_cons]
      rw [← this]
theorem flat15_setB (zs : List XW) (u9 u10 : Int) : ∀ j, (h : j < zs.length) → ((flat15 zs).set (j * 15 + 10) (.int .i64 u9)).set (j * 15 + 11) (.int .i64 u10) = flat15 (zs.set j ⟨⟨zs[j].x.kind, zs[j].x.fr, zs[j].x.to, zs[j].x.call, zs[j].x.key, zs[j].x.t, zs[j].x.s, zs[j].x.val, zs[j].x.yes, zs[j].x.ds, u9, u10, zs[j].x.vs, zs[j].x.ws, zs[j].x.os⟩, zs[j].a, zs[j].ys, zs[j].zs⟩) := by
  induction zs with
  | nil => intro j h; cases h
  | cons x xs ih =>
    intro j h
    cases j with
    | zero => simp [flat15_cons]
    | succ j =>
      have := ih j (by simpa using h)
      rw [show (j + 1) * 15 = j * 15 + 1 + 1 + 1 + 1 + 1 + 1 + 1 + 1 + 1 + 1 + 1 + 1 + 1 + 1 + 1 by omega]
      simp only [List.set_cons_succ, List.getElem_cons_succ, flat15_cons]
      rw [← this]
/-- Only the lists' lengths and places are in the cells. -/
theorem flat15_like {zs : List XW} {j : Nat} {X Y : XW} (h : ∀ u, flat15 [X] = u → flat15 [Y] = u) : flat15 (zs.set j X) = flat15 (zs.set j Y) := by
  induction zs generalizing j with
  | nil => rfl
  | cons x xs ih =>
    cases j with
    | zero =>
      rw [List.set_cons_zero, List.set_cons_zero, ← List.singleton_append, flat15_append, ← List.singleton_append (x := Y), flat15_append, h _ rfl]
    | succ j => rw [List.set_cons_succ, List.set_cons_succ, flat15_cons, flat15_cons, ih]
/-- Words of the call's own: their row, and the rows of each, all apart. -/
structure OwnWs (w : World) (base : Nat) (v : Value) (xs : List XW) : Prop where
  row : w.ownsRow base 41 15 v xs.length (flat15 xs)
  each : ∀ X ∈ xs, OwnX w base X
  apart : xs.Pairwise fun X Y => ∀ b, inX X b → ¬ inX Y b
theorem OwnWs.nil (w : World) (base : Nat) : OwnWs w base (.slice none 0 0) [] := ⟨World.ownsRow_nil _ _ _ _, fun _ h => (by cases h), .nil⟩
theorem OwnWs.below {w w' : World} {base : Nat} {v : Value} {xs : List XW} (h : OwnWs w base v xs) {m : Nat} (k : Below m w w') (hm : w.heap.size ≤ m) : OwnWs w' base v xs :=
  ⟨row_below h.row k hm, fun X hX => (h.each X hX).below k hm, h.apart⟩
theorem OwnWs.mono {w : World} {base base' : Nat} {v : Value} {xs : List XW} (h : OwnWs w base v xs) (hb : base' ≤ base) : OwnWs w base' v xs :=
  ⟨row_mono h.row hb, fun X hX => (h.each X hX).mono hb, h.apart⟩
/-- The blocks that words of the call's own lie in. -/
def inWs (v : Value) (xs : List XW) (b : Nat) : Prop := v.ownBlock = some b ∨ ∃ X ∈ xs, inX X b
theorem OwnWs.lt {w : World} {base : Nat} {v : Value} {xs : List XW} (h : OwnWs w base v xs) {j : Nat} (hj : inWs v xs j) : base ≤ j ∧ j < w.heap.size := by
  rcases hj with hj | ⟨X, hX, hj⟩
  · exact h.row.lt j hj
  · exact (h.each X hX).lt hj
theorem Only.ownWs {w w' : World} {S : Nat → Prop} (o : Only w w' S) {base : Nat} {v : Value} {xs : List XW} (h : OwnWs w base v xs) (hS : ∀ j, inWs v xs j → ¬ S j) : OwnWs w' base v xs :=
  ⟨o.row h.row (fun j hj => hS j (.inl hj)), fun X hX => o.ownW (h.each X hX) (fun j hj => hS j (.inr ⟨X, hX, hj⟩)), h.apart⟩
/-- A row of words lies in no block of a word. -/
theorem word_other {w : World} {b1 b2 n : Nat} {v : Value} {cs : List Value} {X : XW} (h : w.ownsRow b1 41 15 v n cs) (k : OwnX w b2 X) (b : Nat) (hv : v.ownBlock = some b) : ¬ inX X b := by
  rintro (hx | hx | hx | hx)
  · exact row_type h k.d (by decide) b hv hx
  · rcases hx with hx | ⟨y, hy, hx⟩
    · exact row_type h k.v.row (by decide) b hv hx
    · exact row_type h (k.v.deps y hy).1 (by decide) b hv hx
  · rcases hx with hx | ⟨y, hy, hx⟩
    · exact row_type h k.w.row (by decide) b hv hx
    · exact row_type h (k.w.deps y hy).1 (by decide) b hv hx
  · exact row_type h k.o (by decide) b hv hx
theorem OwnWs.wds {w : World} {base n cap : Nat} {a : Option Addr} {xs : List XW} (h : OwnWs w base (.slice a n cap) xs) : Wds w a (xs.map XW.x) := by
  rcases h.row.2 with ⟨e, hz⟩ | ⟨g, c, cur, e, hb, hg, hr⟩
  · have : xs = [] := List.length_eq_zero_iff.1 hz
    subst this; exact .inl rfl
  · cases e
    refine .inr ⟨g, 0, rfl, (Array.getElem?_eq_some_iff.1 hg).1, fun i hi => ?_⟩
    have hi' : i < xs.length := by simpa using hi
    have hl := flat15_len xs
    have hr := h.row
    obtain ⟨a0, a1, a2, a3, a4, a5, a6, a7, a8, a9, a10, a11, a12, a13, a14⟩ := flat15_at xs i hi'
    refine ⟨xs[i].a, ?_, ?_, ?_, ?_, ?_, ?_, ?_, ?_, ?_, ?_, ?_, ?_, ?_, ?_, ?_, ?_⟩
    · rw [Nat.zero_add, hr.cellAt (i * 15) (by omega)]; simpa using a0
    · rw [Nat.zero_add, hr.cellAt (i * 15 + 1) (by omega)]; simpa using a1
    · rw [Nat.zero_add, hr.cellAt (i * 15 + 2) (by omega)]; simpa using a2
    · rw [Nat.zero_add, hr.cellAt (i * 15 + 3) (by omega)]; simpa using a3
    · rw [Nat.zero_add, hr.cellAt (i * 15 + 4) (by omega)]; simpa using a4
    · rw [Nat.zero_add, hr.cellAt (i * 15 + 5) (by omega)]; simpa using a5
    · rw [Nat.zero_add, hr.cellAt (i * 15 + 6) (by omega)]; simpa using a6
    · rw [Nat.zero_add, hr.cellAt (i * 15 + 7) (by omega)]; simpa using a7
    · rw [Nat.zero_add, hr.cellAt (i * 15 + 8) (by omega)]; simpa using a8
    · rw [Nat.zero_add, hr.cellAt (i * 15 + 9) (by omega)]; simpa using a9
    · rw [Nat.zero_add, hr.cellAt (i * 15 + 10) (by omega)]; simpa using a10
    · rw [Nat.zero_add, hr.cellAt (i * 15 + 11) (by omega)]; simpa using a11
    · rw [Nat.zero_add, hr.cellAt (i * 15 + 12) (by omega)]; simpa using a12
    · rw [Nat.zero_add, hr.cellAt (i * 15 + 13) (by omega)]; simpa using a13
    · rw [Nat.zero_add, hr.cellAt (i * 15 + 14) (by omega)]; simpa using a14
    · simpa using (h.each xs[i] (List.getElem_mem hi')).inL
theorem OwnWs.slice {w : World} {base : Nat} {v : Value} {xs : List XW} (h : OwnWs w base v xs) : ∃ a cap, v = .slice a xs.length cap ∧ Wds w a (xs.map XW.x) := by
  obtain ⟨a, cap, rfl, _⟩ := row_slice h.row
  exact ⟨a, cap, rfl, h.wds⟩
/-- One of them is written anew. -/
theorem OwnWs.write {w w' : World} {base : Nat} {v : Value} {zs : List XW} (h : OwnWs w base v zs) {j : Nat} (hj : j < zs.length) (Y : XW) (o : Only w w' (fun b => v.ownBlock = some b ∨ inX zs[j] b))
    (r : w'.ownsRow base 41 15 v zs.length (flat15 (zs.set j Y))) (hY : OwnX w' base Y) (sub : ∀ b, inX Y b → inX zs[j] b) : OwnWs w' base v (zs.set j Y) := by
  have hp := List.pairwise_iff_getElem.1 h.apart
  refine ⟨by rw [List.length_set]; exact r, fun X hX => ?_, List.pairwise_iff_getElem.2 fun i k hi hk hik => ?_⟩
  · obtain ⟨i, hi, rfl⟩ := List.mem_iff_getElem.1 hX
    rw [List.length_set] at hi
    rw [List.getElem_set]
    split
    · exact hY
    · rename_i hij
      refine o.ownW (h.each zs[i] (List.getElem_mem hi)) fun b hb hs => ?_
      rcases hs with hs | hs
      · exact word_other h.row (h.each zs[i] (List.getElem_mem hi)) b hs hb
      · rcases Nat.lt_or_gt_of_ne hij with q | q
        · exact hp j i hj hi q b hs hb
        · exact hp i j hi hj q b hb hs
  · rw [List.length_set] at hi hk
    rw [List.getElem_set, List.getElem_set]
    intro b hb hb'
    split at hb <;> split at hb'
    · omega
    · rename_i e _; subst e; exact hp j k hj hk hik b (sub b hb) hb'
    · rename_i e; subst e; exact hp i j hi hj hik b hb (sub b hb')
    · exact hp i k hi hk hik b hb hb'
end Go.Proofs.YtpjidogilofppaaGreat

/- Lists of words are held against each other. -/
namespace Go.Proofs.YtpjidogilofppaaGreat
open Go.ChangeShapes Go.WideShapes Go.ChangeAt Go.RowKit Go.Deep

/-- A word's lists are not too long. -/
structure FitWd (x : Wd) : Prop where
  d : x.ds.length ≤ 1048576
  v : x.vs.length ≤ 1048576
  w : x.ws.length ≤ 1048576
  o : x.os.length ≤ 1048576
  dv : ∀ v ∈ x.vs, v.ds.length ≤ 1048576
  dw : ∀ v ∈ x.ws, v.ds.length ≤ 1048576
theorem WAt.rules {w : World} {b p : Nat} {x : Wd} {a : Wa} (h : WAt w b p x a) : (∀ n : Wof (Since w), n.W.cell? ⟨b, p, none⟩ = some (.int .i64 x.kind)) ∧ (∀ n : Wof (Since w), n.W.cell? ⟨b, p + 1, none⟩ = some (.int .i64 x.fr)) ∧ (∀ n : Wof (Since w), n.W.cell? ⟨b, p + 2, none⟩ = some (.int .i64 x.to)) ∧ (∀ n : Wof (Since w), n.W.cell? ⟨b, p + 3, none⟩ = some (.int .i64 x.call)) ∧ (∀ n : Wof (Since w), n.W.cell? ⟨b, p + 4, none⟩ = some (.int .i64 x.key)) ∧ (∀ n : Wof (Since w), n.W.cell? ⟨b, p + 5, none⟩ = some (.int .i64 x.t)) ∧ (∀ n : Wof (Since w), n.W.cell? ⟨b, p + 6, none⟩ = some (.int .i64 x.s)) ∧ (∀ n : Wof (Since w), n.W.cell? ⟨b, p + 7, none⟩ = some (.int .i64 x.val)) ∧ (∀ n : Wof (Since w), n.W.cell? ⟨b, p + 8, none⟩ = some (.bool x.yes)) ∧ (∀ n : Wof (Since w), n.W.cell? ⟨b, p + 9, none⟩ = some (.slice a.da x.ds.length a.dc)) ∧ (∀ n : Wof (Since w), n.W.cell? ⟨b, p + 10, none⟩ = some (.int .i64 x.slot)) ∧ (∀ n : Wof (Since w), n.W.cell? ⟨b, p + 11, none⟩ = some (.int .i64 x.ep)) ∧ (∀ n : Wof (Since w), n.W.cell? ⟨b, p + 12, none⟩ = some (.slice a.va x.vs.length a.vc)) ∧ (∀ n : Wof (Since w), n.W.cell? ⟨b, p + 13, none⟩ = some (.slice a.wa x.ws.length a.wc)) ∧ (∀ n : Wof (Since w), n.W.cell? ⟨b, p + 14, none⟩ = some (.slice a.oa x.os.length a.oc)) :=
  ⟨since_cell h.c0, since_cell h.c1, since_cell h.c2, since_cell h.c3, since_cell h.c4, since_cell h.c5, since_cell h.c6, since_cell h.c7, since_cell h.c8, since_cell h.c9, since_cell h.c10, since_cell h.c11, since_cell h.c12, since_cell h.c13, since_cell h.c14⟩

set_option maxHeartbeats 4000000 in
set_option maxRecDepth 20000 in
theorem eqWords_any (a c : Option Addr) (xs : List Wd) (cap cap' : Nat) (w : World) (hn : xs.length ≤ 1048576) (hl : ∀ x ∈ xs, FitWd x) (h : Wds w a xs) (h' : Wds w c xs) :
    Calls Tryz.prog 25 #[.slice a xs.length cap, .slice c xs.length cap'] w fun e w' => e = .returned (.bool true) ∧ Below w.heap.size w w' := by
  go_enter Tryz.func25, Tryz.ntmps25
  go_wp2
  go_loopw [5] (fun i wr => ∃ k : Nat, k ≤ xs.length ∧ i = .int .i64 k ∧ Below w.heap.size w wr) (fun i _ => xs.length - (intOf i).toNat)
  case atStart => exact ⟨0, Nat.zero_le _, rfl, Below.refl _ _⟩
  case round =>
    obtain ⟨k, hk, rfl, hB⟩ := hrel
    by_cases hlt : k < xs.length
    · obtain ⟨b, o, d, rfl, hbb, hv⟩ := (h.below hB).at hlt
      obtain ⟨b', o', d', rfl, hbb', hv'⟩ := (h'.below hB).at hlt
      obtain ⟨r0, r1, r2, r3, r4, r5, r6, r7, r8, r9, r10, r11, r12, r13, r14⟩ := hv.rules
      obtain ⟨q0, q1, q2, q3, q4, q5, q6, q7, q8, q9, q10, q11, q12, q13, q14⟩ := hv'.rules
      have hd := hv.l
      have hd' := hv'.l
      have hvl := hl xs[k] (List.getElem_mem hlt)
      have ne := since_ne wr
      clear hv hv' h h' hl
      generalize xs[k] = x at *
      have hQ : Hid (∀ W, Below wr.heap.size wr W → Calls Tryz.prog 18 #[wordV x d, wordV x d'] W fun e w' => e = .returned (.bool true) ∧ Below W.heap.size W w') := by
        show ∀ W, _; intro W hW; exact eqWord_any x d d' W (hd.below hW) (hd'.below hW) hvl.d hvl.v hvl.w hvl.o hvl.dv hvl.dw
      clear hd hd' hvl
      go_wp2_with fail
      refine wp_region_class (S := Since wr) (by kernel_rfl) (by kernel_rfl) (Below.refl _ _).drew ?_
      repeat (go_big_quiet_step ((rename_i n; first | (go_at_call 18; exact Calls.inClass (hQ.out _ n.h) Since.keep))))
      refine wpQuiet_nil ?_
      rintro W ⟨n, hnW⟩
      have R2 := n.h
      rw [← hnW] at R2
      have hB2 : Below w.heap.size w W := hB.trans (R2.mono hB.size)
      clear R2 r0 r1 r2 r3 r4 r5 r6 r7 r8 r9 r10 r11 r12 r13 r14 q0 q1 q2 q3 q4 q5 q6 q7 q8 q9 q10 q11 q12 q13 q14 ne hnW n hB hQ
      go_wp2
      go_roundw
      case rel => exact ⟨k + 1, by omega, by go_num, hB2⟩
      case measure => simp [intOf]; omega
    · go_wp2
      go_ret
      exact ⟨rfl, hB⟩
end Go.Proofs.YtpjidogilofppaaGreat

/- The exact laws' marks of lists of words. -/
namespace Go.Proofs.YtpjidogilofppaaGreat
open Go.ChangeShapes Go.WideShapes Go.ChangeAt Go.RowKit

/-- The mark of a Boolean. -/
def markB (k : Int) : Bool := k % 3 == 0
/-- The number behind a word's marks, its numbers' own among them. -/
def endWf (k : Int) (x : Wd) : Int := endV (endV (k + 9 + 3 * x.ds.length + 2) x.vs) x.ws + 3 * x.os.length
def markWf (k : Int) (x : Wd) : Wd := ⟨k, k + 1, k + 2, k + 3, k + 4, k + 5, k + 6, k + 7, markB (k + 8), markL (k + 9) x.ds.length, k + 9 + 3 * x.ds.length, k + 9 + 3 * x.ds.length + 1, markVs (k + 9 + 3 * x.ds.length + 2) x.vs, markVs (endV (k + 9 + 3 * x.ds.length + 2) x.vs) x.ws, markL (endV (endV (k + 9 + 3 * x.ds.length + 2) x.vs) x.ws) x.os.length⟩
def endWs : Int → List Wd → Int
  | k, [] => k
  | k, x :: xs => endWs (endWf k x) xs
def markWs : Int → List Wd → List Wd
  | _, [] => []
  | k, x :: xs => markWf k x :: markWs (endWf k x) xs
theorem endWf_mono (k : Int) (x : Wd) : k + 11 ≤ endWf k x := by
  have h1 := endV_mono (k + 9 + 3 * x.ds.length + 2) x.vs
  have h2 := endV_mono (endV (k + 9 + 3 * x.ds.length + 2) x.vs) x.ws
  unfold endWf; omega
theorem endWs_mono (xs : List Wd) : ∀ k, k ≤ endWs k xs := by
  induction xs with
  | nil => intro k; exact Int.le_refl _
  | cons x xs ih => intro k; have h1 := endWf_mono k x; have h2 := ih (endWf k x); simp only [endWs]; omega
theorem endWs_append (xs ys : List Wd) : ∀ k, endWs k (xs ++ ys) = endWs (endWs k xs) ys := by
  induction xs with
  | nil => intro k; rfl
  | cons x xs ih => intro k; simp only [List.cons_append, endWs, ih]
theorem markWs_append (xs ys : List Wd) : ∀ k, markWs k (xs ++ ys) = markWs k xs ++ markWs (endWs k xs) ys := by
  induction xs with
  | nil => intro k; rfl
  | cons x xs ih => intro k; simp only [List.cons_append, endWs, markWs, ih]
theorem markWs_len (xs : List Wd) : ∀ k, (markWs k xs).length = xs.length := by
  induction xs with
  | nil => intro k; rfl
  | cons x xs ih => intro k; simp only [markWs, List.length_cons, ih]
theorem endWs_take {xs : List Wd} {j : Nat} (h : j < xs.length) (k : Int) : endWs k (xs.take (j + 1)) = endWf (endWs k (xs.take j)) xs[j] := by
  rw [List.take_succ_eq_append_getElem h, endWs_append]; rfl
theorem markWs_take {xs : List Wd} {j : Nat} (h : j < xs.length) (k : Int) : markWs k (xs.take (j + 1)) = markWs k (xs.take j) ++ [markWf (endWs k (xs.take j)) xs[j]] := by
  rw [List.take_succ_eq_append_getElem h, markWs_append]; rfl
theorem endWs_le (xs : List Wd) (k : Int) (j : Nat) : endWs k (xs.take j) ≤ endWs k xs := by
  have := endWs_mono (xs.drop j) (endWs k (xs.take j))
  rw [← endWs_append, List.take_append_drop] at this
  exact this
theorem markWs_at {xs : List Wd} {j : Nat} (h : j < xs.length) (k : Int) : ∃ h' : j < (markWs k xs).length, (markWs k xs)[j] = markWf (endWs k (xs.take j)) xs[j] := by
  refine ⟨by rw [markWs_len]; exact h, ?_⟩
  have e : markWs k xs = markWs k (xs.take j) ++ (markWf (endWs k (xs.take j)) xs[j] :: markWs (endWf (endWs k (xs.take j)) xs[j]) (xs.drop (j + 1))) := by
    have : xs = xs.take j ++ xs[j] :: xs.drop (j + 1) := by rw [← List.drop_eq_getElem_cons h, List.take_append_drop]
    conv => lhs; rw [this]
    rw [markWs_append]; rfl
  have hl : (markWs k (xs.take j)).length = j := by rw [markWs_len, List.length_take]; omega
  simp only [e]
  rw [List.getElem_append_right (by omega)]
  simp [hl]
/-- Only a marked word's lengths are as they were: its rows are its own still. -/
theorem own_markW {w W : World} {base : Nat} {x x' : Wd} {a : Wa} {ys zs ys' zs' : List XV} (h : OwnW w base x a ys zs)
    (l1 : x'.ds.length = x.ds.length) (l2 : x'.vs.length = x.vs.length) (l3 : x'.ws.length = x.ws.length) (l4 : x'.os.length = x.os.length)
    (i1 : RowD W base (.slice a.da x.ds.length a.dc) x'.ds) (i2 : OwnV W base (.slice a.va x.vs.length a.vc) ys') (i3 : OwnV W base (.slice a.wa x.ws.length a.wc) zs') (i4 : RowD W base (.slice a.oa x.os.length a.oc) x'.os)
    (hy : ys'.map XV.v = x'.vs) (hz : zs'.map XV.v = x'.ws) (sy : ∀ b, inV (.slice a.va x.vs.length a.vc) ys' b → inV (.slice a.va x.vs.length a.vc) ys b) (sz : ∀ b, inV (.slice a.wa x.ws.length a.wc) zs' b → inV (.slice a.wa x.ws.length a.wc) zs b) :
    OwnW W base x' a ys' zs' ∧ ∀ b, inWd x' a ys' zs' b → inWd x a ys zs b := by
  refine ⟨⟨?_, ?_, ?_, ?_, hy, hz, ?_, ?_, ?_, ?_, ?_, ?_⟩, ?_⟩
  · rw [l1]; exact i1
  · rw [l2]; exact i2
  · rw [l3]; exact i3
  · rw [l4]; exact i4
  · rw [l1, l2]; exact fun b hb hb' => h.dv b hb (sy b hb')
  · rw [l1, l3]; exact fun b hb hb' => h.dw b hb (sz b hb')
  · rw [l1, l4]; exact h.dn
  · rw [l2, l3]; exact fun b hb hb' => h.vw b (sy b hb) (sz b hb')
  · rw [l2, l4]; exact fun b hb => h.vo b (sy b hb)
  · rw [l3, l4]; exact fun b hb => h.wo b (sz b hb)
  · unfold inWd
    rw [l1, l2, l3, l4]
    intro b hb
    rcases hb with hb | hb | hb | hb
    · exact .inl hb
    · exact .inr (.inl (sy b hb))
    · exact .inr (.inr (.inl (sz b hb)))
    · exact .inr (.inr (.inr hb))

set_option maxHeartbeats 8000000 in
set_option maxRecDepth 20000 in
theorem markWords_some (g cap base : Nat) (Xs : List XW) (k : Int) (w : World) (hn : Xs.length ≤ 1048577) (hd : ∀ X ∈ Xs, FitWd X.x) (hk0 : 0 ≤ k) (hk1 : endWs k (Xs.map XW.x) ≤ 10000000) (h : OwnWs w base (.slice (some ⟨g, 0, none⟩) Xs.length cap) Xs) :
    Calls Tryz.prog 26 #[.slice (some ⟨g, 0, none⟩) Xs.length cap, .int .i64 k] w fun e w' => e = .returned (.int .i64 (endWs k (Xs.map XW.x))) ∧ (∃ zs, OwnWs w' base (.slice (some ⟨g, 0, none⟩) Xs.length cap) zs ∧ zs.map XW.x = markWs k (Xs.map XW.x) ∧ ∀ b, inWs (.slice (some ⟨g, 0, none⟩) Xs.length cap) zs b → inWs (.slice (some ⟨g, 0, none⟩) Xs.length cap) Xs b) ∧ Only w w' (inWs (.slice (some ⟨g, 0, none⟩) Xs.length cap) Xs) := by
  obtain ⟨n, hnn⟩ : ∃ n, n = Xs.length := ⟨_, rfl⟩
  rw [← hnn] at h hn ⊢
  obtain ⟨xs, hxs⟩ : ∃ xs, xs = Xs.map XW.x := ⟨_, rfl⟩
  have hxl : xs.length = n := by rw [hxs, List.length_map, hnn]
  rw [← hxs] at hk1 ⊢
  go_enter Tryz.func26, Tryz.ntmps26
  go_wp2
  go_loopw [1, 5] (fun m i wr => ∃ (j : Nat) (zs : List XW), j ≤ n ∧ i = .int .i64 j ∧ m = .int .i64 (endWs k (xs.take j)) ∧ OwnWs wr base (.slice (some ⟨g, 0, none⟩) n cap) zs ∧ zs.map XW.x = markWs k (xs.take j) ++ xs.drop j ∧ zs.drop j = Xs.drop j ∧ (∀ b, inWs (.slice (some ⟨g, 0, none⟩) n cap) zs b → inWs (.slice (some ⟨g, 0, none⟩) n cap) Xs b) ∧ Only w wr (inWs (.slice (some ⟨g, 0, none⟩) n cap) Xs)) (fun _ i _ => n - (intOf i).toNat)
  case atStart => exact ⟨0, Xs, Nat.zero_le _, rfl, by simp [endWs], h, by simp [markWs, hxs], rfl, fun _ hb => hb, Only.refl _ _⟩
  case round =>
    obtain ⟨j, zs, hj, rfl, rfl, ho, hzx, hzd, hin, hO⟩ := hrel
    clear h
    by_cases hlt : j < n
    · have hend := endWs_take (xs := xs) (j := j) (by omega) k
      have hmk := markWs_take (xs := xs) (j := j) (by omega) k
      have hle := endWs_le xs k (j + 1)
      have hm0 : 0 ≤ endWs k (xs.take j) := Int.le_trans hk0 (endWs_mono _ _)
      have hzl : zs.length = n := by have := congrArg List.length hzx; simp only [List.length_map, List.length_append, markWs_len, List.length_take, List.length_drop] at this; omega
      have hjz : j < zs.length := by omega
      have hXj : j < Xs.length := by omega
      have hzj : zs[j] = Xs[j] := by
        have : (zs.drop j)[0]? = (Xs.drop j)[0]? := by rw [hzd]
        simpa [hjz, hXj] using this
      have hxj : xs[j]'(by omega) = Xs[j].x := by simp [hxs]
      have hF := hd Xs[j] (List.getElem_mem hXj)
      have hOX := ho.each zs[j] (List.getElem_mem hjz)
      have hsX : ∀ b, inX zs[j] b → inWs (.slice (some ⟨g, 0, none⟩) n cap) Xs b := fun b hb => hin b (.inr ⟨zs[j], List.getElem_mem hjz, hb⟩)
      have hsg : inWs (.slice (some ⟨g, 0, none⟩) n cap) Xs g := .inl rfl
      have hng : ¬ inX zs[j] g := fun hb => word_other ho.row hOX g rfl hb
      rw [hxj] at hend hmk
      obtain ⟨X, hX⟩ : ∃ X, X = zs[j] := ⟨_, rfl⟩
      rw [← hzj, ← hX] at hend hmk hF
      rw [← hX] at hOX hsX hng
      have HXZ : Hid (X = zs[j]) := hX
      have HNX : Hid (∀ Y : XW, Y.x = markWf (endWs k (xs.take j)) X.x → (zs.set j Y).map XW.x = markWs k (xs.take (j + 1)) ++ xs.drop (j + 1)) := by
        show ∀ Y, _
        intro Y hY
        rw [List.map_set, hzx, hmk, hY, List.set_append_right _ _ (by rw [markWs_len, List.length_take]; omega), markWs_len, List.length_take, Nat.min_eq_left (by omega), Nat.sub_self, List.drop_eq_getElem_cons (by omega : j < xs.length), List.set_cons_zero]
        simp
      have HND : Hid (∀ Y : XW, (zs.set j Y).drop (j + 1) = Xs.drop (j + 1)) := by
        show ∀ Y, _
        intro Y
        have e1 : zs.drop (j + 1) = (zs.drop j).drop 1 := by rw [List.drop_drop]
        have e2 : Xs.drop (j + 1) = (Xs.drop j).drop 1 := by rw [List.drop_drop]
        rw [List.drop_set_of_lt (by omega), e1, e2, hzd]
      have HIN : Hid (∀ Y : XW, (∀ b, inX Y b → inX X b) → ∀ b, inWs (.slice (some ⟨g, 0, none⟩) n cap) (zs.set j Y) b → inWs (.slice (some ⟨g, 0, none⟩) n cap) Xs b) := by
        show ∀ Y, _
        intro Y hY b hb
        rcases hb with hb | ⟨Z, hZ, hb⟩
        · exact .inl hb
        · rcases List.mem_or_eq_of_mem_set hZ with hZ | rfl
          · exact hin b (.inr ⟨Z, hZ, hb⟩)
          · exact hsX b (hY b hb)
      generalize endWs k (xs.take j) = m at *
      have hr : wr.ownsRow base 41 15 (.slice (some ⟨g, 0, none⟩) n cap) n (flat15 zs) := by have := ho.row; rwa [hzl] at this
      have HL15 : Hid ((flat15 zs).length = n * 15) := by show (flat15 zs).length = n * 15; rw [flat15_len, hzl]
      obtain ⟨d0, d1, d2, d3, d4, d5, d6, d7, d8, d9, d10, d11, d12, d13, d14⟩ : wr.cell? ⟨g, j * 15, none⟩ = some (.int .i64 X.x.kind) ∧ wr.cell? ⟨g, j * 15 + 1, none⟩ = some (.int .i64 X.x.fr) ∧ wr.cell? ⟨g, j * 15 + 2, none⟩ = some (.int .i64 X.x.to) ∧ wr.cell? ⟨g, j * 15 + 3, none⟩ = some (.int .i64 X.x.call) ∧ wr.cell? ⟨g, j * 15 + 4, none⟩ = some (.int .i64 X.x.key) ∧ wr.cell? ⟨g, j * 15 + 5, none⟩ = some (.int .i64 X.x.t) ∧ wr.cell? ⟨g, j * 15 + 6, none⟩ = some (.int .i64 X.x.s) ∧ wr.cell? ⟨g, j * 15 + 7, none⟩ = some (.int .i64 X.x.val) ∧ wr.cell? ⟨g, j * 15 + 8, none⟩ = some (.bool X.x.yes) ∧ wr.cell? ⟨g, j * 15 + 9, none⟩ = some (.slice X.a.da X.x.ds.length X.a.dc) ∧ wr.cell? ⟨g, j * 15 + 10, none⟩ = some (.int .i64 X.x.slot) ∧ wr.cell? ⟨g, j * 15 + 11, none⟩ = some (.int .i64 X.x.ep) ∧ wr.cell? ⟨g, j * 15 + 12, none⟩ = some (.slice X.a.va X.x.vs.length X.a.vc) ∧ wr.cell? ⟨g, j * 15 + 13, none⟩ = some (.slice X.a.wa X.x.ws.length X.a.wc) ∧ wr.cell? ⟨g, j * 15 + 14, none⟩ = some (.slice X.a.oa X.x.os.length X.a.oc) := by
        obtain ⟨a0, a1, a2, a3, a4, a5, a6, a7, a8, a9, a10, a11, a12, a13, a14⟩ := flat15_at zs j hjz
        rw [← hX] at a0 a1 a2 a3 a4 a5 a6 a7 a8 a9 a10 a11 a12 a13 a14
        have hl15 := HL15.out
        exact ⟨(hr.cellAt (j * 15) (by omega)).trans a0, (hr.cellAt (j * 15 + 1) (by omega)).trans a1, (hr.cellAt (j * 15 + 2) (by omega)).trans a2, (hr.cellAt (j * 15 + 3) (by omega)).trans a3, (hr.cellAt (j * 15 + 4) (by omega)).trans a4, (hr.cellAt (j * 15 + 5) (by omega)).trans a5, (hr.cellAt (j * 15 + 6) (by omega)).trans a6, (hr.cellAt (j * 15 + 7) (by omega)).trans a7, (hr.cellAt (j * 15 + 8) (by omega)).trans a8, (hr.cellAt (j * 15 + 9) (by omega)).trans a9, (hr.cellAt (j * 15 + 10) (by omega)).trans a10, (hr.cellAt (j * 15 + 11) (by omega)).trans a11, (hr.cellAt (j * 15 + 12) (by omega)).trans a12, (hr.cellAt (j * 15 + 13) (by omega)).trans a13, (hr.cellAt (j * 15 + 14) (by omega)).trans a14⟩
      have hB : m + 11 + 3 * (X.x.ds.length : Int) + 3 * (X.x.os.length : Int) ≤ 10000000 ∧ endV (m + 9 + 3 * X.x.ds.length + 2) X.x.vs ≤ 10000000 ∧ endV (endV (m + 9 + 3 * X.x.ds.length + 2) X.x.vs) X.x.ws + 3 * (X.x.os.length : Int) ≤ 10000000 := by
        have h1 := endV_mono (m + 9 + 3 * X.x.ds.length + 2) X.x.vs
        have h2 := endV_mono (endV (m + 9 + 3 * X.x.ds.length + 2) X.x.vs) X.x.ws
        unfold endWf at hend
        omega
      have HEnd : Hid (endWs k (xs.take (j + 1)) = endV (endV (m + 9 + 3 * X.x.ds.length + 2) X.x.vs) X.x.ws + 3 * X.x.os.length) := hend
      clear hend hmk hle hzj hxj hXj
      have f0 : wr.frozen? ⟨g, j * 15, none⟩ = false := hr.frozenAt _
      have f1 : wr.frozen? ⟨g, j * 15 + 1, none⟩ = false := hr.frozenAt _
      have f2 : wr.frozen? ⟨g, j * 15 + 2, none⟩ = false := hr.frozenAt _
      have f3 : wr.frozen? ⟨g, j * 15 + 3, none⟩ = false := hr.frozenAt _
      have f4 : wr.frozen? ⟨g, j * 15 + 4, none⟩ = false := hr.frozenAt _
      have f5 : wr.frozen? ⟨g, j * 15 + 5, none⟩ = false := hr.frozenAt _
      have f6 : wr.frozen? ⟨g, j * 15 + 6, none⟩ = false := hr.frozenAt _
      have f7 : wr.frozen? ⟨g, j * 15 + 7, none⟩ = false := hr.frozenAt _
      have f8 : wr.frozen? ⟨g, j * 15 + 8, none⟩ = false := hr.frozenAt _
      obtain ⟨w9, hw9⟩ : ∃ w9, w9 = (((((((((wr).setCell ⟨g, j * 15, none⟩ (.int .i64 (m))).setCell ⟨g, j * 15 + 1, none⟩ (.int .i64 (m + 1))).setCell ⟨g, j * 15 + 2, none⟩ (.int .i64 (m + 2))).setCell ⟨g, j * 15 + 3, none⟩ (.int .i64 (m + 3))).setCell ⟨g, j * 15 + 4, none⟩ (.int .i64 (m + 4))).setCell ⟨g, j * 15 + 5, none⟩ (.int .i64 (m + 5))).setCell ⟨g, j * 15 + 5 + 1, none⟩ (.int .i64 (m + 6))).setCell ⟨g, j * 15 + 7, none⟩ (.int .i64 (m + 7))).setCell ⟨g, j * 15 + 8, none⟩ (.bool ((m + 8) % 3 == 0)) := ⟨_, rfl⟩
      have r9 := (((((((((hr.stored (j * 15) (.int .i64 (m))).1.stored (j * 15 + 1) (.int .i64 (m + 1))).1.stored (j * 15 + 2) (.int .i64 (m + 2))).1.stored (j * 15 + 3) (.int .i64 (m + 3))).1.stored (j * 15 + 4) (.int .i64 (m + 4))).1.stored (j * 15 + 5) (.int .i64 (m + 5))).1.stored (j * 15 + 5 + 1) (.int .i64 (m + 6))).1.stored (j * 15 + 7) (.int .i64 (m + 7))).1.stored (j * 15 + 8) (.bool ((m + 8) % 3 == 0))).1
      rw [← hw9] at r9
      have o9 : Only wr w9 (fun b => (Value.slice (some ⟨g, 0, none⟩) n cap).ownBlock = some b) := by rw [hw9]; exact (((((((((Only.refl wr (fun b => (Value.slice (some ⟨g, 0, none⟩) n cap).ownBlock = some b)).set (A := g) rfl _).set (A := g) rfl _).set (A := g) rfl _).set (A := g) rfl _).set (A := g) rfl _).set (A := g) rfl _).set (A := g) rfl _).set (A := g) rfl _).set (A := g) rfl _
      have s1 : m + 1 + 1 = m + 2 := by omega
      have s2 : m + 2 + 1 = m + 3 := by omega
      have s3 : m + 3 + 1 = m + 4 := by omega
      have s4 : m + 4 + 1 = m + 5 := by omega
      have s5 : m + 5 + 1 = m + 6 := by omega
      have s6 : m + 6 + 1 = m + 7 := by omega
      have s7 : m + 7 + 1 = m + 8 := by omega
      have s8 : m + 8 + 1 = m + 9 := by omega
      obtain ⟨zs9, hz9⟩ : ∃ zs9, zs9 = zs.set j ⟨⟨m, m + 1, m + 2, m + 3, m + 4, m + 5, m + 6, m + 7, markB (m + 8), X.x.ds, X.x.slot, X.x.ep, X.x.vs, X.x.ws, X.x.os⟩, X.a, X.ys, X.zs⟩ := ⟨_, rfl⟩
      have q9 : w9.ownsRow base 41 15 (.slice (some ⟨g, 0, none⟩) n cap) n (flat15 zs9) := by
        have e9 := flat15_setA zs m (m + 1) (m + 2) (m + 3) (m + 4) (m + 5) (m + 6) (m + 7) (markB (m + 8)) j hjz
        rw [← hX, ← hz9] at e9
        rw [← e9]; exact r9
      have hl9 : zs9.length = n := by rw [hz9, List.length_set]; exact hzl
      have hj9 : j < zs9.length := by omega
      have h99 : zs9[j] = ⟨⟨m, m + 1, m + 2, m + 3, m + 4, m + 5, m + 6, m + 7, markB (m + 8), X.x.ds, X.x.slot, X.x.ep, X.x.vs, X.x.ws, X.x.os⟩, X.a, X.ys, X.zs⟩ := by simp [hz9]
      have hs9 : ∀ Y, zs9.set j Y = zs.set j Y := by intro Y; rw [hz9, List.set_set]
      obtain ⟨x, a, ys, zs0⟩ := X
      obtain ⟨hD, hV, hW, hP, hy, hz, dv, dw, dn, vw, vo, wo⟩ := hOX
      simp only at *
      have HOX : Hid (OwnW wr base x a ys zs0) := ⟨hD, hV, hW, hP, hy, hz, dv, dw, dn, vw, vo, wo⟩
      have hgD : ∀ b, (Value.slice a.da x.ds.length a.dc).ownBlock = some b → ¬ (Value.slice (some ⟨g, 0, none⟩) n cap).ownBlock = some b := fun b hb e => hng (by cases e; exact .inl hb)
      have hgV : ∀ b, inV (.slice a.va x.vs.length a.vc) ys b → ¬ (Value.slice (some ⟨g, 0, none⟩) n cap).ownBlock = some b := fun b hb e => hng (by cases e; exact .inr (.inl hb))
      have hgW : ∀ b, inV (.slice a.wa x.ws.length a.wc) zs0 b → ¬ (Value.slice (some ⟨g, 0, none⟩) n cap).ownBlock = some b := fun b hb e => hng (by cases e; exact .inr (.inr (.inl hb)))
      have hgP : ∀ b, (Value.slice a.oa x.os.length a.oc).ownBlock = some b → ¬ (Value.slice (some ⟨g, 0, none⟩) n cap).ownBlock = some b := fun b hb e => hng (by cases e; exact .inr (.inr (.inr hb)))
      have D9 := o9.row hD hgD
      have V9 := o9.ownV hV hgV
      have W9 := o9.ownV hW hgW
      have P9 := o9.row hP hgP
      have O9 : Only wr w9 (fun b => (Value.slice (some ⟨g, 0, none⟩) n cap).ownBlock = some b ∨ inWd x a ys zs0 b) := o9.wide fun b hb => .inl hb
      clear hD hV hW hP r9 o9 hr hX hz9
      have hFd := hF.d
      have hFv : x.vs.length ≤ 1048577 := by have := hF.v; omega
      have hFw : x.ws.length ≤ 1048577 := by have := hF.w; omega
      have hFo := hF.o
      have hFdv := hF.dv
      have hFdw := hF.dw
      clear hF
      have PK : Hid _ := And.intro ho (And.intro hzx (And.intro hzd (And.intro hin (And.intro hO (And.intro hsX (And.intro hsg (And.intro hng (And.intro hnn (And.intro hxs (And.intro hxl (And.intro hd (And.intro hk0 (And.intro hk1 (And.intro hy (And.intro hz (And.intro dv (And.intro dw (And.intro dn (And.intro vw (And.intro vo (And.intro wo (And.intro hgD (And.intro hgV (And.intro hgW (And.intro hgP (And.intro h99 (And.intro hs9 (And.intro hFdv (And.intro hFdw (And.intro hFd (And.intro hFv (And.intro hFw (And.intro hFo (And.intro q9 (And.intro D9 (And.intro V9 (And.intro W9 (And.intro P9 (O9)))))))))))))))))))))))))))))))))))))))
      clear O9 P9 W9 V9 D9 q9 hFo hFw hFv hFd hFdw hFdv hs9 h99 hgP hgW hgV hgD wo vo vw dn dw dv hz hy hk1 hk0 hd hxl hxs hnn hng hsg hsX hO hin hzd hzx ho
      go_wp2_with fail
      obtain ⟨ho, hzx, hzd, hin, hO, hsX, hsg, hng, hnn, hxs, hxl, hd, hk0, hk1, hy, hz, dv, dw, dn, vw, vo, wo, hgD, hgV, hgW, hgP, h99, hs9, hFdv, hFdw, hFd, hFv, hFw, hFo, q9, D9, V9, W9, P9, O9⟩ := PK.out
      clear PK
      rw [← hw9]
      clear hw9 d0 d1 d2 d3 d4 d5 d6 d7 d8 d9 d10 d11 d12 d13 d14 f0 f1 f2 f3 f4 f5 f6 f7 f8 s1 s2 s3 s4 s5 s6 s7 s8
      refine (mark_any _ x.ds.length base _ (m + 9) w9 hFd (by omega) (by omega) D9).mono ?_
      rintro e wA ⟨rfl, DA, gA⟩
      have oA := only_grown gA
      have qA := oA.row q9 (fun b hb hs => hgD b hs hb)
      have VA := oA.ownV V9 (fun b hb hs => dv b hs hb)
      have WA := oA.ownV W9 (fun b hb hs => dw b hs hb)
      have PA := oA.row P9 (fun b hb hs => dn b hs hb)
      have OA := O9.trans (oA.wide fun b hb => .inr (.inl hb))
      clear q9 D9 V9 W9 P9 O9 gA oA
      have hq0 : 0 ≤ m + 9 + 3 * (x.ds.length : Int) := by omega
      have hq1 : m + 9 + 3 * (x.ds.length : Int) + 2 ≤ 10000000 := by omega
      obtain ⟨q, hq⟩ : ∃ q, q = m + 9 + 3 * (x.ds.length : Int) := ⟨_, rfl⟩
      have HQ : Hid (q = m + 9 + 3 * (x.ds.length : Int)) := hq
      rw [← hq] at hq0 hq1 hB HEnd ⊢
      clear hq
      have s1 : q + 1 + 1 = q + 2 := by omega
      obtain ⟨d10, d11, d12⟩ : wA.cell? ⟨g, j * 15 + 10, none⟩ = some (.int .i64 x.slot) ∧ wA.cell? ⟨g, j * 15 + 11, none⟩ = some (.int .i64 x.ep) ∧ wA.cell? ⟨g, j * 15 + 12, none⟩ = some (.slice a.va x.vs.length a.vc) := by
        obtain ⟨a0, a1, a2, a3, a4, a5, a6, a7, a8, a9, a10, a11, a12, a13, a14⟩ := flat15_at zs9 j hj9
        rw [h99] at a0 a1 a2 a3 a4 a5 a6 a7 a8 a9 a10 a11 a12 a13 a14
        have hl15 := flat15_len zs9
        rw [hl9] at hl15
        exact ⟨(qA.cellAt (j * 15 + 10) (by omega)).trans a10, (qA.cellAt (j * 15 + 11) (by omega)).trans a11, (qA.cellAt (j * 15 + 12) (by omega)).trans a12⟩
      have f10 : wA.frozen? ⟨g, j * 15 + 10, none⟩ = false := qA.frozenAt _
      have f11 : wA.frozen? ⟨g, j * 15 + 11, none⟩ = false := qA.frozenAt _
      have qB := ((qA.stored (j * 15 + 10) (.int .i64 q)).1.stored (j * 15 + 11) (.int .i64 (q + 1))).1
      have oB : Only wA _ (fun b => (Value.slice (some ⟨g, 0, none⟩) n cap).ownBlock = some b) := ((Only.refl wA (fun b => (Value.slice (some ⟨g, 0, none⟩) n cap).ownBlock = some b)).set (A := g) (i := j * 15 + 10) rfl (.int .i64 q)).set (A := g) (i := j * 15 + 11) rfl (.int .i64 (q + 1))
      obtain ⟨wB, hwB⟩ : ∃ wB, wB = (wA.setCell ⟨g, j * 15 + 10, none⟩ (.int .i64 q)).setCell ⟨g, j * 15 + 11, none⟩ (.int .i64 (q + 1)) := ⟨_, rfl⟩
      rw [← hwB] at qB oB
      obtain ⟨zsB, hzB⟩ : ∃ zsB, zsB = zs.set j ⟨⟨m, m + 1, m + 2, m + 3, m + 4, m + 5, m + 6, m + 7, markB (m + 8), x.ds, q, q + 1, x.vs, x.ws, x.os⟩, a, ys, zs0⟩ := ⟨_, rfl⟩
      have qB' : wB.ownsRow base 41 15 (.slice (some ⟨g, 0, none⟩) n cap) n (flat15 zsB) := by
        have e9 := flat15_setB zs9 q (q + 1) j hj9
        rw [h99, hs9, ← hzB] at e9
        rw [← e9]; exact qB
      have hlB : zsB.length = n := by rw [hzB, List.length_set]; exact hzl
      have hjB : j < zsB.length := by omega
      have hBB : zsB[j] = ⟨⟨m, m + 1, m + 2, m + 3, m + 4, m + 5, m + 6, m + 7, markB (m + 8), x.ds, q, q + 1, x.vs, x.ws, x.os⟩, a, ys, zs0⟩ := by simp [hzB]
      have DB := oB.row DA hgD
      have VB := oB.ownV VA hgV
      have WB := oB.ownV WA hgW
      have PB := oB.row PA hgP
      have OB := OA.trans (oB.wide fun b hb => .inl hb)
      clear qA qB DA VA WA PA OA oB
      clear h99 hs9 hj9 hl9
      have PK : Hid _ := And.intro ho (And.intro hzx (And.intro hzd (And.intro hin (And.intro hO (And.intro hsX (And.intro hsg (And.intro hng (And.intro hnn (And.intro hxs (And.intro hxl (And.intro hd (And.intro hk0 (And.intro hk1 (And.intro hy (And.intro hz (And.intro dv (And.intro dw (And.intro dn (And.intro vw (And.intro vo (And.intro wo (And.intro hgD (And.intro hgV (And.intro hgW (And.intro hgP (And.intro hFdv (And.intro hFdw (And.intro hFd (And.intro hFv (And.intro hFw (And.intro hFo (And.intro hzB (And.intro hBB (And.intro qB' (And.intro DB (And.intro VB (And.intro WB (And.intro PB (OB)))))))))))))))))))))))))))))))))))))))
      clear OB PB WB VB DB qB' hBB hzB hFo hFw hFv hFd hFdw hFdv hgP hgW hgV hgD wo vo vw dn dw dv hz hy hk1 hk0 hd hxl hxs hnn hng hsg hsX hO hin hzd hzx ho
      go_wp2_with fail
      obtain ⟨ho, hzx, hzd, hin, hO, hsX, hsg, hng, hnn, hxs, hxl, hd, hk0, hk1, hy, hz, dv, dw, dn, vw, vo, wo, hgD, hgV, hgW, hgP, hFdv, hFdw, hFd, hFv, hFw, hFo, hzB, hBB, qB', DB, VB, WB, PB, OB⟩ := PK.out
      clear PK
      rw [← hwB]
      clear hwB d10 d11 d12 f10 f11 s1
      refine (markVers_as _ base ys x.vs (q + 2) wB hy hFv hFdv (by omega) hB.2.1 VB).mono ?_
      rintro e wC ⟨rfl, ⟨ys', VC, hy', sy'⟩, oC⟩
      have qC := oC.row qB' (fun b hb hs => hgV b hs hb)
      have DC := oC.row DB (fun b hb hs => dv b hb hs)
      have WC := oC.ownV WB (fun b hb hs => vw b hs hb)
      have PC := oC.row PB (fun b hb hs => vo b hs hb)
      have OC := OB.trans (oC.wide fun b hb => .inr (.inr (.inl hb)))
      clear qB' DB VB WB PB OB oC
      have hp0 := endV_mono (q + 2) x.vs
      obtain ⟨p, hp⟩ : ∃ p, p = endV (q + 2) x.vs := ⟨_, rfl⟩
      have HP : Hid (p = endV (q + 2) x.vs) := hp
      rw [← hp] at hp0 hB HEnd ⊢
      clear hp
      have hp1 : 0 ≤ p := by omega
      have d13 : wC.cell? ⟨g, j * 15 + 13, none⟩ = some (.slice a.wa x.ws.length a.wc) := by
        obtain ⟨a0, a1, a2, a3, a4, a5, a6, a7, a8, a9, a10, a11, a12, a13, a14⟩ := flat15_at zsB j hjB
        rw [hBB] at a0 a1 a2 a3 a4 a5 a6 a7 a8 a9 a10 a11 a12 a13 a14
        have hl15 := flat15_len zsB
        rw [hlB] at hl15
        exact (qC.cellAt (j * 15 + 13) (by omega)).trans a13
      have PK : Hid _ := And.intro ho (And.intro hzx (And.intro hzd (And.intro hin (And.intro hO (And.intro hsX (And.intro hsg (And.intro hng (And.intro hnn (And.intro hxs (And.intro hxl (And.intro hd (And.intro hk0 (And.intro hk1 (And.intro hy (And.intro hz (And.intro dv (And.intro dw (And.intro dn (And.intro vw (And.intro vo (And.intro wo (And.intro hgD (And.intro hgV (And.intro hgW (And.intro hgP (And.intro hFdv (And.intro hFdw (And.intro hFd (And.intro hFv (And.intro hFw (And.intro hFo (And.intro hzB (And.intro hBB (And.intro hy' (And.intro sy' (And.intro qC (And.intro DC (And.intro VC (And.intro WC (And.intro PC (OC)))))))))))))))))))))))))))))))))))))))))
      clear OC PC WC VC DC qC sy' hy' hBB hzB hFo hFw hFv hFd hFdw hFdv hgP hgW hgV hgD wo vo vw dn dw dv hz hy hk1 hk0 hd hxl hxs hnn hng hsg hsX hO hin hzd hzx ho
      go_wp2_with fail
      obtain ⟨ho, hzx, hzd, hin, hO, hsX, hsg, hng, hnn, hxs, hxl, hd, hk0, hk1, hy, hz, dv, dw, dn, vw, vo, wo, hgD, hgV, hgW, hgP, hFdv, hFdw, hFd, hFv, hFw, hFo, hzB, hBB, hy', sy', qC, DC, VC, WC, PC, OC⟩ := PK.out
      clear PK
      clear d13
      refine (markVers_as _ base zs0 x.ws p wC hz hFw hFdw hp1 (by omega) WC).mono ?_
      rintro e wD ⟨rfl, ⟨zs', WD, hz', sz'⟩, oD⟩
      have qD := oD.row qC (fun b hb hs => hgW b hs hb)
      have DD := oD.row DC (fun b hb hs => dw b hb hs)
      have VD := oD.ownV VC (fun b hb hs => vw b (sy' b hb) hs)
      have PD := oD.row PC (fun b hb hs => wo b hs hb)
      have OD := OC.trans (oD.wide fun b hb => .inr (.inr (.inr (.inl hb))))
      clear qC DC VC WC PC OC oD
      have hr0 := endV_mono p x.ws
      obtain ⟨r, hr⟩ : ∃ r, r = endV p x.ws := ⟨_, rfl⟩
      have HR : Hid (r = endV p x.ws) := hr
      rw [← hr] at hr0 hB HEnd ⊢
      clear hr
      have hr1 : 0 ≤ r := by omega
      have d14 : wD.cell? ⟨g, j * 15 + 14, none⟩ = some (.slice a.oa x.os.length a.oc) := by
        obtain ⟨a0, a1, a2, a3, a4, a5, a6, a7, a8, a9, a10, a11, a12, a13, a14⟩ := flat15_at zsB j hjB
        rw [hBB] at a0 a1 a2 a3 a4 a5 a6 a7 a8 a9 a10 a11 a12 a13 a14
        have hl15 := flat15_len zsB
        rw [hlB] at hl15
        exact (qD.cellAt (j * 15 + 14) (by omega)).trans a14
      have PK : Hid _ := And.intro ho (And.intro hzx (And.intro hzd (And.intro hin (And.intro hO (And.intro hsX (And.intro hsg (And.intro hng (And.intro hnn (And.intro hxs (And.intro hxl (And.intro hd (And.intro hk0 (And.intro hk1 (And.intro hy (And.intro hz (And.intro dv (And.intro dw (And.intro dn (And.intro vw (And.intro vo (And.intro wo (And.intro hgD (And.intro hgV (And.intro hgW (And.intro hgP (And.intro hFdv (And.intro hFdw (And.intro hFd (And.intro hFv (And.intro hFw (And.intro hFo (And.intro hzB (And.intro hBB (And.intro hy' (And.intro sy' (And.intro hz' (And.intro sz' (And.intro qD (And.intro DD (And.intro VD (And.intro WD (And.intro PD (OD)))))))))))))))))))))))))))))))))))))))))))
      clear OD PD WD VD DD qD sz' hz' sy' hy' hBB hzB hFo hFw hFv hFd hFdw hFdv hgP hgW hgV hgD wo vo vw dn dw dv hz hy hk1 hk0 hd hxl hxs hnn hng hsg hsX hO hin hzd hzx ho
      go_wp2_with fail
      obtain ⟨ho, hzx, hzd, hin, hO, hsX, hsg, hng, hnn, hxs, hxl, hd, hk0, hk1, hy, hz, dv, dw, dn, vw, vo, wo, hgD, hgV, hgW, hgP, hFdv, hFdw, hFd, hFv, hFw, hFo, hzB, hBB, hy', sy', hz', sz', qD, DD, VD, WD, PD, OD⟩ := PK.out
      clear PK
      clear d14
      refine (mark_any _ x.os.length base _ r wD hFo hr1 (by omega) PD).mono ?_
      rintro e wE ⟨rfl, PE, gE⟩
      have oE := only_grown gE
      have qE := oE.row qD (fun b hb hs => hgP b hs hb)
      have DE := oE.row DD (fun b hb hs => dn b hb hs)
      have VE := oE.ownV VD (fun b hb hs => vo b (sy' b hb) hs)
      have WE := oE.ownV WD (fun b hb hs => wo b (sz' b hb) hs)
      have OE := OD.trans (oE.wide fun b hb => .inr (.inr (.inr (.inr hb))))
      clear qD DD VD WD PD OD oE gE
      have hmq : markWf m x = ⟨m, m + 1, m + 2, m + 3, m + 4, m + 5, m + 6, m + 7, markB (m + 8), markL (m + 9) x.ds.length, q, q + 1, markVs (q + 2) x.vs, markVs p x.ws, markL r x.os.length⟩ := by unfold markWf; rw [HR.out, HP.out, HQ.out]
      obtain ⟨hOE, hsE⟩ := own_markW (W := wE) (x' := markWf m x) (ys' := ys') (zs' := zs') HOX.out (by rw [hmq, markL_len]) (by rw [hmq]; exact markVs_len _ _) (by rw [hmq]; exact markVs_len _ _) (by rw [hmq, markL_len]) (by rw [hmq]; show World.ownsRow _ _ _ _ _ _ _; rw [markL_len]; exact DE) VE WE (by rw [hmq]; show World.ownsRow _ _ _ _ _ _ _; rw [markL_len]; exact PE) (by rw [hmq]; exact hy'.trans (by rw [HP.out]) ) (by rw [hmq]; exact hz') sy' sz'
      have hNW : OwnWs wE base (.slice (some ⟨g, 0, none⟩) n cap) (zs.set j ⟨markWf m x, a, ys', zs'⟩) := by
        refine ho.write hjz _ ?_ ?_ hOE ?_
        · rw [← HXZ.out]; exact OE
        · rw [hzl]
          have : flat15 (zs.set j ⟨markWf m x, a, ys', zs'⟩) = flat15 zsB := by
            rw [hzB]
            refine flat15_like fun u hu => ?_
            rw [← hu, hmq]
            simp [flat15_cons, markL_len, markVs_len]
          rw [this]; exact qE
        · rw [← HXZ.out]; exact hsE
      have N1 := HNX.out ⟨markWf m x, a, ys', zs'⟩ rfl
      have N2 := HND.out ⟨markWf m x, a, ys', zs'⟩
      have N3 := HIN.out ⟨markWf m x, a, ys', zs'⟩ hsE
      have N4 : Only w wE (inWs (.slice (some ⟨g, 0, none⟩) n cap) Xs) := hO.trans (OE.wide fun b hb => by rcases hb with hb | hb; exact .inl hb; exact hsX b hb)
      have hf0 : 0 ≤ r + 3 * (x.os.length : Int) := by omega
      have PK : Hid _ := And.intro hNW (And.intro N1 (And.intro N2 (And.intro N3 N4)))
      clear N1 N2 N3 N4 hNW hOE hsE hmq OE WE VE DE qE PE ho hzx hzd hin hO hsX hsg hng hnn hxs hxl hd hk0 hk1 hy hz dv dw dn vw vo wo hgD hgV hgW hgP hFdv hFdw hFd hFv hFw hFo hzB hBB hy' sy' hz' sz' HOX HXZ HNX HND HIN HQ HP HR hB hq0 hq1 hp0 hp1 hr0 hr1
      go_wp2
      go_roundw
      case rel => exact ⟨j + 1, zs.set j ⟨markWf m x, a, ys', zs'⟩, by omega, by go_num, by rw [HEnd.out], PK.out⟩
      case measure => simp [intOf]; omega
    · have hk2 : j = n := by omega
      subst hk2
      have hT : xs.take j = xs := List.take_of_length_le (by omega)
      have hX : zs.map XW.x = markWs k xs := by rw [hzx, hT, List.drop_of_length_le (by omega), List.append_nil]
      have PK : Hid _ := And.intro ho (And.intro hX (And.intro hin hO))
      rw [hT]
      clear ho hzx hX hin hO hT hzd hd hnn hxs hxl
      go_wp2
      go_ret
      obtain ⟨p1, p2, p3, p4⟩ := PK.out
      exact ⟨rfl, ⟨zs, p1, p2, p3⟩, p4⟩
end Go.Proofs.YtpjidogilofppaaGreat

/- The exact laws' marks of lists of words: held against them. -/
namespace Go.Proofs.YtpjidogilofppaaGreat
open Go.ChangeShapes Go.WideShapes Go.ChangeAt Go.RowKit

theorem markWords_nil (k : Int) (w : World) : Calls Tryz.prog 26 #[.slice none 0 0, .int .i64 k] w fun e w' => e = .returned (.int .i64 k) ∧ w' = w := by
  go_enter Tryz.func26, Tryz.ntmps26
  go_wp2
  go_loop [1, 5] (fun m i => m = .int .i64 k ∧ i = .int .i64 0) (fun _ _ => 0)
  case atStart => exact ⟨rfl, rfl⟩
  case round =>
    obtain ⟨rfl, rfl⟩ := hrel
    go_wp2
    go_ret
    exact ⟨rfl, rfl⟩
theorem markWords_any (v : Value) (base : Nat) (Xs : List XW) (xs : List Wd) (k : Int) (w : World) (hx : Xs.map XW.x = xs) (hn : xs.length ≤ 1048577) (hd : ∀ x ∈ xs, FitWd x) (hk0 : 0 ≤ k) (hk1 : endWs k xs ≤ 10000000) (h : OwnWs w base v Xs) :
    Calls Tryz.prog 26 #[v, .int .i64 k] w fun e w' => e = .returned (.int .i64 (endWs k xs)) ∧ (∃ zs, OwnWs w' base v zs ∧ zs.map XW.x = markWs k xs ∧ ∀ b, inWs v zs b → inWs v Xs b) ∧ Only w w' (inWs v Xs) := by
  subst hx
  rcases h.row.2 with ⟨rfl, hz⟩ | ⟨g, cap, cur, rfl, _⟩
  · have : Xs = [] := List.length_eq_zero_iff.1 hz
    subst this
    refine (markWords_nil k w).mono ?_
    rintro e w' ⟨rfl, rfl⟩
    exact ⟨rfl, ⟨[], h, rfl, fun _ hb => hb⟩, Only.refl _ _⟩
  · exact markWords_some g cap base Xs k w (by simpa using hn) (fun X hX => hd X.x (List.mem_map_of_mem hX)) hk0 hk1 h

set_option maxHeartbeats 8000000 in
set_option maxRecDepth 20000 in
theorem heldWords_any (a : Option Addr) (cap : Nat) (xs : List Wd) (k : Int) (w : World) (hn : xs.length ≤ 1048577) (hd : ∀ x ∈ xs, FitWd x) (hk0 : 0 ≤ k) (hk1 : endWs k xs ≤ 10000000) (h : Wds w a (markWs k xs)) :
    Calls Tryz.prog 27 #[.slice a xs.length cap, .int .i64 k] w fun e w' => e = .returned (.int .i64 (endWs k xs)) ∧ w' = w := by
  go_enter Tryz.func27, Tryz.ntmps27
  go_wp2
  go_loop [1, 5] (fun m i => ∃ j : Nat, j ≤ xs.length ∧ i = .int .i64 j ∧ m = .int .i64 (endWs k (xs.take j))) (fun _ i => xs.length - (intOf i).toNat)
  case atStart => exact ⟨0, Nat.zero_le _, rfl, by simp [endWs]⟩
  case round =>
    obtain ⟨j, hj, rfl, rfl⟩ := hrel
    by_cases hlt : j < xs.length
    · obtain ⟨hq, eq⟩ := markWs_at hlt k
      obtain ⟨b, o, c, rfl, hbb, hv⟩ := h.at hq
      rw [eq] at hv
      have hm0 : 0 ≤ endWs k (xs.take j) := Int.le_trans hk0 (endWs_mono _ _)
      have hend := endWs_take hlt k
      have hle := endWs_le xs k (j + 1)
      have hF := hd xs[j] (List.getElem_mem hlt)
      have HE : Hid (endWs k (xs.take (j + 1)) = endWf (endWs k (xs.take j)) xs[j]) := hend
      rw [hend] at hle
      clear h eq hend hd hq
      generalize endWs k (xs.take j) = m at *
      generalize xs[j] = x at *
      have hB : m + 11 + 3 * (x.ds.length : Int) + 3 * (x.os.length : Int) ≤ 10000000 ∧ endV (m + 9 + 3 * x.ds.length + 2) x.vs ≤ 10000000 ∧ endV (endV (m + 9 + 3 * x.ds.length + 2) x.vs) x.ws + 3 * (x.os.length : Int) ≤ 10000000 := by
        have h1 := endV_mono (m + 9 + 3 * x.ds.length + 2) x.vs
        have h2 := endV_mono (endV (m + 9 + 3 * x.ds.length + 2) x.vs) x.ws
        unfold endWf at hle
        omega
      clear hle
      have e0 := hv.c0
      have e1 := hv.c1
      have e2 := hv.c2
      have e3 := hv.c3
      have e4 := hv.c4
      have e5 := hv.c5
      have e6 := hv.c6
      have e7 := hv.c7
      have e8 := hv.c8
      have e9 := hv.c9
      have e10 := hv.c10
      have e11 := hv.c11
      have e12 := hv.c12
      have e13 := hv.c13
      have e14 := hv.c14
      have hI := hv.l
      simp only [markWf] at e0 e1 e2 e3 e4 e5 e6 e7 e8 e9 e10 e11 e12 e13 e14 hI
      rw [markL_len] at e9 e14
      rw [markVs_len] at e12 e13
      obtain ⟨i1, i2, i3, i4⟩ := hI
      simp only at i1 i2 i3 i4
      have hFd := hF.d
      have hFv : x.vs.length ≤ 1048577 := by have := hF.v; omega
      have hFw : x.ws.length ≤ 1048577 := by have := hF.w; omega
      have hFo := hF.o
      have hFdv := hF.dv
      have hFdw := hF.dw
      clear hv hF hbb
      unfold endWf at HE
      obtain ⟨q, hq⟩ : ∃ q, q = m + 9 + 3 * (x.ds.length : Int) := ⟨_, rfl⟩
      have hh1 := fun M h => held_any c.da x.ds.length c.dc (m + 9) M hFd (by omega) (by omega) h
      rw [← hq] at e10 e11 i2 i3 i4 hB hh1 HE
      have hq0 : 0 ≤ q := by omega
      have hp0 := endV_mono (q + 2) x.vs
      have hh2 := fun M h => heldVers_any c.va c.vc x.vs (q + 2) M hFv hFdv (by omega) hB.2.1 h
      obtain ⟨p, hp⟩ : ∃ p, p = endV (q + 2) x.vs := ⟨_, rfl⟩
      rw [← hp] at i3 i4 hB hh2 HE hp0
      have hr0 := endV_mono p x.ws
      have hp1 : 0 ≤ p := by omega
      have hh3 := fun M h => heldVers_any c.wa c.wc x.ws p M hFw hFdw hp1 (by omega) h
      obtain ⟨r, hr⟩ : ∃ r, r = endV p x.ws := ⟨_, rfl⟩
      rw [← hr] at i4 hB hh3 HE hr0
      have hr1 : 0 ≤ r := by omega
      have hh4 := fun M h => held_any c.oa x.os.length c.oc r M hFo hr1 (by omega) h
      have hf0 : 0 ≤ r + 3 * (x.os.length : Int) := by omega
      have hq9 : q + 2 ≤ 10000000 := by omega
      have HI : Hid _ := And.intro i1 (And.intro i2 (And.intro i3 (And.intro i4 (And.intro hh1 (And.intro hh2 (And.intro hh3 hh4))))))
      clear i1 i2 i3 i4 hh1 hh2 hh3 hh4 hq hp hr hp0 hr0 hFd hFv hFw hFo hFdv hFdw
      obtain ⟨y8, hy8⟩ : ∃ y : Bool, ((m + 8) % 3 == 0) = y := ⟨_, rfl⟩
      unfold markB at e8
      rw [hy8] at e8
      have s1 : m + 1 + 1 = m + 2 := by omega
      have s2 : m + 2 + 1 = m + 3 := by omega
      have s3 : m + 3 + 1 = m + 4 := by omega
      have s4 : m + 4 + 1 = m + 5 := by omega
      have s5 : m + 5 + 1 = m + 6 := by omega
      have s6 : m + 6 + 1 = m + 7 := by omega
      have s7 : m + 7 + 1 = m + 8 := by omega
      have s8 : m + 8 + 1 = m + 9 := by omega
      have t1 : q + 1 + 1 = q + 2 := by omega
      have hm9 : m + 9 ≤ 10000000 := by omega
      go_wp2_with fail
      obtain ⟨i1, i2, i3, i4, hh1, hh2, hh3, hh4⟩ := HI.out
      refine (hh1 _ i1).mono ?_
      rintro e w7 ⟨rfl, rfl⟩
      clear i1 i2 i3 i4 hh1 hh2 hh3 hh4 e0 e1 e2 e3 e4 e5 e6 e7 e8 e9 s1 s2 s3 s4 s5 s6 s7 s8 hy8
      go_wp2_with fail
      obtain ⟨i1, i2, i3, i4, hh1, hh2, hh3, hh4⟩ := HI.out
      refine (hh2 _ i2).mono ?_
      rintro e w8 ⟨rfl, rfl⟩
      clear i1 i2 i3 i4 hh1 hh2 hh3 hh4 e10 e11 e12 t1
      go_wp2_with fail
      obtain ⟨i1, i2, i3, i4, hh1, hh2, hh3, hh4⟩ := HI.out
      refine (hh3 _ i3).mono ?_
      rintro e w8 ⟨rfl, rfl⟩
      clear i1 i2 i3 i4 hh1 hh2 hh3 hh4 e13
      go_wp2_with fail
      obtain ⟨i1, i2, i3, i4, hh1, hh2, hh3, hh4⟩ := HI.out
      refine (hh4 _ i4).mono ?_
      rintro e w8 ⟨rfl, rfl⟩
      clear i1 i2 i3 i4 hh1 hh2 hh3 hh4 e14 HI
      go_wp2
      go_round
      case rel => exact ⟨j + 1, by omega, by go_num, by rw [HE.out]⟩
      case measure => simp [intOf]; omega
    · have hk2 : j = xs.length := by omega
      subst hk2
      rw [List.take_length]
      clear h
      go_wp2
      go_ret
      exact ⟨rfl, rfl⟩
end Go.Proofs.YtpjidogilofppaaGreat

/- A word is appended to a list of the call's own. -/
namespace Go.Proofs.YtpjidogilofppaaGreat
open Go.ChangeShapes Go.WideShapes Go.ChangeAt Go.RowKit

theorem infoWord : (Tryz.prog.info? 41).map (fun i => (i.zero, i.size, i.bytes)) = some (some (.agg #[.int .i64 0, .int .i64 0, .int .i64 0, .int .i64 0, .int .i64 0, .int .i64 0, .int .i64 0, .int .i64 0, .bool false, .slice none 0 0, .int .i64 0, .int .i64 0, .slice none 0 0, .slice none 0 0, .slice none 0 0]), 15, 184) := by kernel_rfl
theorem cells15 {w : World} {B : Nat} {x : XW} {T : TypeId} (h : Blk w B (wordC x.x x.a) T) : ∀ (j : Nat) (u : Value), (flat15 [x])[j]? = some u → w.cell? ((Addr.mk B 0 none).add j) = some u := by
  intro j u hj
  rw [addr_add, Nat.zero_add, h.cell]
  simpa [flat15] using hj
/-- One more is appended, whose lists lie apart. -/
theorem OwnWs.snoc {w w' : World} {base : Nat} {v v' : Value} {Xs : List XW} {X : XW} (h : OwnWs w base v Xs) (hg : w.grownBy w' v.ownBlock) (hrow : w'.ownsRow base 41 15 v' (Xs.length + 1) (flat15 Xs ++ flat15 [X])) (hX : OwnX w base X) (ha : ∀ Y ∈ Xs, ∀ b, inX Y b → ¬ inX X b) : OwnWs w' base v' (Xs ++ [X]) := by
  have o := only_grown hg
  refine ⟨by rw [flat15_append, List.length_append]; exact hrow, fun Y hY => ?_, List.pairwise_append.2 ⟨h.apart, List.pairwise_singleton _ _, fun a ha' b hb => by simp at hb; subst hb; exact ha a ha'⟩⟩
  rcases List.mem_append.1 hY with hY | hY
  · exact o.ownW (h.each Y hY) (fun b hb hs => word_other h.row (h.each Y hY) b hs hb)
  · simp at hY; subst hY
    exact o.ownW hX (fun b hb hs => word_other h.row hX b hs hb)
theorem wpList_append_word (w : World) {ops : Array Oper} {rest : List Oper} {o : Oper} {a : Act} {Q : Exit → Act → World → Prop} (hgd : o.guard = none) (s x : Operand)
    (ho : o.op = .call { callee := .builtin .append, args := #[s, x], argTypes := #[51, 51] })
    (base : Nat) (v : Value) (Xs : List XW) (hs : a.eval s = v) (hT : OwnWs w base v Xs) (X : XW) (g : Nat) (hx : a.eval x = .slice (some ⟨g, 0, none⟩) 1 1)
    (hB : Blk w g (wordC X.x X.a) 41)
    (hX : OwnX w base X) (ha : ∀ Y ∈ Xs, ∀ b, inX Y b → ¬ inX X b) (hn : Xs.length ≤ 1000000) (hb : base ≤ w.heap.size)
    (h : ∀ v' w', OwnWs w' base v' (Xs ++ [X]) → w.grownBy w' v.ownBlock → wpList Tryz.prog ops Q rest (a.put o.dst v') w') : wpList Tryz.prog ops Q (o :: rest) a w := by
  obtain ⟨i0, hi, hz0, hz1, hz2⟩ := info_parts infoWord
  exact wpList_append_own_at w hgd s x 51 ho base 41 i0 (.agg #[.int .i64 0, .int .i64 0, .int .i64 0, .int .i64 0, .int .i64 0, .int .i64 0, .int .i64 0, .int .i64 0, .bool false, .slice none 0 0, .int .i64 0, .int .i64 0, .slice none 0 0, .slice none 0 0, .slice none 0 0]) 15 184 Tryz.underlying51 hi hz0 hz1 hz2 rfl (by decide) v Xs.length (flat15 Xs) hs hT.row ⟨g, 0, none⟩ 1 1 (flat15 [X]) hx rfl (cells15 hB) (flat15_one _) (by unfold maxLen; omega) (by omega) hb fun v' w' h2 h3 _ h5 => h v' w' (hT.snoc h3 h2 hX ha) h3
/-- A word that is new lies apart from all that were there. -/
theorem apart_word {w w' : World} {base : Nat} {v : Value} {Xs : List XW} {X : XW} (h : OwnWs w base v Xs) {m : Nat} (hX : OwnX w' m X) (hm : w.heap.size ≤ m) : ∀ Y ∈ Xs, ∀ b, inX Y b → ¬ inX X b := by
  intro Y hY b hb hb'
  have h1 := (h.each Y hY).lt hb
  have h2 := hX.lt hb'
  omega
end Go.Proofs.YtpjidogilofppaaGreat

