/- Versions in memory. -/
import Derived.Test.YthlmodafadfnfaaChainNum
import Derived.Test.YthlmodafadfnfaaXMark
import Derived.Maps.AppendAt
namespace Go.Proofs.Ythlmodafadfnfaa
open Go.ChangeShapes Go.WideShapes Go.ChangeAt Go.RowKit

/-- A version lies at a place: its numbers, and the slice of its deps. -/
structure VAt (w : World) (b p : Nat) (v : V) (da : Option Addr) (dc : Nat) : Prop where
  c0 : w.cell? ⟨b, p, none⟩ = some (.int .i64 v.k)
  c1 : w.cell? ⟨b, p + 1, none⟩ = some (.int .i64 v.t)
  c2 : w.cell? ⟨b, p + 2, none⟩ = some (.int .i64 v.s)
  c3 : w.cell? ⟨b, p + 3, none⟩ = some (.int .i64 v.val)
  c4 : w.cell? ⟨b, p + 4, none⟩ = some (.int .i64 v.cl)
  c5 : w.cell? ⟨b, p + 5, none⟩ = some (.int .i64 v.ca)
  c6 : w.cell? ⟨b, p + 6, none⟩ = some (.slice da v.ds.length dc)
  ds : Deps w da v.ds
  len : v.ds.length ≤ 1099511627776
theorem VAt.below {w w' : World} {b p : Nat} {v : V} {da : Option Addr} {dc : Nat} (h : VAt w b p v da dc) (k : Below w.heap.size w w') : VAt w' b p v da dc := by
  have hb : b < w.heap.size := World.block_lt_of_cell? _ _ h.c0
  exact ⟨(k.cell (p := ⟨b, _, none⟩) hb).trans h.c0, (k.cell (p := ⟨b, _, none⟩) hb).trans h.c1, (k.cell (p := ⟨b, _, none⟩) hb).trans h.c2, (k.cell (p := ⟨b, _, none⟩) hb).trans h.c3, (k.cell (p := ⟨b, _, none⟩) hb).trans h.c4, (k.cell (p := ⟨b, _, none⟩) hb).trans h.c5, (k.cell (p := ⟨b, _, none⟩) hb).trans h.c6, h.ds.below k, h.len⟩
/-- A list of versions that lies in memory. -/
def Vers (w : World) (a : Option Addr) (vs : List V) : Prop :=
  vs = [] ∨ ∃ b o, a = some ⟨b, o, none⟩ ∧ b < w.heap.size ∧ ∀ i, (h : i < vs.length) → ∃ da dc, VAt w b (o + i * 7) vs[i] da dc
theorem Vers.below {w w' : World} {a : Option Addr} {vs : List V} (h : Vers w a vs) (k : Below w.heap.size w w') : Vers w' a vs := by
  rcases h with h | ⟨b, o, ha, hb, h⟩
  · exact .inl h
  · refine .inr ⟨b, o, ha, Nat.lt_of_lt_of_le hb k.size, fun i hi => ?_⟩
    obtain ⟨da, dc, h⟩ := h i hi
    exact ⟨da, dc, h.below k⟩
theorem Vers.at {w : World} {a : Option Addr} {vs : List V} (h : Vers w a vs) {k : Nat} (hk : k < vs.length) : ∃ b o da dc, a = some ⟨b, o, none⟩ ∧ b < w.heap.size ∧ VAt w b (o + k * 7) vs[k] da dc := by
  rcases h with h | ⟨b, o, ha, hb, h⟩
  · rw [h] at hk; simp at hk
  · obtain ⟨da, dc, h⟩ := h k hk
    exact ⟨b, o, da, dc, ha, hb, h⟩

/-- A version with the slice that its deps lie in. -/
structure XV where
  v : V
  p : Value
/-- Versions as cells, one behind the other. -/
def flat7 (xs : List XV) : List Value := xs.flatMap fun x => [.int .i64 x.v.k, .int .i64 x.v.t, .int .i64 x.v.s, .int .i64 x.v.val, .int .i64 x.v.cl, .int .i64 x.v.ca, x.p]
theorem flat7_nil : flat7 [] = [] := rfl
theorem flat7_cons (x : XV) (xs : List XV) : flat7 (x :: xs) = .int .i64 x.v.k :: .int .i64 x.v.t :: .int .i64 x.v.s :: .int .i64 x.v.val :: .int .i64 x.v.cl :: .int .i64 x.v.ca :: x.p :: flat7 xs := rfl
theorem flat7_append (xs ys : List XV) : flat7 (xs ++ ys) = flat7 xs ++ flat7 ys := by simp [flat7]
theorem flat7_snoc (xs : List XV) (x : XV) : flat7 (xs ++ [x]) = flat7 xs ++ [.int .i64 x.v.k, .int .i64 x.v.t, .int .i64 x.v.s, .int .i64 x.v.val, .int .i64 x.v.cl, .int .i64 x.v.ca, x.p] := by rw [flat7_append]; rfl
theorem flat7_len (xs : List XV) : (flat7 xs).length = xs.length * 7 := by
  induction xs with
  | nil => rfl
  | cons x xs ih => rw [flat7_cons]; simp only [List.length_cons, ih]; omega
theorem flat7_at (xs : List XV) : ∀ k, (hk : k < xs.length) → (flat7 xs)[k * 7]? = some (.int .i64 xs[k].v.k) ∧ (flat7 xs)[k * 7 + 1]? = some (.int .i64 xs[k].v.t) ∧ (flat7 xs)[k * 7 + 2]? = some (.int .i64 xs[k].v.s) ∧ (flat7 xs)[k * 7 + 3]? = some (.int .i64 xs[k].v.val) ∧ (flat7 xs)[k * 7 + 4]? = some (.int .i64 xs[k].v.cl) ∧ (flat7 xs)[k * 7 + 5]? = some (.int .i64 xs[k].v.ca) ∧ (flat7 xs)[k * 7 + 6]? = some xs[k].p := by
  induction xs with
  | nil => intro k hk; cases hk
  | cons x xs ih =>
    intro k hk
    rw [flat7_cons]
    cases k with
    | zero => simp
    | succ k =>
      have := ih k (by simpa using hk)
      rw [show (k + 1) * 7 = k * 7 + 1 + 1 + 1 + 1 + 1 + 1 + 1 by omega]
      simpa using this
theorem flat7_take (xs : List XV) (k : Nat) : (flat7 xs).take (k * 7) = flat7 (xs.take k) := by
  induction xs generalizing k with
  | nil => simp [flat7]
  | cons x xs ih =>
    cases k with
    | zero => simp [flat7]
    | succ k => rw [show (k + 1) * 7 = k * 7 + 1 + 1 + 1 + 1 + 1 + 1 + 1 by omega, flat7_cons]; simp [ih, flat7_cons]
theorem flat7_drop (xs : List XV) (k : Nat) : (flat7 xs).drop (k * 7) = flat7 (xs.drop k) := by
  induction xs generalizing k with
  | nil => simp [flat7]
  | cons x xs ih =>
    cases k with
    | zero => simp
    | succ k => rw [show (k + 1) * 7 = k * 7 + 1 + 1 + 1 + 1 + 1 + 1 + 1 by omega, flat7_cons]; simp [ih]
/-- The deps of a version lie where its slice says. -/
def GoodX (w : World) (x : XV) : Prop := ∃ da dc, x.p = .slice da x.v.ds.length dc ∧ Deps w da x.v.ds ∧ x.v.ds.length ≤ 1099511627776
theorem GoodX.below {w w' : World} {x : XV} (h : GoodX w x) (k : Below w.heap.size w w') : GoodX w' x := by
  obtain ⟨da, dc, h1, h2, h3⟩ := h
  exact ⟨da, dc, h1, h2.below k, h3⟩
theorem GoodX.one {w : World} {x : XV} (h : GoodX w x) : x.p.oneCell' = true := by
  obtain ⟨da, dc, h1, _⟩ := h
  rw [h1]; rfl
theorem flat7_one {xs : List XV} (h : ∀ x ∈ xs, x.p.oneCell' = true) : ∀ u ∈ flat7 xs, u.oneCell' = true := by
  intro u hu
  simp only [flat7, List.mem_flatMap] at hu
  obtain ⟨x, hx, hu⟩ := hu
  simp only [List.mem_cons, List.not_mem_nil, or_false] at hu
  rcases hu with rfl | rfl | rfl | rfl | rfl | rfl | rfl
  all_goals first | rfl | exact h x hx
theorem addr_add (b o j : Nat) : (Addr.mk b o none).add j = ⟨b, o + j, none⟩ := by by_cases h : j = 0 <;> simp [Addr.add, h]
/-- Cells that hold versions, with their slices: versions in memory. -/
theorem vers_of_cells {w : World} {b o : Nat} {xs : List XV} (hb : b < w.heap.size) (h : ∀ (j : Nat) (u : Value), (flat7 xs)[j]? = some u → w.cell? ⟨b, o + j, none⟩ = some u) (g : ∀ x ∈ xs, GoodX w x) : Vers w (some ⟨b, o, none⟩) (xs.map XV.v) := by
  refine .inr ⟨b, o, rfl, hb, fun i hi => ?_⟩
  simp only [List.length_map] at hi
  obtain ⟨f0, f1, f2, f3, f4, f5, f6⟩ := flat7_at xs i hi
  obtain ⟨da, dc, h1, h2, h3⟩ := g xs[i] (List.getElem_mem hi)
  rw [h1] at f6
  simp only [List.getElem_map]
  exact ⟨da, dc, h _ _ f0, h _ _ f1, h _ _ f2, h _ _ f3, h _ _ f4, h _ _ f5, h _ _ f6, h2, h3⟩
/-- A row of the call's own that holds versions. -/
theorem vers_of_row {w : World} {base : Nat} {e : TypeId} {v : Value} {xs : List XV} (h : w.ownsRow base e 7 v xs.length (flat7 xs)) (g : ∀ x ∈ xs, GoodX w x) : ∃ a cap, v = .slice a xs.length cap ∧ Vers w a (xs.map XV.v) ∧ (∀ x, a = some x → base ≤ x.block) := by
  rcases h.2 with ⟨rfl, hn⟩ | ⟨b, cap, cur, rfl, hb, hg, hr⟩
  · refine ⟨none, 0, by rw [hn], .inl ?_, fun x hx => (by cases hx)⟩
    rw [List.length_eq_zero_iff.1 hn]; rfl
  · refine ⟨_, cap, rfl, vers_of_cells (Array.getElem?_eq_some_iff.1 hg).1 (fun j u hj => ?_) g, fun x hx => by cases hx; exact hb⟩
    have := h.cells (g := b) rfl j u hj
    rwa [addr_add] at this
/-- Versions in memory, told with their slices. -/
theorem Vers.told {w : World} {a : Option Addr} {vs : List V} (h : Vers w a vs) : ∃ xs : List XV, xs.map XV.v = vs ∧ (∀ x ∈ xs, GoodX w x) ∧ (vs = [] ∨ ∃ b o, a = some ⟨b, o, none⟩ ∧ b < w.heap.size ∧ ∀ (j : Nat) (u : Value), (flat7 xs)[j]? = some u → w.cell? ⟨b, o + j, none⟩ = some u) := by
  rcases h with rfl | ⟨b, o, ha, hb, h⟩
  · exact ⟨[], rfl, fun _ h => (by cases h), .inl rfl⟩
  · suffices H : ∀ (us : List V) (q : Nat), (∀ i, (hi : i < us.length) → ∃ da dc, VAt w b (q + i * 7) us[i] da dc) → ∃ xs : List XV, xs.map XV.v = us ∧ (∀ x ∈ xs, GoodX w x) ∧ ∀ (j : Nat) (u : Value), (flat7 xs)[j]? = some u → w.cell? ⟨b, q + j, none⟩ = some u by
      obtain ⟨xs, h1, h2, h3⟩ := H vs o h
      exact ⟨xs, h1, h2, .inr ⟨b, o, ha, hb, h3⟩⟩
    intro us
    induction us with
    | nil => intro q _; exact ⟨[], rfl, fun _ h => (by cases h), fun j u hu => by simp [flat7] at hu⟩
    | cons y ys ih =>
      intro q hq
      obtain ⟨da, dc, hy⟩ := hq 0 (by simp)
      simp only [Nat.zero_mul, Nat.add_zero, List.getElem_cons_zero] at hy
      obtain ⟨xs, h1, h2, h3⟩ := ih (q + 7) fun i hi => by
        have := hq (i + 1) (by simpa using hi)
        rw [show q + (i + 1) * 7 = q + 7 + i * 7 by omega] at this
        exact this
      refine ⟨⟨y, .slice da y.ds.length dc⟩ :: xs, by simp [h1], fun x hx => ?_, fun j u hj => ?_⟩
      · rcases List.mem_cons.1 hx with rfl | hx
        · exact ⟨da, dc, rfl, hy.ds, hy.len⟩
        · exact h2 x hx
      · rw [flat7_cons] at hj
        match j with
        | 0 => simp at hj; subst hj; exact hy.c0
        | 1 => simp at hj; subst hj; exact hy.c1
        | 2 => simp at hj; subst hj; exact hy.c2
        | 3 => simp at hj; subst hj; exact hy.c3
        | 4 => simp at hj; subst hj; exact hy.c4
        | 5 => simp at hj; subst hj; exact hy.c5
        | 6 => simp at hj; subst hj; exact hy.c6
        | j + 7 =>
          have := h3 j u (by simpa using hj)
          rwa [show q + 7 + j = q + (j + 7) by omega] at this

/-- Two slices of the call's own that lie in no block together. -/
def ApartV (a b : Value) : Prop := ∀ j, a.ownBlock = some j → b.ownBlock ≠ some j
/-- Versions of the call's own: their row, and the rows of their deps, all apart. -/
structure OwnV (w : World) (base : Nat) (v : Value) (ys : List XV) : Prop where
  row : w.ownsRow base 28 7 v ys.length (flat7 ys)
  deps : ∀ y ∈ ys, w.ownsRow base 51 3 y.p y.v.ds.length (flat3 y.v.ds) ∧ y.v.ds.length ≤ 1099511627776
  apart : ys.Pairwise fun a b => ApartV a.p b.p
theorem good_of_row {w : World} {base : Nat} {x : XV} (h : w.ownsRow base 51 3 x.p x.v.ds.length (flat3 x.v.ds)) (hl : x.v.ds.length ≤ 1099511627776) : GoodX w x := by
  obtain ⟨a, cap, h1, h2, _⟩ := deps_of_row h
  exact ⟨a, cap, h1, h2, hl⟩
theorem OwnV.good {w : World} {base : Nat} {v : Value} {ys : List XV} (h : OwnV w base v ys) : ∀ y ∈ ys, GoodX w y := fun y hy => good_of_row (h.deps y hy).1 (h.deps y hy).2
theorem OwnV.vers {w : World} {base : Nat} {v : Value} {ys : List XV} (h : OwnV w base v ys) : ∃ a cap, v = .slice a ys.length cap ∧ Vers w a (ys.map XV.v) ∧ (∀ x, a = some x → base ≤ x.block) := vers_of_row h.row h.good
theorem OwnV.below {w w' : World} {base : Nat} {v : Value} {ys : List XV} (h : OwnV w base v ys) {m : Nat} (k : Below m w w') (hm : w.heap.size ≤ m) : OwnV w' base v ys :=
  ⟨row_below h.row k hm, fun y hy => ⟨row_below (h.deps y hy).1 k hm, (h.deps y hy).2⟩, h.apart⟩
theorem OwnV.mono {w : World} {base base' : Nat} {v : Value} {ys : List XV} (h : OwnV w base v ys) (hb : base' ≤ base) : OwnV w base' v ys :=
  ⟨row_mono h.row hb, fun y hy => ⟨row_mono (h.deps y hy).1 hb, (h.deps y hy).2⟩, h.apart⟩
theorem OwnV.nil (w : World) (base : Nat) : OwnV w base (.slice none 0 0) [] := ⟨World.ownsRow_nil _ _ _ _, fun _ h => (by cases h), .nil⟩
theorem OwnV.alloc {w : World} {base : Nat} {v : Value} {ys : List XV} (h : OwnV w base v ys) (o : Obj) : OwnV (w.alloc o) base v ys := h.below ((Below.refl _ w).alloc (Nat.le_refl _) o) (Nat.le_refl _)
/-- A row of versions and one of deps lie in two blocks. -/
theorem row_other {w : World} {b1 b2 n1 n2 : Nat} {v p : Value} {s1 s2 : Nat} {xs ys : List Value} (h : w.ownsRow b1 28 s1 v n1 xs) (k : w.ownsRow b2 51 s2 p n2 ys) : p.ownBlock = none ∨ p.ownBlock ≠ v.ownBlock := by
  rcases k.2 with ⟨rfl, _⟩ | ⟨g, cap, cur, rfl, _, hg, _⟩
  · exact .inl rfl
  · refine .inr fun e => ?_
    rcases h.2 with ⟨rfl, _⟩ | ⟨g', cap', cur', rfl, _, hg', _⟩
    · simp [Value.ownBlock] at e
    · simp [Value.ownBlock] at e
      subst e
      rw [hg] at hg'
      simp at hg'
/-- One more is appended, whose deps are new. -/
theorem OwnV.snoc {w w' : World} {base : Nat} {v v' : Value} {ys : List XV} {y : XV} (h : OwnV w base v ys) (hg : w.grownBy w' v.ownBlock) (hrow : w'.ownsRow base 28 7 v' (ys.length + 1) (flat7 ys ++ flat7 [y])) (hd : w.ownsRow base 51 3 y.p y.v.ds.length (flat3 y.v.ds)) (hl : y.v.ds.length ≤ 1099511627776) (ha : ∀ x ∈ ys, ApartV x.p y.p) : OwnV w' base v' (ys ++ [y]) := by
  refine ⟨by rw [flat7_append, List.length_append]; exact hrow, fun x hx => ?_, List.pairwise_append.2 ⟨h.apart, List.pairwise_singleton _ _, fun a ha' b hb => by simp at hb; subst hb; exact ha a ha'⟩⟩
  rcases List.mem_append.1 hx with hx | hx
  · exact ⟨(h.deps x hx).1.kept hg (row_other h.row (h.deps x hx).1), (h.deps x hx).2⟩
  · simp at hx; subst hx
    exact ⟨hd.kept hg (row_other h.row hd), hl⟩
/-- Others are appended, whose deps are new. -/
theorem OwnV.append {w w' : World} {base : Nat} {v v' : Value} {ys zs : List XV} (h : OwnV w base v ys) (hg : w.grownBy w' v.ownBlock) (hrow : w'.ownsRow base 28 7 v' (ys.length + zs.length) (flat7 ys ++ flat7 zs)) (hd : ∀ y ∈ zs, w.ownsRow base 51 3 y.p y.v.ds.length (flat3 y.v.ds) ∧ y.v.ds.length ≤ 1099511627776) (hz : zs.Pairwise fun a b => ApartV a.p b.p) (ha : ∀ x ∈ ys, ∀ y ∈ zs, ApartV x.p y.p) : OwnV w' base v' (ys ++ zs) := by
  refine ⟨by rw [flat7_append, List.length_append]; exact hrow, fun x hx => ?_, List.pairwise_append.2 ⟨h.apart, hz, ha⟩⟩
  rcases List.mem_append.1 hx with hx | hx
  · exact ⟨(h.deps x hx).1.kept hg (row_other h.row (h.deps x hx).1), (h.deps x hx).2⟩
  · exact ⟨(hd x hx).1.kept hg (row_other h.row (hd x hx).1), (hd x hx).2⟩
/-- What lay ahead and what is new are apart. -/
theorem apart_new {w w' : World} {b1 b2 n1 n2 : Nat} {e1 e2 : TypeId} {s1 s2 : Nat} {p q : Value} {xs ys : List Value} (h : w.ownsRow b1 e1 s1 p n1 xs) (k : w'.ownsRow b2 e2 s2 q n2 ys) (hb : w.heap.size ≤ b2) : ApartV p q := fun j hj hq => by
  have := (h.lt j hj).2; have := (k.lt j hq).1; omega
theorem infoVer : (Try.prog.info? 28).map (fun i => (i.zero, i.size, i.bytes)) = some (some (.agg #[.int .i64 0, .int .i64 0, .int .i64 0, .int .i64 0, .int .i64 0, .int .i64 0, .slice none 0 0]), 7, 72) := by kernel_rfl
/-- Seven cells of a new block. -/
theorem cells7 {w : World} {B : Nat} {x : XV} {T : TypeId} (h : Blk w B #[.int .i64 x.v.k, .int .i64 x.v.t, .int .i64 x.v.s, .int .i64 x.v.val, .int .i64 x.v.cl, .int .i64 x.v.ca, x.p] T) : ∀ (j : Nat) (u : Value), (flat7 [x])[j]? = some u → w.cell? ((Addr.mk B 0 none).add j) = some u := by
  intro j u hj
  rw [addr_add, Nat.zero_add, h.cell]
  simpa [flat7] using hj
end Go.Proofs.Ythlmodafadfnfaa
