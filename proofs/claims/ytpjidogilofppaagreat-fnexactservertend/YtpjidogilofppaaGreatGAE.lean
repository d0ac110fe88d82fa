/- 3 texts in one: Table, Flat3, SDepsOk. -/
import Derived.Test.YtpjidogilofppaaGreatWithA
import Derived.Test.YtpjidogilofppaaGreatWithB
import Derived.Test.YtpjidogilofppaaGreatWithC
/- Tables of deps: contracts. -/
namespace Go.Proofs.YtpjidogilofppaaGreat
open Go.ChangeShapes Go.WideShapes Go.ChangeAt Go.RowKit

/-- A dep as a value. -/
abbrev depV (k t s : Int) : Value := .agg #[.int .i64 k, .int .i64 t, .int .i64 s]
/-- A table as cells. -/
def tabA (f : Tbl) : Array Value := #[.bool (f 0).isSome, .int .i64 ((f 0).getD 0), .bool (f 1).isSome, .int .i64 ((f 1).getD 0), .bool (f 2).isSome, .int .i64 ((f 2).getD 0), .bool (f 3).isSome, .int .i64 ((f 3).getD 0), .bool (f 4).isSome, .int .i64 ((f 4).getD 0), .bool (f 5).isSome, .int .i64 ((f 5).getD 0)]
theorem tabA_lit (f : Tbl) : ∃ (b0 b1 b2 b3 b4 b5 : Bool) (c0 c1 c2 c3 c4 c5 : Int), tabA f = #[.bool b0, .int .i64 c0, .bool b1, .int .i64 c1, .bool b2, .int .i64 c2, .bool b3, .int .i64 c3, .bool b4, .int .i64 c4, .bool b5, .int .i64 c5] :=
  ⟨_, _, _, _, _, _, _, _, _, _, _, _, rfl⟩
theorem tabA_congr {f g : Tbl} (h : ∀ k, 0 ≤ k → k ≤ 5 → f k = g k) : tabA f = tabA g := by
  unfold tabA
  rw [h 0 (by omega) (by omega), h 1 (by omega) (by omega), h 2 (by omega) (by omega), h 3 (by omega) (by omega), h 4 (by omega) (by omega), h 5 (by omega) (by omega)]
theorem tabA_none : tabA (fun _ => none) = #[.bool false, .int .i64 0, .bool false, .int .i64 0, .bool false, .int .i64 0, .bool false, .int .i64 0, .bool false, .int .i64 0, .bool false, .int .i64 0] := rfl

theorem with_cell (o : Option Int) (c : Int) : (omax o (some c)).isSome = true ∧ (omax o (some c)).getD 0 = if o.isSome = true ∧ ¬ o.getD 0 < c then o.getD 0 else c := by
  cases o with
  | none => simp [omax]
  | some x => simp only [omax, Option.isSome_some, Option.getD_some, true_and]; split <;> simp_all
theorem tabA_with0 (f : Tbl) (t s : Int) : tabA (withT f ⟨0, t, s⟩) = #[.bool true, .int .i64 (if (f 0).isSome = true ∧ ¬ (f 0).getD 0 < t * 4 + s then (f 0).getD 0 else t * 4 + s), .bool (f 1).isSome, .int .i64 ((f 1).getD 0), .bool (f 2).isSome, .int .i64 ((f 2).getD 0), .bool (f 3).isSome, .int .i64 ((f 3).getD 0), .bool (f 4).isSome, .int .i64 ((f 4).getD 0), .bool (f 5).isSome, .int .i64 ((f 5).getD 0)] := by
  have h := with_cell (f 0) (t * 4 + s)
  simp [tabA, withT, codeD, h.1, h.2]
theorem tabA_with1 (f : Tbl) (t s : Int) : tabA (withT f ⟨1, t, s⟩) = #[.bool (f 0).isSome, .int .i64 ((f 0).getD 0), .bool true, .int .i64 (if (f 1).isSome = true ∧ ¬ (f 1).getD 0 < t * 4 + s then (f 1).getD 0 else t * 4 + s), .bool (f 2).isSome, .int .i64 ((f 2).getD 0), .bool (f 3).isSome, .int .i64 ((f 3).getD 0), .bool (f 4).isSome, .int .i64 ((f 4).getD 0), .bool (f 5).isSome, .int .i64 ((f 5).getD 0)] := by
  have h := with_cell (f 1) (t * 4 + s)
  simp [tabA, withT, codeD, h.1, h.2]
theorem tabA_with2 (f : Tbl) (t s : Int) : tabA (withT f ⟨2, t, s⟩) = #[.bool (f 0).isSome, .int .i64 ((f 0).getD 0), .bool (f 1).isSome, .int .i64 ((f 1).getD 0), .bool true, .int .i64 (if (f 2).isSome = true ∧ ¬ (f 2).getD 0 < t * 4 + s then (f 2).getD 0 else t * 4 + s), .bool (f 3).isSome, .int .i64 ((f 3).getD 0), .bool (f 4).isSome, .int .i64 ((f 4).getD 0), .bool (f 5).isSome, .int .i64 ((f 5).getD 0)] := by
  have h := with_cell (f 2) (t * 4 + s)
  simp [tabA, withT, codeD, h.1, h.2]
theorem tabA_with3 (f : Tbl) (t s : Int) : tabA (withT f ⟨3, t, s⟩) = #[.bool (f 0).isSome, .int .i64 ((f 0).getD 0), .bool (f 1).isSome, .int .i64 ((f 1).getD 0), .bool (f 2).isSome, .int .i64 ((f 2).getD 0), .bool true, .int .i64 (if (f 3).isSome = true ∧ ¬ (f 3).getD 0 < t * 4 + s then (f 3).getD 0 else t * 4 + s), .bool (f 4).isSome, .int .i64 ((f 4).getD 0), .bool (f 5).isSome, .int .i64 ((f 5).getD 0)] := by
  have h := with_cell (f 3) (t * 4 + s)
  simp [tabA, withT, codeD, h.1, h.2]
theorem tabA_with4 (f : Tbl) (t s : Int) : tabA (withT f ⟨4, t, s⟩) = #[.bool (f 0).isSome, .int .i64 ((f 0).getD 0), .bool (f 1).isSome, .int .i64 ((f 1).getD 0), .bool (f 2).isSome, .int .i64 ((f 2).getD 0), .bool (f 3).isSome, .int .i64 ((f 3).getD 0), .bool true, .int .i64 (if (f 4).isSome = true ∧ ¬ (f 4).getD 0 < t * 4 + s then (f 4).getD 0 else t * 4 + s), .bool (f 5).isSome, .int .i64 ((f 5).getD 0)] := by
  have h := with_cell (f 4) (t * 4 + s)
  simp [tabA, withT, codeD, h.1, h.2]
theorem tabA_with5 (f : Tbl) (t s : Int) : tabA (withT f ⟨5, t, s⟩) = #[.bool (f 0).isSome, .int .i64 ((f 0).getD 0), .bool (f 1).isSome, .int .i64 ((f 1).getD 0), .bool (f 2).isSome, .int .i64 ((f 2).getD 0), .bool (f 3).isSome, .int .i64 ((f 3).getD 0), .bool (f 4).isSome, .int .i64 ((f 4).getD 0), .bool true, .int .i64 (if (f 5).isSome = true ∧ ¬ (f 5).getD 0 < t * 4 + s then (f 5).getD 0 else t * 4 + s)] := by
  have h := with_cell (f 5) (t * 4 + s)
  simp [tabA, withT, codeD, h.1, h.2]

theorem with_any (f : Tbl) (d : D) (w : World) (hd : okD d = true) :
    Calls Tryz.prog 258 #[.agg (tabA f), depV d.k d.t d.s] w fun e w' => e = .returned (.agg (tabA (withT f d))) ∧ Below w.heap.size w w' := by
  obtain ⟨k, t, s⟩ := d
  have hb := okD_bounds hd
  simp only at hb
  obtain ⟨h0, h5, t1, t2, s1, s2⟩ := hb
  have hk : k = 0 ∨ k = 1 ∨ k = 2 ∨ k = 3 ∨ k = 4 ∨ k = 5 := by omega
  have H : 0 ≤ t ∧ t ≤ 100000 ∧ -10 ≤ s ∧ s ≤ 100000 := by omega
  rcases hk with rfl | rfl | rfl | rfl | rfl | rfl
  · rw [tabA_with0]; exact with0 _ _ _ _ _ _ _ _ _ _ _ _ t s w H
  · rw [tabA_with1]; exact with1 _ _ _ _ _ _ _ _ _ _ _ _ t s w H
  · rw [tabA_with2]; exact with2 _ _ _ _ _ _ _ _ _ _ _ _ t s w H
  · rw [tabA_with3]; exact with3 _ _ _ _ _ _ _ _ _ _ _ _ t s w H
  · rw [tabA_with4]; exact with4 _ _ _ _ _ _ _ _ _ _ _ _ t s w H
  · rw [tabA_with5]; exact with5 _ _ _ _ _ _ _ _ _ _ _ _ t s w H

theorem iDep_any (d : D) (w : World) : Calls Tryz.prog 248 #[depV d.k d.t d.s] w fun e w' => e = .returned (.bool (okD d)) ∧ Below w.heap.size w w' := by
  obtain ⟨k, t, s⟩ := d
  rcases h : inB k 0 5 with _ | _
  · rw [okD_key (d := ⟨k, t, s⟩) h]
    go_enter Tryz.func248, Tryz.ntmps248
    go_wp2_with (first | (go_at_call 222; refine (iKey_any _ _).mono ?_; rintro e w' ⟨rfl, rfl⟩))
    go_ret
    exact ⟨rfl, (Below.refl _ _).alloc (Nat.le_refl _) _⟩
  · have e : okD ⟨k, t, s⟩ = okB t s := by unfold okD; rw [h]; rfl
    rw [e]
    clear e
    go_enter Tryz.func248, Tryz.ntmps248
    go_wp2_with (first | (go_at_call 222; refine (iKey_any _ _).mono ?_; rintro e w' ⟨rfl, rfl⟩) | (go_at_call 206; refine (iOk_any t s _).mono ?_; rintro e w1 ⟨rfl, hb⟩))
    go_ret
    exact ⟨rfl, ((Below.refl _ _).alloc (Nat.le_refl _) _).trans (hb.mono (by simp))⟩

/-- Deps that lie in memory, one behind the other. -/
def Deps (w : World) (a : Option Addr) (xs : List D) : Prop :=
  xs = [] ∨ ∃ b o, a = some ⟨b, o, none⟩ ∧ b < w.heap.size ∧ ∀ k, (hk : k < xs.length) → w.cell? ⟨b, o + k * 3, none⟩ = some (.int .i64 xs[k].k) ∧ w.cell? ⟨b, o + k * 3 + 1, none⟩ = some (.int .i64 xs[k].t) ∧ w.cell? ⟨b, o + k * 3 + 2, none⟩ = some (.int .i64 xs[k].s)
theorem Deps.below {w w' : World} {a : Option Addr} {xs : List D} (h : Deps w a xs) (k : Below w.heap.size w w') : Deps w' a xs := by
  rcases h with h | ⟨b, o, ha, hb, h⟩
  · exact .inl h
  · refine .inr ⟨b, o, ha, Nat.lt_of_lt_of_le hb k.size, fun i hi => ?_⟩
    exact ⟨(k.cell (p := ⟨b, _, none⟩) hb).trans (h i hi).1, (k.cell (p := ⟨b, _, none⟩) hb).trans (h i hi).2.1, (k.cell (p := ⟨b, _, none⟩) hb).trans (h i hi).2.2⟩
/-- One of the deps. -/
theorem Deps.at {w : World} {a : Option Addr} {xs : List D} (h : Deps w a xs) {k : Nat} (hk : k < xs.length) : ∃ b o, a = some ⟨b, o, none⟩ ∧ b < w.heap.size ∧ w.cell? ⟨b, o + k * 3, none⟩ = some (.int .i64 xs[k].k) ∧ w.cell? ⟨b, o + k * 3 + 1, none⟩ = some (.int .i64 xs[k].t) ∧ w.cell? ⟨b, o + k * 3 + 2, none⟩ = some (.int .i64 xs[k].s) := by
  rcases h with h | ⟨b, o, ha, hb, h⟩
  · rw [h] at hk; simp at hk
  · exact ⟨b, o, ha, hb, h k hk⟩
end Go.Proofs.YtpjidogilofppaaGreat

/- Deps as cells. -/
namespace Go.Proofs.YtpjidogilofppaaGreat
open Go.ChangeShapes Go.WideShapes Go.ChangeAt Go.RowKit

/-- Deps as cells, one behind the other. -/
def flat3 (xs : List D) : List Value := xs.flatMap fun d => [.int .i64 d.k, .int .i64 d.t, .int .i64 d.s]
theorem flat3_snoc (xs : List D) (d : D) : flat3 (xs ++ [d]) = flat3 xs ++ [.int .i64 d.k, .int .i64 d.t, .int .i64 d.s] := by simp [flat3]
theorem flat3_append (xs ys : List D) : flat3 (xs ++ ys) = flat3 xs ++ flat3 ys := by simp [flat3]
theorem flat3_len (xs : List D) : (flat3 xs).length = xs.length * 3 := by
  induction xs with
  | nil => rfl
  | cons x xs ih => simp [flat3] at *; omega
theorem flat3_at (xs : List D) : ∀ k, (hk : k < xs.length) → (flat3 xs)[k * 3]? = some (.int .i64 xs[k].k) ∧ (flat3 xs)[k * 3 + 1]? = some (.int .i64 xs[k].t) ∧ (flat3 xs)[k * 3 + 2]? = some (.int .i64 xs[k].s) := by
  induction xs with
  | nil => intro k hk; cases hk
  | cons x xs ih =>
    intro k hk
    have e : flat3 (x :: xs) = .int .i64 x.k :: .int .i64 x.t :: .int .i64 x.s :: flat3 xs := rfl
    cases k with
    | zero => rw [e]; simp
    | succ k =>
      have := ih k (by simpa using hk)
      rw [e, show (k + 1) * 3 = k * 3 + 1 + 1 + 1 by omega]
      simpa using this
theorem flat3_one (xs : List D) : ∀ u ∈ flat3 xs, u.oneCell' = true := by
  intro u hu
  simp only [flat3, List.mem_flatMap] at hu
  obtain ⟨x, _, hx⟩ := hu
  simp at hx
  rcases hx with rfl | rfl | rfl <;> rfl
/-- A row of the call's own that holds deps. -/
theorem deps_of_row {w : World} {base : Nat} {e : TypeId} {v : Value} {xs : List D} (h : w.ownsRow base e 3 v xs.length (flat3 xs)) : ∃ a cap, v = .slice a xs.length cap ∧ Deps w a xs ∧ (∀ x, a = some x → base ≤ x.block) := by
  rcases h.2 with ⟨rfl, hn⟩ | ⟨g, cap, cur, rfl, hb, hg, hr⟩
  · refine ⟨none, 0, by rw [hn], .inl (List.length_eq_zero_iff.1 hn), fun x hx => by cases hx⟩
  · refine ⟨_, cap, rfl, .inr ⟨g, 0, rfl, (Array.getElem?_eq_some_iff.1 hg).1, fun k hk => ?_⟩, fun x hx => by cases hx; exact hb⟩
    have c := h.cellAt
    have f := flat3_at xs k hk
    refine ⟨?_, ?_, ?_⟩
    · rw [c (0 + k * 3) (by omega)]; simpa using f.1
    · rw [c (0 + k * 3 + 1) (by omega)]; simpa using f.2.1
    · rw [c (0 + k * 3 + 2) (by omega)]; simpa using f.2.2
/-- The cells of deps that lie in memory. -/
theorem deps_cells {w : World} {b o : Nat} {xs : List D} (h : Deps w (some ⟨b, o, none⟩) xs) : ∀ (j : Nat) (u : Value), (flat3 xs)[j]? = some u → w.cell? ((Addr.mk b o none).add j) = some u := by
  intro j u hj
  have hlt : j < (flat3 xs).length := (List.getElem?_eq_some_iff.1 hj).1
  rw [flat3_len] at hlt
  have ha : (Addr.mk b o none).add j = ⟨b, o + j, none⟩ := by by_cases h : j = 0 <;> simp [Addr.add, h]
  rw [ha]
  have hk : j / 3 < xs.length := by omega
  obtain ⟨b', o', he, _, c0, c1, c2⟩ := h.at hk
  simp at he
  obtain ⟨rfl, rfl⟩ := he
  obtain ⟨f0, f1, f2⟩ := flat3_at xs (j / 3) hk
  have hm : j % 3 = 0 ∨ j % 3 = 1 ∨ j % 3 = 2 := by omega
  rcases hm with hm | hm | hm
  · rw [show j / 3 * 3 = j by omega] at c0 f0
    rw [c0, ← f0, hj]
  · rw [show o + j / 3 * 3 + 1 = o + j by omega] at c1
    rw [show j / 3 * 3 + 1 = j by omega] at f1
    rw [c1, ← f1, hj]
  · rw [show o + j / 3 * 3 + 2 = o + j by omega] at c2
    rw [show j / 3 * 3 + 2 = j by omega] at f2
    rw [c2, ← f2, hj]
theorem row_below {w w' : World} {base : Nat} {e : TypeId} {size : Nat} {v : Value} {n : Nat} {xs : List Value} (h : w.ownsRow base e size v n xs) {m : Nat} (k : Below m w w') (hm : w.heap.size ≤ m) : w'.ownsRow base e size v n xs := by
  refine ⟨h.1, ?_⟩
  rcases h.2 with hn | ⟨g, cap, cur, rfl, hb, hg, rest⟩
  · exact .inl hn
  · exact .inr ⟨g, cap, cur, rfl, hb, (k.block g (by have := (Array.getElem?_eq_some_iff.1 hg).1; omega)).trans hg, rest⟩
theorem row_mono {w : World} {base base' : Nat} {e : TypeId} {size : Nat} {v : Value} {n : Nat} {xs : List Value} (h : w.ownsRow base e size v n xs) (hb : base' ≤ base) : w.ownsRow base' e size v n xs := by
  refine ⟨h.1, ?_⟩
  rcases h.2 with hn | ⟨g, cap, cur, rfl, hb', rest⟩
  · exact .inl hn
  · exact .inr ⟨g, cap, cur, rfl, by omega, rest⟩
/-- A row of the call's own is written out. -/
theorem row_slice {w : World} {base : Nat} {e : TypeId} {size : Nat} {v : Value} {n : Nat} {xs : List Value} (h : w.ownsRow base e size v n xs) : ∃ a cap, v = .slice a n cap ∧ ∀ x, a = some x → base ≤ x.block := by
  rcases h.2 with ⟨rfl, hn⟩ | ⟨g, cap, cur, rfl, hb, _⟩
  · exact ⟨none, 0, by rw [hn], fun x hx => by cases hx⟩
  · exact ⟨_, cap, rfl, fun x hx => by cases hx; exact hb⟩

theorem infoDep : (Tryz.prog.info? 116).map (fun i => (i.zero, i.size, i.bytes)) = some (some (.agg #[.int .i64 0, .int .i64 0, .int .i64 0]), 3, 24) := by kernel_rfl

theorem fold_with (g : Tbl) (n : Nat) : ∀ (i : Int) (f : Tbl) (k : Int), ((lstFrom g i n).foldl withT f) k = if i ≤ k ∧ k < i + n then omax (f k) (g k) else f k := by
  induction n with
  | zero => intro i f k; rw [lstFrom, if_neg (by omega)]; rfl
  | succ n ih =>
    intro i f k
    rw [lstFrom]
    rcases hg : g i with _ | c
    · rw [ih]
      by_cases h : k = i
      · subst h; rw [if_neg (by omega), if_pos (by omega), hg, omax_none]
      · by_cases h2 : i ≤ k ∧ k < i + (n + 1 : Nat)
        · rw [if_pos (by omega), if_pos h2]
        · rw [if_neg (by omega), if_neg h2]
    · simp only [List.foldl_cons]
      rw [ih]
      have hcd : codeD ⟨i, c / 4, c % 4⟩ = c := by simp only [codeD]; omega
      by_cases h : i = k
      · subst h; rw [if_neg (by omega), if_pos (by omega)]; simp only [withT]; rw [if_pos trivial, hcd, hg]
      · have hw : withT f ⟨i, c / 4, c % 4⟩ k = f k := by simp only [withT]; rw [if_neg h]
        by_cases h2 : i ≤ k ∧ k < i + (n + 1 : Nat)
        · rw [if_pos (by omega), if_pos h2, hw]
        · rw [if_neg (by omega), if_neg h2, hw]
theorem fold_join (f g : Tbl) : tabA ((lst g).foldl withT f) = tabA (joinT f g) := by
  refine tabA_congr fun k h0 h5 => ?_
  unfold lst
  rw [fold_with, if_pos (by omega)]; rfl
end Go.Proofs.YtpjidogilofppaaGreat

/- The specification's DepsOk. -/
namespace Go.Proofs.YtpjidogilofppaaGreat
open Go.ChangeShapes Go.WideShapes Go.ChangeAt Go.RowKit

/-- A world of which S is known. -/
structure Wof (S : World → Prop) where
  W : World
  h : S W
/-- A region that draws its order, walked once, where all its operations keep S. -/
theorem wp_region_class {S : World → Prop} {P : Program} {id : Nat} {Q : Exit → Act → World → Prop} {a : Act} {w : World} {l : List Oper} (hm : P.follows .mixedOrders = true) (hB : Region.lexB .any l.toArray = true) (hS : S w.drew)
    (h : wpQuiet P l.toArray (fun w' => ∃ n : Wof S, w' = n.W) (fun a' => ∀ w', (∃ n : Wof S, w' = n.W) → Q .normal a' w') l a) : (Code.region id l.toArray true).wp P Q a w :=
  wp_region_quiet (C := fun w' => ∃ n : Wof S, w' = n.W) hm hB ⟨⟨_, hS⟩, rfl⟩ h
/-- A call that makes memory, within such a region. -/
theorem Calls.inClass {S : World → Prop} {P : Program} {f : FuncId} {args : Array Value} {v : Value} {n : Wof S} (h : Calls P f args n.W fun e w' => e = .returned v ∧ Below n.W.heap.size n.W w') (k : ∀ {w w' : World}, S w → Below w.heap.size w w' → S w') :
    Calls P f args n.W fun e w' => e = .returned v ∧ ∃ m : Wof S, w' = m.W :=
  h.mono fun _ w' ⟨he, hb⟩ => ⟨he, ⟨w', k n.h hb⟩, rfl⟩
theorem Calls.inClassSame {S : World → Prop} {P : Program} {f : FuncId} {args : Array Value} {v : Value} {n : Wof S} (h : Calls P f args n.W fun e w' => e = .returned v ∧ w' = n.W) :
    Calls P f args n.W fun e w' => e = .returned v ∧ ∃ m : Wof S, w' = m.W :=
  h.mono fun _ _ ⟨he, hb⟩ => ⟨he, n, hb⟩

/-- What is known in a round: one dep, and the key ahead of it. -/
def InD (w0 : World) (b x y : Nat) (dk dt ds pk : Int) (W : World) : Prop :=
  Below w0.heap.size w0 W ∧ b < W.heap.size ∧ W.cell? ⟨b, x, none⟩ = some (.int .i64 dk) ∧ W.cell? ⟨b, x + 1, none⟩ = some (.int .i64 dt) ∧ W.cell? ⟨b, x + 2, none⟩ = some (.int .i64 ds) ∧ W.cell? ⟨b, y, none⟩ = some (.int .i64 pk)
theorem InD.below {w0 w w' : World} {b x y : Nat} {dk dt ds pk : Int} (h : InD w0 b x y dk dt ds pk w) (d : Below w.heap.size w w') : InD w0 b x y dk dt ds pk w' := by
  obtain ⟨h1, h4, h6, h7, h8, h9⟩ := h
  exact ⟨h1.trans (d.mono h1.size), Nat.lt_of_lt_of_le h4 d.size, (d.cell (p := ⟨b, _, none⟩) h4).trans h6, (d.cell (p := ⟨b, _, none⟩) h4).trans h7, (d.cell (p := ⟨b, _, none⟩) h4).trans h8, (d.cell (p := ⟨b, _, none⟩) h4).trans h9⟩
theorem InD.drew {w0 w : World} {b x y : Nat} {dk dt ds pk : Int} (h : InD w0 b x y dk dt ds pk w) : InD w0 b x y dk dt ds pk w.drew := h.below (Below.refl _ _).drew
theorem InD.rules {w0 : World} {b x y : Nat} {dk dt ds pk : Int} : (∀ n : Wof (InD w0 b x y dk dt ds pk), n.W.cell? ⟨b, x, none⟩ = some (.int .i64 dk)) ∧ (∀ n : Wof (InD w0 b x y dk dt ds pk), n.W.cell? ⟨b, x + 1, none⟩ = some (.int .i64 dt)) ∧ (∀ n : Wof (InD w0 b x y dk dt ds pk), n.W.cell? ⟨b, x + 2, none⟩ = some (.int .i64 ds)) ∧ (∀ n : Wof (InD w0 b x y dk dt ds pk), n.W.cell? ⟨b, y, none⟩ = some (.int .i64 pk)) :=
  ⟨fun n => n.h.2.2.1, fun n => n.h.2.2.2.1, fun n => n.h.2.2.2.2.1, fun n => n.h.2.2.2.2.2⟩

theorem sKey_is {n : Int} {b : Bool} (h : inB n 0 5 = b) (w : World) : Calls Tryz.prog 141 #[.int .i64 n] w fun e w' => e = .returned (.bool b) ∧ w' = w := by rw [← h]; exact sKey_any n w
theorem sOk_is {t s : Int} {b : Bool} (h : okB t s = b) (w : World) : Calls Tryz.prog 103 #[stampV t s] w fun e w' => e = .returned (.bool b) ∧ Below w.heap.size w w' := by rw [← h]; exact sOk_any t s w

set_option maxHeartbeats 1000000 in
theorem sDepsOk_any (a : Option Addr) (cap : Nat) (xs : List D) (w : World) (hn : xs.length ≤ 1099511627776) (h : Deps w a xs) :
    Calls Tryz.prog 143 #[.slice a xs.length cap] w fun e w' => e = .returned (.bool (depsOk xs)) ∧ Below w.heap.size w w' := by
  go_enter Tryz.func143, Tryz.ntmps143
  go_wp2
  go_loopw [3] (fun i wr => ∃ k : Nat, k ≤ xs.length ∧ i = .int .i64 k ∧ Hid (depsOk (xs.take k) = true) ∧ Below w.heap.size w wr) (fun i _ => xs.length - (intOf i).toNat)
  case atStart => exact ⟨0, Nat.zero_le _, rfl, ok_nil, Below.refl _ _⟩
  case round =>
    obtain ⟨k, hk, rfl, hok, hB⟩ := hrel
    by_cases hlt : k < xs.length
    · obtain ⟨b, o, rfl, hbb, e0, e1, e2⟩ := (h.below hB).at hlt
      have HX : Hid (xs.take (k + 1) = xs.take k ++ [xs[k]]) := takeD xs k hlt
      have bad : depsOk (xs.take (k + 1)) = false → depsOk xs = false := prefix_bad
      rw [HX.out] at bad
      rcases hkey : inB xs[k].k 0 5 with _ | _
      · have HN : Hid (depsOk xs = false) := bad (snoc_bad (okD_key hkey))
        have hst : okB xs[k].t xs[k].s = okB xs[k].t xs[k].s := rfl
        clear bad HX
        generalize xs[k] = d at *
        obtain ⟨dk, dt, ds⟩ := d
        simp only at e0 e1 e2 hkey
        have R : InD w b (o + k * 3) (o + k * 3) dk dt ds dk wr := ⟨hB, hbb, e0, e1, e2, e0⟩
        obtain ⟨r0, r1, r2, r3⟩ := InD.rules (w0 := w) (b := b) (x := o + k * 3) (y := o + k * 3) (dk := dk) (dt := dt) (ds := ds) (pk := dk)
        have ne : Nonempty (Wof (InD w b (o + k * 3) (o + k * 3) dk dt ds dk)) := ⟨⟨_, R⟩⟩
        clear hB e0 e1 e2 h hbb
        go_wp2_with fail
        refine wp_region_class (S := InD w b (o + k * 3) (o + k * 3) dk dt ds dk) (by kernel_rfl) (by kernel_rfl) R.drew ?_
        repeat (go_big_quiet_step ((rename_i n; first | (go_at_call 141; exact Calls.inClassSame (sKey_is hkey _)) | (go_at_call 103; exact Calls.inClass (sOk_is hst _) InD.below))))
        refine wpQuiet_nil ?_
        rintro W ⟨n, hnW⟩
        have R2 := n.h
        rw [← hnW] at R2
        have I2 : Below w.heap.size w W := R2.1
        clear R R2 r0 r1 r2 r3 ne hnW n
        go_wp2
        go_ret
        exact ⟨by rw [HN.out]; rfl, I2⟩
      · rcases hst : okB xs[k].t xs[k].s with _ | _
        · have HN : Hid (depsOk xs = false) := bad (snoc_bad (okD_stamp hst))
          clear bad HX
          generalize xs[k] = d at *
          obtain ⟨dk, dt, ds⟩ := d
          simp only at e0 e1 e2 hkey hst
          have R : InD w b (o + k * 3) (o + k * 3) dk dt ds dk wr := ⟨hB, hbb, e0, e1, e2, e0⟩
          obtain ⟨r0, r1, r2, r3⟩ := InD.rules (w0 := w) (b := b) (x := o + k * 3) (y := o + k * 3) (dk := dk) (dt := dt) (ds := ds) (pk := dk)
          have ne : Nonempty (Wof (InD w b (o + k * 3) (o + k * 3) dk dt ds dk)) := ⟨⟨_, R⟩⟩
          clear hB e0 e1 e2 h hbb
          go_wp2_with fail
          refine wp_region_class (S := InD w b (o + k * 3) (o + k * 3) dk dt ds dk) (by kernel_rfl) (by kernel_rfl) R.drew ?_
          repeat (go_big_quiet_step ((rename_i n; first | (go_at_call 141; exact Calls.inClassSame (sKey_is hkey _)) | (go_at_call 103; exact Calls.inClass (sOk_is hst _) InD.below))))
          refine wpQuiet_nil ?_
          rintro W ⟨n, hnW⟩
          have R2 := n.h
          rw [← hnW] at R2
          have I2 : Below w.heap.size w W := R2.1
          clear R R2 r0 r1 r2 r3 ne hnW n
          go_wp2
          go_ret
          exact ⟨by rw [HN.out]; rfl, I2⟩
        · have hd : okD xs[k] = true := okD_mk hkey hst
          rcases k with _ | j
          · have HO : Hid (depsOk (xs.take (0 + 1)) = true) := by
              show depsOk (xs.take (0 + 1)) = true
              rw [HX.out]
              exact snoc_yes hok.out hd (by have := okD_bounds hd; simp [lastK_nil]; omega)
            clear bad HX hd
            generalize xs[0] = d at *
            obtain ⟨dk, dt, ds⟩ := d
            simp only [Nat.zero_mul, Nat.add_zero] at e0 e1 e2 hkey hst
            have R : InD w b (o) (o) dk dt ds dk wr := ⟨hB, hbb, e0, e1, e2, e0⟩
            obtain ⟨r0, r1, r2, r3⟩ := InD.rules (w0 := w) (b := b) (x := o) (y := o) (dk := dk) (dt := dt) (ds := ds) (pk := dk)
            have ne : Nonempty (Wof (InD w b (o) (o) dk dt ds dk)) := ⟨⟨_, R⟩⟩
            clear hB e0 e1 e2 h hbb
            go_wp2_with fail
            refine wp_region_class (S := InD w b (o) (o) dk dt ds dk) (by kernel_rfl) (by kernel_rfl) R.drew ?_
            repeat (go_big_quiet_step ((rename_i n; first | (go_at_call 141; exact Calls.inClassSame (sKey_is hkey _)) | (go_at_call 103; exact Calls.inClass (sOk_is hst _) InD.below))))
            refine wpQuiet_nil ?_
            rintro W ⟨n, hnW⟩
            have R2 := n.h
            rw [← hnW] at R2
            have I2 : Below w.heap.size w W := R2.1
            clear R R2 r0 r1 r2 r3 ne hnW n
            go_wp2
            go_roundw
            case rel => exact ⟨0 + 1, by omega, by go_num, HO, I2⟩
            case measure => simp [intOf]; omega
          · obtain ⟨b2, o2, he, hb2, p0, p1, p2⟩ := (h.below hB).at (k := j) (by omega)
            simp at he
            obtain ⟨rfl, rfl⟩ := he
            have HL : Hid (lastK (xs.take (j + 1)) = xs[j].k) := lastK_take xs j (by omega)
            by_cases hlt2 : xs[j].k < xs[j + 1].k
            · have HO : Hid (depsOk (xs.take (j + 1 + 1)) = true) := by
                show depsOk (xs.take (j + 1 + 1)) = true
                rw [HX.out]
                exact snoc_yes hok.out hd (by rw [HL.out]; exact hlt2)
              clear bad HX hd HL p1 p2
              generalize xs[j].k = pk at *
              generalize xs[j + 1] = d at *
              obtain ⟨dk, dt, ds⟩ := d
              simp only at e0 e1 e2 hkey hst hlt2
              have R : InD w b (o + (j + 1) * 3) (o + j * 3) dk dt ds pk wr := ⟨hB, hbb, e0, e1, e2, p0⟩
              obtain ⟨r0, r1, r2, r3⟩ := InD.rules (w0 := w) (b := b) (x := o + (j + 1) * 3) (y := o + j * 3) (dk := dk) (dt := dt) (ds := ds) (pk := pk)
              have ne : Nonempty (Wof (InD w b (o + (j + 1) * 3) (o + j * 3) dk dt ds pk)) := ⟨⟨_, R⟩⟩
              clear hB e0 e1 e2 h hbb
              go_wp2_with fail
              refine wp_region_class (S := InD w b (o + (j + 1) * 3) (o + j * 3) dk dt ds pk) (by kernel_rfl) (by kernel_rfl) R.drew ?_
              repeat (go_big_quiet_step ((rename_i n; first | (go_at_call 141; exact Calls.inClassSame (sKey_is hkey _)) | (go_at_call 103; exact Calls.inClass (sOk_is hst _) InD.below))))
              refine wpQuiet_nil ?_
              rintro W ⟨n, hnW⟩
              have R2 := n.h
              rw [← hnW] at R2
              have I2 : Below w.heap.size w W := R2.1
              clear R R2 r0 r1 r2 r3 ne hnW n
              go_wp2
              go_roundw
              case rel => exact ⟨j + 1 + 1, by omega, by go_num, HO, I2⟩
              case measure => simp [intOf]; omega
            · have HN : Hid (depsOk xs = false) := bad (snoc_order (by rw [HL.out]; exact hlt2) (okD_bounds hd).1)
              have hlt3 : xs[j + 1].k ≤ xs[j].k := by omega
              clear bad HX hd HL p1 p2 hlt2
              generalize xs[j].k = pk at *
              generalize xs[j + 1] = d at *
              obtain ⟨dk, dt, ds⟩ := d
              simp only at e0 e1 e2 hkey hst hlt3
              have R : InD w b (o + (j + 1) * 3) (o + j * 3) dk dt ds pk wr := ⟨hB, hbb, e0, e1, e2, p0⟩
              obtain ⟨r0, r1, r2, r3⟩ := InD.rules (w0 := w) (b := b) (x := o + (j + 1) * 3) (y := o + j * 3) (dk := dk) (dt := dt) (ds := ds) (pk := pk)
              have ne : Nonempty (Wof (InD w b (o + (j + 1) * 3) (o + j * 3) dk dt ds pk)) := ⟨⟨_, R⟩⟩
              clear hB e0 e1 e2 h hbb
              go_wp2_with fail
              refine wp_region_class (S := InD w b (o + (j + 1) * 3) (o + j * 3) dk dt ds pk) (by kernel_rfl) (by kernel_rfl) R.drew ?_
              repeat (go_big_quiet_step ((rename_i n; first | (go_at_call 141; exact Calls.inClassSame (sKey_is hkey _)) | (go_at_call 103; exact Calls.inClass (sOk_is hst _) InD.below))))
              refine wpQuiet_nil ?_
              rintro W ⟨n, hnW⟩
              have R2 := n.h
              rw [← hnW] at R2
              have I2 : Below w.heap.size w W := R2.1
              clear R R2 r0 r1 r2 r3 ne hnW n
              go_wp2
              go_ret
              exact ⟨by rw [HN.out]; rfl, I2⟩
    · have hk2 : k = xs.length := by omega
      subst hk2
      rw [List.take_length] at *
      go_wp2
      go_ret
      exact ⟨by rw [hok.out]; rfl, hB⟩
end Go.Proofs.YtpjidogilofppaaGreat

