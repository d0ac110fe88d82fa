/- Deps as cells. -/
import Derived.Test.YthlmodafadfnfaaTable
namespace Go.Proofs.Ythlmodafadfnfaa
open Go.ChangeShapes Go.WideShapes Go.ChangeAt Go.RowKit

/-- Deps as cells, one behind the other. -/
def flat3 (xs : List D) : List Value := xs.flatMap fun d => [.int .i64 d.k, .int .i64 d.t, .int .i64 d.s]
theorem flat3_snoc (xs : List D) (d : D) : flat3 (xs ++ [d]) = flat3 xs ++ [.int .i64 d.k, .int .i64 d.t, .int .i64 d.s] := by simp [flat3]
theorem flat3_append (xs ys : List D) : flat3 (xs ++ ys) = flat3 xs ++ flat3 ys := by simp [flat3]
theorem flat3_len (xs : List D) : (flat3 xs).length = xs.length * 3 := by
  induction xs with
  | nil => rfl
  | cons x xs ih => simp [flat3] at *; omega
theorem flat3_at (xs : List D) : ∀ k, (hk : k < xs.length) → (flat3 xs)[k * 3]? = some (.int .i64 xs[k].k) ∧ (flat3 xs)[k * 3 + 1]? = some (.int .i64 xs[k].t) ∧ (flat3 xs)[k * 3 + 2]? = some (.int .i64 xs[k].s) := by
  induction xs with
  | nil => intro k hk; cases hk
  | cons x xs ih =>
    intro k hk
    have e : flat3 (x :: xs) = .int .i64 x.k :: .int .i64 x.t :: .int .i64 x.s :: flat3 xs := rfl
    cases k with
    | zero => rw [e]; simp
    | succ k =>
      have := ih k (by simpa using hk)
      rw [e, show (k + 1) * 3 = k * 3 + 1 + 1 + 1 by omega]
      simpa using this
theorem flat3_one (xs : List D) : ∀ u ∈ flat3 xs, u.oneCell' = true := by
  intro u hu
  simp only [flat3, List.mem_flatMap] at hu
  obtain ⟨x, _, hx⟩ := hu
  simp at hx
  rcases hx with rfl | rfl | rfl <;> rfl
/-- A row of the call's own that holds deps. -/
theorem deps_of_row {w : World} {base : Nat} {e : TypeId} {v : Value} {xs : List D} (h : w.ownsRow base e 3 v xs.length (flat3 xs)) : ∃ a cap, v = .slice a xs.length cap ∧ Deps w a xs ∧ (∀ x, a = some x → base ≤ x.block) := by
  rcases h.2 with ⟨rfl, hn⟩ | ⟨g, cap, cur, rfl, hb, hg, hr⟩
  · refine ⟨none, 0, by rw [hn], .inl (List.length_eq_zero_iff.1 hn), fun x hx => by cases hx⟩
  · refine ⟨_, cap, rfl, .inr ⟨g, 0, rfl, (Array.getElem?_eq_some_iff.1 hg).1, fun k hk => ?_⟩, fun x hx => by cases hx; exact hb⟩
    have c := h.cellAt
    have f := flat3_at xs k hk
    refine ⟨?_, ?_, ?_⟩
    · rw [c (0 + k * 3) (by omega)]; simpa using f.1
    · rw [c (0 + k * 3 + 1) (by omega)]; simpa using f.2.1
    · rw [c (0 + k * 3 + 2) (by omega)]; simpa using f.2.2
/-- The cells of deps that lie in memory. -/
theorem deps_cells {w : World} {b o : Nat} {xs : List D} (h : Deps w (some ⟨b, o, none⟩) xs) : ∀ (j : Nat) (u : Value), (flat3 xs)[j]? = some u → w.cell? ((Addr.mk b o none).add j) = some u := by
  intro j u hj
  have hlt : j < (flat3 xs).length := (List.getElem?_eq_some_iff.1 hj).1
  rw [flat3_len] at hlt
  have ha : (Addr.mk b o none).add j = ⟨b, o + j, none⟩ := by by_cases h : j = 0 <;> simp [Addr.add, h]
  rw [ha]
  have hk : j / 3 < xs.length := by omega
  obtain ⟨b', o', he, _, c0, c1, c2⟩ := h.at hk
  simp at he
  obtain ⟨rfl, rfl⟩ := he
  obtain ⟨f0, f1, f2⟩ := flat3_at xs (j / 3) hk
  have hm : j % 3 = 0 ∨ j % 3 = 1 ∨ j % 3 = 2 := by omega
  rcases hm with hm | hm | hm
  · rw [show j / 3 * 3 = j by omega] at c0 f0
    rw [c0, ← f0, hj]
  · rw [show o + j / 3 * 3 + 1 = o + j by omega] at c1
    rw [show j / 3 * 3 + 1 = j by omega] at f1
    rw [c1, ← f1, hj]
  · rw [show o + j / 3 * 3 + 2 = o + j by omega] at c2
    rw [show j / 3 * 3 + 2 = j by omega] at f2
    rw [c2, ← f2, hj]
theorem row_below {w w' : World} {base : Nat} {e : TypeId} {size : Nat} {v : Value} {n : Nat} {xs : List Value} (h : w.ownsRow base e size v n xs) {m : Nat} (k : Below m w w') (hm : w.heap.size ≤ m) : w'.ownsRow base e size v n xs := by
  refine ⟨h.1, ?_⟩
  rcases h.2 with hn | ⟨g, cap, cur, rfl, hb, hg, rest⟩
  · exact .inl hn
  · exact .inr ⟨g, cap, cur, rfl, hb, (k.block g (by have := (Array.getElem?_eq_some_iff.1 hg).1; omega)).trans hg, rest⟩
theorem row_mono {w : World} {base base' : Nat} {e : TypeId} {size : Nat} {v : Value} {n : Nat} {xs : List Value} (h : w.ownsRow base e size v n xs) (hb : base' ≤ base) : w.ownsRow base' e size v n xs := by
  refine ⟨h.1, ?_⟩
  rcases h.2 with hn | ⟨g, cap, cur, rfl, hb', rest⟩
  · exact .inl hn
  · exact .inr ⟨g, cap, cur, rfl, by omega, rest⟩
/-- A row of the call's own is written out. -/
theorem row_slice {w : World} {base : Nat} {e : TypeId} {size : Nat} {v : Value} {n : Nat} {xs : List Value} (h : w.ownsRow base e size v n xs) : ∃ a cap, v = .slice a n cap ∧ ∀ x, a = some x → base ≤ x.block := by
  rcases h.2 with ⟨rfl, hn⟩ | ⟨g, cap, cur, rfl, hb, _⟩
  · exact ⟨none, 0, by rw [hn], fun x hx => by cases hx⟩
  · exact ⟨_, cap, rfl, fun x hx => by cases hx; exact hb⟩

theorem infoDep : (Try.prog.info? 51).map (fun i => (i.zero, i.size, i.bytes)) = some (some (.agg #[.int .i64 0, .int .i64 0, .int .i64 0]), 3, 24) := by kernel_rfl

theorem fold_with (g : Tbl) (n : Nat) : ∀ (i : Int) (f : Tbl) (k : Int), ((lstFrom g i n).foldl withT f) k = if i ≤ k ∧ k < i + n then omax (f k) (g k) else f k := by
  induction n with
  | zero => intro i f k; rw [lstFrom, if_neg (by omega)]; rfl
  | succ n ih =>
    intro i f k
    rw [lstFrom]
    rcases hg : g i with _ | c
    · rw [ih]
      by_cases h : k = i
      · subst h; rw [if_neg (by omega), if_pos (by omega), hg, omax_none]
      · by_cases h2 : i ≤ k ∧ k < i + (n + 1 : Nat)
        · rw [if_pos (by omega), if_pos h2]
        · rw [if_neg (by omega), if_neg h2]
    · simp only [List.foldl_cons]
      rw [ih]
      have hcd : codeD ⟨i, c / 4, c % 4⟩ = c := by simp only [codeD]; omega
      by_cases h : i = k
      · subst h; rw [if_neg (by omega), if_pos (by omega)]; simp only [withT]; rw [if_pos trivial, hcd, hg]
      · have hw : withT f ⟨i, c / 4, c % 4⟩ k = f k := by simp only [withT]; rw [if_neg h]
        by_cases h2 : i ≤ k ∧ k < i + (n + 1 : Nat)
        · rw [if_pos (by omega), if_pos h2, hw]
        · rw [if_neg (by omega), if_neg h2, hw]
theorem fold_join (f g : Tbl) : tabA ((lst g).foldl withT f) = tabA (joinT f g) := by
  refine tabA_congr fun k h0 h5 => ?_
  unfold lst
  rw [fold_with, if_pos (by omega)]; rfl
end Go.Proofs.Ythlmodafadfnfaa
