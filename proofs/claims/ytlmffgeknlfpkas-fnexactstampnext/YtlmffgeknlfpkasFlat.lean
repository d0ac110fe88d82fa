/- Stamps as cells. -/
import Derived.Test.YtlmffgeknlfpkasNextNum
namespace Go.Proofs.Ytlmffgeknlfpkas
open Go.ChangeShapes Go.WideShapes Go.ChangeAt Go.RowKit

/-- Stamps as cells, one behind the other. -/
def flat (xs : List (Int × Int)) : List Value := xs.flatMap fun x => [.int .i64 x.1, .int .i64 x.2]
theorem flat_snoc (xs : List (Int × Int)) (t s : Int) : flat (xs ++ [(t, s)]) = flat xs ++ [.int .i64 t, .int .i64 s] := by simp [flat]
theorem flat_len (xs : List (Int × Int)) : (flat xs).length = xs.length * 2 := by
  induction xs with
  | nil => rfl
  | cons x xs ih => simp [flat] at *; omega
theorem flat_at (xs : List (Int × Int)) : ∀ k, (hk : k < xs.length) → (flat xs)[k * 2]? = some (.int .i64 xs[k].1) ∧ (flat xs)[k * 2 + 1]? = some (.int .i64 xs[k].2) := by
  induction xs with
  | nil => intro k hk; cases hk
  | cons x xs ih =>
    intro k hk
    have e : flat (x :: xs) = .int .i64 x.1 :: .int .i64 x.2 :: flat xs := rfl
    cases k with
    | zero => rw [e]; simp
    | succ k =>
      have := ih k (by simpa using hk)
      rw [e, show (k + 1) * 2 = k * 2 + 1 + 1 by omega]
      simpa using this
/-- A row of the call's own that holds stamps. -/
theorem stamps_of_row {w : World} {base : Nat} {e : TypeId} {v : Value} {xs : List (Int × Int)} (h : w.ownsRow base e 2 v xs.length (flat xs)) : ∃ a cap, v = .slice a xs.length cap ∧ Stamps w a xs := by
  rcases h.2 with ⟨rfl, hn⟩ | ⟨g, cap, cur, rfl, hb, hg, hr⟩
  · refine ⟨none, 0, by rw [hn], .inl (List.length_eq_zero_iff.1 hn)⟩
  · refine ⟨_, cap, rfl, .inr ⟨g, 0, rfl, (Array.getElem?_eq_some_iff.1 hg).1, fun k hk => ?_⟩⟩
    have c := h.cellAt
    have f := flat_at xs k hk
    refine ⟨?_, ?_⟩
    · rw [c (0 + k * 2) (by omega)]; simpa using f.1
    · rw [c (0 + k * 2 + 1) (by omega)]; simpa using f.2
theorem row_some {w : World} {base : Nat} {e : TypeId} {size : Nat} {v : Value} {n : Nat} {xs : List Value} (h : w.ownsRow base e size v n xs) (hv : v ≠ .slice none 0 0) : ∃ g cap, v = .slice (some ⟨g, 0, none⟩) n cap := by
  rcases h.2 with ⟨h, _⟩ | ⟨g, cap, cur, rfl, _⟩
  · exact absurd h hv
  · exact ⟨g, cap, rfl⟩
/-- The cells of stamps that lie in memory. -/
theorem stamps_cells {w : World} {b o : Nat} {xs : List (Int × Int)} (h : Stamps w (some ⟨b, o, none⟩) xs) : ∀ (j : Nat) (u : Value), (flat xs)[j]? = some u → w.cell? ((Addr.mk b o none).add j) = some u := by
  intro j u hj
  have hlt : j < (flat xs).length := (List.getElem?_eq_some_iff.1 hj).1
  rw [flat_len] at hlt
  have ha : (Addr.mk b o none).add j = ⟨b, o + j, none⟩ := by by_cases h : j = 0 <;> simp [Addr.add, h]
  rw [ha]
  rcases h with rfl | ⟨b', o', he, _, h⟩
  · simp at hlt
  · simp at he
    obtain ⟨rfl, rfl⟩ := he
    have hk : j / 2 < xs.length := by omega
    obtain ⟨c0, c1⟩ := h (j / 2) hk
    obtain ⟨f0, f1⟩ := flat_at xs (j / 2) hk
    rcases Nat.mod_two_eq_zero_or_one j with hm | hm
    · rw [show j / 2 * 2 = j by omega] at c0 f0
      rw [c0, ← f0, hj]
    · rw [show o + j / 2 * 2 + 1 = o + j by omega] at c1
      rw [show j / 2 * 2 + 1 = j by omega] at f1
      rw [c1, ← f1, hj]
theorem flat_one (xs : List (Int × Int)) : ∀ u ∈ flat xs, u.oneCell' = true := by
  intro u hu
  simp only [flat, List.mem_flatMap] at hu
  obtain ⟨x, _, hx⟩ := hu
  simp at hx
  rcases hx with rfl | rfl <;> rfl
theorem row_below {w w' : World} {base : Nat} {e : TypeId} {size : Nat} {v : Value} {n : Nat} {xs : List Value} (h : w.ownsRow base e size v n xs) (k : Below w.heap.size w w') : w'.ownsRow base e size v n xs := by
  refine ⟨h.1, ?_⟩
  rcases h.2 with hn | ⟨g, cap, cur, rfl, hb, hg, rest⟩
  · exact .inl hn
  · exact .inr ⟨g, cap, cur, rfl, hb, (k.block g (Array.getElem?_eq_some_iff.1 hg).1).trans hg, rest⟩

theorem info25 : (Try.prog.info? 25).map (fun i => (i.zero, i.size, i.bytes)) = some (some (.agg #[.int .i64 0, .int .i64 0]), 2, 16) := by kernel_rfl
end Go.Proofs.Ytlmffgeknlfpkas
