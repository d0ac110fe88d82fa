/- Plain facts on lists of stamps: the latest time, and the next stamp. -/
import Derived.Test.YtlmffgeknlfpkasBase
namespace Go.Proofs.Ytlmffgeknlfpkas
open Go.ChangeShapes Go.WideShapes Go.ChangeAt Go.RowKit

/-- The latest time of stamps, 0 if there are none. -/
def maxT (xs : List (Int × Int)) : Int := xs.foldl (fun m x => if m < x.1 then x.1 else m) 0
/-- Whether all stamps are ok. -/
def allOk (xs : List (Int × Int)) : Bool := xs.all fun x => okB x.1 x.2

theorem maxT_snoc (xs : List (Int × Int)) (t s : Int) : maxT (xs ++ [(t, s)]) = if maxT xs < t then t else maxT xs := by
  unfold maxT; rw [List.foldl_append]; rfl
theorem allOk_snoc (xs : List (Int × Int)) (t s : Int) : allOk (xs ++ [(t, s)]) = (allOk xs && okB t s) := by
  simp [allOk, List.all_append]
theorem take_more (xs : List (Int × Int)) (k : Nat) (h : k < xs.length) : xs.take (k + 1) = xs.take k ++ [xs[k]] := by
  rw [List.take_succ_eq_append_getElem h]
theorem fold_le (xs : List (Int × Int)) : ∀ m : Int, m ≤ xs.foldl (fun m x => if m < x.1 then x.1 else m) m := by
  induction xs with
  | nil => intro m; exact Int.le_refl _
  | cons x xs ih => intro m; simp only [List.foldl_cons]; refine Int.le_trans ?_ (ih _); split <;> omega
theorem maxT_nonneg (xs : List (Int × Int)) : 0 ≤ maxT xs := fold_le xs 0
theorem fold_mem (xs : List (Int × Int)) : ∀ m : Int, ∀ x ∈ xs, x.1 ≤ xs.foldl (fun m x => if m < x.1 then x.1 else m) m := by
  induction xs with
  | nil => intro m x h; cases h
  | cons y xs ih =>
    intro m x h
    simp only [List.foldl_cons]
    rcases List.mem_cons.1 h with rfl | h
    · refine Int.le_trans ?_ (fold_le xs _); split <;> omega
    · exact ih _ x h
theorem maxT_mem {xs : List (Int × Int)} {x : Int × Int} (h : x ∈ xs) : x.1 ≤ maxT xs := fold_mem xs 0 x h
theorem maxT_le (xs : List (Int × Int)) (h : allOk xs = true) : maxT xs ≤ 9999 := by
  have : ∀ ys : List (Int × Int), allOk ys = true → ∀ m : Int, m ≤ 9999 → ys.foldl (fun m x => if m < x.1 then x.1 else m) m ≤ 9999 := by
    intro ys
    induction ys with
    | nil => intro _ m hm; simpa using hm
    | cons y ys ih =>
      intro hy m hm
      simp only [allOk, List.all_cons, Bool.and_eq_true] at hy
      have h1 : okB y.1 y.2 = true := hy.1
      simp only [okB, decide_eq_true_eq] at h1
      simp only [List.foldl_cons]
      refine ih hy.2 _ ?_
      split <;> omega
  exact this xs h 0 (by omega)
theorem allOk_mem {xs : List (Int × Int)} (h : allOk xs = true) {x : Int × Int} (hx : x ∈ xs) : okB x.1 x.2 = true := by
  simp only [allOk, List.all_eq_true] at h; exact h x hx
theorem ok_bounds {t s : Int} (h : okB t s = true) : 1 ≤ t ∧ t ≤ 9999 ∧ 0 ≤ s ∧ s ≤ 3 := by simpa [okB] using h
theorem allOk_take {xs : List (Int × Int)} (h : allOk xs = true) (k : Nat) : allOk (xs.take k) = true := by
  simp only [allOk, List.all_eq_true] at *
  exact fun x hx => h x (List.mem_of_mem_take hx)
theorem allOk_not {xs : List (Int × Int)} {k : Nat} (hk : k < xs.length) (h : okB xs[k].1 xs[k].2 = false) : allOk xs = false := by
  rcases hb : allOk xs with _ | _
  · rfl
  · have := allOk_mem hb (List.getElem_mem hk); rw [h] at this; cases this

/-- Whether there is a next stamp. -/
def hasNext (site : Int) (xs : List (Int × Int)) : Bool := inB site 0 3 && allOk xs && decide (maxT xs < 9999)
/-- The next stamp, and whether there is one. -/
def nextV (site : Int) (xs : List (Int × Int)) : Value := if hasNext site xs = true then .tuple #[stampV (maxT xs + 1) site, .bool true] else .tuple #[stampV 0 0, .bool false]
theorem next_yes {site : Int} {xs : List (Int × Int)} (h : hasNext site xs = true) : nextV site xs = .tuple #[stampV (maxT xs + 1) site, .bool true] := by unfold nextV; rw [if_pos h]
theorem next_no {site : Int} {xs : List (Int × Int)} (h : hasNext site xs = false) : nextV site xs = .tuple #[stampV 0 0, .bool false] := by unfold nextV; rw [if_neg (by rw [h]; exact Bool.false_ne_true)]
theorem next_site {site : Int} (xs : List (Int × Int)) (h : inB site 0 3 = false) : hasNext site xs = false := by unfold hasNext; rw [h]; rfl
theorem next_bad {site : Int} {xs : List (Int × Int)} (h : allOk xs = false) : hasNext site xs = false := by unfold hasNext; rw [h]; simp
theorem next_full {site : Int} {xs : List (Int × Int)} (h : ¬ maxT xs < 9999) : hasNext site xs = false := by unfold hasNext; simp [h]
theorem next_mk {site : Int} {xs : List (Int × Int)} (h1 : inB site 0 3 = true) (h2 : allOk xs = true) (h3 : maxT xs < 9999) : hasNext site xs = true := by unfold hasNext; simp [h1, h2, h3]

/-- Stamps that lie in memory, one behind the other. -/
def Stamps (w : World) (a : Option Addr) (xs : List (Int × Int)) : Prop :=
  xs = [] ∨ ∃ b o, a = some ⟨b, o, none⟩ ∧ b < w.heap.size ∧ ∀ k, (hk : k < xs.length) → w.cell? ⟨b, o + k * 2, none⟩ = some (.int .i64 xs[k].1) ∧ w.cell? ⟨b, o + k * 2 + 1, none⟩ = some (.int .i64 xs[k].2)
theorem Stamps.below {w w' : World} {a : Option Addr} {xs : List (Int × Int)} (h : Stamps w a xs) (k : Below w.heap.size w w') : Stamps w' a xs := by
  rcases h with h | ⟨b, o, ha, hb, h⟩
  · exact .inl h
  · refine .inr ⟨b, o, ha, Nat.lt_of_lt_of_le hb k.size, fun i hi => ?_⟩
    exact ⟨(k.cell (p := ⟨b, _, none⟩) hb).trans (h i hi).1, (k.cell (p := ⟨b, _, none⟩) hb).trans (h i hi).2⟩
end Go.Proofs.Ytlmffgeknlfpkas
