/- Tables of deps: contracts. -/
import Derived.Test.YthlmodafadfnfaaWithA
import Derived.Test.YthlmodafadfnfaaWithB
import Derived.Test.YthlmodafadfnfaaWithC
namespace Go.Proofs.Ythlmodafadfnfaa
open Go.ChangeShapes Go.WideShapes Go.ChangeAt Go.RowKit

/-- A dep as a value. -/
abbrev depV (k t s : Int) : Value := .agg #[.int .i64 k, .int .i64 t, .int .i64 s]
/-- A table as cells. -/
def tabA (f : Tbl) : Array Value := #[.bool (f 0).isSome, .int .i64 ((f 0).getD 0), .bool (f 1).isSome, .int .i64 ((f 1).getD 0), .bool (f 2).isSome, .int .i64 ((f 2).getD 0), .bool (f 3).isSome, .int .i64 ((f 3).getD 0), .bool (f 4).isSome, .int .i64 ((f 4).getD 0), .bool (f 5).isSome, .int .i64 ((f 5).getD 0)]
theorem tabA_lit (f : Tbl) : ∃ (b0 b1 b2 b3 b4 b5 : Bool) (c0 c1 c2 c3 c4 c5 : Int), tabA f = #[.bool b0, .int .i64 c0, .bool b1, .int .i64 c1, .bool b2, .int .i64 c2, .bool b3, .int .i64 c3, .bool b4, .int .i64 c4, .bool b5, .int .i64 c5] :=
  ⟨_, _, _, _, _, _, _, _, _, _, _, _, rfl⟩
theorem tabA_congr {f g : Tbl} (h : ∀ k, 0 ≤ k → k ≤ 5 → f k = g k) : tabA f = tabA g := by
  unfold tabA
  rw [h 0 (by omega) (by omega), h 1 (by omega) (by omega), h 2 (by omega) (by omega), h 3 (by omega) (by omega), h 4 (by omega) (by omega), h 5 (by omega) (by omega)]
theorem tabA_none : tabA (fun _ => none) = #[.bool false, .int .i64 0, .bool false, .int .i64 0, .bool false, .int .i64 0, .bool false, .int .i64 0, .bool false, .int .i64 0, .bool false, .int .i64 0] := rfl

theorem with_cell (o : Option Int) (c : Int) : (omax o (some c)).isSome = true ∧ (omax o (some c)).getD 0 = if o.isSome = true ∧ ¬ o.getD 0 < c then o.getD 0 else c := by
  cases o with
  | none => simp [omax]
  | some x => simp only [omax, Option.isSome_some, Option.getD_some, true_and]; split <;> simp_all
theorem tabA_with0 (f : Tbl) (t s : Int) : tabA (withT f ⟨0, t, s⟩) = #[.bool true, .int .i64 (if (f 0).isSome = true ∧ ¬ (f 0).getD 0 < t * 4 + s then (f 0).getD 0 else t * 4 + s), .bool (f 1).isSome, .int .i64 ((f 1).getD 0), .bool (f 2).isSome, .int .i64 ((f 2).getD 0), .bool (f 3).isSome, .int .i64 ((f 3).getD 0), .bool (f 4).isSome, .int .i64 ((f 4).getD 0), .bool (f 5).isSome, .int .i64 ((f 5).getD 0)] := by
  have h := with_cell (f 0) (t * 4 + s)
  simp [tabA, withT, codeD, h.1, h.2]
theorem tabA_with1 (f : Tbl) (t s : Int) : tabA (withT f ⟨1, t, s⟩) = #[.bool (f 0).isSome, .int .i64 ((f 0).getD 0), .bool true, .int .i64 (if (f 1).isSome = true ∧ ¬ (f 1).getD 0 < t * 4 + s then (f 1).getD 0 else t * 4 + s), .bool (f 2).isSome, .int .i64 ((f 2).getD 0), .bool (f 3).isSome, .int .i64 ((f 3).getD 0), .bool (f 4).isSome, .int .i64 ((f 4).getD 0), .bool (f 5).isSome, .int .i64 ((f 5).getD 0)] := by
  have h := with_cell (f 1) (t * 4 + s)
  simp [tabA, withT, codeD, h.1, h.2]
theorem tabA_with2 (f : Tbl) (t s : Int) : tabA (withT f ⟨2, t, s⟩) = #[.bool (f 0).isSome, .int .i64 ((f 0).getD 0), .bool (f 1).isSome, .int .i64 ((f 1).getD 0), .bool true, .int .i64 (if (f 2).isSome = true ∧ ¬ (f 2).getD 0 < t * 4 + s then (f 2).getD 0 else t * 4 + s), .bool (f 3).isSome, .int .i64 ((f 3).getD 0), .bool (f 4).isSome, .int .i64 ((f 4).getD 0), .bool (f 5).isSome, .int .i64 ((f 5).getD 0)] := by
  have h := with_cell (f 2) (t * 4 + s)
  simp [tabA, withT, codeD, h.1, h.2]
theorem tabA_with3 (f : Tbl) (t s : Int) : tabA (withT f ⟨3, t, s⟩) = #[.bool (f 0).isSome, .int .i64 ((f 0).getD 0), .bool (f 1).isSome, .int .i64 ((f 1).getD 0), .bool (f 2).isSome, .int .i64 ((f 2).getD 0), .bool true, .int .i64 (if (f 3).isSome = true ∧ ¬ (f 3).getD 0 < t * 4 + s then (f 3).getD 0 else t * 4 + s), .bool (f 4).isSome, .int .i64 ((f 4).getD 0), .bool (f 5).isSome, .int .i64 ((f 5).getD 0)] := by
  have h := with_cell (f 3) (t * 4 + s)
  simp [tabA, withT, codeD, h.1, h.2]
theorem tabA_with4 (f : Tbl) (t s : Int) : tabA (withT f ⟨4, t, s⟩) = #[.bool (f 0).isSome, .int .i64 ((f 0).getD 0), .bool (f 1).isSome, .int .i64 ((f 1).getD 0), .bool (f 2).isSome, .int .i64 ((f 2).getD 0), .bool (f 3).isSome, .int .i64 ((f 3).getD 0), .bool true, .int .i64 (if (f 4).isSome = true ∧ ¬ (f 4).getD 0 < t * 4 + s then (f 4).getD 0 else t * 4 + s), .bool (f 5).isSome, .int .i64 ((f 5).getD 0)] := by
  have h := with_cell (f 4) (t * 4 + s)
  simp [tabA, withT, codeD, h.1, h.2]
theorem tabA_with5 (f : Tbl) (t s : Int) : tabA (withT f ⟨5, t, s⟩) = #[.bool (f 0).isSome, .int .i64 ((f 0).getD 0), .bool (f 1).isSome, .int .i64 ((f 1).getD 0), .bool (f 2).isSome, .int .i64 ((f 2).getD 0), .bool (f 3).isSome, .int .i64 ((f 3).getD 0), .bool (f 4).isSome, .int .i64 ((f 4).getD 0), .bool true, .int .i64 (if (f 5).isSome = true ∧ ¬ (f 5).getD 0 < t * 4 + s then (f 5).getD 0 else t * 4 + s)] := by
  have h := with_cell (f 5) (t * 4 + s)
  simp [tabA, withT, codeD, h.1, h.2]

theorem with_any (f : Tbl) (d : D) (w : World) (hd : okD d = true) :
    Calls Try.prog 94 #[.agg (tabA f), depV d.k d.t d.s] w fun e w' => e = .returned (.agg (tabA (withT f d))) ∧ Below w.heap.size w w' := by
  obtain ⟨k, t, s⟩ := d
  have hb := okD_bounds hd
  simp only at hb
  obtain ⟨h0, h5, t1, t2, s1, s2⟩ := hb
  have hk : k = 0 ∨ k = 1 ∨ k = 2 ∨ k = 3 ∨ k = 4 ∨ k = 5 := by omega
  have H : 0 ≤ t ∧ t ≤ 100000 ∧ -10 ≤ s ∧ s ≤ 100000 := by omega
  rcases hk with rfl | rfl | rfl | rfl | rfl | rfl
  · rw [tabA_with0]; exact with0 _ _ _ _ _ _ _ _ _ _ _ _ t s w H
  · rw [tabA_with1]; exact with1 _ _ _ _ _ _ _ _ _ _ _ _ t s w H
  · rw [tabA_with2]; exact with2 _ _ _ _ _ _ _ _ _ _ _ _ t s w H
  · rw [tabA_with3]; exact with3 _ _ _ _ _ _ _ _ _ _ _ _ t s w H
  · rw [tabA_with4]; exact with4 _ _ _ _ _ _ _ _ _ _ _ _ t s w H
  · rw [tabA_with5]; exact with5 _ _ _ _ _ _ _ _ _ _ _ _ t s w H

theorem iDep_any (d : D) (w : World) : Calls Try.prog 93 #[depV d.k d.t d.s] w fun e w' => e = .returned (.bool (okD d)) ∧ Below w.heap.size w w' := by
  obtain ⟨k, t, s⟩ := d
  rcases h : inB k 0 5 with _ | _
  · rw [okD_key (d := ⟨k, t, s⟩) h]
    go_enter Try.func93, Try.ntmps93
    go_wp2_with (first | (go_at_call 91; refine (iKey_any _ _).mono ?_; rintro e w' ⟨rfl, rfl⟩))
    go_ret
    exact ⟨rfl, (Below.refl _ _).alloc (Nat.le_refl _) _⟩
  · have e : okD ⟨k, t, s⟩ = okB t s := by unfold okD; rw [h]; rfl
    rw [e]
    clear e
    go_enter Try.func93, Try.ntmps93
    go_wp2_with (first | (go_at_call 91; refine (iKey_any _ _).mono ?_; rintro e w' ⟨rfl, rfl⟩) | (go_at_call 104; refine (iOk_any t s _).mono ?_; rintro e w1 ⟨rfl, hb⟩))
    go_ret
    exact ⟨rfl, ((Below.refl _ _).alloc (Nat.le_refl _) _).trans (hb.mono (by simp))⟩

/-- Deps that lie in memory, one behind the other. -/
def Deps (w : World) (a : Option Addr) (xs : List D) : Prop :=
  xs = [] ∨ ∃ b o, a = some ⟨b, o, none⟩ ∧ b < w.heap.size ∧ ∀ k, (hk : k < xs.length) → w.cell? ⟨b, o + k * 3, none⟩ = some (.int .i64 xs[k].k) ∧ w.cell? ⟨b, o + k * 3 + 1, none⟩ = some (.int .i64 xs[k].t) ∧ w.cell? ⟨b, o + k * 3 + 2, none⟩ = some (.int .i64 xs[k].s)
theorem Deps.below {w w' : World} {a : Option Addr} {xs : List D} (h : Deps w a xs) (k : Below w.heap.size w w') : Deps w' a xs := by
  rcases h with h | ⟨b, o, ha, hb, h⟩
  · exact .inl h
  · refine .inr ⟨b, o, ha, Nat.lt_of_lt_of_le hb k.size, fun i hi => ?_⟩
    exact ⟨(k.cell (p := ⟨b, _, none⟩) hb).trans (h i hi).1, (k.cell (p := ⟨b, _, none⟩) hb).trans (h i hi).2.1, (k.cell (p := ⟨b, _, none⟩) hb).trans (h i hi).2.2⟩
/-- One of the deps. -/
theorem Deps.at {w : World} {a : Option Addr} {xs : List D} (h : Deps w a xs) {k : Nat} (hk : k < xs.length) : ∃ b o, a = some ⟨b, o, none⟩ ∧ b < w.heap.size ∧ w.cell? ⟨b, o + k * 3, none⟩ = some (.int .i64 xs[k].k) ∧ w.cell? ⟨b, o + k * 3 + 1, none⟩ = some (.int .i64 xs[k].t) ∧ w.cell? ⟨b, o + k * 3 + 2, none⟩ = some (.int .i64 xs[k].s) := by
  rcases h with h | ⟨b, o, ha, hb, h⟩
  · rw [h] at hk; simp at hk
  · exact ⟨b, o, ha, hb, h k hk⟩
end Go.Proofs.Ythlmodafadfnfaa
