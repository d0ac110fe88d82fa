/- The exact law of StampLess. -/
import Derived.Test.YtlmffgeknlfpkasExactOk
namespace Go.Proofs.Ytlmffgeknlfpkas
open Go.ChangeShapes Go.WideShapes Go.ChangeAt Go.RowKit

/-- What the laws know of two stamps that lie in memory. -/
def Two (w0 : World) (K : Nat) (t s t' s' : Int) (w : World) : Prop :=
  Below w0.heap.size w0 w ∧ K + 1 < w.heap.size ∧ w.cell? ⟨K, 0, none⟩ = some (.int .i64 t) ∧ w.cell? ⟨K, 1, none⟩ = some (.int .i64 s) ∧ w.cell? ⟨K + 1, 0, none⟩ = some (.int .i64 t') ∧ w.cell? ⟨K + 1, 1, none⟩ = some (.int .i64 s')

theorem Two.below {w0 w w' : World} {K : Nat} {t s t' s' : Int} (h : Two w0 K t s t' s' w) (k : Below w.heap.size w w') : Two w0 K t s t' s' w' := by
  obtain ⟨h1, h2, h3, h4, h5, h6⟩ := h
  refine ⟨h1.trans (k.mono h1.size), Nat.lt_of_lt_of_le h2 k.size, ?_, ?_, ?_, ?_⟩
  · exact (k.cell (p := ⟨K, 0, none⟩) (by simp; omega)).trans h3
  · exact (k.cell (p := ⟨K, 1, none⟩) (by simp; omega)).trans h4
  · exact (k.cell (p := ⟨K + 1, 0, none⟩) (by simp; omega)).trans h5
  · exact (k.cell (p := ⟨K + 1, 1, none⟩) (by simp; omega)).trans h6
theorem Two.drew {w0 w : World} {K : Nat} {t s t' s' : Int} (h : Two w0 K t s t' s' w) : Two w0 K t s t' s' w.drew := h.below (Below.refl _ _).drew

set_option maxHeartbeats 1000000 in
theorem lawExactLess (t s t' s' : Int) (w : World) : Calls Try.prog 4 #[stampV t s, stampV t' s'] w fun e w' => e = .returned (.bool true) ∧ Below w.heap.size w w' := by
  have T0 : Two w w.heap.size t s t' s' ((w.alloc (.cells #[.int .i64 t, .int .i64 s] 23)).alloc (.cells #[.int .i64 t', .int .i64 s'] 23)) := by
    refine ⟨((Below.refl _ _).alloc (Nat.le_refl _) _).alloc (by simp) _, by simp, ?_, ?_, ?_, ?_⟩ <;> simp [go_sem]
  go_enter Try.func4, Try.ntmps4
  go_wp2
  generalize ((w.alloc (.cells #[.int .i64 t, .int .i64 s] 23)).alloc (.cells #[.int .i64 t', .int .i64 s'] 23)) = w1 at *
  have hK : ∃ K, K = w.heap.size := ⟨_, rfl⟩
  obtain ⟨K, hK⟩ := hK
  rw [← hK] at T0 ⊢
  clear hK
  go_region_held3 (fun W => Below w.heap.size w W ∧ K + 1 < W.heap.size ∧ W.cell? ⟨K, 0, none⟩ = some (.int .i64 t) ∧ W.cell? ⟨K, 1, none⟩ = some (.int .i64 s) ∧ W.cell? ⟨K + 1, 0, none⟩ = some (.int .i64 t') ∧ W.cell? ⟨K + 1, 1, none⟩ = some (.int .i64 s')) (first | exact Two.drew (by assumption) | exact Two.below (by assumption) (by assumption)) (first | (go_at_call 7; refine (toStamp_any _ _ _).mono ?_; rintro e w3 ⟨rfl, hb3⟩) | (go_at_call 9; refine (sLess_any _ _ _ _ _).mono ?_; rintro e w3 ⟨rfl, hb3⟩))
  rename_i T3
  have T4 : Two w K t s t' s' _ := T3
  clear T3 T0
  go_wp2
  go_region_held3 (fun W => Below w.heap.size w W ∧ K + 1 < W.heap.size ∧ W.cell? ⟨K, 0, none⟩ = some (.int .i64 t) ∧ W.cell? ⟨K, 1, none⟩ = some (.int .i64 s) ∧ W.cell? ⟨K + 1, 0, none⟩ = some (.int .i64 t') ∧ W.cell? ⟨K + 1, 1, none⟩ = some (.int .i64 s')) (first | exact Two.drew (by assumption) | exact Two.below (by assumption) (by assumption)) (first | (go_at_call 7; refine (toStamp_any _ _ _).mono ?_; rintro e w3 ⟨rfl, hb3⟩) | (go_at_call 10; refine (iLess_any _ _ _ _ _).mono ?_; rintro e w3 ⟨rfl, hb3⟩))
  rename_i T5
  have HB := T5.1
  clear T5 T4
  go_wp2
  go_ret
  exact ⟨rfl, HB⟩
end Go.Proofs.Ytlmffgeknlfpkas
