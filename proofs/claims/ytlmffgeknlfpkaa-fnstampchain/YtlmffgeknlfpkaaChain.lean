/- The law of chains of stamps. -/
import Derived.Test.YtlmffgeknlfpkaaOrder
namespace Go.Proofs.Ytlmffgeknlfpkaa
open Go.ChangeShapes Go.WideShapes Go.ChangeAt Go.RowKit

/-- What the law knows of three stamps that lie in memory. -/
def Three (w0 : World) (K L : Nat) (t s t' s' r q : Int) (w : World) : Prop :=
  Two w0 K t s t' s' w ∧ L < w.heap.size ∧ w.cell? ⟨L, 0, none⟩ = some (.int .i64 r) ∧ w.cell? ⟨L, 1, none⟩ = some (.int .i64 q)
theorem Three.below {w0 w w' : World} {K L : Nat} {t s t' s' r q : Int} (h : Three w0 K L t s t' s' r q w) (k : Below w.heap.size w w') : Three w0 K L t s t' s' r q w' := by
  obtain ⟨h1, h2, h3, h4⟩ := h
  refine ⟨h1.below k, Nat.lt_of_lt_of_le h2 k.size, ?_, ?_⟩
  · exact (k.cell (p := ⟨L, 0, none⟩) h2).trans h3
  · exact (k.cell (p := ⟨L, 1, none⟩) h2).trans h4
theorem Three.drew {w0 w : World} {K L : Nat} {t s t' s' r q : Int} (h : Three w0 K L t s t' s' r q w) : Three w0 K L t s t' s' r q w.drew := h.below (Below.refl _ _).drew

theorem less_chain (t s t' s' r q : Int) (h1 : lessB t s t' s' = true) (h2 : lessB t' s' r q = true) : lessB t s r q = true := by
  simp only [lessB, decide_eq_true_eq] at *; omega

set_option maxHeartbeats 4000000 in
theorem lawChain (w : World) (a b : Option Addr) (len cap len1 cap1 : Nat) (h : Code w a len cap) (g : Code w b len1 cap1) :
    Calls Try.prog 4 #[.slice a len cap, .slice b len1 cap1] w fun e w' => e = .returned (.bool true) ∧ Below w.heap.size w w' := by
  have hm := h.2.1
  have hl := h.1
  have gm := g.2.1
  have gl := g.1
  unfold maxLen at hm gm
  by_cases hc : 1048576 < (len : Int)
  · go_enter Try.func4, Try.ntmps4
    go_wp2
    go_ret
    exact ⟨rfl, Below.refl _ _⟩
  · by_cases gc : 1048576 < (len1 : Int)
    · go_enter Try.func4, Try.ntmps4
      go_wp2
      go_ret
      exact ⟨rfl, Below.refl _ _⟩
    · go_enter Try.func4, Try.ntmps4
      go_wp2_with fail
      refine (drawLess w a len cap h).mono ?_
      rintro e w1 ⟨t, s, t', s', rfl, _, _, hb⟩
      go_wp2_with fail
      refine (drawOk _ b len1 cap1 (g.below ((hb.alloc hb.size _).alloc (by have := hb.size; simp; omega) _))).mono ?_
      rintro e w2 ⟨r, q, rfl, _, hb2⟩
      have T2 : Two w w1.heap.size t s t' s' w2 := by
        refine Two.below ⟨(hb.alloc hb.size _).alloc (by have := hb.size; simp; omega) _, by simp, ?_, ?_, ?_, ?_⟩ hb2 <;> simp [go_sem]
      generalize w1.heap.size = K at *
      have T3 : Three w K w2.heap.size t s t' s' r q (w2.alloc (.cells #[.int .i64 r, .int .i64 q] 24)) :=
        ⟨T2.below ((Below.refl _ _).alloc (Nat.le_refl _) _), by simp, by simp [go_sem], by simp [go_sem]⟩
      clear hb2 hb T2 h g
      go_wp2_with fail
      generalize w2.heap.size = L at *
      generalize w2.alloc (.cells #[.int .i64 r, .int .i64 q] 24) = w3 at *
      go_region_held3 (fun W => (Below w.heap.size w W ∧ K + 1 < W.heap.size ∧ W.cell? ⟨K, 0, none⟩ = some (.int .i64 t) ∧ W.cell? ⟨K, 1, none⟩ = some (.int .i64 s) ∧ W.cell? ⟨K + 1, 0, none⟩ = some (.int .i64 t') ∧ W.cell? ⟨K + 1, 1, none⟩ = some (.int .i64 s')) ∧ L < W.heap.size ∧ W.cell? ⟨L, 0, none⟩ = some (.int .i64 r) ∧ W.cell? ⟨L, 1, none⟩ = some (.int .i64 q)) (first | exact Three.drew (by assumption) | exact Three.below (by assumption) (by assumption)) (first | (go_at_call 8; refine (iLess_any _ _ _ _ _).mono ?_; rintro e w4 ⟨rfl, hb4⟩) | (go_at_call 9; refine (sLess_any _ _ _ _ _).mono ?_; rintro e w4 ⟨rfl, hb4⟩))
      rename_i T4
      have T5 : Three w K L t s t' s' r q _ := T4
      clear T4 T3
      obtain ⟨⟨HB, c1, c2, c3, c4, c5⟩, c6, c7, c8⟩ := id T5
      by_cases d1 : lessB t s t' s' = true
      · by_cases d2 : lessB t' s' r q = true
        · have d3 := less_chain t s t' s' r q d1 d2
          go_wp2_with fail
          refine (iLess_any _ _ _ _ _).mono ?_
          rintro e w5 ⟨rfl, hb5⟩
          have T6 := T5.below hb5
          clear T5 hb5 HB c1 c2 c3 c4 c5 c6 c7 c8
          obtain ⟨⟨HB, c1, c2, c3, c4, c5⟩, c6, c7, c8⟩ := id T6
          go_wp2_with fail
          refine (iLess_any _ _ _ _ _).mono ?_
          rintro e w6 ⟨rfl, hb6⟩
          have T7 := T6.below hb6
          clear T6 hb6 HB c1 c2 c3 c4 c5 c6 c7 c8
          obtain ⟨⟨HB, c1, c2, c3, c4, c5⟩, c6, c7, c8⟩ := id T7
          go_wp2_with fail
          refine (iLess_any _ _ _ _ _).mono ?_
          rintro e w7 ⟨rfl, hb7⟩
          have T8 := T7.below hb7
          clear T7 hb7 HB c1 c2 c3 c4 c5 c6 c7 c8
          obtain ⟨⟨HB, -⟩, -⟩ := T8
          go_wp2
          go_ret
          exact ⟨rfl, HB⟩
        · have d2' : lessB t' s' r q = false := by simpa using d2
          clear d2
          go_wp2_with fail
          refine (iLess_any _ _ _ _ _).mono ?_
          rintro e w5 ⟨rfl, hb5⟩
          have T6 := T5.below hb5
          clear T5 hb5 HB c1 c2 c3 c4 c5 c6 c7 c8
          obtain ⟨⟨HB, c1, c2, c3, c4, c5⟩, c6, c7, c8⟩ := id T6
          go_wp2_with fail
          refine (iLess_any _ _ _ _ _).mono ?_
          rintro e w6 ⟨rfl, hb6⟩
          have T7 := T6.below hb6
          clear T6 hb6 HB c1 c2 c3 c4 c5 c6 c7 c8
          obtain ⟨⟨HB, -⟩, -⟩ := T7
          go_wp2
          go_ret
          exact ⟨rfl, HB⟩
      · have d1' : lessB t s t' s' = false := by simpa using d1
        clear d1
        go_wp2_with fail
        refine (iLess_any _ _ _ _ _).mono ?_
        rintro e w5 ⟨rfl, hb5⟩
        have T6 := T5.below hb5
        clear T5 hb5 HB c1 c2 c3 c4 c5 c6 c7 c8
        obtain ⟨⟨HB, -⟩, -⟩ := T6
        go_wp2
        go_ret
        exact ⟨rfl, HB⟩
end Go.Proofs.Ytlmffgeknlfpkaa
