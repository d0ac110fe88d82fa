/- Draws of stamps; the law of order. -/
import Derived.Test.YtlmffgeknlfpkaaLess
import Derived.Deep.RegionHeld3
namespace Go.Proofs.Ytlmffgeknlfpkaa
open Go.ChangeShapes Go.WideShapes Go.ChangeAt Go.RowKit

theorem sOk_any (t s : Int) (w : World) : Calls Try.prog 11 #[stampV t s] w fun e w' => e = .returned (.bool (okB t s)) ∧ Below w.heap.size w w' := by
  by_cases h : 1 ≤ t ∧ t ≤ 9999
  · have d1 : inB t 1 9999 = true := by unfold inB; simpa using h
    have e : okB t s = inB s 0 3 := by unfold okB inB; rw [decide_eq_decide]; omega
    rw [e]
    clear e h
    go_enter Try.func11, Try.ntmps11
    go_wp2_with (first | (go_at_call 24; refine (in_any _ _ _ _).mono ?_; rintro e w' ⟨rfl, rfl⟩) | (go_at_call 25; refine (site_any _ _).mono ?_; rintro e w' ⟨rfl, rfl⟩))
    go_ret
    exact ⟨rfl, (Below.refl _ _).alloc (Nat.le_refl _) _⟩
  · have d1 : inB t 1 9999 = false := by unfold inB; simp; omega
    have e : okB t s = false := by unfold okB; simp; omega
    rw [e]
    clear e h
    go_enter Try.func11, Try.ntmps11
    go_wp2_with (first | (go_at_call 24; refine (in_any _ _ _ _).mono ?_; rintro e w' ⟨rfl, rfl⟩) | (go_at_call 25; refine (site_any _ _).mono ?_; rintro e w' ⟨rfl, rfl⟩))
    go_ret
    exact ⟨rfl, (Below.refl _ _).alloc (Nat.le_refl _) _⟩

/-- A number that is near. -/
def Near (t s : Int) : Prop := -1 ≤ t ∧ t ≤ 10000 ∧ -1 ≤ s ∧ s ≤ 4

theorem drawOk (w : World) (a : Option Addr) (len cap : Nat) (h : Code w a len cap) :
    Calls Try.prog 12 #[.slice a len cap] w fun e w' => ∃ t s : Int, e = .returned (stampV t s) ∧ Near t s ∧ Below w.heap.size w w' := by
  have k : Below w.heap.size w (w.alloc (.cells #[.int .i64 0, .int .i64 0] 24)) := (Below.refl _ _).alloc (Nat.le_refl _) _
  go_enter Try.func12, Try.ntmps12
  go_wp2_with fail
  refine (open_any _ a len cap (h.below k)).mono ?_
  rintro e w1 ⟨rfl, hr, hb, hs⟩
  simp only [World.size_alloc] at hs hr
  go_wp2_with fail
  refine (drawStamp _ 0 w1 hr (by omega)).mono ?_
  rintro e w2 ⟨t, s, p', rfl, b1, b2, b3, b4, _, _, hr2, hs2⟩
  have c2 : w2.cell? ⟨w.heap.size, 0, none⟩ = some (.int .i64 0) := by
    rw [hs2.cell (by omega) (by simp)]
    exact (hb.cell (p := ⟨w.heap.size, 0, none⟩) (by simp)).trans (by simp [go_sem])
  have c3 : w2.cell? ⟨w.heap.size, 1, none⟩ = some (.int .i64 0) := by
    rw [hs2.cell (by omega) (by simp)]
    exact (hb.cell (p := ⟨w.heap.size, 1, none⟩) (by simp)).trans (by simp [go_sem])
  have f2 : w2.frozen? ⟨w.heap.size, 0, none⟩ = false := by
    rw [hs2.frozen (by omega) (by simp)]
    exact (hb.frozen (p := ⟨w.heap.size, 0, none⟩) (by simp)).trans (by simp [go_sem])
  have f3 : w2.frozen? ⟨w.heap.size, 1, none⟩ = false := by
    rw [hs2.frozen (by omega) (by simp)]
    exact (hb.frozen (p := ⟨w.heap.size, 1, none⟩) (by simp)).trans (by simp [go_sem])
  have hB : Below w.heap.size w w2 := hs2.below (k.trans (hb.mono (by simp))) (by simp)
  clear hs2 hr2 hb hr k
  go_wp2
  exact bodyPost_ret (v := stampV t s) (by simp [results, Try.results12, go_sem, c2, c3]) rfl ⟨t, s, rfl, ⟨b1, b2, b3, b4⟩, (hB.setCell (by simp) _).setCell (by simp) _⟩

theorem drawLess (w : World) (a : Option Addr) (len cap : Nat) (h : Code w a len cap) :
    Calls Try.prog 7 #[.slice a len cap] w fun e w' => ∃ t s t' s' : Int, e = .returned (.tuple #[stampV t s, stampV t' s']) ∧ Near t s ∧ Near t' s' ∧ Below w.heap.size w w' := by
  have k : Below w.heap.size w ((w.alloc (.cells #[.int .i64 0, .int .i64 0] 24)).alloc (.cells #[.int .i64 0, .int .i64 0] 24)) := ((Below.refl _ _).alloc (Nat.le_refl _) _).alloc (by simp) _
  go_enter Try.func7, Try.ntmps7
  go_wp2_with fail
  refine (open_any _ a len cap (h.below k)).mono ?_
  rintro e w1 ⟨rfl, hr, hb, hs⟩
  simp only [World.size_alloc] at hs hr
  go_wp2_with fail
  refine (drawStamp _ 0 w1 hr (by omega)).mono ?_
  rintro e w2 ⟨t, s, p', rfl, b1, b2, b3, b4, _, q1, hr2, hs2⟩
  go_wp2_with fail
  refine (drawStamp _ p' w2 hr2 (by omega)).mono ?_
  rintro e w3 ⟨t', s', p'', rfl, d1, d2, d3, d4, _, _, hr3, hs3⟩
  have S3 := hs2.trans hs3
  have hB : Below w.heap.size w w3 := S3.below (k.trans (hb.mono (by simp; omega))) (by omega)
  have cl : ∀ b o, b < w.heap.size + 2 → w3.cell? ⟨b, o, none⟩ = ((w.alloc (.cells #[.int .i64 0, .int .i64 0] 24)).alloc (.cells #[.int .i64 0, .int .i64 0] 24)).cell? ⟨b, o, none⟩ := fun b o hbb => by
    rw [S3.cell (by omega) (by omega)]
    exact hb.cell (p := ⟨b, o, none⟩) (by simp; omega)
  have fl : ∀ b o, b < w.heap.size + 2 → w3.frozen? ⟨b, o, none⟩ = ((w.alloc (.cells #[.int .i64 0, .int .i64 0] 24)).alloc (.cells #[.int .i64 0, .int .i64 0] 24)).frozen? ⟨b, o, none⟩ := fun b o hbb => by
    rw [S3.frozen (by omega) (by omega)]
    exact hb.frozen (p := ⟨b, o, none⟩) (by simp; omega)
  have c0 : w3.cell? ⟨w.heap.size, 0, none⟩ = some (.int .i64 0) := by rw [cl _ _ (by omega)]; simp [go_sem]
  have c1 : w3.cell? ⟨w.heap.size, 1, none⟩ = some (.int .i64 0) := by rw [cl _ _ (by omega)]; simp [go_sem]
  have c2 : w3.cell? ⟨w.heap.size + 1, 0, none⟩ = some (.int .i64 0) := by rw [cl _ _ (by omega)]; simp [go_sem]
  have c3 : w3.cell? ⟨w.heap.size + 1, 1, none⟩ = some (.int .i64 0) := by rw [cl _ _ (by omega)]; simp [go_sem]
  have f0 : w3.frozen? ⟨w.heap.size, 0, none⟩ = false := by rw [fl _ _ (by omega)]; simp [go_sem]
  have f1 : w3.frozen? ⟨w.heap.size, 1, none⟩ = false := by rw [fl _ _ (by omega)]; simp [go_sem]
  have f2 : w3.frozen? ⟨w.heap.size + 1, 0, none⟩ = false := by rw [fl _ _ (by omega)]; simp [go_sem]
  have f3 : w3.frozen? ⟨w.heap.size + 1, 1, none⟩ = false := by rw [fl _ _ (by omega)]; simp [go_sem]
  clear cl fl S3 hs2 hs3 hr2 hr3 hb hr k
  go_wp2
  exact bodyPost_ret (v := .tuple #[stampV t s, stampV t' s']) (by simp [results, Try.results7, go_sem, c0, c1, c2, c3]) rfl ⟨t, s, t', s', rfl, ⟨b1, b2, b3, b4⟩, ⟨d1, d2, d3, d4⟩, (((hB.setCell (by simp) _).setCell (by simp) _).setCell (by simp) _).setCell (by simp) _⟩

/-- What a slice of bytes that came in reads as is a code, nil too. -/
theorem code_of {w : World} {a : Option Addr} {len cap : Nat} {zs : List Int}
    (h : (a = none ∧ len = 0 ∧ cap = 0 ∧ zs = []) ∨ ∃ x, a = some x ∧ len ≤ cap ∧ cap ≤ maxLen ∧ zs.length = cap ∧ (∀ i, i < zs.length → w.cell? (x.add i) = some (.int .u8 (zs.getD i 0))) ∧ ∀ n ∈ zs, (Lit.int .u8 n).wf = true) : Code w a len cap := by
  rcases h with ⟨rfl, rfl, rfl, rfl⟩ | ⟨x, rfl, hl, hm, hz, hcell, hwz⟩
  · exact ⟨Nat.le_refl _, Nat.zero_le _, .inl ⟨rfl, rfl⟩⟩
  · exact code_of_row hl hm hz hcell hwz

/-- What the laws know of two stamps that lie in memory. -/
def Two (w0 : World) (K : Nat) (t s t' s' : Int) (w : World) : Prop :=
  Below w0.heap.size w0 w ∧ K + 1 < w.heap.size ∧ w.cell? ⟨K, 0, none⟩ = some (.int .i64 t) ∧ w.cell? ⟨K, 1, none⟩ = some (.int .i64 s) ∧ w.cell? ⟨K + 1, 0, none⟩ = some (.int .i64 t') ∧ w.cell? ⟨K + 1, 1, none⟩ = some (.int .i64 s')

theorem Two.below {w0 w w' : World} {K : Nat} {t s t' s' : Int} (h : Two w0 K t s t' s' w) (k : Below w.heap.size w w') : Two w0 K t s t' s' w' := by
  obtain ⟨h1, h2, h3, h4, h5, h6⟩ := h
  refine ⟨h1.trans (k.mono h1.size), Nat.lt_of_lt_of_le h2 k.size, ?_, ?_, ?_, ?_⟩
  · exact (k.cell (p := ⟨K, 0, none⟩) (by simp; omega)).trans h3
  · exact (k.cell (p := ⟨K, 1, none⟩) (by simp; omega)).trans h4
  · exact (k.cell (p := ⟨K + 1, 0, none⟩) (by simp; omega)).trans h5
  · exact (k.cell (p := ⟨K + 1, 1, none⟩) (by simp; omega)).trans h6
theorem Two.drew {w0 w : World} {K : Nat} {t s t' s' : Int} (h : Two w0 K t s t' s' w) : Two w0 K t s t' s' w.drew := h.below (Below.refl _ _).drew

set_option maxHeartbeats 1000000 in
theorem lawOrder (w : World) (a : Option Addr) (len cap : Nat) (h : Code w a len cap) :
    Calls Try.prog 3 #[.slice a len cap] w fun e w' => e = .returned (.bool true) ∧ Below w.heap.size w w' := by
  have hm := h.2.1
  have hl := h.1
  unfold maxLen at hm
  by_cases hc : 1048576 < (len : Int)
  · go_enter Try.func3, Try.ntmps3
    go_wp2
    go_ret
    exact ⟨rfl, Below.refl _ _⟩
  · go_enter Try.func3, Try.ntmps3
    go_wp2_with fail
    refine (drawLess w a len cap h).mono ?_
    rintro e w1 ⟨t, s, t', s', rfl, _, _, hb⟩
    go_wp2_with fail
    refine (iLess_any _ _ _ _ _).mono ?_
    rintro e w2 ⟨rfl, hb2⟩
    have T2 : Two w w1.heap.size t s t' s' w2 := by
      refine Two.below ⟨(hb.alloc hb.size _).alloc (by have := hb.size; simp; omega) _, by simp, ?_, ?_, ?_, ?_⟩ hb2 <;> simp [go_sem]
    clear hb2 hb
    obtain ⟨-, hK, -⟩ := id T2
    generalize w1.heap.size = K at *
    go_wp2_with fail
    go_region_held3 (fun W => Below w.heap.size w W ∧ K + 1 < W.heap.size ∧ W.cell? ⟨K, 0, none⟩ = some (.int .i64 t) ∧ W.cell? ⟨K, 1, none⟩ = some (.int .i64 s) ∧ W.cell? ⟨K + 1, 0, none⟩ = some (.int .i64 t') ∧ W.cell? ⟨K + 1, 1, none⟩ = some (.int .i64 s')) (first | exact Two.drew (by assumption) | exact Two.below (by assumption) (by assumption)) (first | (go_at_call 9; refine (sLess_any _ _ _ _ _).mono ?_; rintro e w3 ⟨rfl, hb3⟩) | (go_at_call 10; refine (iOk_any _ _ _).mono ?_; rintro e w3 ⟨rfl, hb3⟩) | (go_at_call 11; refine (sOk_any _ _ _).mono ?_; rintro e w3 ⟨rfl, hb3⟩))
    rename_i T3
    have T4 : Two w K t s t' s' _ := T3
    clear T3 T2
    obtain ⟨HB, h2, h3, h4, h5, h6⟩ := id T4
    go_wp2_with fail
    refine (iLess_any _ _ _ _ _).mono ?_
    rintro e w5 ⟨rfl, hb5⟩
    have T5 := T4.below hb5
    clear T4 hb5 HB h2 h3 h4 h5 h6
    obtain ⟨HB, h2, h3, h4, h5, h6⟩ := id T5
    go_wp2
    all_goals
      go_ret
      refine ⟨?_, HB⟩
      clear HB T5 h2 h3 h4 h5 h6
      first
        | rfl
        | (refine congrArg Ending.returned (congrArg Value.bool ?_); simp only [lessB, Bool.not_eq_true', decide_eq_true_eq, decide_eq_false_iff_not, true_and] at *; omega)
end Go.Proofs.Ytlmffgeknlfpkaa
