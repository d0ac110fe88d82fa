/- Stamps are held against each other. -/
import Derived.Test.YtpjidogilofppaaGreatZA
namespace Go.Proofs.YtpjidogilofppaaGreat
open Go.ChangeShapes Go.WideShapes Go.ChangeAt Go.RowKit

theorem compare_any (x y : Int) (w : World) : Calls Tryz.prog 217 #[.int .i64 x, .int .i64 y] w fun e w' => e = .returned (.int .i64 (cmpV x y)) ∧ w' = w := by
  by_cases h : x < y
  · rw [cmp_lt h]
    go_enter Tryz.func217, Tryz.ntmps217
    go_wp2
    go_ret
    exact ⟨rfl, rfl⟩
  · by_cases h' : y < x
    · rw [cmp_gt h']
      go_enter Tryz.func217, Tryz.ntmps217
      go_wp2
      go_ret
      exact ⟨rfl, rfl⟩
    · obtain rfl : x = y := by omega
      rw [cmp_eq]
      go_enter Tryz.func217, Tryz.ntmps217
      go_wp2
      go_ret
      exact ⟨rfl, rfl⟩

theorem byTime_any (t s t' s' : Int) (w : World) : Calls Tryz.prog 218 #[stampV t s, stampV t' s'] w fun e w' => e = .returned (.int .i64 (cmpV t t')) ∧ Below w.heap.size w w' := by
  go_enter Tryz.func218, Tryz.ntmps218
  go_wp2_with (first | (go_at_call 217; refine (compare_any _ _ _).mono ?_; rintro e w' ⟨rfl, rfl⟩))
  go_ret
  exact ⟨rfl, ((Below.refl _ _).alloc (Nat.le_refl _) _).alloc (by simp) _⟩

theorem bySite_any (t s t' s' : Int) (w : World) : Calls Tryz.prog 220 #[stampV t s, stampV t' s'] w fun e w' => e = .returned (.int .i64 (cmpV s s')) ∧ Below w.heap.size w w' := by
  go_enter Tryz.func220, Tryz.ntmps220
  go_wp2_with (first | (go_at_call 217; refine (compare_any _ _ _).mono ?_; rintro e w' ⟨rfl, rfl⟩))
  go_ret
  exact ⟨rfl, ((Below.refl _ _).alloc (Nat.le_refl _) _).alloc (by simp) _⟩

/-- The order by time and then by site, as a value: a function and the two blocks that it holds. -/
abbrev thenV (n : Nat) : Value := .func (.func 257) #[] #[.pointer (some ⟨n, 0, none⟩), .pointer (some ⟨n + 1, 0, none⟩)]

theorem then_any (w : World) : Calls Tryz.prog 219 #[.func (.func 218) #[] #[], .func (.func 220) #[] #[]] w fun e w' => e = .returned (thenV w.heap.size) ∧
    w' = ((w.alloc (.cells #[.func (.func 218) #[] #[]] 249)).alloc (.cells #[.func (.func 220) #[] #[]] 249)) := by
  go_enter Tryz.func219, Tryz.ntmps219
  go_wp2
  go_ret
  exact ⟨rfl, rfl⟩

theorem order_any (t s t' s' : Int) (b1 b2 : Nat) (w : World) (h1 : w.cell? ⟨b1, 0, none⟩ = some (.func (.func 218) #[] #[])) (h2 : w.cell? ⟨b2, 0, none⟩ = some (.func (.func 220) #[] #[])) :
    Calls Tryz.prog 257 #[stampV t s, stampV t' s', .pointer (some ⟨b1, 0, none⟩), .pointer (some ⟨b2, 0, none⟩)] w fun e w' => e = .returned (.int .i64 (ordV t s t' s')) ∧ Below w.heap.size w w' := by
  have l1 : b1 < w.heap.size := World.block_lt_of_cell? _ _ h1
  have l2 : b2 < w.heap.size := World.block_lt_of_cell? _ _ h2
  have m1 : b1 < w.heap.size + 1 + 1 := by omega
  have m2 : b2 < w.heap.size + 1 + 1 := by omega
  have m3 : b1 < w.heap.size + 1 := by omega
  have m4 : b2 < w.heap.size + 1 := by omega
  by_cases h0 : cmpV t t' = 0
  · have e0 : ordV t s t' s' = cmpV s s' := by unfold ordV; rw [if_pos h0]
    rw [e0]
    clear e0
    go_enter Tryz.func257, Tryz.ntmps257
    go_wp2_with fail
    refine (byTime_any _ _ _ _ _).mono ?_
    rintro e w1 ⟨rfl, hb⟩
    obtain ⟨hc, hf⟩ := bcell hb
    go_wp2_with fail
    refine (bySite_any _ _ _ _ _).mono ?_
    rintro e w2 ⟨rfl, hb2⟩
    go_wp2
    go_ret
    exact ⟨rfl, ((((Below.refl _ _).alloc (Nat.le_refl _) _).alloc (by simp) _).trans (hb.mono (by simp; omega))).trans (hb2.mono (by have := hb.size; simp at this; omega))⟩
  · have e0 : ordV t s t' s' = cmpV t t' := by unfold ordV; rw [if_neg h0]
    have h0' : (cmpV t t' == 0) = false := by simpa using h0
    rw [e0]
    clear e0
    go_enter Tryz.func257, Tryz.ntmps257
    go_wp2_with fail
    refine (byTime_any _ _ _ _ _).mono ?_
    rintro e w1 ⟨rfl, hb⟩
    obtain ⟨hc, hf⟩ := bcell hb
    go_wp2
    go_ret
    exact ⟨rfl, ((((Below.refl _ _).alloc (Nat.le_refl _) _).alloc (by simp) _).trans (hb.mono (by simp; omega)))⟩

set_option maxHeartbeats 4000000 in
theorem iLess_any (t s t' s' : Int) (w : World) : Calls Tryz.prog 260 #[stampV t s, stampV t' s'] w fun e w' => e = .returned (.bool (lessB t s t' s')) ∧ Below w.heap.size w w' := by
  rw [← ord_less]
  go_enter Tryz.func260, Tryz.ntmps260
  go_wp2
  go_region_with (first | (go_at_call 219; refine (then_any _).mono ?_; rintro e w1 ⟨rfl, rfl⟩) | (go_at_call 257; refine (order_any _ _ _ _ _ _ _ ?_ ?_).mono ?_; go_simp; go_simp; rintro e w1 ⟨rfl, hb⟩))
  all_goals
    go_wp2
    go_ret
    exact ⟨rfl, ((((((Below.refl _ _).alloc (Nat.le_refl _) _).alloc (by simp) _).alloc (by simp; omega) _).alloc (by simp; omega) _).drew).trans (hb.mono (by simp; omega))⟩

theorem sLess_any (t s t' s' : Int) (w : World) : Calls Tryz.prog 169 #[stampV t s, stampV t' s'] w fun e w' => e = .returned (.bool (lessB t s t' s')) ∧ Below w.heap.size w w' := by
  by_cases h1 : t < t'
  · have hd : decide (t < t') = true := by simpa using h1
    have e : lessB t s t' s' = true := by unfold lessB; simp; omega
    rw [e]
    clear e
    go_enter Tryz.func169, Tryz.ntmps169
    go_wp2
    go_ret
    exact ⟨rfl, ((Below.refl _ _).alloc (Nat.le_refl _) _).alloc (by simp) _⟩
  · have hd : decide (t < t') = false := by simpa using h1
    by_cases h2 : t = t'
    · subst h2
      have e : lessB t s t s' = decide (s < s') := by unfold lessB; rw [decide_eq_decide]; omega
      rw [e]
      clear e
      go_enter Tryz.func169, Tryz.ntmps169
      go_wp2
      go_ret
      exact ⟨rfl, ((Below.refl _ _).alloc (Nat.le_refl _) _).alloc (by simp) _⟩
    · have hd2 : (t == t') = false := by simpa using h2
      have e : lessB t s t' s' = false := by unfold lessB; simp; omega
      rw [e]
      clear e
      go_enter Tryz.func169, Tryz.ntmps169
      go_wp2
      go_ret
      exact ⟨rfl, ((Below.refl _ _).alloc (Nat.le_refl _) _).alloc (by simp) _⟩

end Go.Proofs.YtpjidogilofppaaGreat
