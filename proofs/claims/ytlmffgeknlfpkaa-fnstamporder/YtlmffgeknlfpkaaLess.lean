/- Stamps are held against each other. -/
import Derived.Test.YtlmffgeknlfpkaaStamp
import Derived.Deep.RegionWith
namespace Go.Proofs.Ytlmffgeknlfpkaa
open Go.ChangeShapes Go.WideShapes Go.ChangeAt Go.RowKit

/-- How two numbers stand to each other. -/
def cmpV (x y : Int) : Int := if x < y then -1 else if y < x then 1 else 0
theorem cmp_lt {x y : Int} (h : x < y) : cmpV x y = -1 := by unfold cmpV; rw [if_pos h]
theorem cmp_gt {x y : Int} (h : y < x) : cmpV x y = 1 := by unfold cmpV; rw [if_neg (by omega), if_pos h]
theorem cmp_eq (x : Int) : cmpV x x = 0 := by unfold cmpV; rw [if_neg (by omega), if_neg (by omega)]

/-- Whether a stamp is ahead of another one. -/
def lessB (t s t' s' : Int) : Bool := decide (t < t' ∨ t = t' ∧ s < s')

theorem compare_any (x y : Int) (w : World) : Calls Try.prog 31 #[.int .i64 x, .int .i64 y] w fun e w' => e = .returned (.int .i64 (cmpV x y)) ∧ w' = w := by
  by_cases h : x < y
  · rw [cmp_lt h]
    go_enter Try.func31, Try.ntmps31
    go_wp2
    go_ret
    exact ⟨rfl, rfl⟩
  · by_cases h' : y < x
    · rw [cmp_gt h']
      go_enter Try.func31, Try.ntmps31
      go_wp2
      go_ret
      exact ⟨rfl, rfl⟩
    · obtain rfl : x = y := by omega
      rw [cmp_eq]
      go_enter Try.func31, Try.ntmps31
      go_wp2
      go_ret
      exact ⟨rfl, rfl⟩

theorem byTime_any (t s t' s' : Int) (w : World) : Calls Try.prog 21 #[stampV t s, stampV t' s'] w fun e w' => e = .returned (.int .i64 (cmpV t t')) ∧ Below w.heap.size w w' := by
  go_enter Try.func21, Try.ntmps21
  go_wp2_with (first | (go_at_call 31; refine (compare_any _ _ _).mono ?_; rintro e w' ⟨rfl, rfl⟩))
  go_ret
  exact ⟨rfl, ((Below.refl _ _).alloc (Nat.le_refl _) _).alloc (by simp) _⟩

theorem bySite_any (t s t' s' : Int) (w : World) : Calls Try.prog 23 #[stampV t s, stampV t' s'] w fun e w' => e = .returned (.int .i64 (cmpV s s')) ∧ Below w.heap.size w w' := by
  go_enter Try.func23, Try.ntmps23
  go_wp2_with (first | (go_at_call 31; refine (compare_any _ _ _).mono ?_; rintro e w' ⟨rfl, rfl⟩))
  go_ret
  exact ⟨rfl, ((Below.refl _ _).alloc (Nat.le_refl _) _).alloc (by simp) _⟩

/-- The order by time and then by site, as a value: a function and the two blocks that it holds. -/
abbrev thenV (n : Nat) : Value := .func (.func 32) #[] #[.pointer (some ⟨n, 0, none⟩), .pointer (some ⟨n + 1, 0, none⟩)]

theorem then_any (w : World) : Calls Try.prog 22 #[.func (.func 21) #[] #[], .func (.func 23) #[] #[]] w fun e w' => e = .returned (thenV w.heap.size) ∧
    w' = ((w.alloc (.cells #[.func (.func 21) #[] #[]] 44)).alloc (.cells #[.func (.func 23) #[] #[]] 44)) := by
  go_enter Try.func22, Try.ntmps22
  go_wp2
  go_ret
  exact ⟨rfl, rfl⟩

theorem bcell {W w1 : World} (hb : Below W.heap.size W w1) : (∀ b o, b < W.heap.size → w1.cell? ⟨b, o, none⟩ = W.cell? ⟨b, o, none⟩) ∧ (∀ b o, b < W.heap.size → w1.frozen? ⟨b, o, none⟩ = W.frozen? ⟨b, o, none⟩) :=
  ⟨fun b o h => hb.cell (p := ⟨b, o, none⟩) h, fun b o h => hb.frozen (p := ⟨b, o, none⟩) h⟩

/-- By time, and then by site. -/
def ordV (t s t' s' : Int) : Int := if cmpV t t' = 0 then cmpV s s' else cmpV t t'
theorem ord_less (t s t' s' : Int) : decide (ordV t s t' s' < 0) = lessB t s t' s' := by
  unfold ordV lessB cmpV
  rw [decide_eq_decide]
  by_cases h1 : t < t' <;> by_cases h2 : t' < t <;> by_cases h3 : s < s' <;> by_cases h4 : s' < s <;> simp [*] <;> omega

theorem order_any (t s t' s' : Int) (b1 b2 : Nat) (w : World) (h1 : w.cell? ⟨b1, 0, none⟩ = some (.func (.func 21) #[] #[])) (h2 : w.cell? ⟨b2, 0, none⟩ = some (.func (.func 23) #[] #[])) :
    Calls Try.prog 32 #[stampV t s, stampV t' s', .pointer (some ⟨b1, 0, none⟩), .pointer (some ⟨b2, 0, none⟩)] w fun e w' => e = .returned (.int .i64 (ordV t s t' s')) ∧ Below w.heap.size w w' := by
  have l1 : b1 < w.heap.size := World.block_lt_of_cell? _ _ h1
  have l2 : b2 < w.heap.size := World.block_lt_of_cell? _ _ h2
  have m1 : b1 < w.heap.size + 1 + 1 := by omega
  have m2 : b2 < w.heap.size + 1 + 1 := by omega
  have m3 : b1 < w.heap.size + 1 := by omega
  have m4 : b2 < w.heap.size + 1 := by omega
  by_cases h0 : cmpV t t' = 0
  · have e0 : ordV t s t' s' = cmpV s s' := by unfold ordV; rw [if_pos h0]
    rw [e0]
    clear e0
    go_enter Try.func32, Try.ntmps32
    go_wp2_with fail
    refine (byTime_any _ _ _ _ _).mono ?_
    rintro e w1 ⟨rfl, hb⟩
    obtain ⟨hc, hf⟩ := bcell hb
    go_wp2_with fail
    refine (bySite_any _ _ _ _ _).mono ?_
    rintro e w2 ⟨rfl, hb2⟩
    go_wp2
    go_ret
    exact ⟨rfl, ((((Below.refl _ _).alloc (Nat.le_refl _) _).alloc (by simp) _).trans (hb.mono (by simp; omega))).trans (hb2.mono (by have := hb.size; simp at this; omega))⟩
  · have e0 : ordV t s t' s' = cmpV t t' := by unfold ordV; rw [if_neg h0]
    have h0' : (cmpV t t' == 0) = false := by simpa using h0
    rw [e0]
    clear e0
    go_enter Try.func32, Try.ntmps32
    go_wp2_with fail
    refine (byTime_any _ _ _ _ _).mono ?_
    rintro e w1 ⟨rfl, hb⟩
    obtain ⟨hc, hf⟩ := bcell hb
    go_wp2
    go_ret
    exact ⟨rfl, ((((Below.refl _ _).alloc (Nat.le_refl _) _).alloc (by simp) _).trans (hb.mono (by simp; omega)))⟩

set_option maxHeartbeats 4000000 in
theorem iLess_any (t s t' s' : Int) (w : World) : Calls Try.prog 8 #[stampV t s, stampV t' s'] w fun e w' => e = .returned (.bool (lessB t s t' s')) ∧ Below w.heap.size w w' := by
  rw [← ord_less]
  go_enter Try.func8, Try.ntmps8
  go_wp2
  go_region_with (first | (go_at_call 22; refine (then_any _).mono ?_; rintro e w1 ⟨rfl, rfl⟩) | (go_at_call 32; refine (order_any _ _ _ _ _ _ _ ?_ ?_).mono ?_; go_simp; go_simp; rintro e w1 ⟨rfl, hb⟩))
  all_goals
    go_wp2
    go_ret
    exact ⟨rfl, ((((((Below.refl _ _).alloc (Nat.le_refl _) _).alloc (by simp) _).alloc (by simp; omega) _).alloc (by simp; omega) _).drew).trans (hb.mono (by simp; omega))⟩

theorem sLess_any (t s t' s' : Int) (w : World) : Calls Try.prog 9 #[stampV t s, stampV t' s'] w fun e w' => e = .returned (.bool (lessB t s t' s')) ∧ Below w.heap.size w w' := by
  by_cases h1 : t < t'
  · have hd : decide (t < t') = true := by simpa using h1
    have e : lessB t s t' s' = true := by unfold lessB; simp; omega
    rw [e]
    clear e
    go_enter Try.func9, Try.ntmps9
    go_wp2
    go_ret
    exact ⟨rfl, ((Below.refl _ _).alloc (Nat.le_refl _) _).alloc (by simp) _⟩
  · have hd : decide (t < t') = false := by simpa using h1
    by_cases h2 : t = t'
    · subst h2
      have e : lessB t s t s' = decide (s < s') := by unfold lessB; rw [decide_eq_decide]; omega
      rw [e]
      clear e
      go_enter Try.func9, Try.ntmps9
      go_wp2
      go_ret
      exact ⟨rfl, ((Below.refl _ _).alloc (Nat.le_refl _) _).alloc (by simp) _⟩
    · have hd2 : (t == t') = false := by simpa using h2
      have e : lessB t s t' s' = false := by unfold lessB; simp; omega
      rw [e]
      clear e
      go_enter Try.func9, Try.ntmps9
      go_wp2
      go_ret
      exact ⟨rfl, ((Below.refl _ _).alloc (Nat.le_refl _) _).alloc (by simp) _⟩

/-- Whether a stamp is ok. -/
def okB (t s : Int) : Bool := decide (1 ≤ t ∧ t ≤ 9999 ∧ 0 ≤ s ∧ s ≤ 3)

theorem side_ok (s : Int) : decide (0 ≤ sideOf s) = decide (0 ≤ s ∧ s ≤ 3) := by
  rw [decide_eq_decide]; unfold sideOf; split <;> omega

theorem iOk_any (t s : Int) (w : World) : Calls Try.prog 10 #[stampV t s] w fun e w' => e = .returned (.bool (okB t s)) ∧ Below w.heap.size w w' := by
  by_cases h1 : 1 ≤ t
  · by_cases h2 : t ≤ 9999
    · have e : okB t s = decide (0 ≤ sideOf s) := by rw [side_ok]; unfold okB; rw [decide_eq_decide]; omega
      have d1 : decide (1 ≤ t) = true := by simpa using h1
      have d2 : decide (t ≤ 9999) = true := by simpa using h2
      rw [e]
      clear e
      go_enter Try.func10, Try.ntmps10
      go_wp2_with (first | (go_at_call 17; refine (iSide_any _ _).mono ?_; rintro e w' ⟨rfl, rfl⟩))
      go_ret
      exact ⟨rfl, (Below.refl _ _).alloc (Nat.le_refl _) _⟩
    · have e : okB t s = false := by unfold okB; simp; omega
      have d1 : decide (1 ≤ t) = true := by simpa using h1
      have d2 : decide (t ≤ 9999) = false := by simpa using h2
      rw [e]
      clear e
      go_enter Try.func10, Try.ntmps10
      go_wp2
      go_ret
      exact ⟨rfl, (Below.refl _ _).alloc (Nat.le_refl _) _⟩
  · have e : okB t s = false := by unfold okB; simp; omega
    have d1 : decide (1 ≤ t) = false := by simpa using h1
    rw [e]
    clear e
    go_enter Try.func10, Try.ntmps10
    go_wp2
    go_ret
    exact ⟨rfl, (Below.refl _ _).alloc (Nat.le_refl _) _⟩

/-- Whether a number is in a range. -/
def inB (n lo hi : Int) : Bool := decide (lo ≤ n ∧ n ≤ hi)
theorem in_any (n lo hi : Int) (w : World) : Calls Try.prog 24 #[.int .i64 n, .int .i64 lo, .int .i64 hi] w fun e w' => e = .returned (.bool (inB n lo hi)) ∧ w' = w := by
  by_cases h1 : lo ≤ n
  · have d1 : decide (lo ≤ n) = true := by simpa using h1
    have e : inB n lo hi = decide (n ≤ hi) := by unfold inB; rw [decide_eq_decide]; omega
    rw [e]
    clear e
    go_enter Try.func24, Try.ntmps24
    go_wp2
    go_ret
    exact ⟨rfl, rfl⟩
  · have d1 : decide (lo ≤ n) = false := by simpa using h1
    have e : inB n lo hi = false := by unfold inB; simp; omega
    rw [e]
    clear e
    go_enter Try.func24, Try.ntmps24
    go_wp2
    go_ret
    exact ⟨rfl, rfl⟩

theorem site_any (n : Int) (w : World) : Calls Try.prog 25 #[.int .i64 n] w fun e w' => e = .returned (.bool (inB n 0 3)) ∧ w' = w := by
  go_enter Try.func25, Try.ntmps25
  go_wp2_with (first | (go_at_call 24; refine (in_any _ _ _ _).mono ?_; rintro e w' ⟨rfl, rfl⟩))
  go_ret
  exact ⟨rfl, rfl⟩
end Go.Proofs.Ytlmffgeknlfpkaa
