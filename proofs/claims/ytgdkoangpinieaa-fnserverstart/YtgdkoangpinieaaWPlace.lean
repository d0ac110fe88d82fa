/- Words: places and numbers. -/
import Derived.Test.YtgdkoangpinieaaWOwesI
namespace Go.Proofs.Ytgdkoangpinieaa
open Go.ChangeShapes Go.WideShapes Go.ChangeAt Go.RowKit

theorem client_any (n : Int) (w : World) : Calls Try.prog 174 #[.int .i64 n] w fun e w' => e = .returned (.bool (inB n 10 11)) ∧ w' = w := by
  by_cases h1 : 10 ≤ n
  · have d1 : decide (10 ≤ n) = true := by simpa using h1
    have e : inB n 10 11 = decide (n < 12) := by unfold inB; rw [decide_eq_decide]; omega
    rw [e]
    go_enter Try.func174, Try.ntmps174
    go_wp2
    go_ret
    exact ⟨rfl, rfl⟩
  · have d1 : decide (10 ≤ n) = false := by simpa using h1
    have e : inB n 10 11 = false := by unfold inB; simp; omega
    rw [e]
    go_enter Try.func174, Try.ntmps174
    go_wp2
    go_ret
    exact ⟨rfl, rfl⟩
theorem client_is {n : Int} {r : Bool} (h : inB n 10 11 = r) (w : World) : Calls Try.prog 174 #[.int .i64 n] w fun e w' => e = .returned (.bool r) ∧ w' = w := by rw [← h]; exact client_any n w
theorem side_is {n r : Int} (h : sideOf n = r) (w : World) : Calls Try.prog 134 #[.int .i64 n] w fun e w' => e = .returned (.int .i64 r) ∧ w' = w := by rw [← h]; exact iSide_any n w
theorem place_side {n : Int} : inB n 0 3 = decide (0 ≤ sideOf n) := by rw [side_ok]; rfl
/-- Places that lie in memory. -/
theorem places_any (g cap : Nat) (l : List Int) (w : World) (hl : l.length ≤ 1000) (h : ∀ i, (hi : i < l.length) → w.cell? ⟨g, i, none⟩ = some (.int .i64 l[i])) :
    Calls Try.prog 125 #[.slice (some ⟨g, 0, none⟩) l.length cap] w fun e w' => e = .returned (.bool (l.all placeB)) ∧ w' = w := by
  go_enter Try.func125, Try.ntmps125
  go_wp2
  go_loopw [7] (fun i wr => ∃ k : Nat, k ≤ l.length ∧ i = .int .i64 k ∧ Hid (∀ n ∈ l.take k, placeB n = true) ∧ wr = w) (fun i _ => l.length - (intOf i).toNat)
  case atStart => exact ⟨0, Nat.zero_le _, rfl, fun n hn => by simp at hn, rfl⟩
  case round =>
    obtain ⟨k, hk, rfl, HC, rfl⟩ := hrel
    by_cases hlt : k < l.length
    · have hc := h k hlt
      have hm := List.getElem_mem hlt
      have HT : Hid (l.take (k + 1) = l.take k ++ [l[k]]) := takeV l k hlt
      rcases hp : placeB l[k] with _ | _
      · have HN : Hid (l.all placeB = false) := by
          show _ = _
          rw [List.all_eq_false]; exact ⟨l[k], hm, by rw [hp]; exact Bool.false_ne_true⟩
        have hs : sideOf l[k] < 0 := by
          unfold placeB at hp
          rw [place_side] at hp
          simp at hp
          omega
        have hcl : inB l[k] 10 11 = false := by unfold placeB at hp; simp at hp; exact hp.2
        obtain ⟨q, hq⟩ : ∃ q, sideOf l[k] = q := ⟨_, rfl⟩
        have hS := side_is hq
        have hK := client_is hcl
        rw [hq] at hs
        have d1 : decide (q < 0) = true := by simpa using hs
        clear h HC hm hp hcl hq HT
        generalize l[k] = n at *
        go_wp2_with fail
        refine (hS _).mono ?_
        rintro e w1 ⟨rfl, rfl⟩
        go_wp2_with fail
        refine (hK _).mono ?_
        rintro e w2 ⟨rfl, rfl⟩
        go_wp2_with fail
        go_ret
        exact ⟨by rw [HN.out]; rfl, rfl⟩
      · have HO : Hid (∀ n ∈ l.take (k + 1), placeB n = true) := fun n hn => by
          rw [HT.out] at hn
          rcases List.mem_append.1 hn with hn | hn
          · exact HC.out n hn
          · simp at hn; subst hn; exact hp
        obtain ⟨q, hq⟩ : ∃ q, sideOf l[k] = q := ⟨_, rfl⟩
        have hS := side_is hq
        by_cases hs : q < 0
        · have hcl : inB l[k] 10 11 = true := by
            unfold placeB at hp
            rw [place_side, hq] at hp
            simp at hp
            rcases hp with hp | hp
            · omega
            · exact hp
          have hK := client_is hcl
          have d1 : decide (q < 0) = true := by simpa using hs
          clear h HC hm hp hcl hq HT hs
          generalize l[k] = n at *
          go_wp2_with fail
          refine (hS _).mono ?_
          rintro e w1 ⟨rfl, rfl⟩
          go_wp2_with fail
          refine (hK _).mono ?_
          rintro e w2 ⟨rfl, rfl⟩
          go_wp2_with fail
          go_roundw
          case rel => exact ⟨k + 1, by omega, by go_num, HO, by first | rfl | trivial⟩
          case measure => simp [intOf]; omega
        · have d1 : decide (q < 0) = false := by simpa using hs
          clear h HC hm hp hq HT hs
          generalize l[k] = n at *
          go_wp2_with fail
          refine (hS _).mono ?_
          rintro e w1 ⟨rfl, rfl⟩
          go_wp2_with fail
          go_roundw
          case rel => exact ⟨k + 1, by omega, by go_num, HO, by first | rfl | trivial⟩
          case measure => simp [intOf]; omega
    · have hk2 : k = l.length := by omega
      subst hk2
      rw [List.take_length] at HC
      have HY : Hid (l.all placeB = true) := List.all_eq_true.2 HC.out
      go_wp2_with fail
      go_ret
      exact ⟨by rw [HY.out]; rfl, rfl⟩
/-- Whether a number is in its span: a span as three numbers. -/
def inSpan (d : D) : Bool := inB d.k d.t d.s
set_option maxHeartbeats 1000000 in
theorem within_any (a : Option Addr) (cap : Nat) (xs : List D) (w : World) (hl : xs.length ≤ 1000) (h : Deps w a xs) :
    Calls Try.prog 175 #[.slice a xs.length cap] w fun e w' => e = .returned (.bool (xs.all inSpan)) ∧ Below w.heap.size w w' := by
  go_enter Try.func175, Try.ntmps175
  go_wp2
  go_loopw [7] (fun i wr => ∃ k : Nat, k ≤ xs.length ∧ i = .int .i64 k ∧ Hid (∀ d ∈ xs.take k, inSpan d = true) ∧ Below w.heap.size w wr) (fun i _ => xs.length - (intOf i).toNat)
  case atStart => exact ⟨0, Nat.zero_le _, rfl, fun n hn => by simp at hn, Below.refl _ _⟩
  case round =>
    obtain ⟨k, hk, rfl, HC, hB⟩ := hrel
    by_cases hlt : k < xs.length
    · obtain ⟨b, o, rfl, hbb, c0, c1, c2⟩ := (h.below hB).at hlt
      have hm := List.getElem_mem hlt
      have HT : Hid (xs.take (k + 1) = xs.take k ++ [xs[k]]) := takeV xs k hlt
      have B1 := hB.alloc hB.size (.cells #[.int .i64 xs[k].k, .int .i64 xs[k].t, .int .i64 xs[k].s] 181)
      rcases hp : inSpan xs[k] with _ | _
      · have HN : Hid (xs.all inSpan = false) := by
          show _ = _
          rw [List.all_eq_false]; exact ⟨xs[k], hm, by rw [hp]; exact Bool.false_ne_true⟩
        unfold inSpan inB at hp
        simp at hp
        by_cases h1 : xs[k].k < xs[k].t
        · have d1 : decide (xs[k].k < xs[k].t) = true := by simpa using h1
          clear h HC hm hp HT h1 hB
          generalize xs[k] = d at *
          go_wp2
          go_ret
          exact ⟨by rw [HN.out]; rfl, B1⟩
        · have d1 : decide (xs[k].k < xs[k].t) = false := by simpa using h1
          have d2 : decide (xs[k].s < xs[k].k) = true := by simpa using hp (by omega)
          clear h HC hm hp HT h1 hB
          generalize xs[k] = d at *
          go_wp2
          go_ret
          exact ⟨by rw [HN.out]; rfl, B1⟩
      · have HO : Hid (∀ n ∈ xs.take (k + 1), inSpan n = true) := fun n hn => by
          rw [HT.out] at hn
          rcases List.mem_append.1 hn with hn | hn
          · exact HC.out n hn
          · simp at hn; subst hn; exact hp
        unfold inSpan inB at hp
        simp at hp
        have d1 : decide (xs[k].k < xs[k].t) = false := by simp; omega
        have d2 : decide (xs[k].s < xs[k].k) = false := by simp; omega
        clear h HC hm hp HT hB
        generalize xs[k] = d at *
        go_wp2
        go_roundw
        case rel => exact ⟨k + 1, by omega, by go_num, HO, B1⟩
        case measure => simp [intOf]; omega
    · have hk2 : k = xs.length := by omega
      subst hk2
      rw [List.take_length] at HC
      have HY : Hid (xs.all inSpan = true) := List.all_eq_true.2 HC.out
      go_wp2_with fail
      go_ret
      exact ⟨by rw [HY.out]; rfl, hB⟩
theorem none_any (t s : Int) (w : World) : Calls Try.prog 127 #[stampV t s] w fun e w' => e = .returned (.bool (stamp0 t s)) ∧ Below w.heap.size w w' := by
  by_cases h0 : t = 0 ∧ s = 0
  · obtain ⟨rfl, rfl⟩ := h0
    go_enter Try.func127, Try.ntmps127
    go_wp2
    go_ret
    exact ⟨rfl, (Below.refl _ _).alloc (Nat.le_refl _) _⟩
  · have HE : Hid (stamp0 t s = okB t s) := by show _ = _; unfold stamp0; simp [h0]
    by_cases ht : t = 0
    · subst ht
      have hs : ¬ s = 0 := fun e => h0 ⟨rfl, e⟩
      have d2 : (s == 0) = false := by simpa using hs
      go_enter Try.func127, Try.ntmps127
      go_wp2_with fail
      refine (iOk_any _ _ _).mono ?_
      rintro e w1 ⟨rfl, hb⟩
      go_wp2_with fail
      go_ret
      exact ⟨by rw [HE.out]; rfl, ((Below.refl _ _).alloc (Nat.le_refl _) _).trans (hb.mono (by simp))⟩
    · have d1 : (t == 0) = false := by simpa using ht
      go_enter Try.func127, Try.ntmps127
      go_wp2_with fail
      refine (iOk_any _ _ _).mono ?_
      rintro e w1 ⟨rfl, hb⟩
      go_wp2_with fail
      go_ret
      exact ⟨by rw [HE.out]; rfl, ((Below.refl _ _).alloc (Nat.le_refl _) _).trans (hb.mono (by simp))⟩
end Go.Proofs.Ytgdkoangpinieaa
