/- 2 texts in one: WOwesI, WPlace. -/
import Derived.Test.YtpjidogilofppaaGreatZN
import Derived.Test.YtpjidogilofppaaGreatGAK
/- Debts in order: the program's check. -/
namespace Go.Proofs.YtpjidogilofppaaGreat
open Go.ChangeShapes Go.WideShapes Go.ChangeAt Go.RowKit

theorem iDep_is {d : D} {r : Bool} (h : okD d = r) {w : World} : Calls Tryz.prog 248 #[depV d.k d.t d.s] w fun e w' => e = .returned (.bool r) ∧ Below w.heap.size w w' := by rw [← h]; exact iDep_any d w
theorem iLessD_is {a b : D} {r : Bool} (h : lessD a b = r) {w : World} : Calls Tryz.prog 249 #[depV a.k a.t a.s, depV b.k b.t b.s] w fun e w' => e = .returned (.bool r) ∧ Below w.heap.size w w' := by rw [← h]; exact iLessD_any _ _ _ _ _ _ w

theorem al0 (w : World) (o : Obj) : Below w.heap.size w (w.alloc o) := (Below.refl _ w).alloc (Nat.le_refl _) o
set_option maxHeartbeats 2000000 in
theorem inOrderD_any (a : Option Addr) (cap : Nat) (xs : List D) (w : World) (hn : xs.length ≤ 1099511627776) (h : Deps w a xs) :
    Calls Tryz.prog 247 #[.slice a xs.length cap, .func (.func 248) #[] #[], .func (.func 249) #[] #[]] w fun e w' => e = .returned (.bool (owesB xs)) ∧ Below w.heap.size w w' := by
  by_cases hl : 80 < (xs.length : Int)
  · have HN : Hid (owesB xs = false) := owesB_long (by omega)
    go_enter Tryz.func247, Tryz.ntmps247
    go_wp2
    go_ret
    exact ⟨by rw [HN.out]; rfl, Below.refl _ _⟩
  have hl2 : (xs.length : Int) ≤ 80 := by omega
  have hl3 : xs.length ≤ 80 := by omega
  clear hl hn
  go_enter Tryz.func247, Tryz.ntmps247
  go_wp2
  go_loopw [14] (fun i wr => ∃ k : Nat, k ≤ xs.length ∧ i = .int .i64 k ∧ Hid (owesP (xs.take k)) ∧ Below w.heap.size w wr) (fun i _ => xs.length - (intOf i).toNat)
  case atStart => exact ⟨0, Nat.zero_le _, rfl, owesP_nil, Below.refl _ _⟩
  case round =>
    obtain ⟨k, hk, rfl, HC, hB⟩ := hrel
    by_cases hlt : k < xs.length
    · obtain ⟨b, o, rfl, hbb, c0, c1, c2⟩ := (h.below hB).at hlt
      rcases hok : okD xs[k] with _ | _
      · have HN : Hid (owesB xs = false) := owesB_no (owesP_bad hlt hok)
        clear HC h
        generalize xs[k] = v at *
        have r := since_new (wr := wr) (vs := #[.int .i64 v.k, .int .i64 v.t, .int .i64 v.s]) (T := 116)
        have ne := since_ne (wr.alloc (.cells #[.int .i64 v.k, .int .i64 v.t, .int .i64 v.s] 116))
        go_wp2_with fail
        clear c0 c1 c2
        refine wp_region_class (S := Since (wr.alloc (.cells #[.int .i64 v.k, .int .i64 v.t, .int .i64 v.s] 116))) (by kernel_rfl) (by kernel_rfl) (Below.refl _ _).drew ?_
        repeat (go_big_quiet_step ((rename_i n; first | (go_at_call 248; exact Calls.inClass (iDep_is hok) Since.keep))))
        refine wpQuiet_nil ?_
        rintro W ⟨n, hnW⟩
        have R2 := n.h
        rw [← hnW] at R2
        have hB1 := hB.alloc hB.size (.cells #[.int .i64 v.k, .int .i64 v.t, .int .i64 v.s] 116)
        have hB2 : Below w.heap.size w W := hB1.trans (R2.mono hB1.size)
        clear R2 r ne hnW n hB hB1
        go_wp2
        go_ret
        exact ⟨by rw [HN.out]; rfl, hB2⟩
      · rcases k with _ | j
        · have HO : Hid (owesP (xs.take (0 + 1))) := owesP_step hlt HC.out hok (.inl rfl)
          clear HC h
          simp only [Nat.zero_mul, Nat.add_zero] at c0 c1 c2
          generalize xs[0] = v at *
          have r := since_new (wr := wr) (vs := #[.int .i64 v.k, .int .i64 v.t, .int .i64 v.s]) (T := 116)
          have ne := since_ne (wr.alloc (.cells #[.int .i64 v.k, .int .i64 v.t, .int .i64 v.s] 116))
          go_wp2_with fail
          clear c0 c1 c2
          refine wp_region_class (S := Since (wr.alloc (.cells #[.int .i64 v.k, .int .i64 v.t, .int .i64 v.s] 116))) (by kernel_rfl) (by kernel_rfl) (Below.refl _ _).drew ?_
          repeat (go_big_quiet_step ((rename_i n; first | (go_at_call 248; exact Calls.inClass (iDep_is hok) Since.keep))))
          refine wpQuiet_nil ?_
          rintro W ⟨n, hnW⟩
          have R2 := n.h
          rw [← hnW] at R2
          have hB1 := hB.alloc hB.size (.cells #[.int .i64 v.k, .int .i64 v.t, .int .i64 v.s] 116)
          have hB2 : Below w.heap.size w W := hB1.trans (R2.mono hB1.size)
          clear R2 r ne hnW n hB hB1
          go_wp2
          go_roundw
          case rel => exact ⟨0 + 1, by omega, by go_num, HO, hB2⟩
          case measure => simp [intOf]; omega
        · obtain ⟨b', o', he, _, p0, p1, p2⟩ := (h.below hB).at (k := j) (by omega)
          simp at he
          obtain ⟨rfl, rfl⟩ := he
          rcases hls : lessD xs[j] xs[j + 1] with _ | _
          · have HN : Hid (owesB xs = false) := owesB_no (owesP_order hlt (by omega) hls)
            clear HC h
            generalize xs[j + 1] = v at *
            generalize xs[j] = u at *
            have q0 := since_cell (((al0 wr (.cells #[.int .i64 v.k, .int .i64 v.t, .int .i64 v.s] 116)).cell (p := ⟨b, _, none⟩) hbb).trans p0)
            have q1 := since_cell (((al0 wr (.cells #[.int .i64 v.k, .int .i64 v.t, .int .i64 v.s] 116)).cell (p := ⟨b, _, none⟩) hbb).trans p1)
            have q2 := since_cell (((al0 wr (.cells #[.int .i64 v.k, .int .i64 v.t, .int .i64 v.s] 116)).cell (p := ⟨b, _, none⟩) hbb).trans p2)
            clear p0 p1 p2
            have r := since_new (wr := wr) (vs := #[.int .i64 v.k, .int .i64 v.t, .int .i64 v.s]) (T := 116)
            have ne := since_ne (wr.alloc (.cells #[.int .i64 v.k, .int .i64 v.t, .int .i64 v.s] 116))
            go_wp2_with fail
            clear c0 c1 c2
            refine wp_region_class (S := Since (wr.alloc (.cells #[.int .i64 v.k, .int .i64 v.t, .int .i64 v.s] 116))) (by kernel_rfl) (by kernel_rfl) (Below.refl _ _).drew ?_
            repeat (go_big_quiet_step ((rename_i n; first | (go_at_call 248; exact Calls.inClass (iDep_is hok) Since.keep) | (go_at_call 249; exact Calls.inClass (iLessD_is hls) Since.keep))))
            refine wpQuiet_nil ?_
            rintro W ⟨n, hnW⟩
            have R2 := n.h
            rw [← hnW] at R2
            have hB1 := hB.alloc hB.size (.cells #[.int .i64 v.k, .int .i64 v.t, .int .i64 v.s] 116)
            have hB2 : Below w.heap.size w W := hB1.trans (R2.mono hB1.size)
            clear R2 r ne hnW n hB hB1 q0 q1 q2
            go_wp2
            go_ret
            exact ⟨by rw [HN.out]; rfl, hB2⟩
          · have HO : Hid (owesP (xs.take (j + 1 + 1))) := owesP_step hlt HC.out hok (.inr ⟨by omega, hls⟩)
            clear HC h
            generalize xs[j + 1] = v at *
            generalize xs[j] = u at *
            have q0 := since_cell (((al0 wr (.cells #[.int .i64 v.k, .int .i64 v.t, .int .i64 v.s] 116)).cell (p := ⟨b, _, none⟩) hbb).trans p0)
            have q1 := since_cell (((al0 wr (.cells #[.int .i64 v.k, .int .i64 v.t, .int .i64 v.s] 116)).cell (p := ⟨b, _, none⟩) hbb).trans p1)
            have q2 := since_cell (((al0 wr (.cells #[.int .i64 v.k, .int .i64 v.t, .int .i64 v.s] 116)).cell (p := ⟨b, _, none⟩) hbb).trans p2)
            clear p0 p1 p2
            have r := since_new (wr := wr) (vs := #[.int .i64 v.k, .int .i64 v.t, .int .i64 v.s]) (T := 116)
            have ne := since_ne (wr.alloc (.cells #[.int .i64 v.k, .int .i64 v.t, .int .i64 v.s] 116))
            go_wp2_with fail
            clear c0 c1 c2
            refine wp_region_class (S := Since (wr.alloc (.cells #[.int .i64 v.k, .int .i64 v.t, .int .i64 v.s] 116))) (by kernel_rfl) (by kernel_rfl) (Below.refl _ _).drew ?_
            repeat (go_big_quiet_step ((rename_i n; first | (go_at_call 248; exact Calls.inClass (iDep_is hok) Since.keep) | (go_at_call 249; exact Calls.inClass (iLessD_is hls) Since.keep))))
            refine wpQuiet_nil ?_
            rintro W ⟨n, hnW⟩
            have R2 := n.h
            rw [← hnW] at R2
            have hB1 := hB.alloc hB.size (.cells #[.int .i64 v.k, .int .i64 v.t, .int .i64 v.s] 116)
            have hB2 : Below w.heap.size w W := hB1.trans (R2.mono hB1.size)
            clear R2 r ne hnW n hB hB1 q0 q1 q2
            go_wp2
            go_roundw
            case rel => exact ⟨j + 1 + 1, by omega, by go_num, HO, hB2⟩
            case measure => simp [intOf]; omega
    · have hk2 : k = xs.length := by omega
      subst hk2
      rw [List.take_length] at HC
      have HY : Hid (owesB xs = true) := owesB_yes hl3 HC.out
      go_wp2
      go_ret
      exact ⟨by rw [HY.out]; rfl, hB⟩

theorem debts_any (a : Option Addr) (cap : Nat) (xs : List D) (w : World) (hn : xs.length ≤ 1099511627776) (h : Deps w a xs) :
    Calls Tryz.prog 208 #[.slice a xs.length cap] w fun e w' => e = .returned (.bool (owesB xs)) ∧ Below w.heap.size w w' := by
  have hI := inOrderD_any a cap xs w hn h
  generalize owesB xs = r at *
  go_enter Tryz.func208, Tryz.ntmps208
  go_wp2_with fail
  refine hI.mono ?_
  rintro e w1 ⟨rfl, hb1⟩
  clear hI
  go_wp2_with fail
  go_ret
  exact ⟨rfl, hb1⟩
end Go.Proofs.YtpjidogilofppaaGreat

/- Words: places and numbers. -/
namespace Go.Proofs.YtpjidogilofppaaGreat
open Go.ChangeShapes Go.WideShapes Go.ChangeAt Go.RowKit

theorem client_any (n : Int) (w : World) : Calls Tryz.prog 204 #[.int .i64 n] w fun e w' => e = .returned (.bool (inB n 10 11)) ∧ w' = w := by
  by_cases h1 : 10 ≤ n
  · have d1 : decide (10 ≤ n) = true := by simpa using h1
    have e : inB n 10 11 = decide (n < 12) := by unfold inB; rw [decide_eq_decide]; omega
    rw [e]
    go_enter Tryz.func204, Tryz.ntmps204
    go_wp2
    go_ret
    exact ⟨rfl, rfl⟩
  · have d1 : decide (10 ≤ n) = false := by simpa using h1
    have e : inB n 10 11 = false := by unfold inB; simp; omega
    rw [e]
    go_enter Tryz.func204, Tryz.ntmps204
    go_wp2
    go_ret
    exact ⟨rfl, rfl⟩
theorem client_is {n : Int} {r : Bool} (h : inB n 10 11 = r) (w : World) : Calls Tryz.prog 204 #[.int .i64 n] w fun e w' => e = .returned (.bool r) ∧ w' = w := by rw [← h]; exact client_any n w
theorem side_is {n r : Int} (h : sideOf n = r) (w : World) : Calls Tryz.prog 187 #[.int .i64 n] w fun e w' => e = .returned (.int .i64 r) ∧ w' = w := by rw [← h]; exact iSide_any n w
theorem place_side {n : Int} : inB n 0 3 = decide (0 ≤ sideOf n) := by rw [side_ok]; rfl
/-- Places that lie in memory. -/
theorem places_any (g cap : Nat) (l : List Int) (w : World) (hl : l.length ≤ 1000) (h : ∀ i, (hi : i < l.length) → w.cell? ⟨g, i, none⟩ = some (.int .i64 l[i])) :
    Calls Tryz.prog 151 #[.slice (some ⟨g, 0, none⟩) l.length cap] w fun e w' => e = .returned (.bool (l.all placeB)) ∧ w' = w := by
  go_enter Tryz.func151, Tryz.ntmps151
  go_wp2
  go_loopw [7] (fun i wr => ∃ k : Nat, k ≤ l.length ∧ i = .int .i64 k ∧ Hid (∀ n ∈ l.take k, placeB n = true) ∧ wr = w) (fun i _ => l.length - (intOf i).toNat)
  case atStart => exact ⟨0, Nat.zero_le _, rfl, fun n hn => by simp at hn, rfl⟩
  case round =>
    obtain ⟨k, hk, rfl, HC, rfl⟩ := hrel
    by_cases hlt : k < l.length
    · have hc := h k hlt
      have hm := List.getElem_mem hlt
      have HT : Hid (l.take (k + 1) = l.take k ++ [l[k]]) := takeV l k hlt
      rcases hp : placeB l[k] with _ | _
      · have HN : Hid (l.all placeB = false) := by
          show _ = _
          rw [List.all_eq_false]; exact ⟨l[k], hm, by rw [hp]; exact Bool.false_ne_true⟩
        have hs : sideOf l[k] < 0 := by
          unfold placeB at hp
          rw [place_side] at hp
          simp at hp
          omega
        have hcl : inB l[k] 10 11 = false := by unfold placeB at hp; simp at hp; exact hp.2
        obtain ⟨q, hq⟩ : ∃ q, sideOf l[k] = q := ⟨_, rfl⟩
        have hS := side_is hq
        have hK := client_is hcl
        rw [hq] at hs
        have d1 : decide (q < 0) = true := by simpa using hs
        clear h HC hm hp hcl hq HT
        generalize l[k] = n at *
        go_wp2_with fail
        refine (hS _).mono ?_
        rintro e w1 ⟨rfl, rfl⟩
        go_wp2_with fail
        refine (hK _).mono ?_
        rintro e w2 ⟨rfl, rfl⟩
        go_wp2_with fail
        go_ret
        exact ⟨by rw [HN.out]; rfl, rfl⟩
      · have HO : Hid (∀ n ∈ l.take (k + 1), placeB n = true) := fun n hn => by
          rw [HT.out] at hn
          rcases List.mem_append.1 hn with hn | hn
          · exact HC.out n hn
          · simp at hn; subst hn; exact hp
        obtain ⟨q, hq⟩ : ∃ q, sideOf l[k] = q := ⟨_, rfl⟩
        have hS := side_is hq
        by_cases hs : q < 0
        · have hcl : inB l[k] 10 11 = true := by
            unfold placeB at hp
            rw [place_side, hq] at hp
            simp at hp
            rcases hp with hp | hp
            · omega
            · exact hp
          have hK := client_is hcl
          have d1 : decide (q < 0) = true := by simpa using hs
          clear h HC hm hp hcl hq HT hs
          generalize l[k] = n at *
          go_wp2_with fail
          refine (hS _).mono ?_
          rintro e w1 ⟨rfl, rfl⟩
          go_wp2_with fail
          refine (hK _).mono ?_
          rintro e w2 ⟨rfl, rfl⟩
          go_wp2_with fail
          go_roundw
          case rel => exact ⟨k + 1, by omega, by go_num, HO, by first | rfl | trivial⟩
          case measure => simp [intOf]; omega
        · have d1 : decide (q < 0) = false := by simpa using hs
          clear h HC hm hp hq HT hs
          generalize l[k] = n at *
          go_wp2_with fail
          refine (hS _).mono ?_
          rintro e w1 ⟨rfl, rfl⟩
          go_wp2_with fail
          go_roundw
          case rel => exact ⟨k + 1, by omega, by go_num, HO, by first | rfl | trivial⟩
          case measure => simp [intOf]; omega
    · have hk2 : k = l.length := by omega
      subst hk2
      rw [List.take_length] at HC
      have HY : Hid (l.all placeB = true) := List.all_eq_true.2 HC.out
      go_wp2_with fail
      go_ret
      exact ⟨by rw [HY.out]; rfl, rfl⟩
/-- Whether a number is in its span: a span as three numbers. -/
def inSpan (d : D) : Bool := inB d.k d.t d.s
set_option maxHeartbeats 1000000 in
theorem within_any (a : Option Addr) (cap : Nat) (xs : List D) (w : World) (hl : xs.length ≤ 1000) (h : Deps w a xs) :
    Calls Tryz.prog 205 #[.slice a xs.length cap] w fun e w' => e = .returned (.bool (xs.all inSpan)) ∧ Below w.heap.size w w' := by
  go_enter Tryz.func205, Tryz.ntmps205
  go_wp2
  go_loopw [7] (fun i wr => ∃ k : Nat, k ≤ xs.length ∧ i = .int .i64 k ∧ Hid (∀ d ∈ xs.take k, inSpan d = true) ∧ Below w.heap.size w wr) (fun i _ => xs.length - (intOf i).toNat)
  case atStart => exact ⟨0, Nat.zero_le _, rfl, fun n hn => by simp at hn, Below.refl _ _⟩
  case round =>
    obtain ⟨k, hk, rfl, HC, hB⟩ := hrel
    by_cases hlt : k < xs.length
    · obtain ⟨b, o, rfl, hbb, c0, c1, c2⟩ := (h.below hB).at hlt
      have hm := List.getElem_mem hlt
      have HT : Hid (xs.take (k + 1) = xs.take k ++ [xs[k]]) := takeV xs k hlt
      have B1 := hB.alloc hB.size (.cells #[.int .i64 xs[k].k, .int .i64 xs[k].t, .int .i64 xs[k].s] 235)
      rcases hp : inSpan xs[k] with _ | _
      · have HN : Hid (xs.all inSpan = false) := by
          show _ = _
          rw [List.all_eq_false]; exact ⟨xs[k], hm, by rw [hp]; exact Bool.false_ne_true⟩
        unfold inSpan inB at hp
        simp at hp
        by_cases h1 : xs[k].k < xs[k].t
        · have d1 : decide (xs[k].k < xs[k].t) = true := by simpa using h1
          clear h HC hm hp HT h1 hB
          generalize xs[k] = d at *
          go_wp2
          go_ret
          exact ⟨by rw [HN.out]; rfl, B1⟩
        · have d1 : decide (xs[k].k < xs[k].t) = false := by simpa using h1
          have d2 : decide (xs[k].s < xs[k].k) = true := by simpa using hp (by omega)
          clear h HC hm hp HT h1 hB
          generalize xs[k] = d at *
          go_wp2
          go_ret
          exact ⟨by rw [HN.out]; rfl, B1⟩
      · have HO : Hid (∀ n ∈ xs.take (k + 1), inSpan n = true) := fun n hn => by
          rw [HT.out] at hn
          rcases List.mem_append.1 hn with hn | hn
          · exact HC.out n hn
          · simp at hn; subst hn; exact hp
        unfold inSpan inB at hp
        simp at hp
        have d1 : decide (xs[k].k < xs[k].t) = false := by simp; omega
        have d2 : decide (xs[k].s < xs[k].k) = false := by simp; omega
        clear h HC hm hp HT hB
        generalize xs[k] = d at *
        go_wp2
        go_roundw
        case rel => exact ⟨k + 1, by omega, by go_num, HO, B1⟩
        case measure => simp [intOf]; omega
    · have hk2 : k = xs.length := by omega
      subst hk2
      rw [List.take_length] at HC
      have HY : Hid (xs.all inSpan = true) := List.all_eq_true.2 HC.out
      go_wp2_with fail
      go_ret
      exact ⟨by rw [HY.out]; rfl, hB⟩
theorem none_any (t s : Int) (w : World) : Calls Tryz.prog 153 #[stampV t s] w fun e w' => e = .returned (.bool (stamp0 t s)) ∧ Below w.heap.size w w' := by
  by_cases h0 : t = 0 ∧ s = 0
  · obtain ⟨rfl, rfl⟩ := h0
    go_enter Tryz.func153, Tryz.ntmps153
    go_wp2
    go_ret
    exact ⟨rfl, (Below.refl _ _).alloc (Nat.le_refl _) _⟩
  · have HE : Hid (stamp0 t s = okB t s) := by show _ = _; unfold stamp0; simp [h0]
    by_cases ht : t = 0
    · subst ht
      have hs : ¬ s = 0 := fun e => h0 ⟨rfl, e⟩
      have d2 : (s == 0) = false := by simpa using hs
      go_enter Tryz.func153, Tryz.ntmps153
      go_wp2_with fail
      refine (iOk_any _ _ _).mono ?_
      rintro e w1 ⟨rfl, hb⟩
      go_wp2_with fail
      go_ret
      exact ⟨by rw [HE.out]; rfl, ((Below.refl _ _).alloc (Nat.le_refl _) _).trans (hb.mono (by simp))⟩
    · have d1 : (t == 0) = false := by simpa using ht
      go_enter Tryz.func153, Tryz.ntmps153
      go_wp2_with fail
      refine (iOk_any _ _ _).mono ?_
      rintro e w1 ⟨rfl, hb⟩
      go_wp2_with fail
      go_ret
      exact ⟨by rw [HE.out]; rfl, ((Below.refl _ _).alloc (Nat.le_refl _) _).trans (hb.mono (by simp))⟩
end Go.Proofs.YtpjidogilofppaaGreat

