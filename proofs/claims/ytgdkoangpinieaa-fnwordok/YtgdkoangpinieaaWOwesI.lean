/- Debts in order: the program's check. -/
import Derived.Test.YtgdkoangpinieaaWNum
import Derived.Test.YtgdkoangpinieaaGAK
namespace Go.Proofs.Ytgdkoangpinieaa
open Go.ChangeShapes Go.WideShapes Go.ChangeAt Go.RowKit

theorem iDep_is {d : D} {r : Bool} (h : okD d = r) {w : World} : Calls Try.prog 139 #[depV d.k d.t d.s] w fun e w' => e = .returned (.bool r) ∧ Below w.heap.size w w' := by rw [← h]; exact iDep_any d w
theorem iLessD_is {a b : D} {r : Bool} (h : lessD a b = r) {w : World} : Calls Try.prog 194 #[depV a.k a.t a.s, depV b.k b.t b.s] w fun e w' => e = .returned (.bool r) ∧ Below w.heap.size w w' := by rw [← h]; exact iLessD_any _ _ _ _ _ _ w

theorem al0 (w : World) (o : Obj) : Below w.heap.size w (w.alloc o) := (Below.refl _ w).alloc (Nat.le_refl _) o
set_option maxHeartbeats 2000000 in
theorem inOrderD_any (a : Option Addr) (cap : Nat) (xs : List D) (w : World) (hn : xs.length ≤ 1099511627776) (h : Deps w a xs) :
    Calls Try.prog 193 #[.slice a xs.length cap, .func (.func 139) #[] #[], .func (.func 194) #[] #[]] w fun e w' => e = .returned (.bool (owesB xs)) ∧ Below w.heap.size w w' := by
  by_cases hl : 80 < (xs.length : Int)
  · have HN : Hid (owesB xs = false) := owesB_long (by omega)
    go_enter Try.func193, Try.ntmps193
    go_wp2
    go_ret
    exact ⟨by rw [HN.out]; rfl, Below.refl _ _⟩
  have hl2 : (xs.length : Int) ≤ 80 := by omega
  have hl3 : xs.length ≤ 80 := by omega
  clear hl hn
  go_enter Try.func193, Try.ntmps193
  go_wp2
  go_loopw [14] (fun i wr => ∃ k : Nat, k ≤ xs.length ∧ i = .int .i64 k ∧ Hid (owesP (xs.take k)) ∧ Below w.heap.size w wr) (fun i _ => xs.length - (intOf i).toNat)
  case atStart => exact ⟨0, Nat.zero_le _, rfl, owesP_nil, Below.refl _ _⟩
  case round =>
    obtain ⟨k, hk, rfl, HC, hB⟩ := hrel
    by_cases hlt : k < xs.length
    · obtain ⟨b, o, rfl, hbb, c0, c1, c2⟩ := (h.below hB).at hlt
      rcases hok : okD xs[k] with _ | _
      · have HN : Hid (owesB xs = false) := owesB_no (owesP_bad hlt hok)
        clear HC h
        generalize xs[k] = v at *
        have r := since_new (wr := wr) (vs := #[.int .i64 v.k, .int .i64 v.t, .int .i64 v.s]) (T := 51)
        have ne := since_ne (wr.alloc (.cells #[.int .i64 v.k, .int .i64 v.t, .int .i64 v.s] 51))
        go_wp2_with fail
        clear c0 c1 c2
        refine wp_region_class (S := Since (wr.alloc (.cells #[.int .i64 v.k, .int .i64 v.t, .int .i64 v.s] 51))) (by kernel_rfl) (by kernel_rfl) (Below.refl _ _).drew ?_
        repeat (go_big_quiet_step ((rename_i n; first | (go_at_call 139; exact Calls.inClass (iDep_is hok) Since.keep))))
        refine wpQuiet_nil ?_
        rintro W ⟨n, hnW⟩
        have R2 := n.h
        rw [← hnW] at R2
        have hB1 := hB.alloc hB.size (.cells #[.int .i64 v.k, .int .i64 v.t, .int .i64 v.s] 51)
        have hB2 : Below w.heap.size w W := hB1.trans (R2.mono hB1.size)
        clear R2 r ne hnW n hB hB1
        go_wp2
        go_ret
        exact ⟨by rw [HN.out]; rfl, hB2⟩
      · rcases k with _ | j
        · have HO : Hid (owesP (xs.take (0 + 1))) := owesP_step hlt HC.out hok (.inl rfl)
          clear HC h
          simp only [Nat.zero_mul, Nat.add_zero] at c0 c1 c2
          generalize xs[0] = v at *
          have r := since_new (wr := wr) (vs := #[.int .i64 v.k, .int .i64 v.t, .int .i64 v.s]) (T := 51)
          have ne := since_ne (wr.alloc (.cells #[.int .i64 v.k, .int .i64 v.t, .int .i64 v.s] 51))
          go_wp2_with fail
          clear c0 c1 c2
          refine wp_region_class (S := Since (wr.alloc (.cells #[.int .i64 v.k, .int .i64 v.t, .int .i64 v.s] 51))) (by kernel_rfl) (by kernel_rfl) (Below.refl _ _).drew ?_
          repeat (go_big_quiet_step ((rename_i n; first | (go_at_call 139; exact Calls.inClass (iDep_is hok) Since.keep))))
          refine wpQuiet_nil ?_
          rintro W ⟨n, hnW⟩
          have R2 := n.h
          rw [← hnW] at R2
          have hB1 := hB.alloc hB.size (.cells #[.int .i64 v.k, .int .i64 v.t, .int .i64 v.s] 51)
          have hB2 : Below w.heap.size w W := hB1.trans (R2.mono hB1.size)
          clear R2 r ne hnW n hB hB1
          go_wp2
          go_roundw
          case rel => exact ⟨0 + 1, by omega, by go_num, HO, hB2⟩
          case measure => simp [intOf]; omega
        · obtain ⟨b', o', he, _, p0, p1, p2⟩ := (h.below hB).at (k := j) (by omega)
          simp at he
          obtain ⟨rfl, rfl⟩ := he
          rcases hls : lessD xs[j] xs[j + 1] with _ | _
          · have HN : Hid (owesB xs = false) := owesB_no (owesP_order hlt (by omega) hls)
            clear HC h
            generalize xs[j + 1] = v at *
            generalize xs[j] = u at *
            have q0 := since_cell (((al0 wr (.cells #[.int .i64 v.k, .int .i64 v.t, .int .i64 v.s] 51)).cell (p := ⟨b, _, none⟩) hbb).trans p0)
            have q1 := since_cell (((al0 wr (.cells #[.int .i64 v.k, .int .i64 v.t, .int .i64 v.s] 51)).cell (p := ⟨b, _, none⟩) hbb).trans p1)
            have q2 := since_cell (((al0 wr (.cells #[.int .i64 v.k, .int .i64 v.t, .int .i64 v.s] 51)).cell (p := ⟨b, _, none⟩) hbb).trans p2)
            clear p0 p1 p2
            have r := since_new (wr := wr) (vs := #[.int .i64 v.k, .int .i64 v.t, .int .i64 v.s]) (T := 51)
            have ne := since_ne (wr.alloc (.cells #[.int .i64 v.k, .int .i64 v.t, .int .i64 v.s] 51))
            go_wp2_with fail
            clear c0 c1 c2
            refine wp_region_class (S := Since (wr.alloc (.cells #[.int .i64 v.k, .int .i64 v.t, .int .i64 v.s] 51))) (by kernel_rfl) (by kernel_rfl) (Below.refl _ _).drew ?_
            repeat (go_big_quiet_step ((rename_i n; first | (go_at_call 139; exact Calls.inClass (iDep_is hok) Since.keep) | (go_at_call 194; exact Calls.inClass (iLessD_is hls) Since.keep))))
            refine wpQuiet_nil ?_
            rintro W ⟨n, hnW⟩
            have R2 := n.h
            rw [← hnW] at R2
            have hB1 := hB.alloc hB.size (.cells #[.int .i64 v.k, .int .i64 v.t, .int .i64 v.s] 51)
            have hB2 : Below w.heap.size w W := hB1.trans (R2.mono hB1.size)
            clear R2 r ne hnW n hB hB1 q0 q1 q2
            go_wp2
            go_ret
            exact ⟨by rw [HN.out]; rfl, hB2⟩
          · have HO : Hid (owesP (xs.take (j + 1 + 1))) := owesP_step hlt HC.out hok (.inr ⟨by omega, hls⟩)
            clear HC h
            generalize xs[j + 1] = v at *
            generalize xs[j] = u at *
            have q0 := since_cell (((al0 wr (.cells #[.int .i64 v.k, .int .i64 v.t, .int .i64 v.s] 51)).cell (p := ⟨b, _, none⟩) hbb).trans p0)
            have q1 := since_cell (((al0 wr (.cells #[.int .i64 v.k, .int .i64 v.t, .int .i64 v.s] 51)).cell (p := ⟨b, _, none⟩) hbb).trans p1)
            have q2 := since_cell (((al0 wr (.cells #[.int .i64 v.k, .int .i64 v.t, .int .i64 v.s] 51)).cell (p := ⟨b, _, none⟩) hbb).trans p2)
            clear p0 p1 p2
            have r := since_new (wr := wr) (vs := #[.int .i64 v.k, .int .i64 v.t, .int .i64 v.s]) (T := 51)
            have ne := since_ne (wr.alloc (.cells #[.int .i64 v.k, .int .i64 v.t, .int .i64 v.s] 51))
            go_wp2_with fail
            clear c0 c1 c2
            refine wp_region_class (S := Since (wr.alloc (.cells #[.int .i64 v.k, .int .i64 v.t, .int .i64 v.s] 51))) (by kernel_rfl) (by kernel_rfl) (Below.refl _ _).drew ?_
            repeat (go_big_quiet_step ((rename_i n; first | (go_at_call 139; exact Calls.inClass (iDep_is hok) Since.keep) | (go_at_call 194; exact Calls.inClass (iLessD_is hls) Since.keep))))
            refine wpQuiet_nil ?_
            rintro W ⟨n, hnW⟩
            have R2 := n.h
            rw [← hnW] at R2
            have hB1 := hB.alloc hB.size (.cells #[.int .i64 v.k, .int .i64 v.t, .int .i64 v.s] 51)
            have hB2 : Below w.heap.size w W := hB1.trans (R2.mono hB1.size)
            clear R2 r ne hnW n hB hB1 q0 q1 q2
            go_wp2
            go_roundw
            case rel => exact ⟨j + 1 + 1, by omega, by go_num, HO, hB2⟩
            case measure => simp [intOf]; omega
    · have hk2 : k = xs.length := by omega
      subst hk2
      rw [List.take_length] at HC
      have HY : Hid (owesB xs = true) := owesB_yes hl3 HC.out
      go_wp2
      go_ret
      exact ⟨by rw [HY.out]; rfl, hB⟩

theorem debts_any (a : Option Addr) (cap : Nat) (xs : List D) (w : World) (hn : xs.length ≤ 1099511627776) (h : Deps w a xs) :
    Calls Try.prog 176 #[.slice a xs.length cap] w fun e w' => e = .returned (.bool (owesB xs)) ∧ Below w.heap.size w w' := by
  have hI := inOrderD_any a cap xs w hn h
  generalize owesB xs = r at *
  go_enter Try.func176, Try.ntmps176
  go_wp2_with fail
  refine hI.mono ?_
  rintro e w1 ⟨rfl, hb1⟩
  clear hI
  go_wp2_with fail
  go_ret
  exact ⟨rfl, hb1⟩
end Go.Proofs.Ytgdkoangpinieaa
