/- Debts in order: the specification's check. -/
import Derived.Test.YtgdkoangpinieaaWOwesI
import Derived.Test.YtgdkoangpinieaaSPut
namespace Go.Proofs.Ytgdkoangpinieaa
open Go.ChangeShapes Go.WideShapes Go.ChangeAt Go.RowKit

theorem okD_nokey {d : D} (h : inB d.k 0 5 = false) : okD d = false := by unfold okD; rw [h]; rfl
theorem okD_nostamp {d : D} (h : okB d.t d.s = false) : okD d = false := by unfold okD; rw [h]; simp
theorem okD_both {d : D} (h : inB d.k 0 5 = true) (h' : okB d.t d.s = true) : okD d = true := by unfold okD; rw [h, h']; rfl

set_option maxHeartbeats 4000000 in
theorem sOwes_any (a : Option Addr) (cap : Nat) (xs : List D) (w : World) (hn : xs.length ≤ 1099511627776) (h : Deps w a xs) :
    Calls Try.prog 133 #[.slice a xs.length cap] w fun e w' => e = .returned (.bool (owesB xs)) ∧ Below w.heap.size w w' := by
  by_cases hl : 80 < (xs.length : Int)
  · have HN : Hid (owesB xs = false) := owesB_long (by omega)
    go_enter Try.func133, Try.ntmps133
    go_wp2
    go_ret
    exact ⟨by rw [HN.out]; rfl, Below.refl _ _⟩
  have hl2 : (xs.length : Int) ≤ 80 := by omega
  have hl3 : xs.length ≤ 80 := by omega
  clear hl hn
  go_enter Try.func133, Try.ntmps133
  go_wp2
  go_loopw [3] (fun i wr => ∃ k : Nat, k ≤ xs.length ∧ i = .int .i64 k ∧ Hid (owesP (xs.take k)) ∧ Below w.heap.size w wr) (fun i _ => xs.length - (intOf i).toNat)
  case atStart => exact ⟨0, Nat.zero_le _, rfl, owesP_nil, Below.refl _ _⟩
  case round =>
    obtain ⟨k, hk, rfl, HC, hB⟩ := hrel
    by_cases hlt : k < xs.length
    · obtain ⟨b, o, rfl, hbb, c0, c1, c2⟩ := (h.below hB).at hlt
      rcases hkey : inB xs[k].k 0 5 with _ | _
      · have HN : Hid (owesB xs = false) := owesB_no (owesP_bad hlt (okD_nokey hkey))
        clear HC h
        generalize xs[k] = v at *
        have r := since_new (wr := wr) (vs := #[.int .i64 v.k, .int .i64 v.t, .int .i64 v.s]) (T := 51)
        have ne := since_ne (wr.alloc (.cells #[.int .i64 v.k, .int .i64 v.t, .int .i64 v.s] 51))
        go_wp2_with fail
        clear c0 c1 c2
        refine wp_region_class (S := Since (wr.alloc (.cells #[.int .i64 v.k, .int .i64 v.t, .int .i64 v.s] 51))) (by kernel_rfl) (by kernel_rfl) (Below.refl _ _).drew ?_
        repeat (go_big_quiet_step ((rename_i n; first | (go_at_call 117; exact Calls.inClassSame (sKey_is hkey _)))))
        refine wpQuiet_nil ?_
        rintro W ⟨n, hnW⟩
        have R2 := n.h
        rw [← hnW] at R2
        have hB1 := hB.alloc hB.size (.cells #[.int .i64 v.k, .int .i64 v.t, .int .i64 v.s] 51)
        have hB2 : Below w.heap.size w W := hB1.trans (R2.mono hB1.size)
        clear R2 r ne hnW n hB hB1
        go_wp2
        go_ret
        exact ⟨by rw [HN.out]; rfl, hB2⟩
      rcases hst : okB xs[k].t xs[k].s with _ | _
      · have HN : Hid (owesB xs = false) := owesB_no (owesP_bad hlt (okD_nostamp hst))
        clear HC h
        generalize xs[k] = v at *
        have r := since_new (wr := wr) (vs := #[.int .i64 v.k, .int .i64 v.t, .int .i64 v.s]) (T := 51)
        have ne := since_ne (wr.alloc (.cells #[.int .i64 v.k, .int .i64 v.t, .int .i64 v.s] 51))
        go_wp2_with fail
        clear c0 c1 c2
        refine wp_region_class (S := Since (wr.alloc (.cells #[.int .i64 v.k, .int .i64 v.t, .int .i64 v.s] 51))) (by kernel_rfl) (by kernel_rfl) (Below.refl _ _).drew ?_
        repeat (go_big_quiet_step ((rename_i n; first | (go_at_call 117; exact Calls.inClassSame (sKey_is hkey _)) | (go_at_call 118; exact Calls.inClass (sOk_is hst _) Since.keep))))
        refine wpQuiet_nil ?_
        rintro W ⟨n, hnW⟩
        have R2 := n.h
        rw [← hnW] at R2
        have hB1 := hB.alloc hB.size (.cells #[.int .i64 v.k, .int .i64 v.t, .int .i64 v.s] 51)
        have hB2 : Below w.heap.size w W := hB1.trans (R2.mono hB1.size)
        clear R2 r ne hnW n hB hB1
        go_wp2
        go_ret
        exact ⟨by rw [HN.out]; rfl, hB2⟩
      have hok := okD_both hkey hst
      rcases k with _ | j
      · have HO : Hid (owesP (xs.take (0 + 1))) := owesP_step hlt HC.out hok (.inl rfl)
        clear HC h hok
        simp only [Nat.zero_mul, Nat.add_zero] at c0 c1 c2
        generalize xs[0] = v at *
        have r := since_new (wr := wr) (vs := #[.int .i64 v.k, .int .i64 v.t, .int .i64 v.s]) (T := 51)
        have ne := since_ne (wr.alloc (.cells #[.int .i64 v.k, .int .i64 v.t, .int .i64 v.s] 51))
        go_wp2_with fail
        clear c0 c1 c2
        refine wp_region_class (S := Since (wr.alloc (.cells #[.int .i64 v.k, .int .i64 v.t, .int .i64 v.s] 51))) (by kernel_rfl) (by kernel_rfl) (Below.refl _ _).drew ?_
        repeat (go_big_quiet_step ((rename_i n; first | (go_at_call 117; exact Calls.inClassSame (sKey_is hkey _)) | (go_at_call 118; exact Calls.inClass (sOk_is hst _) Since.keep))))
        refine wpQuiet_nil ?_
        rintro W ⟨n, hnW⟩
        have R2 := n.h
        rw [← hnW] at R2
        have hB1 := hB.alloc hB.size (.cells #[.int .i64 v.k, .int .i64 v.t, .int .i64 v.s] 51)
        have hB2 : Below w.heap.size w W := hB1.trans (R2.mono hB1.size)
        clear R2 r ne hnW n hB hB1
        go_wp2
        go_roundw
        case rel => exact ⟨0 + 1, by omega, by go_num, HO, hB2⟩
        case measure => simp [intOf]; omega
      obtain ⟨b', o', he, _, p0, p1, p2⟩ := (h.below hB).at (k := j) (by omega)
      simp at he
      obtain ⟨rfl, rfl⟩ := he
      by_cases hgt : xs[j + 1].k < xs[j].k
      · have HN : Hid (owesB xs = false) := owesB_no (owesP_order hlt (by omega) (lessD_keyno hgt))
        have d1 : decide (xs[j + 1].k < xs[j].k) = true := by simpa using hgt
        clear HC h hok
        generalize xs[j + 1] = v at *
        generalize xs[j] = u at *
        have q0 := since_cell (((al0 wr (.cells #[.int .i64 v.k, .int .i64 v.t, .int .i64 v.s] 51)).cell (p := ⟨b, _, none⟩) hbb).trans p0)
        have q1 := since_cell (((al0 wr (.cells #[.int .i64 v.k, .int .i64 v.t, .int .i64 v.s] 51)).cell (p := ⟨b, _, none⟩) hbb).trans p1)
        have q2 := since_cell (((al0 wr (.cells #[.int .i64 v.k, .int .i64 v.t, .int .i64 v.s] 51)).cell (p := ⟨b, _, none⟩) hbb).trans p2)
        clear p0 p1 p2
        have r := since_new (wr := wr) (vs := #[.int .i64 v.k, .int .i64 v.t, .int .i64 v.s]) (T := 51)
        have ne := since_ne (wr.alloc (.cells #[.int .i64 v.k, .int .i64 v.t, .int .i64 v.s] 51))
        go_wp2_with fail
        clear c0 c1 c2
        refine wp_region_class (S := Since (wr.alloc (.cells #[.int .i64 v.k, .int .i64 v.t, .int .i64 v.s] 51))) (by kernel_rfl) (by kernel_rfl) (Below.refl _ _).drew ?_
        repeat (go_big_quiet_step ((rename_i n; first | (go_at_call 117; exact Calls.inClassSame (sKey_is hkey _)) | (go_at_call 118; exact Calls.inClass (sOk_is hst _) Since.keep))))
        refine wpQuiet_nil ?_
        rintro W ⟨n, hnW⟩
        have R2 := n.h
        rw [← hnW] at R2
        have hB1 := hB.alloc hB.size (.cells #[.int .i64 v.k, .int .i64 v.t, .int .i64 v.s] 51)
        have hB2 : Below w.heap.size w W := hB1.trans (R2.mono hB1.size)
        clear R2 r ne hnW n hB hB1 q0 q1 q2
        go_wp2
        go_ret
        exact ⟨by rw [HN.out]; rfl, hB2⟩
      have d1 : decide (xs[j + 1].k < xs[j].k) = false := by simpa using hgt
      by_cases heq : xs[j].k = xs[j + 1].k
      · have d2 : (xs[j].k == xs[j + 1].k) = true := by simpa using heq
        rcases hls : lessB xs[j].t xs[j].s xs[j + 1].t xs[j + 1].s with _ | _
        · have HN : Hid (owesB xs = false) := owesB_no (owesP_order hlt (by omega) (by rw [← hls]; exact lessD_stamp heq))
          clear heq hgt
          clear HC h hok
          generalize xs[j + 1] = v at *
          generalize xs[j] = u at *
          have q0 := since_cell (((al0 wr (.cells #[.int .i64 v.k, .int .i64 v.t, .int .i64 v.s] 51)).cell (p := ⟨b, _, none⟩) hbb).trans p0)
          have q1 := since_cell (((al0 wr (.cells #[.int .i64 v.k, .int .i64 v.t, .int .i64 v.s] 51)).cell (p := ⟨b, _, none⟩) hbb).trans p1)
          have q2 := since_cell (((al0 wr (.cells #[.int .i64 v.k, .int .i64 v.t, .int .i64 v.s] 51)).cell (p := ⟨b, _, none⟩) hbb).trans p2)
          clear p0 p1 p2
          have r := since_new (wr := wr) (vs := #[.int .i64 v.k, .int .i64 v.t, .int .i64 v.s]) (T := 51)
          have ne := since_ne (wr.alloc (.cells #[.int .i64 v.k, .int .i64 v.t, .int .i64 v.s] 51))
          go_wp2_with fail
          clear c0 c1 c2
          refine wp_region_class (S := Since (wr.alloc (.cells #[.int .i64 v.k, .int .i64 v.t, .int .i64 v.s] 51))) (by kernel_rfl) (by kernel_rfl) (Below.refl _ _).drew ?_
          repeat (go_big_quiet_step ((rename_i n; first | (go_at_call 117; exact Calls.inClassSame (sKey_is hkey _)) | (go_at_call 118; exact Calls.inClass (sOk_is hst _) Since.keep) | (go_at_call 161; exact Calls.inClass (sLess_is hls _) Since.keep))))
          refine wpQuiet_nil ?_
          rintro W ⟨n, hnW⟩
          have R2 := n.h
          rw [← hnW] at R2
          have hB1 := hB.alloc hB.size (.cells #[.int .i64 v.k, .int .i64 v.t, .int .i64 v.s] 51)
          have hB2 : Below w.heap.size w W := hB1.trans (R2.mono hB1.size)
          clear R2 r ne hnW n hB hB1 q0 q1 q2
          go_wp2
          go_ret
          exact ⟨by rw [HN.out]; rfl, hB2⟩
        · have HO : Hid (owesP (xs.take (j + 1 + 1))) := owesP_step hlt HC.out hok (.inr ⟨by omega, by rw [← hls]; exact lessD_stamp heq⟩)
          clear heq hgt
          clear HC h hok
          generalize xs[j + 1] = v at *
          generalize xs[j] = u at *
          have q0 := since_cell (((al0 wr (.cells #[.int .i64 v.k, .int .i64 v.t, .int .i64 v.s] 51)).cell (p := ⟨b, _, none⟩) hbb).trans p0)
          have q1 := since_cell (((al0 wr (.cells #[.int .i64 v.k, .int .i64 v.t, .int .i64 v.s] 51)).cell (p := ⟨b, _, none⟩) hbb).trans p1)
          have q2 := since_cell (((al0 wr (.cells #[.int .i64 v.k, .int .i64 v.t, .int .i64 v.s] 51)).cell (p := ⟨b, _, none⟩) hbb).trans p2)
          clear p0 p1 p2
          have r := since_new (wr := wr) (vs := #[.int .i64 v.k, .int .i64 v.t, .int .i64 v.s]) (T := 51)
          have ne := since_ne (wr.alloc (.cells #[.int .i64 v.k, .int .i64 v.t, .int .i64 v.s] 51))
          go_wp2_with fail
          clear c0 c1 c2
          refine wp_region_class (S := Since (wr.alloc (.cells #[.int .i64 v.k, .int .i64 v.t, .int .i64 v.s] 51))) (by kernel_rfl) (by kernel_rfl) (Below.refl _ _).drew ?_
          repeat (go_big_quiet_step ((rename_i n; first | (go_at_call 117; exact Calls.inClassSame (sKey_is hkey _)) | (go_at_call 118; exact Calls.inClass (sOk_is hst _) Since.keep) | (go_at_call 161; exact Calls.inClass (sLess_is hls _) Since.keep))))
          refine wpQuiet_nil ?_
          rintro W ⟨n, hnW⟩
          have R2 := n.h
          rw [← hnW] at R2
          have hB1 := hB.alloc hB.size (.cells #[.int .i64 v.k, .int .i64 v.t, .int .i64 v.s] 51)
          have hB2 : Below w.heap.size w W := hB1.trans (R2.mono hB1.size)
          clear R2 r ne hnW n hB hB1 q0 q1 q2
          go_wp2
          go_roundw
          case rel => exact ⟨j + 1 + 1, by omega, by go_num, HO, hB2⟩
          case measure => simp [intOf]; omega
      · have d2 : (xs[j].k == xs[j + 1].k) = false := by simpa using heq
        have HO : Hid (owesP (xs.take (j + 1 + 1))) := owesP_step hlt HC.out hok (.inr ⟨by omega, lessD_key (by simp only [Nat.add_sub_cancel]; omega)⟩)
        clear heq hgt
        clear HC h hok
        generalize xs[j + 1] = v at *
        generalize xs[j] = u at *
        have q0 := since_cell (((al0 wr (.cells #[.int .i64 v.k, .int .i64 v.t, .int .i64 v.s] 51)).cell (p := ⟨b, _, none⟩) hbb).trans p0)
        have q1 := since_cell (((al0 wr (.cells #[.int .i64 v.k, .int .i64 v.t, .int .i64 v.s] 51)).cell (p := ⟨b, _, none⟩) hbb).trans p1)
        have q2 := since_cell (((al0 wr (.cells #[.int .i64 v.k, .int .i64 v.t, .int .i64 v.s] 51)).cell (p := ⟨b, _, none⟩) hbb).trans p2)
        clear p0 p1 p2
        have r := since_new (wr := wr) (vs := #[.int .i64 v.k, .int .i64 v.t, .int .i64 v.s]) (T := 51)
        have ne := since_ne (wr.alloc (.cells #[.int .i64 v.k, .int .i64 v.t, .int .i64 v.s] 51))
        go_wp2_with fail
        clear c0 c1 c2
        refine wp_region_class (S := Since (wr.alloc (.cells #[.int .i64 v.k, .int .i64 v.t, .int .i64 v.s] 51))) (by kernel_rfl) (by kernel_rfl) (Below.refl _ _).drew ?_
        repeat (go_big_quiet_step ((rename_i n; first | (go_at_call 117; exact Calls.inClassSame (sKey_is hkey _)) | (go_at_call 118; exact Calls.inClass (sOk_is hst _) Since.keep))))
        refine wpQuiet_nil ?_
        rintro W ⟨n, hnW⟩
        have R2 := n.h
        rw [← hnW] at R2
        have hB1 := hB.alloc hB.size (.cells #[.int .i64 v.k, .int .i64 v.t, .int .i64 v.s] 51)
        have hB2 : Below w.heap.size w W := hB1.trans (R2.mono hB1.size)
        clear R2 r ne hnW n hB hB1 q0 q1 q2
        go_wp2
        go_roundw
        case rel => exact ⟨j + 1 + 1, by omega, by go_num, HO, hB2⟩
        case measure => simp [intOf]; omega
    · have hk2 : k = xs.length := by omega
      subst hk2
      rw [List.take_length] at HC
      have HY : Hid (owesB xs = true) := owesB_yes hl3 HC.out
      go_wp2
      go_ret
      exact ⟨by rw [HY.out]; rfl, hB⟩
end Go.Proofs.Ytgdkoangpinieaa
