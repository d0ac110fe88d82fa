/- Versions held against each other; whether they are in order. -/
import Derived.Test.YthlmodafadfnfaaVers
import Derived.Test.YthlmodafadfnfaaSVer
import Derived.Test.YthlmodafadfnfaaCmp
namespace Go.Proofs.Ythlmodafadfnfaa
open Go.ChangeShapes Go.WideShapes Go.ChangeAt Go.RowKit

theorem sVer_is {v : V} {r : Bool} (h : okV v = r) {da : Option Addr} {dc : Nat} {w : World} (hl : v.ds.length ≤ 1099511627776) (hd : Deps w da v.ds) :
    Calls Try.prog 63 #[verV v.k v.t v.s v.val v.cl v.ca da v.ds.length dc] w fun e w' => e = .returned (.bool r) ∧ Below w.heap.size w w' := by
  rw [← h]; exact sVer_any _ _ _ _ _ _ _ _ _ _ hl hd
theorem iVer_is {v : V} {r : Bool} (h : okV v = r) {da : Option Addr} {dc : Nat} {w : World} (hl : v.ds.length ≤ 1099511627776) (hd : Deps w da v.ds) :
    Calls Try.prog 68 #[verV v.k v.t v.s v.val v.cl v.ca da v.ds.length dc] w fun e w' => e = .returned (.bool r) ∧ Below w.heap.size w w' := by
  rw [← h]; exact iVer_any _ _ _ _ _ _ _ _ _ _ hl hd

set_option maxHeartbeats 1000000 in
theorem sLessV_any (u v : V) (ua va : Option Addr) (un uc vn vc : Nat) (w : World) :
    Calls Try.prog 66 #[verV u.k u.t u.s u.val u.cl u.ca ua un uc, verV v.k v.t v.s v.val v.cl v.ca va vn vc] w fun e w' => e = .returned (.bool (lessV u v)) ∧ Below w.heap.size w w' := by
  obtain ⟨k, t, s, val, cl, ca, xs⟩ := u
  obtain ⟨k', t', s', val', cl', ca', xs'⟩ := v
  by_cases h1 : k < k'
  · rw [lessV_key h1]
    have d1 : decide (k < k') = true := by simpa using h1
    go_enter Try.func66, Try.ntmps66
    go_wp2
    go_ret
    exact ⟨rfl, ((Below.refl _ _).alloc (Nat.le_refl _) _).alloc (by simp) _⟩
  have d1 : decide (k < k') = false := by simpa using h1
  by_cases h2 : k = k'
  · subst h2
    rw [lessV_stamp (a := ⟨k, t, s, val, cl, ca, xs⟩) (b := ⟨k, t', s', val', cl', ca', xs'⟩) rfl]
    go_enter Try.func66, Try.ntmps66
    go_wp2_with fail
    refine (sLess_any _ _ _ _ _).mono ?_
    rintro e w1 ⟨rfl, hb⟩
    go_wp2
    go_ret
    exact ⟨rfl, (((Below.refl _ _).alloc (Nat.le_refl _) _).alloc (by simp) _).trans (hb.mono (by simp; omega))⟩
  · rw [lessV_keyno (a := ⟨k, t, s, val, cl, ca, xs⟩) (b := ⟨k', t', s', val', cl', ca', xs'⟩) (show k' < k by omega)]
    have d2 : (k == k') = false := by simpa using h2
    go_enter Try.func66, Try.ntmps66
    go_wp2
    go_ret
    exact ⟨rfl, ((Below.refl _ _).alloc (Nat.le_refl _) _).alloc (by simp) _⟩

set_option maxHeartbeats 1000000 in
theorem iLessV_any (u v : V) (ua va : Option Addr) (un uc vn vc : Nat) (w : World) :
    Calls Try.prog 71 #[verV u.k u.t u.s u.val u.cl u.ca ua un uc, verV v.k v.t v.s v.val v.cl v.ca va vn vc] w fun e w' => e = .returned (.bool (lessV u v)) ∧ Below w.heap.size w w' := by
  obtain ⟨k, t, s, val, cl, ca, xs⟩ := u
  obtain ⟨k', t', s', val', cl', ca', xs'⟩ := v
  by_cases h1 : k < k'
  · rw [lessV_key h1]
    have d1 : decide (k < k') = true := by simpa using h1
    go_enter Try.func71, Try.ntmps71
    go_wp2
    go_ret
    exact ⟨rfl, ((Below.refl _ _).alloc (Nat.le_refl _) _).alloc (by simp) _⟩
  have d1 : decide (k < k') = false := by simpa using h1
  by_cases h2 : k = k'
  · subst h2
    rw [lessV_stamp (a := ⟨k, t, s, val, cl, ca, xs⟩) (b := ⟨k, t', s', val', cl', ca', xs'⟩) rfl]
    go_enter Try.func71, Try.ntmps71
    go_wp2_with fail
    refine (iLess_any _ _ _ _ _).mono ?_
    rintro e w1 ⟨rfl, hb⟩
    go_wp2
    go_ret
    exact ⟨rfl, (((Below.refl _ _).alloc (Nat.le_refl _) _).alloc (by simp) _).trans (hb.mono (by simp; omega))⟩
  · rw [lessV_keyno (a := ⟨k, t, s, val, cl, ca, xs⟩) (b := ⟨k', t', s', val', cl', ca', xs'⟩) (show k' < k by omega)]
    have d2 : (k == k') = false := by simpa using h2
    go_enter Try.func71, Try.ntmps71
    go_wp2
    go_ret
    exact ⟨rfl, ((Below.refl _ _).alloc (Nat.le_refl _) _).alloc (by simp) _⟩
theorem sLessV_is {u v : V} {r : Bool} (h : lessV u v = r) {ua va : Option Addr} {un uc vn vc : Nat} {w : World} :
    Calls Try.prog 66 #[verV u.k u.t u.s u.val u.cl u.ca ua un uc, verV v.k v.t v.s v.val v.cl v.ca va vn vc] w fun e w' => e = .returned (.bool r) ∧ Below w.heap.size w w' := by rw [← h]; exact sLessV_any _ _ _ _ _ _ _ _ _
theorem iLessV_is {u v : V} {r : Bool} (h : lessV u v = r) {ua va : Option Addr} {un uc vn vc : Nat} {w : World} :
    Calls Try.prog 71 #[verV u.k u.t u.s u.val u.cl u.ca ua un uc, verV v.k v.t v.s v.val v.cl v.ca va vn vc] w fun e w' => e = .returned (.bool r) ∧ Below w.heap.size w w' := by rw [← h]; exact iLessV_any _ _ _ _ _ _ _ _ _
/-- What a version's cells say, in whatever world that came of this one. -/
theorem VAt.rules {w : World} {b p : Nat} {v : V} {da : Option Addr} {dc : Nat} (h : VAt w b p v da dc) : (∀ n : Wof (Since w), n.W.cell? ⟨b, p, none⟩ = some (.int .i64 v.k)) ∧ (∀ n : Wof (Since w), n.W.cell? ⟨b, p + 1, none⟩ = some (.int .i64 v.t)) ∧ (∀ n : Wof (Since w), n.W.cell? ⟨b, p + 2, none⟩ = some (.int .i64 v.s)) ∧ (∀ n : Wof (Since w), n.W.cell? ⟨b, p + 3, none⟩ = some (.int .i64 v.val)) ∧ (∀ n : Wof (Since w), n.W.cell? ⟨b, p + 4, none⟩ = some (.int .i64 v.cl)) ∧ (∀ n : Wof (Since w), n.W.cell? ⟨b, p + 5, none⟩ = some (.int .i64 v.ca)) ∧ (∀ n : Wof (Since w), n.W.cell? ⟨b, p + 6, none⟩ = some (.slice da v.ds.length dc)) :=
  ⟨since_cell h.c0, since_cell h.c1, since_cell h.c2, since_cell h.c3, since_cell h.c4, since_cell h.c5, since_cell h.c6⟩

set_option maxHeartbeats 2000000 in
theorem sChainOk_any (a : Option Addr) (cap : Nat) (vs : List V) (w : World) (hn : vs.length ≤ 1099511627776) (h : Vers w a vs) :
    Calls Try.prog 22 #[.slice a vs.length cap] w fun e w' => e = .returned (.bool (chainB vs)) ∧ Below w.heap.size w w' := by
  by_cases hl : 80 < (vs.length : Int)
  · have HN : Hid (chainB vs = false) := chainB_long (by omega)
    go_enter Try.func22, Try.ntmps22
    go_wp2
    go_ret
    exact ⟨by rw [HN.out]; rfl, Below.refl _ _⟩
  have hl2 : (vs.length : Int) ≤ 80 := by omega
  have hl3 : vs.length ≤ 80 := by omega
  clear hl hn
  go_enter Try.func22, Try.ntmps22
  go_wp2
  go_loopw [3] (fun i wr => ∃ k : Nat, k ≤ vs.length ∧ i = .int .i64 k ∧ Hid (chainP (vs.take k)) ∧ Below w.heap.size w wr) (fun i _ => vs.length - (intOf i).toNat)
  case atStart => exact ⟨0, Nat.zero_le _, rfl, chainP_nil, Below.refl _ _⟩
  case round =>
    obtain ⟨k, hk, rfl, HC, hB⟩ := hrel
    by_cases hlt : k < vs.length
    · obtain ⟨b, o, da, dc, rfl, hbb, hv⟩ := (h.below hB).at hlt
      obtain ⟨r0, r1, r2, r3, r4, r5, r6⟩ := hv.rules
      have hd := hv.ds
      have hdl := hv.len
      have ne := since_ne wr
      rcases hok : okV vs[k] with _ | _
      · have HN : Hid (chainB vs = false) := chainB_no (chainP_bad hlt hok)
        clear HC hv h
        generalize vs[k] = v at *
        go_wp2_with fail
        refine wp_region_class (S := Since wr) (by kernel_rfl) (by kernel_rfl) (Below.refl _ _).drew ?_
        repeat (go_big_quiet_step ((rename_i n; first | (go_at_call 63; exact Calls.inClass (sVer_is hok hdl (hd.below n.h)) Since.keep))))
        refine wpQuiet_nil ?_
        rintro W ⟨n, hnW⟩
        have R2 := n.h
        rw [← hnW] at R2
        have hB2 : Below w.heap.size w W := hB.trans (R2.mono hB.size)
        clear R2 r0 r1 r2 r3 r4 r5 r6 ne hnW n hB hd
        go_wp2
        go_ret
        exact ⟨by rw [HN.out]; rfl, hB2⟩
      · rcases k with _ | j
        · have HO : Hid (chainP (vs.take (0 + 1))) := chainP_step hlt HC.out hok (.inl rfl)
          clear HC hv h
          simp only [Nat.zero_mul, Nat.add_zero] at r0 r1 r2 r3 r4 r5 r6
          generalize vs[0] = v at *
          go_wp2_with fail
          refine wp_region_class (S := Since wr) (by kernel_rfl) (by kernel_rfl) (Below.refl _ _).drew ?_
          repeat (go_big_quiet_step ((rename_i n; first | (go_at_call 63; exact Calls.inClass (sVer_is hok hdl (hd.below n.h)) Since.keep))))
          refine wpQuiet_nil ?_
          rintro W ⟨n, hnW⟩
          have R2 := n.h
          rw [← hnW] at R2
          have hB2 : Below w.heap.size w W := hB.trans (R2.mono hB.size)
          clear R2 r0 r1 r2 r3 r4 r5 r6 ne hnW n hB hd
          go_wp2
          go_roundw
          case rel => exact ⟨0 + 1, by omega, by go_num, HO, hB2⟩
          case measure => simp [intOf]; omega
        · obtain ⟨b', o', da', dc', he, _, hv'⟩ := (h.below hB).at (k := j) (by omega)
          simp at he
          obtain ⟨rfl, rfl⟩ := he
          obtain ⟨q0, q1, q2, q3, q4, q5, q6⟩ := hv'.rules
          rcases hls : lessV vs[j] vs[j + 1] with _ | _
          · have HN : Hid (chainB vs = false) := chainB_no (chainP_order hlt (by omega) hls)
            clear HC hv h hv'
            generalize vs[j + 1] = v at *
            generalize vs[j] = u at *
            go_wp2_with fail
            refine wp_region_class (S := Since wr) (by kernel_rfl) (by kernel_rfl) (Below.refl _ _).drew ?_
            repeat (go_big_quiet_step ((rename_i n; first | (go_at_call 63; exact Calls.inClass (sVer_is hok hdl (hd.below n.h)) Since.keep) | (go_at_call 66; exact Calls.inClass (sLessV_is hls) Since.keep))))
            refine wpQuiet_nil ?_
            rintro W ⟨n, hnW⟩
            have R2 := n.h
            rw [← hnW] at R2
            have hB2 : Below w.heap.size w W := hB.trans (R2.mono hB.size)
            clear R2 r0 r1 r2 r3 r4 r5 r6 ne hnW n hB hd q0 q1 q2 q3 q4 q5 q6
            go_wp2
            go_ret
            exact ⟨by rw [HN.out]; rfl, hB2⟩
          · have HO : Hid (chainP (vs.take (j + 1 + 1))) := chainP_step hlt HC.out hok (.inr ⟨by omega, hls⟩)
            clear HC hv h hv'
            generalize vs[j + 1] = v at *
            generalize vs[j] = u at *
            go_wp2_with fail
            refine wp_region_class (S := Since wr) (by kernel_rfl) (by kernel_rfl) (Below.refl _ _).drew ?_
            repeat (go_big_quiet_step ((rename_i n; first | (go_at_call 63; exact Calls.inClass (sVer_is hok hdl (hd.below n.h)) Since.keep) | (go_at_call 66; exact Calls.inClass (sLessV_is hls) Since.keep))))
            refine wpQuiet_nil ?_
            rintro W ⟨n, hnW⟩
            have R2 := n.h
            rw [← hnW] at R2
            have hB2 : Below w.heap.size w W := hB.trans (R2.mono hB.size)
            clear R2 r0 r1 r2 r3 r4 r5 r6 ne hnW n hB hd q0 q1 q2 q3 q4 q5 q6
            go_wp2
            go_roundw
            case rel => exact ⟨j + 1 + 1, by omega, by go_num, HO, hB2⟩
            case measure => simp [intOf]; omega
    · have hk2 : k = vs.length := by omega
      subst hk2
      rw [List.take_length] at HC
      have HY : Hid (chainB vs = true) := chainB_yes hl3 HC.out
      go_wp2
      go_ret
      exact ⟨by rw [HY.out]; rfl, hB⟩
end Go.Proofs.Ythlmodafadfnfaa
