/- VerOk of the specification. -/
import Derived.Test.YtgdkoangpinieaaIVer
namespace Go.Proofs.Ytgdkoangpinieaa
open Go.ChangeShapes Go.WideShapes Go.ChangeAt Go.RowKit

set_option maxHeartbeats 4000000 in
set_option maxRecDepth 100000 in
theorem sVer_any (k t s val cl ca : Int) (a : Option Addr) (cap : Nat) (xs : List D) (w : World) (hn : xs.length ≤ 1099511627776) (h : Deps w a xs) :
    Calls Try.prog 94 #[verV k t s val cl ca a xs.length cap] w fun e w' => e = .returned (.bool (verB k t s val cl ca xs)) ∧ Below w.heap.size w w' := by
  rcases hk : inB k 0 5 with _ | _
  · have HN : Hid (verB k t s val cl ca xs = false) := verB_no (by simp [numsB, hk])
    go_enter Try.func94, Try.ntmps94
    go_wp2_with fail
    refine (sKey_any k _).mono ?_
    rw [hk]
    rintro e w1 ⟨rfl, rfl⟩
    go_wp2_with fail
    go_ret
    exact ⟨by rw [HN.out]; rfl, (Below.refl _ _).alloc (Nat.le_refl _) _⟩
  rcases hs : okB t s with _ | _
  · have HN : Hid (verB k t s val cl ca xs = false) := verB_no (by simp [numsB, hs])
    go_enter Try.func94, Try.ntmps94
    go_wp2_with fail
    refine (sKey_any k _).mono ?_
    rw [hk]
    rintro e w1 ⟨rfl, rfl⟩
    go_wp2_with fail
    refine (sOk_any t s _).mono ?_
    rw [hs]
    rintro e w2 ⟨rfl, hb2⟩
    have B2 : Below w.heap.size w w2 := ((Below.refl _ _).alloc (Nat.le_refl _) _).trans (hb2.mono (by simp))
    have D2 := (Blk.new w _ _).below hb2 (by simp)
    obtain ⟨q1, g1⟩ := D2.rules
    clear hb2
    go_wp2_with fail
    go_ret
    exact ⟨by rw [HN.out]; rfl, B2⟩
  rcases h3 : inB val 0 9999 with _ | _
  · have HN : Hid (verB k t s val cl ca xs = false) := verB_no (by simp [numsB, h3])
    go_enter Try.func94, Try.ntmps94
    go_wp2_with fail
    refine (sKey_any k _).mono ?_
    rw [hk]
    rintro e w1 ⟨rfl, rfl⟩
    go_wp2_with fail
    refine (sOk_any t s _).mono ?_
    rw [hs]
    rintro e w2 ⟨rfl, hb2⟩
    have B2 : Below w.heap.size w w2 := ((Below.refl _ _).alloc (Nat.le_refl _) _).trans (hb2.mono (by simp))
    have D2 := (Blk.new w _ _).below hb2 (by simp)
    obtain ⟨q1, g1⟩ := D2.rules
    clear hb2
    go_wp2_with fail
    refine (in_any val 0 9999 _).mono ?_
    rw [h3]
    rintro e w9 ⟨rfl, rfl⟩
    go_wp2_with fail
    go_ret
    exact ⟨by rw [HN.out]; rfl, B2⟩
  rcases h4 : inB cl 0 1 with _ | _
  · have HN : Hid (verB k t s val cl ca xs = false) := verB_no (by simp [numsB, h4])
    go_enter Try.func94, Try.ntmps94
    go_wp2_with fail
    refine (sKey_any k _).mono ?_
    rw [hk]
    rintro e w1 ⟨rfl, rfl⟩
    go_wp2_with fail
    refine (sOk_any t s _).mono ?_
    rw [hs]
    rintro e w2 ⟨rfl, hb2⟩
    have B2 : Below w.heap.size w w2 := ((Below.refl _ _).alloc (Nat.le_refl _) _).trans (hb2.mono (by simp))
    have D2 := (Blk.new w _ _).below hb2 (by simp)
    obtain ⟨q1, g1⟩ := D2.rules
    clear hb2
    go_wp2_with fail
    refine (in_any val 0 9999 _).mono ?_
    rw [h3]
    rintro e w9 ⟨rfl, rfl⟩
    go_wp2_with fail
    refine (in_any cl 0 1 _).mono ?_
    rw [h4]
    rintro e w9 ⟨rfl, rfl⟩
    go_wp2_with fail
    go_ret
    exact ⟨by rw [HN.out]; rfl, B2⟩
  rcases h5 : inB ca 1 99 with _ | _
  · have HN : Hid (verB k t s val cl ca xs = false) := verB_no (by simp [numsB, h5])
    go_enter Try.func94, Try.ntmps94
    go_wp2_with fail
    refine (sKey_any k _).mono ?_
    rw [hk]
    rintro e w1 ⟨rfl, rfl⟩
    go_wp2_with fail
    refine (sOk_any t s _).mono ?_
    rw [hs]
    rintro e w2 ⟨rfl, hb2⟩
    have B2 : Below w.heap.size w w2 := ((Below.refl _ _).alloc (Nat.le_refl _) _).trans (hb2.mono (by simp))
    have D2 := (Blk.new w _ _).below hb2 (by simp)
    obtain ⟨q1, g1⟩ := D2.rules
    clear hb2
    go_wp2_with fail
    refine (in_any val 0 9999 _).mono ?_
    rw [h3]
    rintro e w9 ⟨rfl, rfl⟩
    go_wp2_with fail
    refine (in_any cl 0 1 _).mono ?_
    rw [h4]
    rintro e w9 ⟨rfl, rfl⟩
    go_wp2_with fail
    refine (in_any ca 1 99 _).mono ?_
    rw [h5]
    rintro e w9 ⟨rfl, rfl⟩
    go_wp2_with fail
    go_ret
    exact ⟨by rw [HN.out]; rfl, B2⟩
  have HY : Hid (numsB k t s val cl ca = true) := by show numsB k t s val cl ca = true; unfold numsB; rw [hk, hs, h3, h4, h5]; rfl
  have HV := fun hd => verB_yes (xs := xs) HY.out hd
  have HV0 := fun hd => verB_deps (k := k) (t := t) (s := s) (val := val) (cl := cl) (ca := ca) (xs := xs) hd
  rcases hok : depsOk xs with _ | _
  · have HN : Hid _ := HV0 hok
    clear HV HV0
    go_enter Try.func94, Try.ntmps94
    go_wp2_with fail
    refine (sKey_any k _).mono ?_
    rw [hk]
    rintro e w1 ⟨rfl, rfl⟩
    go_wp2_with fail
    refine (sOk_any t s _).mono ?_
    rw [hs]
    rintro e w2 ⟨rfl, hb2⟩
    have B2 : Below w.heap.size w w2 := ((Below.refl _ _).alloc (Nat.le_refl _) _).trans (hb2.mono (by simp))
    have D2 := (Blk.new w _ _).below hb2 (by simp)
    obtain ⟨q1, g1⟩ := D2.rules
    clear hb2
    go_wp2_with fail
    refine (in_any val 0 9999 _).mono ?_
    rw [h3]
    rintro e w9 ⟨rfl, rfl⟩
    go_wp2_with fail
    refine (in_any cl 0 1 _).mono ?_
    rw [h4]
    rintro e w9 ⟨rfl, rfl⟩
    go_wp2_with fail
    refine (in_any ca 1 99 _).mono ?_
    rw [h5]
    rintro e w9 ⟨rfl, rfl⟩
    go_wp2_with fail
    refine (sDepsOk_any a cap xs _ hn (h.below B2)).mono ?_
    rw [hok]
    rintro e w3 ⟨rfl, hb3⟩
    have B3 : Below w.heap.size w w3 := B2.trans (hb3.mono B2.size)
    clear hb3 q1 g1 D2 B2
    go_wp2_with fail
    go_ret
    exact ⟨by rw [HN.out]; rfl, B3⟩
  · have HN : Hid _ := HV hok
    clear HV HV0
    go_enter Try.func94, Try.ntmps94
    go_wp2_with fail
    refine (sKey_any k _).mono ?_
    rw [hk]
    rintro e w1 ⟨rfl, rfl⟩
    go_wp2_with fail
    refine (sOk_any t s _).mono ?_
    rw [hs]
    rintro e w2 ⟨rfl, hb2⟩
    have B2 : Below w.heap.size w w2 := ((Below.refl _ _).alloc (Nat.le_refl _) _).trans (hb2.mono (by simp))
    have D2 := (Blk.new w _ _).below hb2 (by simp)
    obtain ⟨q1, g1⟩ := D2.rules
    clear hb2
    go_wp2_with fail
    refine (in_any val 0 9999 _).mono ?_
    rw [h3]
    rintro e w9 ⟨rfl, rfl⟩
    go_wp2_with fail
    refine (in_any cl 0 1 _).mono ?_
    rw [h4]
    rintro e w9 ⟨rfl, rfl⟩
    go_wp2_with fail
    refine (in_any ca 1 99 _).mono ?_
    rw [h5]
    rintro e w9 ⟨rfl, rfl⟩
    go_wp2_with fail
    refine (sDepsOk_any a cap xs _ hn (h.below B2)).mono ?_
    rw [hok]
    rintro e w3 ⟨rfl, hb3⟩
    have B3 : Below w.heap.size w w3 := B2.trans (hb3.mono B2.size)
    have D3 := D2.below hb3 D2.lt
    clear hb3 q1 g1 D2 B2
    obtain ⟨q1, g1⟩ := D3.rules
    go_wp2_with fail
    go_loopw [3] (fun i wr => ∃ j : Nat, j ≤ xs.length ∧ i = .int .i64 j ∧ Hid (early (xs.take j) t = true) ∧ Below w3.heap.size w3 wr) (fun i _ => xs.length - (intOf i).toNat)
    case atStart => exact ⟨0, Nat.zero_le _, rfl, rfl, Below.refl _ _⟩
    case round =>
      obtain ⟨j, hj, rfl, HE, hB⟩ := hrel
      clear q1 g1
      have Dr := D3.below hB D3.lt
      have Br : Below w.heap.size w wr := B3.trans (hB.mono B3.size)
      obtain ⟨q1, g1⟩ := Dr.rules
      by_cases hlt : j < xs.length
      · obtain ⟨b, o, rfl, hbb, e0, e1, e2⟩ := (h.below Br).at hlt
        have r1 := since_cell e1
        have r4 := fun (n : Wof (Since wr)) (i : Nat) => (Dr.below n.h Dr.lt).cell i
        have ne := since_ne wr
        by_cases hle : xs[j].t < t
        · have HE2 : Hid (early (xs.take (j + 1)) t = true) := by show early (xs.take (j + 1)) t = true; rw [early_step hlt, HE.out]; simpa using hle
          generalize xs[j] = y at *
          clear e0 e1 e2
          go_wp2_with fail
          refine wp_region_class (S := Since wr) (by kernel_rfl) (by kernel_rfl) (Below.refl _ _).drew ?_
          repeat (go_big_quiet_step ((fail)))
          refine wpQuiet_nil ?_
          rintro W2 ⟨n, hnW⟩
          have N2 := n.h
          rw [← hnW] at N2
          have hB2 : Below w3.heap.size w3 W2 := hB.trans (N2.mono hB.size)
          clear N2 r1 r4 ne hnW n Dr hB q1 g1 Br
          go_wp2_with fail
          go_roundw
          case rel => exact ⟨j + 1, by omega, by go_num, HE2, hB2⟩
          case measure => simp [intOf]; omega
        · have HX : Hid (early xs t = false) := early_bad hlt hle
          have hle2 : t ≤ xs[j].t := by omega
          clear hle
          generalize xs[j] = y at *
          clear e0 e1 e2
          go_wp2_with fail
          refine wp_region_class (S := Since wr) (by kernel_rfl) (by kernel_rfl) (Below.refl _ _).drew ?_
          repeat (go_big_quiet_step ((fail)))
          refine wpQuiet_nil ?_
          rintro W2 ⟨n, hnW⟩
          have N2 := n.h
          rw [← hnW] at N2
          have B5 : Below w.heap.size w W2 := Br.trans (N2.mono Br.size)
          clear N2 r1 r4 ne hnW n Dr hB q1 g1 Br
          go_wp2_with fail
          go_ret
          exact ⟨by rw [HN.out, HX.out]; rfl, B5⟩
      · have hj2 : j = xs.length := by omega
        subst hj2
        rw [List.take_length] at HE
        go_wp2_with fail
        go_ret
        exact ⟨by rw [HN.out, HE.out]; rfl, Br⟩
end Go.Proofs.Ytgdkoangpinieaa
