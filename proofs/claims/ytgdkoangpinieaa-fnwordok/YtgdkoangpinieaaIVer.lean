/- VerOk of the program and of the specification. -/
import Derived.Test.YtgdkoangpinieaaGAG
import Derived.Test.YtgdkoangpinieaaGAE
import Derived.Test.YtgdkoangpinieaaGAH
namespace Go.Proofs.Ytgdkoangpinieaa
open Go.ChangeShapes Go.WideShapes Go.ChangeAt Go.RowKit

/-- Whether all are of earlier times. -/
def early (xs : List D) (t : Int) : Bool := xs.all fun d => decide (d.t < t)
theorem early_step {xs : List D} {t : Int} {k : Nat} (hk : k < xs.length) : early (xs.take (k + 1)) t = (early (xs.take k) t && decide (xs[k].t < t)) := by
  unfold early; rw [takeD xs k hk, List.all_append]; simp only [List.all_cons, List.all_nil, Bool.and_true]
theorem early_bad {xs : List D} {t : Int} {k : Nat} (hk : k < xs.length) (h : ¬ xs[k].t < t) : early xs t = false := by
  unfold early; rw [List.all_eq_false]; exact ⟨xs[k], List.getElem_mem hk, by simpa using h⟩
/-- Whether a version's own numbers are ok. -/
def numsB (k t s val cl ca : Int) : Bool := inB k 0 5 && okB t s && inB val 0 9999 && inB cl 0 1 && inB ca 1 99
/-- Whether a version is ok. -/
def verB (k t s val cl ca : Int) (xs : List D) : Bool := numsB k t s val cl ca && depsOk xs && early xs t
/-- A version as a value. -/
abbrev verV (k t s val cl ca : Int) (a : Option Addr) (len cap : Nat) : Value := .agg #[.int .i64 k, .int .i64 t, .int .i64 s, .int .i64 val, .int .i64 cl, .int .i64 ca, .slice a len cap]
theorem verB_no {k t s val cl ca : Int} {xs : List D} (h : numsB k t s val cl ca = false) : verB k t s val cl ca xs = false := by unfold verB; rw [h]; rfl
theorem verB_deps {k t s val cl ca : Int} {xs : List D} (h : depsOk xs = false) : verB k t s val cl ca xs = false := by unfold verB; rw [h]; simp
theorem verB_yes {k t s val cl ca : Int} {xs : List D} (h : numsB k t s val cl ca = true) (hd : depsOk xs = true) : verB k t s val cl ca xs = early xs t := by unfold verB; rw [h, hd]; rfl

set_option maxHeartbeats 1000000 in
theorem early_any (a : Option Addr) (cap : Nat) (xs : List D) (t : Int) (w : World) (hn : xs.length ≤ 1099511627776) (h : Deps w a xs) :
    Calls Try.prog 163 #[.slice a xs.length cap, .int .i64 t] w fun e w' => e = .returned (.bool (early xs t)) ∧ Below w.heap.size w w' := by
  go_enter Try.func163, Try.ntmps163
  go_wp2
  go_loopw [9] (fun i wr => ∃ k : Nat, k ≤ xs.length ∧ i = .int .i64 k ∧ Hid (early (xs.take k) t = true) ∧ Below w.heap.size w wr) (fun i _ => xs.length - (intOf i).toNat)
  case atStart => exact ⟨0, Nat.zero_le _, rfl, rfl, Below.refl _ _⟩
  case round =>
    obtain ⟨k, hk, rfl, HE, hB⟩ := hrel
    by_cases hlt : k < xs.length
    · obtain ⟨b, o, rfl, hbb, e0, e1, e2⟩ := (h.below hB).at hlt
      by_cases hle : xs[k].t < t
      · have HE2 : Hid (early (xs.take (k + 1)) t = true) := by show early (xs.take (k + 1)) t = true; rw [early_step hlt, HE.out]; simpa using hle
        generalize xs[k] = y at *
        go_wp2_with fail
        go_roundw
        case rel => exact ⟨k + 1, by omega, by go_num, HE2, hB.alloc hB.size _⟩
        case measure => simp [intOf]; omega
      · have HN : Hid (early xs t = false) := early_bad hlt hle
        have hle2 : t ≤ xs[k].t := by omega
        clear hle
        generalize xs[k] = y at *
        go_wp2_with fail
        go_ret
        exact ⟨by rw [HN.out]; rfl, hB.alloc hB.size _⟩
    · have hk2 : k = xs.length := by omega
      subst hk2
      rw [List.take_length] at HE
      go_wp2_with fail
      go_ret
      exact ⟨by rw [HE.out]; rfl, hB⟩

set_option maxHeartbeats 4000000 in
set_option maxRecDepth 100000 in
theorem iVer_any (k t s val cl ca : Int) (a : Option Addr) (cap : Nat) (xs : List D) (w : World) (hn : xs.length ≤ 1099511627776) (h : Deps w a xs) :
    Calls Try.prog 99 #[verV k t s val cl ca a xs.length cap] w fun e w' => e = .returned (.bool (verB k t s val cl ca xs)) ∧ Below w.heap.size w w' := by
  rcases hk : inB k 0 5 with _ | _
  · have HN : Hid (verB k t s val cl ca xs = false) := verB_no (by simp [numsB, hk])
    go_enter Try.func99, Try.ntmps99
    go_wp2_with fail
    refine (iKey_any k _).mono ?_
    rw [hk]
    rintro e w1 ⟨rfl, rfl⟩
    go_wp2_with fail
    go_ret
    exact ⟨by rw [HN.out]; rfl, (Below.refl _ _).alloc (Nat.le_refl _) _⟩
  rcases hs : okB t s with _ | _
  · have HN : Hid (verB k t s val cl ca xs = false) := verB_no (by simp [numsB, hs])
    go_enter Try.func99, Try.ntmps99
    go_wp2_with fail
    refine (iKey_any k _).mono ?_
    rw [hk]
    rintro e w1 ⟨rfl, rfl⟩
    go_wp2_with fail
    refine (iOk_any t s _).mono ?_
    rw [hs]
    rintro e w2 ⟨rfl, hb2⟩
    have B2 : Below w.heap.size w w2 := ((Below.refl _ _).alloc (Nat.le_refl _) _).trans (hb2.mono (by simp))
    have D2 := (Blk.new w _ _).below hb2 (by simp)
    obtain ⟨q1, g1⟩ := D2.rules
    clear hb2
    go_wp2_with fail
    go_ret
    exact ⟨by rw [HN.out]; rfl, B2⟩
  by_cases h3 : val < 0
  · have HN : Hid (verB k t s val cl ca xs = false) := verB_no (by simp [numsB, inB]; omega)
    have dh3 : decide (val < 0) = true := by simpa using h3
    go_enter Try.func99, Try.ntmps99
    go_wp2_with fail
    refine (iKey_any k _).mono ?_
    rw [hk]
    rintro e w1 ⟨rfl, rfl⟩
    go_wp2_with fail
    refine (iOk_any t s _).mono ?_
    rw [hs]
    rintro e w2 ⟨rfl, hb2⟩
    have B2 : Below w.heap.size w w2 := ((Below.refl _ _).alloc (Nat.le_refl _) _).trans (hb2.mono (by simp))
    have D2 := (Blk.new w _ _).below hb2 (by simp)
    obtain ⟨q1, g1⟩ := D2.rules
    clear hb2
    go_wp2_with fail
    go_ret
    exact ⟨by rw [HN.out]; rfl, B2⟩
  have dh3 : decide (val < 0) = false := by simpa using h3
  by_cases h4 : 9999 < val
  · have HN : Hid (verB k t s val cl ca xs = false) := verB_no (by simp [numsB, inB]; omega)
    have dh4 : decide (9999 < val) = true := by simpa using h4
    go_enter Try.func99, Try.ntmps99
    go_wp2_with fail
    refine (iKey_any k _).mono ?_
    rw [hk]
    rintro e w1 ⟨rfl, rfl⟩
    go_wp2_with fail
    refine (iOk_any t s _).mono ?_
    rw [hs]
    rintro e w2 ⟨rfl, hb2⟩
    have B2 : Below w.heap.size w w2 := ((Below.refl _ _).alloc (Nat.le_refl _) _).trans (hb2.mono (by simp))
    have D2 := (Blk.new w _ _).below hb2 (by simp)
    obtain ⟨q1, g1⟩ := D2.rules
    clear hb2
    go_wp2_with fail
    go_ret
    exact ⟨by rw [HN.out]; rfl, B2⟩
  have dh4 : decide (9999 < val) = false := by simpa using h4
  by_cases h5 : cl < 0
  · have HN : Hid (verB k t s val cl ca xs = false) := verB_no (by simp [numsB, inB]; omega)
    have dh5 : decide (cl < 0) = true := by simpa using h5
    go_enter Try.func99, Try.ntmps99
    go_wp2_with fail
    refine (iKey_any k _).mono ?_
    rw [hk]
    rintro e w1 ⟨rfl, rfl⟩
    go_wp2_with fail
    refine (iOk_any t s _).mono ?_
    rw [hs]
    rintro e w2 ⟨rfl, hb2⟩
    have B2 : Below w.heap.size w w2 := ((Below.refl _ _).alloc (Nat.le_refl _) _).trans (hb2.mono (by simp))
    have D2 := (Blk.new w _ _).below hb2 (by simp)
    obtain ⟨q1, g1⟩ := D2.rules
    clear hb2
    go_wp2_with fail
    go_ret
    exact ⟨by rw [HN.out]; rfl, B2⟩
  have dh5 : decide (cl < 0) = false := by simpa using h5
  by_cases h6 : 2 ≤ cl
  · have HN : Hid (verB k t s val cl ca xs = false) := verB_no (by simp [numsB, inB]; omega)
    have dh6 : decide (2 ≤ cl) = true := by simpa using h6
    go_enter Try.func99, Try.ntmps99
    go_wp2_with fail
    refine (iKey_any k _).mono ?_
    rw [hk]
    rintro e w1 ⟨rfl, rfl⟩
    go_wp2_with fail
    refine (iOk_any t s _).mono ?_
    rw [hs]
    rintro e w2 ⟨rfl, hb2⟩
    have B2 : Below w.heap.size w w2 := ((Below.refl _ _).alloc (Nat.le_refl _) _).trans (hb2.mono (by simp))
    have D2 := (Blk.new w _ _).below hb2 (by simp)
    obtain ⟨q1, g1⟩ := D2.rules
    clear hb2
    go_wp2_with fail
    go_ret
    exact ⟨by rw [HN.out]; rfl, B2⟩
  have dh6 : decide (2 ≤ cl) = false := by simpa using h6
  by_cases h7 : ca < 1
  · have HN : Hid (verB k t s val cl ca xs = false) := verB_no (by simp [numsB, inB]; omega)
    have dh7 : decide (ca < 1) = true := by simpa using h7
    go_enter Try.func99, Try.ntmps99
    go_wp2_with fail
    refine (iKey_any k _).mono ?_
    rw [hk]
    rintro e w1 ⟨rfl, rfl⟩
    go_wp2_with fail
    refine (iOk_any t s _).mono ?_
    rw [hs]
    rintro e w2 ⟨rfl, hb2⟩
    have B2 : Below w.heap.size w w2 := ((Below.refl _ _).alloc (Nat.le_refl _) _).trans (hb2.mono (by simp))
    have D2 := (Blk.new w _ _).below hb2 (by simp)
    obtain ⟨q1, g1⟩ := D2.rules
    clear hb2
    go_wp2_with fail
    go_ret
    exact ⟨by rw [HN.out]; rfl, B2⟩
  have dh7 : decide (ca < 1) = false := by simpa using h7
  by_cases h8 : 99 < ca
  · have HN : Hid (verB k t s val cl ca xs = false) := verB_no (by simp [numsB, inB]; omega)
    have dh8 : decide (99 < ca) = true := by simpa using h8
    go_enter Try.func99, Try.ntmps99
    go_wp2_with fail
    refine (iKey_any k _).mono ?_
    rw [hk]
    rintro e w1 ⟨rfl, rfl⟩
    go_wp2_with fail
    refine (iOk_any t s _).mono ?_
    rw [hs]
    rintro e w2 ⟨rfl, hb2⟩
    have B2 : Below w.heap.size w w2 := ((Below.refl _ _).alloc (Nat.le_refl _) _).trans (hb2.mono (by simp))
    have D2 := (Blk.new w _ _).below hb2 (by simp)
    obtain ⟨q1, g1⟩ := D2.rules
    clear hb2
    go_wp2_with fail
    go_ret
    exact ⟨by rw [HN.out]; rfl, B2⟩
  have dh8 : decide (99 < ca) = false := by simpa using h8
  have HY : Hid (numsB k t s val cl ca = true) := by show numsB k t s val cl ca = true; unfold numsB; rw [hk, hs]; simp [inB]; omega
  have HV := fun hd => verB_yes (xs := xs) HY.out hd
  have HV0 := fun hd => verB_deps (k := k) (t := t) (s := s) (val := val) (cl := cl) (ca := ca) (xs := xs) hd
  rcases hok : depsOk xs with _ | _
  · have HN : Hid _ := HV0 hok
    clear HV HV0
    go_enter Try.func99, Try.ntmps99
    go_wp2_with fail
    refine (iKey_any k _).mono ?_
    rw [hk]
    rintro e w1 ⟨rfl, rfl⟩
    go_wp2_with fail
    refine (iOk_any t s _).mono ?_
    rw [hs]
    rintro e w2 ⟨rfl, hb2⟩
    have B2 : Below w.heap.size w w2 := ((Below.refl _ _).alloc (Nat.le_refl _) _).trans (hb2.mono (by simp))
    have D2 := (Blk.new w _ _).below hb2 (by simp)
    obtain ⟨q1, g1⟩ := D2.rules
    clear hb2
    go_wp2_with fail
    refine (iDepsOk_any a cap xs _ hn (h.below B2)).mono ?_
    rw [hok]
    rintro e w3 ⟨rfl, hb3⟩
    have B3 : Below w.heap.size w w3 := B2.trans (hb3.mono B2.size)
    clear hb3 q1 g1 D2 B2
    go_wp2_with fail
    go_ret
    exact ⟨by rw [HN.out]; rfl, B3⟩
  · have HN : Hid _ := HV hok
    clear HV HV0
    go_enter Try.func99, Try.ntmps99
    go_wp2_with fail
    refine (iKey_any k _).mono ?_
    rw [hk]
    rintro e w1 ⟨rfl, rfl⟩
    go_wp2_with fail
    refine (iOk_any t s _).mono ?_
    rw [hs]
    rintro e w2 ⟨rfl, hb2⟩
    have B2 : Below w.heap.size w w2 := ((Below.refl _ _).alloc (Nat.le_refl _) _).trans (hb2.mono (by simp))
    have D2 := (Blk.new w _ _).below hb2 (by simp)
    obtain ⟨q1, g1⟩ := D2.rules
    clear hb2
    go_wp2_with fail
    refine (iDepsOk_any a cap xs _ hn (h.below B2)).mono ?_
    rw [hok]
    rintro e w3 ⟨rfl, hb3⟩
    have B3 : Below w.heap.size w w3 := B2.trans (hb3.mono B2.size)
    have D3 := D2.below hb3 D2.lt
    clear hb3 q1 g1 D2 B2
    obtain ⟨q1, g1⟩ := D3.rules
    go_wp2_with fail
    refine (early_any a cap xs t _ hn (h.below B3)).mono ?_
    rintro e w4 ⟨rfl, hb4⟩
    have B4 : Below w.heap.size w w4 := B3.trans (hb4.mono B3.size)
    clear hb4 q1 g1 D3 B3
    go_wp2_with fail
    go_ret
    exact ⟨by rw [HN.out]; rfl, B4⟩
end Go.Proofs.Ytgdkoangpinieaa
