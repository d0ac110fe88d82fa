/- 3 texts in one: IVer, SVer, XVer. -/
import Derived.Test.YtpjidogilofppaaGreatGAG
import Derived.Test.YtpjidogilofppaaGreatGAE
import Derived.Test.YtpjidogilofppaaGreatGAH
/- VerOk of the program and of the specification. -/
namespace Go.Proofs.YtpjidogilofppaaGreat
open Go.ChangeShapes Go.WideShapes Go.ChangeAt Go.RowKit

/-- Whether all are of earlier times. -/
def early (xs : List D) (t : Int) : Bool := xs.all fun d => decide (d.t < t)
theorem early_step {xs : List D} {t : Int} {k : Nat} (hk : k < xs.length) : early (xs.take (k + 1)) t = (early (xs.take k) t && decide (xs[k].t < t)) := by
  unfold early; rw [takeD xs k hk, List.all_append]; simp only [List.all_cons, List.all_nil, Bool.and_true]
theorem early_bad {xs : List D} {t : Int} {k : Nat} (hk : k < xs.length) (h : ¬ xs[k].t < t) : early xs t = false := by
  unfold early; rw [List.all_eq_false]; exact ⟨xs[k], List.getElem_mem hk, by simpa using h⟩
/-- Whether a version's own numbers are ok. -/
def numsB (k t s val cl ca : Int) : Bool := inB k 0 5 && okB t s && inB val 0 9999 && inB cl 0 1 && inB ca 1 99
/-- Whether a version is ok. -/
def verB (k t s val cl ca : Int) (xs : List D) : Bool := numsB k t s val cl ca && depsOk xs && early xs t
/-- A version as a value. -/
abbrev verV (k t s val cl ca : Int) (a : Option Addr) (len cap : Nat) : Value := .agg #[.int .i64 k, .int .i64 t, .int .i64 s, .int .i64 val, .int .i64 cl, .int .i64 ca, .slice a len cap]
theorem verB_no {k t s val cl ca : Int} {xs : List D} (h : numsB k t s val cl ca = false) : verB k t s val cl ca xs = false := by unfold verB; rw [h]; rfl
theorem verB_deps {k t s val cl ca : Int} {xs : List D} (h : depsOk xs = false) : verB k t s val cl ca xs = false := by unfold verB; rw [h]; simp
theorem verB_yes {k t s val cl ca : Int} {xs : List D} (h : numsB k t s val cl ca = true) (hd : depsOk xs = true) : verB k t s val cl ca xs = early xs t := by unfold verB; rw [h, hd]; rfl

set_option maxHeartbeats 1000000 in
theorem early_any (a : Option Addr) (cap : Nat) (xs : List D) (t : Int) (w : World) (hn : xs.length ≤ 1099511627776) (h : Deps w a xs) :
    Calls Tryz.prog 269 #[.slice a xs.length cap, .int .i64 t] w fun e w' => e = .returned (.bool (early xs t)) ∧ Below w.heap.size w w' := by
  go_enter Tryz.func269, Tryz.ntmps269
  go_wp2
  go_loopw [9] (fun i wr => ∃ k : Nat, k ≤ xs.length ∧ i = .int .i64 k ∧ Hid (early (xs.take k) t = true) ∧ Below w.heap.size w wr) (fun i _ => xs.length - (intOf i).toNat)
  case atStart => exact ⟨0, Nat.zero_le _, rfl, rfl, Below.refl _ _⟩
  case round =>
    obtain ⟨k, hk, rfl, HE, hB⟩ := hrel
    by_cases hlt : k < xs.length
    · obtain ⟨b, o, rfl, hbb, e0, e1, e2⟩ := (h.below hB).at hlt
      by_cases hle : xs[k].t < t
      · have HE2 : Hid (early (xs.take (k + 1)) t = true) := by show early (xs.take (k + 1)) t = true; rw [early_step hlt, HE.out]; simpa using hle
        generalize xs[k] = y at *
        go_wp2_with fail
        go_roundw
        case rel => exact ⟨k + 1, by omega, by go_num, HE2, hB.alloc hB.size _⟩
        case measure => simp [intOf]; omega
      · have HN : Hid (early xs t = false) := early_bad hlt hle
        have hle2 : t ≤ xs[k].t := by omega
        clear hle
        generalize xs[k] = y at *
        go_wp2_with fail
        go_ret
        exact ⟨by rw [HN.out]; rfl, hB.alloc hB.size _⟩
    · have hk2 : k = xs.length := by omega
      subst hk2
      rw [List.take_length] at HE
      go_wp2_with fail
      go_ret
      exact ⟨by rw [HE.out]; rfl, hB⟩

set_option maxHeartbeats 4000000 in
set_option maxRecDepth 100000 in
theorem iVer_any (k t s val cl ca : Int) (a : Option Addr) (cap : Nat) (xs : List D) (w : World) (hn : xs.length ≤ 1099511627776) (h : Deps w a xs) :
    Calls Tryz.prog 245 #[verV k t s val cl ca a xs.length cap] w fun e w' => e = .returned (.bool (verB k t s val cl ca xs)) ∧ Below w.heap.size w w' := by
  rcases hk : inB k 0 5 with _ | _
  · have HN : Hid (verB k t s val cl ca xs = false) := verB_no (by simp [numsB, hk])
    go_enter Tryz.func245, Tryz.ntmps245
    go_wp2_with fail
    refine (iKey_any k _).mono ?_
    rw [hk]
    rintro e w1 ⟨rfl, rfl⟩
    go_wp2_with fail
    go_ret
    exact ⟨by rw [HN.out]; rfl, (Below.refl _ _).alloc (Nat.le_refl _) _⟩
  rcases hs : okB t s with _ | _
  · have HN : Hid (verB k t s val cl ca xs = false) := verB_no (by simp [numsB, hs])
    go_enter Tryz.func245, Tryz.ntmps245
    go_wp2_with fail
    refine (iKey_any k _).mono ?_
    rw [hk]
    rintro e w1 ⟨rfl, rfl⟩
    go_wp2_with fail
    refine (iOk_any t s _).mono ?_
    rw [hs]
    rintro e w2 ⟨rfl, hb2⟩
    have B2 : Below w.heap.size w w2 := ((Below.refl _ _).alloc (Nat.le_refl _) _).trans (hb2.mono (by simp))
    have D2 := (Blk.new w _ _).below hb2 (by simp)
    obtain ⟨q1, g1⟩ := D2.rules
    clear hb2
    go_wp2_with fail
    go_ret
    exact ⟨by rw [HN.out]; rfl, B2⟩
  by_cases h3 : val < 0
  · have HN : Hid (verB k t s val cl ca xs = false) := verB_no (by simp [numsB, inB]; omega)
    have dh3 : decide (val < 0) = true := by simpa using h3
    go_enter Tryz.func245, Tryz.ntmps245
    go_wp2_with fail
    refine (iKey_any k _).mono ?_
    rw [hk]
    rintro e w1 ⟨rfl, rfl⟩
    go_wp2_with fail
    refine (iOk_any t s _).mono ?_
    rw [hs]
    rintro e w2 ⟨rfl, hb2⟩
    have B2 : Below w.heap.size w w2 := ((Below.refl _ _).alloc (Nat.le_refl _) _).trans (hb2.mono (by simp))
    have D2 := (Blk.new w _ _).below hb2 (by simp)
    obtain ⟨q1, g1⟩ := D2.rules
    clear hb2
    go_wp2_with fail
    go_ret
    exact ⟨by rw [HN.out]; rfl, B2⟩
  have dh3 : decide (val < 0) = false := by simpa using h3
  by_cases h4 : 9999 < val
  · have HN : Hid (verB k t s val cl ca xs = false) := verB_no (by simp [numsB, inB]; omega)
    have dh4 : decide (9999 < val) = true := by simpa using h4
    go_enter Tryz.func245, Tryz.ntmps245
    go_wp2_with fail
    refine (iKey_any k _).mono ?_
    rw [hk]
    rintro e w1 ⟨rfl, rfl⟩
    go_wp2_with fail
    refine (iOk_any t s _).mono ?_
    rw [hs]
    rintro e w2 ⟨rfl, hb2⟩
    have B2 : Below w.heap.size w w2 := ((Below.refl _ _).alloc (Nat.le_refl _) _).trans (hb2.mono (by simp))
    have D2 := (Blk.new w _ _).below hb2 (by simp)
    obtain ⟨q1, g1⟩ := D2.rules
    clear hb2
    go_wp2_with fail
    go_ret
    exact ⟨by rw [HN.out]; rfl, B2⟩
  have dh4 : decide (9999 < val) = false := by simpa using h4
  by_cases h5 : cl < 0
  · have HN : Hid (verB k t s val cl ca xs = false) := verB_no (by simp [numsB, inB]; omega)
    have dh5 : decide (cl < 0) = true := by simpa using h5
    go_enter Tryz.func245, Tryz.ntmps245
    go_wp2_with fail
    refine (iKey_any k _).mono ?_
    rw [hk]
    rintro e w1 ⟨rfl, rfl⟩
    go_wp2_with fail
    refine (iOk_any t s _).mono ?_
    rw [hs]
    rintro e w2 ⟨rfl, hb2⟩
    have B2 : Below w.heap.size w w2 := ((Below.refl _ _).alloc (Nat.le_refl _) _).trans (hb2.mono (by simp))
    have D2 := (Blk.new w _ _).below hb2 (by simp)
    obtain ⟨q1, g1⟩ := D2.rules
    clear hb2
    go_wp2_with fail
    go_ret
    exact ⟨by rw [HN.out]; rfl, B2⟩
  have dh5 : decide (cl < 0) = false := by simpa using h5
  by_cases h6 : 2 ≤ cl
  · have HN : Hid (verB k t s val cl ca xs = false) := verB_no (by simp [numsB, inB]; omega)
    have dh6 : decide (2 ≤ cl) = true := by simpa using h6
    go_enter Tryz.func245, Tryz.ntmps245
    go_wp2_with fail
    refine (iKey_any k _).mono ?_
    rw [hk]
    rintro e w1 ⟨rfl, rfl⟩
    go_wp2_with fail
    refine (iOk_any t s _).mono ?_
    rw [hs]
    rintro e w2 ⟨rfl, hb2⟩
    have B2 : Below w.heap.size w w2 := ((Below.refl _ _).alloc (Nat.le_refl _) _).trans (hb2.mono (by simp))
    have D2 := (Blk.new w _ _).below hb2 (by simp)
    obtain ⟨q1, g1⟩ := D2.rules
    clear hb2
    go_wp2_with fail
    go_ret
    exact ⟨by rw [HN.out]; rfl, B2⟩
  have dh6 : decide (2 ≤ cl) = false := by simpa using h6
  by_cases h7 : ca < 1
  · have HN : Hid (verB k t s val cl ca xs = false) := verB_no (by simp [numsB, inB]; omega)
    have dh7 : decide (ca < 1) = true := by simpa using h7
    go_enter Tryz.func245, Tryz.ntmps245
    go_wp2_with fail
    refine (iKey_any k _).mono ?_
    rw [hk]
    rintro e w1 ⟨rfl, rfl⟩
    go_wp2_with fail
    refine (iOk_any t s _).mono ?_
    rw [hs]
    rintro e w2 ⟨rfl, hb2⟩
    have B2 : Below w.heap.size w w2 := ((Below.refl _ _).alloc (Nat.le_refl _) _).trans (hb2.mono (by simp))
    have D2 := (Blk.new w _ _).below hb2 (by simp)
    obtain ⟨q1, g1⟩ := D2.rules
    clear hb2
    go_wp2_with fail
    go_ret
    exact ⟨by rw [HN.out]; rfl, B2⟩
  have dh7 : decide (ca < 1) = false := by simpa using h7
  by_cases h8 : 99 < ca
  · have HN : Hid (verB k t s val cl ca xs = false) := verB_no (by simp [numsB, inB]; omega)
    have dh8 : decide (99 < ca) = true := by simpa using h8
    go_enter Tryz.func245, Tryz.ntmps245
    go_wp2_with fail
    refine (iKey_any k _).mono ?_
    rw [hk]
    rintro e w1 ⟨rfl, rfl⟩
    go_wp2_with fail
    refine (iOk_any t s _).mono ?_
    rw [hs]
    rintro e w2 ⟨rfl, hb2⟩
    have B2 : Below w.heap.size w w2 := ((Below.refl _ _).alloc (Nat.le_refl _) _).trans (hb2.mono (by simp))
    have D2 := (Blk.new w _ _).below hb2 (by simp)
    obtain ⟨q1, g1⟩ := D2.rules
    clear hb2
    go_wp2_with fail
    go_ret
    exact ⟨by rw [HN.out]; rfl, B2⟩
  have dh8 : decide (99 < ca) = false := by simpa using h8
  have HY : Hid (numsB k t s val cl ca = true) := by show numsB k t s val cl ca = true; unfold numsB; rw [hk, hs]; simp [inB]; omega
  have HV := fun hd => verB_yes (xs := xs) HY.out hd
  have HV0 := fun hd => verB_deps (k := k) (t := t) (s := s) (val := val) (cl := cl) (ca := ca) (xs := xs) hd
  rcases hok : depsOk xs with _ | _
  · have HN : Hid _ := HV0 hok
    clear HV HV0
    go_enter Tryz.func245, Tryz.ntmps245
    go_wp2_with fail
    refine (iKey_any k _).mono ?_
    rw [hk]
    rintro e w1 ⟨rfl, rfl⟩
    go_wp2_with fail
    refine (iOk_any t s _).mono ?_
    rw [hs]
    rintro e w2 ⟨rfl, hb2⟩
    have B2 : Below w.heap.size w w2 := ((Below.refl _ _).alloc (Nat.le_refl _) _).trans (hb2.mono (by simp))
    have D2 := (Blk.new w _ _).below hb2 (by simp)
    obtain ⟨q1, g1⟩ := D2.rules
    clear hb2
    go_wp2_with fail
    refine (iDepsOk_any a cap xs _ hn (h.below B2)).mono ?_
    rw [hok]
    rintro e w3 ⟨rfl, hb3⟩
    have B3 : Below w.heap.size w w3 := B2.trans (hb3.mono B2.size)
    clear hb3 q1 g1 D2 B2
    go_wp2_with fail
    go_ret
    exact ⟨by rw [HN.out]; rfl, B3⟩
  · have HN : Hid _ := HV hok
    clear HV HV0
    go_enter Tryz.func245, Tryz.ntmps245
    go_wp2_with fail
    refine (iKey_any k _).mono ?_
    rw [hk]
    rintro e w1 ⟨rfl, rfl⟩
    go_wp2_with fail
    refine (iOk_any t s _).mono ?_
    rw [hs]
    rintro e w2 ⟨rfl, hb2⟩
    have B2 : Below w.heap.size w w2 := ((Below.refl _ _).alloc (Nat.le_refl _) _).trans (hb2.mono (by simp))
    have D2 := (Blk.new w _ _).below hb2 (by simp)
    obtain ⟨q1, g1⟩ := D2.rules
    clear hb2
    go_wp2_with fail
    refine (iDepsOk_any a cap xs _ hn (h.below B2)).mono ?_
    rw [hok]
    rintro e w3 ⟨rfl, hb3⟩
    have B3 : Below w.heap.size w w3 := B2.trans (hb3.mono B2.size)
    have D3 := D2.below hb3 D2.lt
    clear hb3 q1 g1 D2 B2
    obtain ⟨q1, g1⟩ := D3.rules
    go_wp2_with fail
    refine (early_any a cap xs t _ hn (h.below B3)).mono ?_
    rintro e w4 ⟨rfl, hb4⟩
    have B4 : Below w.heap.size w w4 := B3.trans (hb4.mono B3.size)
    clear hb4 q1 g1 D3 B3
    go_wp2_with fail
    go_ret
    exact ⟨by rw [HN.out]; rfl, B4⟩
end Go.Proofs.YtpjidogilofppaaGreat

/- VerOk of the specification. -/
namespace Go.Proofs.YtpjidogilofppaaGreat
open Go.ChangeShapes Go.WideShapes Go.ChangeAt Go.RowKit

set_option maxHeartbeats 4000000 in
set_option maxRecDepth 100000 in
theorem sVer_any (k t s val cl ca : Int) (a : Option Addr) (cap : Nat) (xs : List D) (w : World) (hn : xs.length ≤ 1099511627776) (h : Deps w a xs) :
    Calls Tryz.prog 183 #[verV k t s val cl ca a xs.length cap] w fun e w' => e = .returned (.bool (verB k t s val cl ca xs)) ∧ Below w.heap.size w w' := by
  rcases hk : inB k 0 5 with _ | _
  · have HN : Hid (verB k t s val cl ca xs = false) := verB_no (by simp [numsB, hk])
    go_enter Tryz.func183, Tryz.ntmps183
    go_wp2_with fail
    refine (sKey_any k _).mono ?_
    rw [hk]
    rintro e w1 ⟨rfl, rfl⟩
    go_wp2_with fail
    go_ret
    exact ⟨by rw [HN.out]; rfl, (Below.refl _ _).alloc (Nat.le_refl _) _⟩
  rcases hs : okB t s with _ | _
  · have HN : Hid (verB k t s val cl ca xs = false) := verB_no (by simp [numsB, hs])
    go_enter Tryz.func183, Tryz.ntmps183
    go_wp2_with fail
    refine (sKey_any k _).mono ?_
    rw [hk]
    rintro e w1 ⟨rfl, rfl⟩
    go_wp2_with fail
    refine (sOk_any t s _).mono ?_
    rw [hs]
    rintro e w2 ⟨rfl, hb2⟩
    have B2 : Below w.heap.size w w2 := ((Below.refl _ _).alloc (Nat.le_refl _) _).trans (hb2.mono (by simp))
    have D2 := (Blk.new w _ _).below hb2 (by simp)
    obtain ⟨q1, g1⟩ := D2.rules
    clear hb2
    go_wp2_with fail
    go_ret
    exact ⟨by rw [HN.out]; rfl, B2⟩
  rcases h3 : inB val 0 9999 with _ | _
  · have HN : Hid (verB k t s val cl ca xs = false) := verB_no (by simp [numsB, h3])
    go_enter Tryz.func183, Tryz.ntmps183
    go_wp2_with fail
    refine (sKey_any k _).mono ?_
    rw [hk]
    rintro e w1 ⟨rfl, rfl⟩
    go_wp2_with fail
    refine (sOk_any t s _).mono ?_
    rw [hs]
    rintro e w2 ⟨rfl, hb2⟩
    have B2 : Below w.heap.size w w2 := ((Below.refl _ _).alloc (Nat.le_refl _) _).trans (hb2.mono (by simp))
    have D2 := (Blk.new w _ _).below hb2 (by simp)
    obtain ⟨q1, g1⟩ := D2.rules
    clear hb2
    go_wp2_with fail
    refine (in_any val 0 9999 _).mono ?_
    rw [h3]
    rintro e w9 ⟨rfl, rfl⟩
    go_wp2_with fail
    go_ret
    exact ⟨by rw [HN.out]; rfl, B2⟩
  rcases h4 : inB cl 0 1 with _ | _
  · have HN : Hid (verB k t s val cl ca xs = false) := verB_no (by simp [numsB, h4])
    go_enter Tryz.func183, Tryz.ntmps183
    go_wp2_with fail
    refine (sKey_any k _).mono ?_
    rw [hk]
    rintro e w1 ⟨rfl, rfl⟩
    go_wp2_with fail
    refine (sOk_any t s _).mono ?_
    rw [hs]
    rintro e w2 ⟨rfl, hb2⟩
    have B2 : Below w.heap.size w w2 := ((Below.refl _ _).alloc (Nat.le_refl _) _).trans (hb2.mono (by simp))
    have D2 := (Blk.new w _ _).below hb2 (by simp)
    obtain ⟨q1, g1⟩ := D2.rules
    clear hb2
    go_wp2_with fail
    refine (in_any val 0 9999 _).mono ?_
    rw [h3]
    rintro e w9 ⟨rfl, rfl⟩
    go_wp2_with fail
    refine (in_any cl 0 1 _).mono ?_
    rw [h4]
    rintro e w9 ⟨rfl, rfl⟩
    go_wp2_with fail
    go_ret
    exact ⟨by rw [HN.out]; rfl, B2⟩
  rcases h5 : inB ca 1 99 with _ | _
  · have HN : Hid (verB k t s val cl ca xs = false) := verB_no (by simp [numsB, h5])
    go_enter Tryz.func183, Tryz.ntmps183
    go_wp2_with fail
    refine (sKey_any k _).mono ?_
    rw [hk]
    rintro e w1 ⟨rfl, rfl⟩
    go_wp2_with fail
    refine (sOk_any t s _).mono ?_
    rw [hs]
    rintro e w2 ⟨rfl, hb2⟩
    have B2 : Below w.heap.size w w2 := ((Below.refl _ _).alloc (Nat.le_refl _) _).trans (hb2.mono (by simp))
    have D2 := (Blk.new w _ _).below hb2 (by simp)
    obtain ⟨q1, g1⟩ := D2.rules
    clear hb2
    go_wp2_with fail
    refine (in_any val 0 9999 _).mono ?_
    rw [h3]
    rintro e w9 ⟨rfl, rfl⟩
    go_wp2_with fail
    refine (in_any cl 0 1 _).mono ?_
    rw [h4]
    rintro e w9 ⟨rfl, rfl⟩
    go_wp2_with fail
    refine (in_any ca 1 99 _).mono ?_
    rw [h5]
    rintro e w9 ⟨rfl, rfl⟩
    go_wp2_with fail
    go_ret
    exact ⟨by rw [HN.out]; rfl, B2⟩
  have HY : Hid (numsB k t s val cl ca = true) := by show numsB k t s val cl ca = true; unfold numsB; rw [hk, hs, h3, h4, h5]; rfl
  have HV := fun hd => verB_yes (xs := xs) HY.out hd
  have HV0 := fun hd => verB_deps (k := k) (t := t) (s := s) (val := val) (cl := cl) (ca := ca) (xs := xs) hd
  rcases hok : depsOk xs with _ | _
  · have HN : Hid _ := HV0 hok
    clear HV HV0
    go_enter Tryz.func183, Tryz.ntmps183
    go_wp2_with fail
    refine (sKey_any k _).mono ?_
    rw [hk]
    rintro e w1 ⟨rfl, rfl⟩
    go_wp2_with fail
    refine (sOk_any t s _).mono ?_
    rw [hs]
    rintro e w2 ⟨rfl, hb2⟩
    have B2 : Below w.heap.size w w2 := ((Below.refl _ _).alloc (Nat.le_refl _) _).trans (hb2.mono (by simp))
    have D2 := (Blk.new w _ _).below hb2 (by simp)
    obtain ⟨q1, g1⟩ := D2.rules
    clear hb2
    go_wp2_with fail
    refine (in_any val 0 9999 _).mono ?_
    rw [h3]
    rintro e w9 ⟨rfl, rfl⟩
    go_wp2_with fail
    refine (in_any cl 0 1 _).mono ?_
    rw [h4]
    rintro e w9 ⟨rfl, rfl⟩
    go_wp2_with fail
    refine (in_any ca 1 99 _).mono ?_
    rw [h5]
    rintro e w9 ⟨rfl, rfl⟩
    go_wp2_with fail
    refine (sDepsOk_any a cap xs _ hn (h.below B2)).mono ?_
    rw [hok]
    rintro e w3 ⟨rfl, hb3⟩
    have B3 : Below w.heap.size w w3 := B2.trans (hb3.mono B2.size)
    clear hb3 q1 g1 D2 B2
    go_wp2_with fail
    go_ret
    exact ⟨by rw [HN.out]; rfl, B3⟩
  · have HN : Hid _ := HV hok
    clear HV HV0
    go_enter Tryz.func183, Tryz.ntmps183
    go_wp2_with fail
    refine (sKey_any k _).mono ?_
    rw [hk]
    rintro e w1 ⟨rfl, rfl⟩
    go_wp2_with fail
    refine (sOk_any t s _).mono ?_
    rw [hs]
    rintro e w2 ⟨rfl, hb2⟩
    have B2 : Below w.heap.size w w2 := ((Below.refl _ _).alloc (Nat.le_refl _) _).trans (hb2.mono (by simp))
    have D2 := (Blk.new w _ _).below hb2 (by simp)
    obtain ⟨q1, g1⟩ := D2.rules
    clear hb2
    go_wp2_with fail
    refine (in_any val 0 9999 _).mono ?_
    rw [h3]
    rintro e w9 ⟨rfl, rfl⟩
    go_wp2_with fail
    refine (in_any cl 0 1 _).mono ?_
    rw [h4]
    rintro e w9 ⟨rfl, rfl⟩
    go_wp2_with fail
    refine (in_any ca 1 99 _).mono ?_
    rw [h5]
    rintro e w9 ⟨rfl, rfl⟩
    go_wp2_with fail
    refine (sDepsOk_any a cap xs _ hn (h.below B2)).mono ?_
    rw [hok]
    rintro e w3 ⟨rfl, hb3⟩
    have B3 : Below w.heap.size w w3 := B2.trans (hb3.mono B2.size)
    have D3 := D2.below hb3 D2.lt
    clear hb3 q1 g1 D2 B2
    obtain ⟨q1, g1⟩ := D3.rules
    go_wp2_with fail
    go_loopw [3] (fun i wr => ∃ j : Nat, j ≤ xs.length ∧ i = .int .i64 j ∧ Hid (early (xs.take j) t = true) ∧ Below w3.heap.size w3 wr) (fun i _ => xs.length - (intOf i).toNat)
    case atStart => exact ⟨0, Nat.zero_le _, rfl, rfl, Below.refl _ _⟩
    case round =>
      obtain ⟨j, hj, rfl, HE, hB⟩ := hrel
      clear q1 g1
      have Dr := D3.below hB D3.lt
      have Br : Below w.heap.size w wr := B3.trans (hB.mono B3.size)
      obtain ⟨q1, g1⟩ := Dr.rules
      by_cases hlt : j < xs.length
      · obtain ⟨b, o, rfl, hbb, e0, e1, e2⟩ := (h.below Br).at hlt
        have r1 := since_cell e1
        have r4 := fun (n : Wof (Since wr)) (i : Nat) => (Dr.below n.h Dr.lt).cell i
        have ne := since_ne wr
        by_cases hle : xs[j].t < t
        · have HE2 : Hid (early (xs.take (j + 1)) t = true) := by show early (xs.take (j + 1)) t = true; rw [early_step hlt, HE.out]; simpa using hle
          generalize xs[j] = y at *
          clear e0 e1 e2
          go_wp2_with fail
          refine wp_region_class (S := Since wr) (by kernel_rfl) (by kernel_rfl) (Below.refl _ _).drew ?_
          repeat (go_big_quiet_step ((fail)))
          refine wpQuiet_nil ?_
          rintro W2 ⟨n, hnW⟩
          have N2 := n.h
          rw [← hnW] at N2
          have hB2 : Below w3.heap.size w3 W2 := hB.trans (N2.mono hB.size)
          clear N2 r1 r4 ne hnW n Dr hB q1 g1 Br
          go_wp2_with fail
          go_roundw
          case rel => exact ⟨j + 1, by omega, by go_num, HE2, hB2⟩
          case measure => simp [intOf]; omega
        · have HX : Hid (early xs t = false) := early_bad hlt hle
          have hle2 : t ≤ xs[j].t := by omega
          clear hle
          generalize xs[j] = y at *
          clear e0 e1 e2
          go_wp2_with fail
          refine wp_region_class (S := Since wr) (by kernel_rfl) (by kernel_rfl) (Below.refl _ _).drew ?_
          repeat (go_big_quiet_step ((fail)))
          refine wpQuiet_nil ?_
          rintro W2 ⟨n, hnW⟩
          have N2 := n.h
          rw [← hnW] at N2
          have B5 : Below w.heap.size w W2 := Br.trans (N2.mono Br.size)
          clear N2 r1 r4 ne hnW n Dr hB q1 g1 Br
          go_wp2_with fail
          go_ret
          exact ⟨by rw [HN.out, HX.out]; rfl, B5⟩
      · have hj2 : j = xs.length := by omega
        subst hj2
        rw [List.take_length] at HE
        go_wp2_with fail
        go_ret
        exact ⟨by rw [HN.out, HE.out]; rfl, Br⟩
end Go.Proofs.YtpjidogilofppaaGreat

/- The exact law of VerOk. -/
namespace Go.Proofs.YtpjidogilofppaaGreat
open Go.ChangeShapes Go.WideShapes Go.ChangeAt Go.RowKit

theorem szVer_any (k t s val cl ca : Int) (a : Option Addr) (n cap : Nat) (w : World) (hn : n ≤ maxLen) :
    Calls Tryz.prog 111 #[verV k t s val cl ca a n cap, .int .i64 1048576] w fun e w' => e = .returned (.int .i64 (if (1048576 : Int) < (n : Int) then -1 else 1048576 - n)) ∧ Below w.heap.size w w' := by
  have hz := fun w => szDeps_any a n cap 1048576 w hn (by omega) (by omega)
  by_cases h : (1048576 : Int) < (n : Int)
  · rw [if_pos h] at hz
    rw [if_pos h]
    go_enter Tryz.func111, Tryz.ntmps111
    go_wp2_with fail
    refine (hz _).mono ?_
    rintro e w1 ⟨rfl, rfl⟩
    clear hz
    go_wp2_with fail
    go_ret
    exact ⟨rfl, (Below.refl _ _).alloc (Nat.le_refl _) _⟩
  · rw [if_neg h] at hz
    rw [if_neg h]
    go_enter Tryz.func111, Tryz.ntmps111
    go_wp2_with fail
    refine (hz _).mono ?_
    rintro e w1 ⟨rfl, rfl⟩
    clear hz
    go_wp2_with fail
    go_ret
    exact ⟨rfl, (Below.refl _ _).alloc (Nat.le_refl _) _⟩

theorem Blk.fill7 {w : World} {B : Nat} {x0 x1 x2 x3 x4 x5 x6 v0 v1 v2 v3 v4 v5 v6 : Value} {T : TypeId} (h : Blk w B #[x0, x1, x2, x3, x4, x5, x6] T) : Blk (((((((w.setCell ⟨B, 0, none⟩ v0).setCell ⟨B, 1, none⟩ v1).setCell ⟨B, 2, none⟩ v2).setCell ⟨B, 3, none⟩ v3).setCell ⟨B, 4, none⟩ v4).setCell ⟨B, 5, none⟩ v5).setCell ⟨B, 6, none⟩ v6) B #[v0, v1, v2, v3, v4, v5, v6] T := by
  have := ((((((h.set 0 v0).set 1 v1).set 2 v2).set 3 v3).set 4 v4).set 5 v5).set 6 v6
  simpa using this
theorem row_fill7 {w : World} {base B n : Nat} {e : TypeId} {size : Nat} {v v0 v1 v2 v3 v4 v5 v6 : Value} {xs : List Value} (h : w.ownsRow base e size v n xs) (hB : ∀ j, v.ownBlock = some j → j ≠ B) : (((((((w.setCell ⟨B, 0, none⟩ v0).setCell ⟨B, 1, none⟩ v1).setCell ⟨B, 2, none⟩ v2).setCell ⟨B, 3, none⟩ v3).setCell ⟨B, 4, none⟩ v4).setCell ⟨B, 5, none⟩ v5).setCell ⟨B, 6, none⟩ v6).ownsRow base e size v n xs := by
  have keep : ∀ k, k ≠ B → (((((((w.setCell ⟨B, 0, none⟩ v0).setCell ⟨B, 1, none⟩ v1).setCell ⟨B, 2, none⟩ v2).setCell ⟨B, 3, none⟩ v3).setCell ⟨B, 4, none⟩ v4).setCell ⟨B, 5, none⟩ v5).setCell ⟨B, 6, none⟩ v6).heap[k]? = w.heap[k]? := fun k hk =>
    ((((((Below.heap_setCell _ _ _ _ hk).trans (Below.heap_setCell _ _ _ _ hk)).trans (Below.heap_setCell _ _ _ _ hk)).trans (Below.heap_setCell _ _ _ _ hk)).trans (Below.heap_setCell _ _ _ _ hk)).trans (Below.heap_setCell _ _ _ _ hk)).trans (Below.heap_setCell _ _ _ _ hk)
  refine ⟨h.1, ?_⟩
  rcases h.2 with hn | ⟨g, cap, cur, rfl, hb, hg, rest⟩
  · exact .inl hn
  · exact .inr ⟨g, cap, cur, rfl, hb, (keep g (hB g rfl)).trans hg, rest⟩

set_option maxHeartbeats 2000000 in
theorem toVer_any (k t s val cl ca : Int) (a : Option Addr) (cap : Nat) (xs : List D) (w : World) (hn : xs.length ≤ 1048576) (h : Deps w a xs) :
    Calls Tryz.prog 121 #[verV k t s val cl ca a xs.length cap] w fun e w' => ∃ b, e = .returned (verV k t s val cl ca (some ⟨b, 0, none⟩) xs.length xs.length) ∧ w'.ownsRow w.heap.size 116 3 (.slice (some ⟨b, 0, none⟩) xs.length xs.length) xs.length (flat3 xs) ∧ Below w.heap.size w w' := by
  go_enter Tryz.func121, Tryz.ntmps121
  go_wp2_with fail
  refine (toStamp_any t s _).mono ?_
  rintro e w1 ⟨rfl, hb⟩
  have hB : Below w.heap.size w w1 := ((((Below.refl _ _).alloc (Nat.le_refl _) _).alloc (by simp) _).alloc (by simp; omega) _).trans (hb.mono (by simp; omega))
  have A1 := (((Blk.new w _ _).alloc _).alloc _).below hb (by simp; omega)
  have Z1 := ((Blk.new _ _ _).alloc _).below hb (by simp)
  have O1 := (Blk.new _ _ _).below hb (by simp)
  simp only [World.size_alloc] at Z1 O1
  obtain ⟨q1, g1⟩ := A1.rules
  obtain ⟨q2, g2⟩ := O1.rules
  have hz := O1.lt
  clear hb
  have O2 : Blk (((((w1.setCell ⟨w.heap.size + 1 + 1, 1, none⟩ (.int .i64 t)).setCell ⟨w.heap.size + 1 + 1, 2, none⟩ (.int .i64 s)).setCell ⟨w.heap.size + 1 + 1, 3, none⟩ (.int .i64 val)).setCell ⟨w.heap.size + 1 + 1, 4, none⟩ (.int .i64 cl)).setCell ⟨w.heap.size + 1 + 1, 5, none⟩ (.int .i64 ca)) (w.heap.size + 1 + 1) #[.int .i64 k, .int .i64 t, .int .i64 s, .int .i64 val, .int .i64 cl, .int .i64 ca, .slice none 0 0] 107 := by
    have := ((((O1.set 1 (.int .i64 t)).set 2 (.int .i64 s)).set 3 (.int .i64 val)).set 4 (.int .i64 cl)).set 5 (.int .i64 ca)
    simpa using this
  have Z2 := ((((Z1.other (a := ⟨w.heap.size + 1 + 1, 1, none⟩) (by simp) (.int .i64 t)).other (a := ⟨w.heap.size + 1 + 1, 2, none⟩) (by simp) (.int .i64 s)).other (a := ⟨w.heap.size + 1 + 1, 3, none⟩) (by simp) (.int .i64 val)).other (a := ⟨w.heap.size + 1 + 1, 4, none⟩) (by simp) (.int .i64 cl)).other (a := ⟨w.heap.size + 1 + 1, 5, none⟩) (by simp) (.int .i64 ca)
  have B2 : Below w.heap.size w (((((w1.setCell ⟨w.heap.size + 1 + 1, 1, none⟩ (.int .i64 t)).setCell ⟨w.heap.size + 1 + 1, 2, none⟩ (.int .i64 s)).setCell ⟨w.heap.size + 1 + 1, 3, none⟩ (.int .i64 val)).setCell ⟨w.heap.size + 1 + 1, 4, none⟩ (.int .i64 cl)).setCell ⟨w.heap.size + 1 + 1, 5, none⟩ (.int .i64 ca)) := ((((hB.setCell (by simp; omega) _).setCell (by simp; omega) _).setCell (by simp; omega) _).setCell (by simp; omega) _).setCell (by simp; omega) _
  clear A1 Z1 O1 hB
  go_wp2_with fail
  generalize (((((w1.setCell ⟨w.heap.size + 1 + 1, 1, none⟩ (.int .i64 t)).setCell ⟨w.heap.size + 1 + 1, 2, none⟩ (.int .i64 s)).setCell ⟨w.heap.size + 1 + 1, 3, none⟩ (.int .i64 val)).setCell ⟨w.heap.size + 1 + 1, 4, none⟩ (.int .i64 cl)).setCell ⟨w.heap.size + 1 + 1, 5, none⟩ (.int .i64 ca)) = W at *
  clear q1 g1 q2 g2 hz w1
  refine (toDeps_any a cap xs _ hn (h.below B2)).mono ?_
  rintro e w3 ⟨b, rfl, hbW, R3, hb3⟩
  have O3 := O2.below hb3 O2.lt
  have Z3 := Z2.below hb3 Z2.lt
  have B3 : Below w.heap.size w w3 := B2.trans (hb3.mono B2.size)
  have bO := O2.lt
  clear hb3 O2 Z2
  obtain ⟨q1, g1⟩ := O3.rules
  obtain ⟨q2, g2⟩ := Z3.rules
  have O4 := O3.set 6 (.slice (some ⟨b, 0, none⟩) xs.length xs.length)
  have Z4 := Z3.other (a := ⟨w.heap.size + 1 + 1, 6, none⟩) (by simp) (.slice (some ⟨b, 0, none⟩) xs.length xs.length)
  have B4 := B3.setCell (p := ⟨w.heap.size + 1 + 1, 6, none⟩) (by simp; omega) (.slice (some ⟨b, 0, none⟩) xs.length xs.length)
  have R4 := row_set R3 (A := w.heap.size + 1 + 1) (i := 6) (fun j hj => by have := (R3.lt j hj).1; omega) (.slice (some ⟨b, 0, none⟩) xs.length xs.length)
  have bR : ∀ j, (Value.slice (some ⟨b, 0, none⟩) xs.length xs.length).ownBlock = some j → j ≠ w.heap.size + 1 := fun j hj => by have := (R3.lt j hj).1; omega
  go_wp2_with fail
  refine bodyPost_ret (v := verV k t s val cl ca (some ⟨b, 0, none⟩) xs.length xs.length) ?_ rfl ⟨b, rfl, row_mono (row_fill7 R4 bR) (by have := B2.size; omega), ?_⟩
  · refine Blk.gen (B := w.heap.size + 1) (vs := #[.int .i64 k, .int .i64 t, .int .i64 s, .int .i64 val, .int .i64 cl, .int .i64 ca, .slice (some ⟨b, 0, none⟩) xs.length xs.length]) (T := 107) ?_ (P := fun W => (results Tryz.f121 _).run Tryz.prog W = .ok _ W) ?_
    · exact Blk.fill7 Z4
    intro W hW
    obtain ⟨k, f⟩ := hW.rules
    simp [results, Tryz.results121, go_sem, k]
  · exact ((((((B4.setCell (by simp) _).setCell (by simp) _).setCell (by simp) _).setCell (by simp) _).setCell (by simp) _).setCell (by simp) _).setCell (by simp) _

set_option maxHeartbeats 2000000 in
theorem eqVer_any (k t s val cl ca : Int) (a b : Option Addr) (cap cap' : Nat) (xs : List D) (w : World) (hn : xs.length ≤ 1048576) (h : Deps w a xs) (h' : Deps w b xs) :
    Calls Tryz.prog 134 #[verV k t s val cl ca a xs.length cap, verV k t s val cl ca b xs.length cap'] w fun e w' => e = .returned (.bool true) ∧ Below w.heap.size w w' := by
  go_enter Tryz.func134, Tryz.ntmps134
  go_wp2_with fail
  refine (eqStamp_any t s _).mono ?_
  rintro e w1 ⟨rfl, hb⟩
  have hB : Below w.heap.size w w1 := (((Below.refl _ _).alloc (Nat.le_refl _) _).alloc (by simp) _).trans (hb.mono (by simp; omega))
  have A1 := ((Blk.new w _ _).alloc _).below hb (by simp; omega)
  have Z1 := (Blk.new _ _ _).below hb (by simp)
  simp only [World.size_alloc] at Z1
  obtain ⟨q1, g1⟩ := A1.rules
  obtain ⟨q2, g2⟩ := Z1.rules
  clear hb
  go_wp2_with fail
  refine (eqDeps_any a b xs cap cap' _ hn (h.below hB) (h'.below hB)).mono ?_
  rintro e w2 ⟨rfl, hb2⟩
  have B2 : Below w.heap.size w w2 := hB.trans (hb2.mono hB.size)
  clear hb2 hB A1 Z1 q1 g1 q2 g2
  go_wp2_with fail
  go_ret
  exact ⟨rfl, B2⟩
end Go.Proofs.YtpjidogilofppaaGreat

