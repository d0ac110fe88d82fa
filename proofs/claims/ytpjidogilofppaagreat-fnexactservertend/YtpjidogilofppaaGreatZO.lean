/- 5 texts in one: PlaceD, SvOkA, SvOkB, SvWt, SvOkI. -/
import Derived.Test.YtpjidogilofppaaGreatZN
import Derived.Test.YtpjidogilofppaaGreatGAK
import Derived.Test.YtpjidogilofppaaGreatSlotsI
import Derived.Test.YtpjidogilofppaaGreatZW
import Derived.Test.YtpjidogilofppaaGreatZA
/- The program's search among versions in order, by key and stamp. -/
namespace Go.Proofs.YtpjidogilofppaaGreat
open Go.ChangeShapes Go.WideShapes Go.ChangeAt Go.RowKit

theorem ord_zeroD (t s t' s' : Int) : (ordV t s t' s' = 0) ↔ (t = t' ∧ s = s') := by
  unfold ordV cmpV
  by_cases h1 : t < t' <;> by_cases h2 : t' < t <;> by_cases h3 : s < s' <;> by_cases h4 : s' < s <;> simp [*] <;> omega
theorem dOrd_zero (k t s k' t' s' : Int) : (dOrd k t s k' t' s' = 0) ↔ (k = k' ∧ t = t' ∧ s = s') := by
  unfold dOrd
  by_cases h : k = k'
  · rw [if_pos h, ord_zeroD]; simp [h]
  · rw [if_neg h]
    unfold cmpV
    by_cases h1 : k < k' <;> by_cases h2 : k' < k <;> simp [*] <;> omega
set_option maxHeartbeats 2000000 in
set_option maxRecDepth 20000 in
theorem byName_any (v : V) (da : Option Addr) (n dc : Nat) (k t s : Int) (w : World) :
    Calls Tryz.prog 253 #[verV v.k v.t v.s v.val v.cl v.ca da n dc, depV k t s] w fun e w' => e = .returned (.int .i64 (dOrd v.k v.t v.s k t s)) ∧ Below w.heap.size w w' := by
  have A1 : Blk ((w.alloc (.cells #[.int .i64 v.k, .int .i64 v.t, .int .i64 v.s, .int .i64 v.val, .int .i64 v.cl, .int .i64 v.ca, .slice da n dc] 107)).alloc (.cells #[.int .i64 k, .int .i64 t, .int .i64 s] 116)) w.heap.size #[.int .i64 v.k, .int .i64 v.t, .int .i64 v.s, .int .i64 v.val, .int .i64 v.cl, .int .i64 v.ca, .slice da n dc] 107 := (Blk.new w _ _).alloc _
  have A2 : Blk ((w.alloc (.cells #[.int .i64 v.k, .int .i64 v.t, .int .i64 v.s, .int .i64 v.val, .int .i64 v.cl, .int .i64 v.ca, .slice da n dc] 107)).alloc (.cells #[.int .i64 k, .int .i64 t, .int .i64 s] 116)) (w.heap.size + 1) #[.int .i64 k, .int .i64 t, .int .i64 s] 116 := by have := Blk.new (w.alloc (.cells #[.int .i64 v.k, .int .i64 v.t, .int .i64 v.s, .int .i64 v.val, .int .i64 v.cl, .int .i64 v.ca, .slice da n dc] 107)) #[.int .i64 k, .int .i64 t, .int .i64 s] 116; simpa using this
  have b0 : Below w.heap.size w ((w.alloc (.cells #[.int .i64 v.k, .int .i64 v.t, .int .i64 v.s, .int .i64 v.val, .int .i64 v.cl, .int .i64 v.ca, .slice da n dc] 107)).alloc (.cells #[.int .i64 k, .int .i64 t, .int .i64 s] 116)) := ((Below.refl _ w).alloc (Nat.le_refl _) _).alloc (by simp) _
  have hL := fun W => depAgainst_any v.k v.t v.s k t s W
  generalize dOrd v.k v.t v.s k t s = r at *
  go_enter Tryz.func253, Tryz.ntmps253
  go_wp2_with fail
  generalize ((w.alloc (.cells #[.int .i64 v.k, .int .i64 v.t, .int .i64 v.s, .int .i64 v.val, .int .i64 v.cl, .int .i64 v.ca, .slice da n dc] 107)).alloc (.cells #[.int .i64 k, .int .i64 t, .int .i64 s] 116)) = W2 at *
  have r1 : ∀ (n' : Wof (Since W2)) (j : Nat), n'.W.cell? ⟨w.heap.size, j, none⟩ = #[.int .i64 v.k, .int .i64 v.t, .int .i64 v.s, .int .i64 v.val, .int .i64 v.cl, .int .i64 v.ca, .slice da n dc][j]? := fun n' j => (A1.below n'.h A1.lt).cell j
  have r2 : ∀ (n' : Wof (Since W2)) (j : Nat), n'.W.cell? ⟨w.heap.size + 1, j, none⟩ = #[.int .i64 k, .int .i64 t, .int .i64 s][j]? := fun n' j => (A2.below n'.h A2.lt).cell j
  have ne := since_ne W2
  clear A1 A2
  refine wp_region_class (S := Since W2) (by kernel_rfl) (by kernel_rfl) (Below.refl _ _).drew ?_
  repeat (go_big_quiet_step ((rename_i n; first | (go_at_call 196; exact Calls.inClass (named_any v da _ dc _) Since.keep) | (go_at_call 165; exact Calls.inClass (hL _) Since.keep))))
  refine wpQuiet_nil ?_
  rintro W ⟨n', hnW⟩
  have R2 := n'.h
  rw [← hnW] at R2
  have B2 : Below w.heap.size w W := b0.trans (R2.mono b0.size)
  clear R2 r1 r2 ne hnW n' b0
  go_wp2_with fail
  go_ret
  exact ⟨rfl, B2⟩
theorem byName_is {v : V} {k t s : Int} {r : Int} (h : dOrd v.k v.t v.s k t s = r) {da : Option Addr} {n dc : Nat} {w : World} :
    Calls Tryz.prog 253 #[verV v.k v.t v.s v.val v.cl v.ca da n dc, depV k t s] w fun e w' => e = .returned (.int .i64 r) ∧ Below w.heap.size w w' := by rw [← h]; exact byName_any v da n dc k t s w
/-- The first place that is not ahead of what is looked for. -/
def plcD (gs : List V) (k t s : Int) : Nat := (gs.takeWhile fun v => lessV v (asV k t s)).length
/-- What the search knows: all ahead of l are ahead of it, none from h on is. -/
def SoughtD (gs : List V) (k t s : Int) (l h : Nat) : Prop := (∀ j, (hj : j < gs.length) → j < l → lessV gs[j] (asV k t s) = true) ∧ (∀ j, (hj : j < gs.length) → h ≤ j → lessV gs[j] (asV k t s) = false)
theorem SoughtD.up {gs : List V} {k t s : Int} {l h m : Nat} (hs : SoughtD gs k t s l h) (ha : Asc gs) (hm : m < gs.length) (hl : lessV gs[m] (asV k t s) = true) : SoughtD gs k t s (m + 1) h := by
  refine ⟨fun j hj hjm => ?_, hs.2⟩
  by_cases e : j = m
  · subst e; exact hl
  · exact lessV_trans (List.pairwise_iff_getElem.1 ha j m hj hm (by omega)) hl
theorem SoughtD.down {gs : List V} {k t s : Int} {l h m : Nat} (hs : SoughtD gs k t s l h) (ha : Asc gs) (hm : m < gs.length) (hl : lessV gs[m] (asV k t s) = false) : SoughtD gs k t s l m := by
  refine ⟨hs.1, fun j hj hjm => ?_⟩
  by_cases e : j = m
  · subst e; exact hl
  · cases hh : lessV gs[j] (asV k t s)
    · rfl
    · have := lessV_trans (List.pairwise_iff_getElem.1 ha m j hm hj (by omega)) hh
      rw [hl] at this; cases this
theorem plcD_eq (gs : List V) (k t s : Int) : ∀ l, l ≤ gs.length → (∀ j, (hj : j < gs.length) → j < l → lessV gs[j] (asV k t s) = true) → (∀ h : l < gs.length, lessV gs[l] (asV k t s) = false) → plcD gs k t s = l := by
  induction gs with
  | nil => intro l hl _ _; simp at hl; subst hl; rfl
  | cons x xs ih =>
    intro l hl h1 h2
    cases l with
    | zero =>
      have := h2 (by simp)
      simp only [List.getElem_cons_zero] at this
      unfold plcD; rw [List.takeWhile_cons, if_neg (by rw [this]; simp)]; rfl
    | succ l =>
      have hx : lessV x (asV k t s) = true := h1 0 (by simp) (by omega)
      have := ih l (by simpa using hl) (fun j hj hjl => by have := h1 (j + 1) (by simpa using hj) (by omega); rwa [List.getElem_cons_succ] at this) (fun h => by have := h2 (by simpa using h); rwa [List.getElem_cons_succ] at this)
      unfold plcD at this ⊢
      rw [List.takeWhile_cons, if_pos hx, List.length_cons, this]
theorem SoughtD.plc {gs : List V} {k t s : Int} {l : Nat} (hs : SoughtD gs k t s l l) (hl : l ≤ gs.length) : plcD gs k t s = l := plcD_eq gs k t s l hl (fun j hj h => hs.1 j hj h) (fun h => hs.2 l h (Nat.le_refl _))
theorem hasD_at {gs : List V} {k t s : Int} {l : Nat} (hs : SoughtD gs k t s l l) (ha : Asc gs) (hl : l < gs.length) : hasB gs k t s = decide (gs[l].k = k ∧ gs[l].t = t ∧ gs[l].s = s) := by
  unfold hasB
  by_cases hq : gs[l].k = k ∧ gs[l].t = t ∧ gs[l].s = s
  · have := cAt_self ha (List.getElem_mem hl)
    rw [hq.1, hq.2.1, hq.2.2] at this
    rw [this]; simp [hq]
  · have : cAt gs k t s = none := by
      rcases hc : cAt gs k t s with _ | v
      · rfl
      · exfalso
        obtain ⟨hv, e1, e2, e3⟩ := cAt_mem hc
        obtain ⟨j, hj, rfl⟩ := List.getElem_of_mem hv
        have irr : lessV gs[j] (asV k t s) = false := by rw [lessV_false]; simp [e1, e2, e3]
        have hjl : ¬ j < l := fun h => by rw [hs.1 j hj h] at irr; cases irr
        have hne : j ≠ l := fun h => by subst h; exact hq ⟨e1, e2, e3⟩
        have h5 := List.pairwise_iff_getElem.1 ha l j hl hj (by omega)
        have h6 := hs.2 l hl (Nat.le_refl _)
        rw [lessV_iff] at h5
        rw [lessV_false] at h6
        simp only [e1, e2, e3] at h5 h6
        omega
    rw [this]; simp [hq]
theorem hasD_end {gs : List V} {k t s : Int} (hs : SoughtD gs k t s gs.length gs.length) : hasB gs k t s = false := by
  unfold hasB
  rcases hc : cAt gs k t s with _ | v
  · rfl
  · exfalso
    obtain ⟨hv, e1, e2, e3⟩ := cAt_mem hc
    obtain ⟨j, hj, rfl⟩ := List.getElem_of_mem hv
    have irr : lessV gs[j] (asV k t s) = false := by rw [lessV_false]; simp [e1, e2, e3]
    rw [hs.1 j hj hj] at irr; cases irr

set_option maxHeartbeats 4000000 in
set_option maxRecDepth 100000 in
theorem placeD_any (a : Option Addr) (cap : Nat) (gs : List V) (k t s : Int) (w : World) (hn : gs.length ≤ 100) (ha : Asc gs) (h : Vers w a gs) :
    Calls Tryz.prog 252 #[.slice a gs.length cap, depV k t s, .func (.func 253) #[] #[]] w fun e w' => e = .returned (.tuple #[.int .i64 (plcD gs k t s), .bool (hasB gs k t s)]) ∧ Below w.heap.size w w' := by
  have S1 := Blk.new w #[.int .i64 k, .int .i64 t, .int .i64 s] 116
  have b0 : Below w.heap.size w (w.alloc (.cells #[.int .i64 k, .int .i64 t, .int .i64 s] 116)) := (Below.refl _ w).alloc (Nat.le_refl _) _
  have h1 := h.below b0
  have hp := S1.lt
  clear h
  go_enter Tryz.func252, Tryz.ntmps252
  go_wp2
  generalize w.alloc (.cells #[.int .i64 k, .int .i64 t, .int .i64 s] 116) = W1 at *
  go_loopw [8, 9] (fun lo hi wr => ∃ l h : Nat, l ≤ h ∧ h ≤ gs.length ∧ lo = .int .i64 l ∧ hi = .int .i64 h ∧ Hid (SoughtD gs k t s l h) ∧ Below W1.heap.size W1 wr) (fun lo hi _ => (intOf hi - intOf lo).toNat)
  case atStart => exact ⟨0, gs.length, Nat.zero_le _, Nat.le_refl _, rfl, rfl, ⟨fun j hj h => absurd h (Nat.not_lt_zero _), fun j hj h => absurd hj (by omega)⟩, Below.refl _ _⟩
  case round =>
    obtain ⟨l, h, hlh, hh, rfl, rfl, HS, hB⟩ := hrel
    have hS := S1.below hB hp
    have rz : ∀ (n : Wof (Since wr)) (j : Nat), n.W.cell? ⟨w.heap.size, j, none⟩ = #[.int .i64 k, .int .i64 t, .int .i64 s][j]? := fun n j => (hS.below n.h hS.lt).cell j
    have ne := since_ne wr
    by_cases hlt : l < h
    · obtain ⟨m, hm⟩ : ∃ m : Nat, (m : Int) = (l : Int) + ((h : Int) - l) / 2 := ⟨l + (h - l) / 2, by omega⟩
      have hm1 : l ≤ m := by omega
      have hm2 : m < h := by omega
      have HM : Hid ((m : Int) = (l : Int) + ((h : Int) - l) / 2) := hm
      clear hm
      have hmg : m < gs.length := by omega
      obtain ⟨b, o, da, dc, rfl, hbb, hv1⟩ := h1.at hmg
      obtain ⟨r0, r1, r2, r3, r4, r5, r6⟩ := (hv1.below hB).rules
      obtain ⟨r, hr⟩ : ∃ r, dOrd gs[m].k gs[m].t gs[m].s k t s = r := ⟨_, rfl⟩
      have hlB : decide (r < 0) = lessV gs[m] (asV k t s) := by rw [← hr]; exact dOrd_less _ _ _ _ _ _
      by_cases hneg : r < 0
      · have HU : Hid (SoughtD gs k t s (m + 1) h) := HS.out.up ha hmg (by rw [← hlB]; simpa using hneg)
        clear hv1 hlB
        generalize gs[m] = v at *
        have m0 : (0 : Int) ≤ (m : Int) := by omega
        have m1 : (m : Int) < (gs.length : Int) := by omega
        have m2 : (m : Int) < 100 := by omega
        go_wp2_with fail
        rw [← HM.out]
        refine wp_region_class (S := Since wr) (by kernel_rfl) (by kernel_rfl) (Below.refl _ _).drew ?_
        repeat (go_big_quiet_step ((rename_i n; first | (go_at_call 253; exact Calls.inClass (byName_is hr) Since.keep))))
        refine wpQuiet_nil ?_
        rintro W ⟨n, hnW⟩
        have R2 := n.h
        rw [← hnW] at R2
        have hB2 : Below W1.heap.size W1 W := hB.trans (R2.mono hB.size)
        clear R2 r0 r1 r2 r3 r4 r5 r6 rz ne hnW n hB hS
        go_wp2
        go_roundw
        case rel => exact ⟨m + 1, h, by omega, hh, by go_num, rfl, HU, hB2⟩
        case measure => simp [intOf]; omega
      · have HU : Hid (SoughtD gs k t s l m) := HS.out.down ha hmg (by rw [← hlB]; simpa using hneg)
        have hneg2 : decide (r < 0) = false := by simpa using hneg
        clear hv1 hlB
        generalize gs[m] = v at *
        have m0 : (0 : Int) ≤ (m : Int) := by omega
        have m1 : (m : Int) < (gs.length : Int) := by omega
        go_wp2_with fail
        rw [← HM.out]
        refine wp_region_class (S := Since wr) (by kernel_rfl) (by kernel_rfl) (Below.refl _ _).drew ?_
        repeat (go_big_quiet_step ((rename_i n; first | (go_at_call 253; exact Calls.inClass (byName_is hr) Since.keep))))
        refine wpQuiet_nil ?_
        rintro W ⟨n, hnW⟩
        have R2 := n.h
        rw [← hnW] at R2
        have hB2 : Below W1.heap.size W1 W := hB.trans (R2.mono hB.size)
        clear R2 r0 r1 r2 r3 r4 r5 r6 rz ne hnW n hB hS
        go_wp2
        go_roundw
        case rel => exact ⟨l, m, hm1, by omega, rfl, rfl, HU, hB2⟩
        case measure => simp [intOf]; omega
    · have hk2 : l = h := by omega
      subst hk2
      have HP : Hid (plcD gs k t s = l) := HS.out.plc hh
      by_cases hend : l < gs.length
      · obtain ⟨b, o, da, dc, rfl, hbb, hv1⟩ := h1.at hend
        obtain ⟨r0, r1, r2, r3, r4, r5, r6⟩ := (hv1.below hB).rules
        obtain ⟨r, hr⟩ : ∃ r, dOrd gs[l].k gs[l].t gs[l].s k t s = r := ⟨_, rfl⟩
        have HT : Hid (hasB gs k t s = (r == 0)) := by
          show hasB gs k t s = (r == 0)
          rw [hasD_at HS.out ha hend, ← hr, Bool.eq_iff_iff]
          simp [dOrd_zero]
        clear hv1
        generalize gs[l] = v at *
        have m0 : (0 : Int) ≤ (l : Int) := by omega
        have m1 : (l : Int) < (gs.length : Int) := by omega
        go_wp2_with fail
        refine wp_region_class (S := Since wr) (by kernel_rfl) (by kernel_rfl) (Below.refl _ _).drew ?_
        repeat (go_big_quiet_step ((rename_i n; first | (go_at_call 253; exact Calls.inClass (byName_is hr) Since.keep))))
        refine wpQuiet_nil ?_
        rintro W ⟨n, hnW⟩
        have R2 := n.h
        rw [← hnW] at R2
        have hB2 : Below W1.heap.size W1 W := hB.trans (R2.mono hB.size)
        clear R2 r0 r1 r2 r3 r4 r5 r6 rz ne hnW n hB hS
        go_wp2
        go_ret2
        exact ⟨by rw [HP.out, HT.out]; rfl, b0.trans (hB2.mono b0.size)⟩
      · have he : l = gs.length := by omega
        subst he
        have HT : Hid (hasB gs k t s = false) := hasD_end HS.out
        clear hS
        go_wp2_with fail
        refine wp_region_class (S := Since wr) (by kernel_rfl) (by kernel_rfl) (Below.refl _ _).drew ?_
        repeat (go_big_quiet_step ((fail)))
        refine wpQuiet_nil ?_
        rintro W ⟨n, hnW⟩
        have R2 := n.h
        rw [← hnW] at R2
        have hB2 : Below W1.heap.size W1 W := hB.trans (R2.mono hB.size)
        clear R2 rz ne hnW n hB
        go_wp2
        go_ret2
        exact ⟨by rw [HP.out, HT.out]; rfl, b0.trans (hB2.mono b0.size)⟩

theorem hasVer_any (a : Option Addr) (cap : Nat) (gs : List V) (k t s : Int) (w : World) (hc : chainB gs = true) (h : Vers w a gs) :
    Calls Tryz.prog 214 #[.slice a gs.length cap, depV k t s] w fun e w' => e = .returned (.bool (hasB gs k t s)) ∧ Below w.heap.size w w' := by
  have hl := (chainB_iff.1 hc).1
  have b0 : Below w.heap.size w (w.alloc (.cells #[.int .i64 k, .int .i64 t, .int .i64 s] 116)) := (Below.refl _ w).alloc (Nat.le_refl _) _
  have hP := placeD_any a cap gs k t s _ (by omega) (chainB_iff.1 hc).2.2 (h.below b0)
  generalize hasB gs k t s = r at *
  generalize plcD gs k t s = p at *
  clear h hc
  go_enter Tryz.func214, Tryz.ntmps214
  go_wp2_with fail
  refine hP.mono ?_
  rintro e w1 ⟨rfl, hb⟩
  go_wp2_with fail
  go_ret
  exact ⟨rfl, b0.trans (hb.mono b0.size)⟩
end Go.Proofs.YtpjidogilofppaaGreat

/- The program's ServerOk, part by part. -/
namespace Go.Proofs.YtpjidogilofppaaGreat
open Go.ChangeShapes Go.WideShapes Go.ChangeAt Go.RowKit

theorem all_step {α : Type} {p : α → Bool} {xs : List α} {k : Nat} (hk : k < xs.length) (h : (xs.take k).all p = true) (hp : p xs[k] = true) : (xs.take (k + 1)).all p = true := by
  rw [List.take_succ_eq_append_getElem hk, List.all_append, h]; simpa using hp
theorem all_bad {α : Type} {p : α → Bool} {xs : List α} {k : Nat} (hk : k < xs.length) (hp : p xs[k] = false) : xs.all p = false := by
  rw [List.all_eq_false]; exact ⟨xs[k], List.getElem_mem hk, by rw [hp]; exact Bool.false_ne_true⟩
theorem here_step {xs : List Sl} {vs : List V} {k : Nat} (hk : k < vs.length) (h : allHere xs (vs.take k) = true) (hp : hereB xs vs[k].k = true) : allHere xs (vs.take (k + 1)) = true := by
  unfold allHere at *; rw [List.take_succ_eq_append_getElem hk, List.all_append, h]; simp [hp]
theorem here_bad {xs : List Sl} {vs : List V} {k : Nat} (hk : k < vs.length) (hp : hereB xs vs[k].k = false) : allHere xs vs = false := by
  unfold allHere; rw [List.all_eq_false]; exact ⟨vs[k], List.getElem_mem hk, by simp [hp]⟩
theorem stand0 (x y z : Sl) : standAt [x, y, z] 0 = x.st := rfl
theorem stand1 (x y z : Sl) : standAt [x, y, z] 1 = y.st := rfl
theorem stand2 (x y z : Sl) : standAt [x, y, z] 2 = z.st := rfl

set_option maxHeartbeats 4000000 in
theorem holdsAll_any (x y z : Sl) (a : Option Addr) (cap : Nat) (vs : List V) (w : World) (hc : chainB vs = true) (h : Vers w a vs) :
    Calls Tryz.prog 189 #[.agg (tab6 x y z), .slice a vs.length cap] w fun e w' => e = .returned (.bool (allHere [x, y, z] vs)) ∧ Below w.heap.size w w' := by
  have A0 := Blk.new w (tab6 x y z) 86
  have b0 : Below w.heap.size w (w.alloc (.cells (tab6 x y z) 86)) := (Below.refl _ _).alloc (Nat.le_refl _) _
  have hl : vs.length ≤ 80 := (chainB_iff.1 hc).1
  have hk5 : Hid (∀ v ∈ vs, inB v.k 0 5 = true) := fun v hv => chain_key hc hv
  have h1 := h.below b0
  clear h hc
  go_enter Tryz.func189, Tryz.ntmps189
  go_wp2_with fail
  generalize w.alloc (.cells (tab6 x y z) 86) = W1 at *
  go_loopw [9] (fun i wr => ∃ k : Nat, k ≤ vs.length ∧ i = .int .i64 k ∧ Hid (allHere [x, y, z] (vs.take k) = true) ∧ Blk wr w.heap.size (tab6 x y z) 86 ∧ Below W1.heap.size W1 wr) (fun i _ => vs.length - (intOf i).toNat)
  case atStart => exact ⟨0, Nat.zero_le _, rfl, rfl, A0, Below.refl _ _⟩
  case round =>
    obtain ⟨k, hk, rfl, HA, A1, hB⟩ := hrel
    have z1 := A1.lt
    by_cases hlt : k < vs.length
    · obtain ⟨b, o, da, dc, rfl, hbb, hv⟩ := (h1.below hB).at hlt
      have hin := hk5.out vs[k] (List.getElem_mem hlt)
      have HY : Hid (hereB [x, y, z] vs[k].k = true → allHere [x, y, z] (vs.take (k + 1)) = true) := by show _ → _; intro hp; exact here_step hlt HA.out hp
      have HN : Hid (hereB [x, y, z] vs[k].k = false → allHere [x, y, z] vs = false) := by show _ → _; intro hp; exact here_bad hlt hp
      have HH : Hid (hereB [x, y, z] vs[k].k = !(standAt [x, y, z] (slotOf vs[k].k) == 0)) := by show _ = _; unfold hereB; rfl
      obtain ⟨c0, c1, c2, c3, c4, c5, c6, hd, hdl⟩ := hv
      have hB1 : Below W1.heap.size W1 (wr.alloc (.cells #[.int .i64 vs[k].k, .int .i64 vs[k].t, .int .i64 vs[k].s, .int .i64 vs[k].val, .int .i64 vs[k].cl, .int .i64 vs[k].ca, .slice da vs[k].ds.length dc] 107)) := hB.alloc hB.size _
      have A2 := A1.alloc (.cells #[.int .i64 vs[k].k, .int .i64 vs[k].t, .int .i64 vs[k].s, .int .i64 vs[k].val, .int .i64 vs[k].cl, .int .i64 vs[k].ca, .slice da vs[k].ds.length dc] 107)
      obtain ⟨q1, g1⟩ := A1.rules
      have hs := slot_in hin
      have j0 : (0 : Int) ≤ (k : Int) := by omega
      have j1 : (k : Int) < (vs.length : Int) := by omega
      clear h1 HA hd hdl hB hin A1
      generalize vs[k] = v at *
      rcases hs with hs | hs | hs
      · rw [hs] at HH
        have hS := fun W => slot_is hs W
        by_cases hz : x.st = 0
        · have HR : Hid (allHere [x, y, z] vs = false) := HN.out (by rw [HH.out, stand0]; simp [hz])
          clear HN HY HH hs
          go_wp2_with (first | (go_at_call 201; refine (hS _).mono ?_; rintro e w' ⟨rfl, rfl⟩))
          go_ret
          exact ⟨by rw [HR.out]; rfl, b0.trans (hB1.mono b0.size)⟩
        · have HR : Hid (allHere [x, y, z] (vs.take (k + 1)) = true) := HY.out (by rw [HH.out, stand0]; simp [hz])
          have hz' : (x.st == 0) = false := by simpa using hz
          clear HN HY HH hs
          go_wp2_with (first | (go_at_call 201; refine (hS _).mono ?_; rintro e w' ⟨rfl, rfl⟩))
          go_roundw
          case rel => exact ⟨k + 1, by omega, by go_num, HR, A2, hB1⟩
          case measure => simp [intOf]; omega
      · rw [hs] at HH
        have hS := fun W => slot_is hs W
        by_cases hz : y.st = 0
        · have HR : Hid (allHere [x, y, z] vs = false) := HN.out (by rw [HH.out, stand1]; simp [hz])
          clear HN HY HH hs
          go_wp2_with (first | (go_at_call 201; refine (hS _).mono ?_; rintro e w' ⟨rfl, rfl⟩))
          go_ret
          exact ⟨by rw [HR.out]; rfl, b0.trans (hB1.mono b0.size)⟩
        · have HR : Hid (allHere [x, y, z] (vs.take (k + 1)) = true) := HY.out (by rw [HH.out, stand1]; simp [hz])
          have hz' : (y.st == 0) = false := by simpa using hz
          clear HN HY HH hs
          go_wp2_with (first | (go_at_call 201; refine (hS _).mono ?_; rintro e w' ⟨rfl, rfl⟩))
          go_roundw
          case rel => exact ⟨k + 1, by omega, by go_num, HR, A2, hB1⟩
          case measure => simp [intOf]; omega
      · rw [hs] at HH
        have hS := fun W => slot_is hs W
        by_cases hz : z.st = 0
        · have HR : Hid (allHere [x, y, z] vs = false) := HN.out (by rw [HH.out, stand2]; simp [hz])
          clear HN HY HH hs
          go_wp2_with (first | (go_at_call 201; refine (hS _).mono ?_; rintro e w' ⟨rfl, rfl⟩))
          go_ret
          exact ⟨by rw [HR.out]; rfl, b0.trans (hB1.mono b0.size)⟩
        · have HR : Hid (allHere [x, y, z] (vs.take (k + 1)) = true) := HY.out (by rw [HH.out, stand2]; simp [hz])
          have hz' : (z.st == 0) = false := by simpa using hz
          clear HN HY HH hs
          go_wp2_with (first | (go_at_call 201; refine (hS _).mono ?_; rintro e w' ⟨rfl, rfl⟩))
          go_roundw
          case rel => exact ⟨k + 1, by omega, by go_num, HR, A2, hB1⟩
          case measure => simp [intOf]; omega
    · have hk2 : k = vs.length := by omega
      subst hk2
      rw [List.take_length] at HA
      go_wp2_with fail
      go_ret
      exact ⟨by rw [HA.out]; rfl, b0.trans (hB.mono b0.size)⟩

theorem named_is {v : V} {da : Option Addr} {n dc : Nat} {w : World} : Calls Tryz.prog 196 #[verV v.k v.t v.s v.val v.cl v.ca da n dc] w fun e w' => e = .returned (depV v.k v.t v.s) ∧ Below w.heap.size w w' := named_any v da n dc w
theorem hasVer_is {a : Option Addr} {cap : Nat} {gs : List V} {k t s : Int} {r : Bool} (h : hasB gs k t s = r) {w : World} (hc : chainB gs = true) (hv : Vers w a gs) : Calls Tryz.prog 214 #[.slice a gs.length cap, depV k t s] w fun e w' => e = .returned (.bool r) ∧ Below w.heap.size w w' := by rw [← h]; exact hasVer_any a cap gs k t s w hc hv

end Go.Proofs.YtpjidogilofppaaGreat

/- The program's ServerOk, the rest. -/
namespace Go.Proofs.YtpjidogilofppaaGreat
open Go.ChangeShapes Go.WideShapes Go.ChangeAt Go.RowKit

/-- What is asked of one that waits. -/
def wait1 (x : Sv) (v : V) : Bool := !(sideOf v.s == sideOf x.site) && !(hasB x.vs v.k v.t v.s)
def waitsP (x : Sv) (ws : List V) : Bool := ws.all (wait1 x)
theorem waitsB_eq (x : Sv) : waitsB x = waitsP x x.ws := rfl
theorem waits_step {x : Sv} {vs : List V} {k : Nat} (hk : k < vs.length) (h : waitsP x (vs.take k) = true) (hp : wait1 x vs[k] = true) : waitsP x (vs.take (k + 1)) = true := by
  unfold waitsP at *; rw [List.take_succ_eq_append_getElem hk, List.all_append, h]; simp [hp]
theorem waits_bad {x : Sv} {vs : List V} {k : Nat} (hk : k < vs.length) (hp : wait1 x vs[k] = false) : waitsP x vs = false := by
  unfold waitsP; rw [List.all_eq_false]; exact ⟨vs[k], List.getElem_mem hk, by simp [hp]⟩
def owedP (x : Sv) (os : List D) : Bool := os.all fun d => hasB x.vs d.k d.t d.s
theorem owedB_eq (x : Sv) : owedB x = owedP x x.os := rfl
theorem owed_step {x : Sv} {vs : List D} {k : Nat} (hk : k < vs.length) (h : owedP x (vs.take k) = true) (hp : hasB x.vs vs[k].k vs[k].t vs[k].s = true) : owedP x (vs.take (k + 1)) = true := by
  unfold owedP at *; rw [List.take_succ_eq_append_getElem hk, List.all_append, h]; simp [hp]
theorem owed_bad {x : Sv} {vs : List D} {k : Nat} (hk : k < vs.length) (hp : hasB x.vs vs[k].k vs[k].t vs[k].s = false) : owedP x vs = false := by
  unfold owedP; rw [List.all_eq_false]; exact ⟨vs[k], List.getElem_mem hk, by simp [hp]⟩

set_option maxHeartbeats 4000000 in
theorem owesOk_any (x : Sv) (a : Sa) (w : World) (hc : chainB x.vs = true) (ho : x.os.length ≤ 1099511627776) (h : InS w x a) :
    Calls Tryz.prog 191 #[servV x a] w fun e w' => e = .returned (.bool (owedB x)) ∧ Below w.heap.size w w' := by
  rw [owedB_eq]
  have A0 := Blk.new w #[.int .i64 x.site, .bool x.up, .slice a.la x.sl.length a.lc, .slice a.va x.vs.length a.vc, .slice a.wa x.ws.length a.wc, .slice a.oa x.os.length a.oc, .slice a.ka x.kn.length a.kc] 32
  have b0 : Below w.heap.size w (w.alloc (.cells #[.int .i64 x.site, .bool x.up, .slice a.la x.sl.length a.lc, .slice a.va x.vs.length a.vc, .slice a.wa x.ws.length a.wc, .slice a.oa x.os.length a.oc, .slice a.ka x.kn.length a.kc] 32)) := (Below.refl _ _).alloc (Nat.le_refl _) _
  have h1 := h.below b0
  clear h
  have hp := A0.lt
  obtain ⟨q0, g0⟩ := A0.rules
  go_enter Tryz.func191, Tryz.ntmps191
  go_wp2_with fail
  clear q0 g0
  generalize w.alloc (.cells #[.int .i64 x.site, .bool x.up, .slice a.la x.sl.length a.lc, .slice a.va x.vs.length a.vc, .slice a.wa x.ws.length a.wc, .slice a.oa x.os.length a.oc, .slice a.ka x.kn.length a.kc] 32) = W1 at *
  go_loopw [8] (fun i wr => ∃ k : Nat, k ≤ x.os.length ∧ i = .int .i64 k ∧ Hid (owedP x (x.os.take k) = true) ∧ Below W1.heap.size W1 wr) (fun i _ => x.os.length - (intOf i).toNat)
  case atStart => exact ⟨0, Nat.zero_le _, rfl, rfl, Below.refl _ _⟩
  case round =>
    obtain ⟨k, hk, rfl, HA, hB⟩ := hrel
    have A1 := A0.below hB hp
    have z1 := A1.lt
    by_cases hlt : k < x.os.length
    · obtain ⟨b, o, hae, hbb, c0, c1, c2⟩ := (h1.o.below hB).at hlt
      have HY : Hid (hasB x.vs x.os[k].k x.os[k].t x.os[k].s = true → owedP x (x.os.take (k + 1)) = true) := by show _ → _; intro hp; exact owed_step hlt HA.out hp
      have HN : Hid (hasB x.vs x.os[k].k x.os[k].t x.os[k].s = false → owedP x x.os = false) := by show _ → _; intro hp; exact owed_bad hlt hp
      have hV := h1.v.below hB
      have j0 : (0 : Int) ≤ (k : Int) := by omega
      have j1 : (k : Int) < (x.os.length : Int) := by omega
      clear h1 HA
      generalize x.os[k] = d at *
      have hB1 : Below W1.heap.size W1 (wr.alloc (.cells #[.int .i64 d.k, .int .i64 d.t, .int .i64 d.s] 116)) := hB.alloc hB.size _
      have A2 := A1.alloc (.cells #[.int .i64 d.k, .int .i64 d.t, .int .i64 d.s] 116)
      have hV2 := hV.below ((Below.refl _ wr).alloc (Nat.le_refl _) (.cells #[.int .i64 d.k, .int .i64 d.t, .int .i64 d.s] 116))
      have hH := hasVer_any a.va a.vc x.vs d.k d.t d.s _ hc hV2
      generalize hasB x.vs d.k d.t d.s = r at *
      obtain ⟨q1, g1⟩ := A1.rules
      rw [hae]
      clear hV hV2 A1 hB A0
      go_wp2_with fail
      clear q1 g1 c0 c1 c2
      generalize wr.alloc (.cells #[.int .i64 d.k, .int .i64 d.t, .int .i64 d.s] 116) = W2 at *
      refine hH.mono ?_
      rintro e w2 ⟨rfl, hb⟩
      have B2 : Below W1.heap.size W1 w2 := hB1.trans (hb.mono hB1.size)
      clear hH hb hB1 A2
      rcases r with _ | _
      · have HR := HN.out rfl
        have HR2 : Hid (owedP x x.os = false) := HR
        clear HR HN HY
        go_wp2_with fail
        go_ret
        exact ⟨by rw [HR2.out]; rfl, b0.trans (B2.mono b0.size)⟩
      · have HR2 : Hid (owedP x (x.os.take (k + 1)) = true) := HY.out rfl
        clear HN HY
        go_wp2_with fail
        go_roundw
        case rel => exact ⟨k + 1, by omega, by go_num, HR2, B2⟩
        case measure => simp [intOf]; omega
    · have hk2 : k = x.os.length := by omega
      subst hk2
      rw [List.take_length] at HA
      clear A1 A0
      go_wp2_with fail
      go_ret
      exact ⟨by rw [HA.out]; rfl, b0.trans (hB.mono b0.size)⟩

theorem listsS_any (x : Sv) (a : Sa) (w : World) (hl : LenS x) (h : InS w x a) : Calls Tryz.prog 188 #[servV x a] w fun e w' => e = .returned (.bool (listsS x)) ∧ Below w.heap.size w w' := by
  have b0 : Below w.heap.size w (w.alloc (.cells #[.int .i64 x.site, .bool x.up, .slice a.la x.sl.length a.lc, .slice a.va x.vs.length a.vc, .slice a.wa x.ws.length a.wc, .slice a.oa x.os.length a.oc, .slice a.ka x.kn.length a.kc] 32)) := (Below.refl _ _).alloc (Nat.le_refl _) _
  have A0 := Blk.new w #[.int .i64 x.site, .bool x.up, .slice a.la x.sl.length a.lc, .slice a.va x.vs.length a.vc, .slice a.wa x.ws.length a.wc, .slice a.oa x.os.length a.oc, .slice a.ka x.kn.length a.kc] 32
  have L0 := h.below b0
  have h1 := fun W h => iChainOk_any a.va a.vc x.vs W hl.v h
  have h2 := fun W h => iChainOk_any a.wa a.wc x.ws W hl.w h
  have h3 := fun W h => debts_any a.oa a.oc x.os W hl.o h
  have h4 := fun W h => debts_any a.ka a.kc x.kn W hl.k h
  have HE : Hid (listsS x = (chainB x.vs && chainB x.ws && owesB x.os && owesB x.kn)) := rfl
  generalize listsS x = r at *
  generalize chainB x.vs = r1 at *
  generalize chainB x.ws = r2 at *
  generalize owesB x.os = r3 at *
  generalize owesB x.kn = r4 at *
  have HR : Hid (r = (r1 && r2 && r3 && r4)) := HE.out
  clear HE h hl
  go_enter Tryz.func188, Tryz.ntmps188
  go_wp2_with fail
  generalize (w.alloc (.cells #[.int .i64 x.site, .bool x.up, .slice a.la x.sl.length a.lc, .slice a.va x.vs.length a.vc, .slice a.wa x.ws.length a.wc, .slice a.oa x.os.length a.oc, .slice a.ka x.kn.length a.kc] 32)) = w0 at *
  refine (h1 _ L0.v).mono ?_
  rintro e w1 ⟨rfl, hb1⟩
  have A1 := A0.below hb1 A0.lt
  have L1 := L0.below hb1
  have B1 : Below w.heap.size w w1 := b0.trans (hb1.mono b0.size)
  clear A0 L0 b0 hb1 h1
  rcases r1 with _ | _
  · clear A1 L1 h2 h3 h4
    go_wp2_with fail
    go_ret
    exact ⟨by rw [HR.out]; simp, B1⟩
  obtain ⟨q1, g1⟩ := A1.rules
  go_wp2_with fail
  clear q1 g1
  refine (h2 _ L1.w).mono ?_
  rintro e w2 ⟨rfl, hb2⟩
  have A2 := A1.below hb2 A1.lt
  have L2 := L1.below hb2
  have B2 : Below w.heap.size w w2 := B1.trans (hb2.mono B1.size)
  clear A1 L1 B1 hb2 h2
  rcases r2 with _ | _
  · clear A2 L2 h3 h4
    go_wp2_with fail
    go_ret
    exact ⟨by rw [HR.out]; simp, B2⟩
  obtain ⟨q1, g1⟩ := A2.rules
  go_wp2_with fail
  clear q1 g1
  refine (h3 _ L2.o).mono ?_
  rintro e w3 ⟨rfl, hb3⟩
  have A3 := A2.below hb3 A2.lt
  have L3 := L2.below hb3
  have B3 : Below w.heap.size w w3 := B2.trans (hb3.mono B2.size)
  clear A2 L2 B2 hb3 h3
  rcases r3 with _ | _
  · clear A3 L3 h4
    go_wp2_with fail
    go_ret
    exact ⟨by rw [HR.out]; simp, B3⟩
  obtain ⟨q1, g1⟩ := A3.rules
  go_wp2_with fail
  clear q1 g1
  refine (h4 _ L3.k).mono ?_
  rintro e w4 ⟨rfl, hb4⟩
  have B4 : Below w.heap.size w w4 := B3.trans (hb4.mono B3.size)
  clear A3 L3 B3 hb4 h4
  go_wp2_with fail
  go_ret
  exact ⟨by rw [HR.out]; simp, B4⟩

end Go.Proofs.YtpjidogilofppaaGreat

/- The program's ServerOk. -/
namespace Go.Proofs.YtpjidogilofppaaGreat
open Go.ChangeShapes Go.WideShapes Go.ChangeAt Go.RowKit

theorem side_b (n : Int) {w : World} : Calls Tryz.prog 187 #[.int .i64 n] w fun e w' => e = .returned (.int .i64 (sideOf n)) ∧ Below w.heap.size w w' := (iSide_any n w).mono fun e w' h => ⟨h.1, by rw [h.2]; exact Below.refl _ _⟩

set_option maxHeartbeats 4000000 in
set_option maxRecDepth 20000 in
theorem waitsOk_any (x : Sv) (a : Sa) (w : World) (hc : chainB x.vs = true) (ho : x.ws.length ≤ 1099511627776) (h : InS w x a) :
    Calls Tryz.prog 190 #[servV x a] w fun e w' => e = .returned (.bool (waitsB x)) ∧ Below w.heap.size w w' := by
  rw [waitsB_eq]
  have A0 := Blk.new w #[.int .i64 x.site, .bool x.up, .slice a.la x.sl.length a.lc, .slice a.va x.vs.length a.vc, .slice a.wa x.ws.length a.wc, .slice a.oa x.os.length a.oc, .slice a.ka x.kn.length a.kc] 32
  have b0 : Below w.heap.size w (w.alloc (.cells #[.int .i64 x.site, .bool x.up, .slice a.la x.sl.length a.lc, .slice a.va x.vs.length a.vc, .slice a.wa x.ws.length a.wc, .slice a.oa x.os.length a.oc, .slice a.ka x.kn.length a.kc] 32)) := (Below.refl _ _).alloc (Nat.le_refl _) _
  have h1 := h.below b0
  clear h
  have hp := A0.lt
  obtain ⟨q0, g0⟩ := A0.rules
  go_enter Tryz.func190, Tryz.ntmps190
  go_wp2_with fail
  clear q0 g0
  generalize w.alloc (.cells #[.int .i64 x.site, .bool x.up, .slice a.la x.sl.length a.lc, .slice a.va x.vs.length a.vc, .slice a.wa x.ws.length a.wc, .slice a.oa x.os.length a.oc, .slice a.ka x.kn.length a.kc] 32) = W1 at *
  go_loopw [8] (fun i wr => ∃ k : Nat, k ≤ x.ws.length ∧ i = .int .i64 k ∧ Hid (waitsP x (x.ws.take k) = true) ∧ Below W1.heap.size W1 wr) (fun i _ => x.ws.length - (intOf i).toNat)
  case atStart => exact ⟨0, Nat.zero_le _, rfl, rfl, Below.refl _ _⟩
  case round =>
    obtain ⟨k, hk, rfl, HA, hB⟩ := hrel
    have A1 := A0.below hB hp
    have z1 := A1.lt
    by_cases hlt : k < x.ws.length
    · obtain ⟨b, o, da, dc, hae, hbb, hv⟩ := (h1.w.below hB).at hlt
      have HY : Hid (wait1 x x.ws[k] = true → waitsP x (x.ws.take (k + 1)) = true) := by show _ → _; intro hp; exact waits_step hlt HA.out hp
      have HN : Hid (wait1 x x.ws[k] = false → waitsP x x.ws = false) := by show _ → _; intro hp; exact waits_bad hlt hp
      have HW : Hid (wait1 x x.ws[k] = (!(sideOf x.ws[k].s == sideOf x.site) && !(hasB x.vs x.ws[k].k x.ws[k].t x.ws[k].s))) := by show _ = _; unfold wait1; rfl
      have hV := h1.v.below hB
      have j0 : (0 : Int) ≤ (k : Int) := by omega
      have j1 : (k : Int) < (x.ws.length : Int) := by omega
      clear h1 HA
      generalize x.ws[k] = v at *
      obtain ⟨c0, c1, c2, c3, c4, c5, c6, _, _⟩ := hv
      have hB1 : Below W1.heap.size W1 (wr.alloc (.cells #[.int .i64 v.k, .int .i64 v.t, .int .i64 v.s, .int .i64 v.val, .int .i64 v.cl, .int .i64 v.ca, .slice da v.ds.length dc] 107)) := hB.alloc hB.size _
      have A2 := A1.alloc (.cells #[.int .i64 v.k, .int .i64 v.t, .int .i64 v.s, .int .i64 v.val, .int .i64 v.cl, .int .i64 v.ca, .slice da v.ds.length dc] 107)
      have V2 := Blk.new wr #[.int .i64 v.k, .int .i64 v.t, .int .i64 v.s, .int .i64 v.val, .int .i64 v.cl, .int .i64 v.ca, .slice da v.ds.length dc] 107
      have hV2 := hV.below ((Below.refl _ wr).alloc (Nat.le_refl _) (.cells #[.int .i64 v.k, .int .i64 v.t, .int .i64 v.s, .int .i64 v.val, .int .i64 v.cl, .int .i64 v.ca, .slice da v.ds.length dc] 107))
      obtain ⟨r, hr⟩ : ∃ r, hasB x.vs v.k v.t v.s = r := ⟨_, rfl⟩
      rw [hr] at HW
      have H3 : Hid (hasB x.vs v.k v.t v.s = r) := hr
      rw [hae]
      clear hV A1 hB A0 hr
      go_wp2_with fail
      clear c0 c1 c2 c3 c4 c5 c6
      generalize wr.alloc (.cells #[.int .i64 v.k, .int .i64 v.t, .int .i64 v.s, .int .i64 v.val, .int .i64 v.cl, .int .i64 v.ca, .slice da v.ds.length dc] 107) = W2 at *
      have r1 : ∀ (n' : Wof (Since W2)) (j : Nat), n'.W.cell? ⟨w.heap.size, j, none⟩ = #[.int .i64 x.site, .bool x.up, .slice a.la x.sl.length a.lc, .slice a.va x.vs.length a.vc, .slice a.wa x.ws.length a.wc, .slice a.oa x.os.length a.oc, .slice a.ka x.kn.length a.kc][j]? := fun n' j => (A2.below n'.h A2.lt).cell j
      have r2 : ∀ (n' : Wof (Since W2)) (j : Nat), n'.W.cell? ⟨wr.heap.size, j, none⟩ = #[.int .i64 v.k, .int .i64 v.t, .int .i64 v.s, .int .i64 v.val, .int .i64 v.cl, .int .i64 v.ca, .slice da v.ds.length dc][j]? := fun n' j => (V2.below n'.h V2.lt).cell j
      have ne := since_ne W2
      have l1 := A2.lt
      have l2 := V2.lt
      clear A2 V2
      rcases hq : (sideOf v.s == sideOf x.site) with _ | _
      · rw [hq] at HW
        refine wp_region_class (S := Since W2) (by kernel_rfl) (by kernel_rfl) (Below.refl _ _).drew ?_
        repeat (go_big_quiet_step ((rename_i n; first | (go_at_call 187; exact Calls.inClass (side_b _) Since.keep) | (go_at_call 196; exact Calls.inClass named_is Since.keep) | (go_at_call 214; exact Calls.inClass (hasVer_is H3.out hc (hV2.below n.h)) Since.keep))))
        refine wpQuiet_nil ?_
        rintro W ⟨n, hnW⟩
        have R2 := n.h
        rw [← hnW] at R2
        have B2 : Below W1.heap.size W1 W := hB1.trans (R2.mono hB1.size)
        clear R2 r1 r2 ne hnW n hB1 hV2 l1 l2
        rcases r with _ | _
        · have HR2 : Hid (waitsP x (x.ws.take (k + 1)) = true) := HY.out (by rw [HW.out]; rfl)
          clear HN HY HW H3 hq
          go_wp2_with fail
          go_roundw
          case rel => exact ⟨k + 1, by omega, by go_num, HR2, B2⟩
          case measure => simp [intOf]; omega
        · have HR2 : Hid (waitsP x x.ws = false) := HN.out (by rw [HW.out]; rfl)
          clear HN HY HW H3 hq
          go_wp2_with fail
          go_ret
          exact ⟨by rw [HR2.out]; rfl, b0.trans (B2.mono b0.size)⟩
      · rw [hq] at HW
        refine wp_region_class (S := Since W2) (by kernel_rfl) (by kernel_rfl) (Below.refl _ _).drew ?_
        repeat (go_big_quiet_step ((rename_i n; first | (go_at_call 187; exact Calls.inClass (side_b _) Since.keep) | (go_at_call 196; exact Calls.inClass named_is Since.keep) | (go_at_call 214; exact Calls.inClass (hasVer_is H3.out hc (hV2.below n.h)) Since.keep))))
        refine wpQuiet_nil ?_
        rintro W ⟨n, hnW⟩
        have R2 := n.h
        rw [← hnW] at R2
        have B2 : Below W1.heap.size W1 W := hB1.trans (R2.mono hB1.size)
        clear R2 r1 r2 ne hnW n hB1 hV2 l1 l2
        have HR2 : Hid (waitsP x x.ws = false) := HN.out (by rw [HW.out]; rfl)
        clear HN HY HW H3 hq
        go_wp2_with fail
        go_ret
        exact ⟨by rw [HR2.out]; rfl, b0.trans (B2.mono b0.size)⟩
    · have hk2 : k = x.ws.length := by omega
      subst hk2
      rw [List.take_length] at HA
      clear A1 A0
      go_wp2_with fail
      go_ret
      exact ⟨by rw [HA.out]; rfl, b0.trans (hB.mono b0.size)⟩
end Go.Proofs.YtpjidogilofppaaGreat

/- The program's ServerOk. -/
namespace Go.Proofs.YtpjidogilofppaaGreat
open Go.ChangeShapes Go.WideShapes Go.ChangeAt Go.RowKit

theorem side_neg (n : Int) : decide (sideOf n < 0) = !(inB n 0 3) := by
  unfold sideOf inB
  by_cases h : n < 0 ∨ 4 ≤ n
  · rw [if_pos h]; simp; omega
  · rw [if_neg h]
    have h1 : decide (n / 2 < 0) = false := by simp; omega
    rw [h1]; simp; omega

set_option maxHeartbeats 4000000 in
set_option maxRecDepth 20000 in
theorem iServerOk_any (x : Sv) (a : Sa) (w : World) (hl : LenS x) (h : InS w x a) : Calls Tryz.prog 123 #[servV x a] w fun e w' => e = .returned (.bool (servB x)) ∧ Below w.heap.size w w' := by
  have b0 : Below w.heap.size w (w.alloc (.cells #[.int .i64 x.site, .bool x.up, .slice a.la x.sl.length a.lc, .slice a.va x.vs.length a.vc, .slice a.wa x.ws.length a.wc, .slice a.oa x.os.length a.oc, .slice a.ka x.kn.length a.kc] 32)) := (Below.refl _ _).alloc (Nat.le_refl _) _
  have A0 := Blk.new w #[.int .i64 x.site, .bool x.up, .slice a.la x.sl.length a.lc, .slice a.va x.vs.length a.vc, .slice a.wa x.ws.length a.wc, .slice a.oa x.os.length a.oc, .slice a.ka x.kn.length a.kc] 32
  have L0 := h.below b0
  have hT := fun W h => slotsTab_any a.la a.lc x.sl W hl.l h
  have HE : Hid (servB x = (slotsB x.sl && inB x.site 0 3 && listsS x && (x.up || decide (x.kn.length = 0)) && allHere x.sl x.vs && allHere x.sl x.ws && waitsB x && owedB x)) := by show _ = _; unfold servB; rfl
  generalize servB x = r at *
  clear h
  rcases hs : slotsB x.sl with _ | _
  · rw [hs, tabV_no hs] at hT
    rw [hs] at HE
    clear hs
    go_enter Tryz.func123, Tryz.ntmps123
    go_wp2_with fail
    generalize (w.alloc (.cells #[.int .i64 x.site, .bool x.up, .slice a.la x.sl.length a.lc, .slice a.va x.vs.length a.vc, .slice a.wa x.ws.length a.wc, .slice a.oa x.os.length a.oc, .slice a.ka x.kn.length a.kc] 32)) = w0 at *
    refine (hT _ L0.l).mono ?_
    rintro e w1 ⟨rfl, hb1⟩
    have B1 : Below w.heap.size w w1 := b0.trans (hb1.mono b0.size)
    clear hb1 b0 L0 hT A0
    go_wp2_with fail
    go_ret
    exact ⟨by rw [HE.out]; simp, B1.alloc B1.size _⟩
  obtain ⟨s1, s2, s3, he⟩ := slotsB_three hs
  have ht : tabV x.sl = tab6 s1 s2 s3 := by rw [he]; exact tabV_yes (by rw [← he]; exact hs)
  rw [hs, ht] at hT
  rw [hs] at HE
  have hS : ∀ W, Calls Tryz.prog 187 #[.int .i64 x.site] W fun e w' => e = .returned (.int .i64 (sideOf x.site)) ∧ w' = W := fun W => side_is rfl W
  have hng := side_neg x.site
  have h3 := fun W h => listsS_any x a W hl h
  have h4 : ∀ W, chainB x.vs = true → Vers W a.va x.vs → _ := fun W hc h => holdsAll_any s1 s2 s3 a.va a.vc x.vs W hc h
  have h5 : ∀ W, chainB x.ws = true → Vers W a.wa x.ws → _ := fun W hc h => holdsAll_any s1 s2 s3 a.wa a.wc x.ws W hc h
  have h6 : ∀ W, chainB x.vs = true → InS W x a → _ := fun W hc h => waitsOk_any x a W hc hl.w h
  have h7 : ∀ W, chainB x.vs = true → InS W x a → _ := fun W hc h => owesOk_any x a W hc hl.o h
  have HL : Hid (listsS x = true → chainB x.vs = true ∧ chainB x.ws = true) := by show _ → _; intro hh; unfold listsS at hh; simp at hh; exact ⟨hh.1.1.1, hh.1.1.2⟩
  have HA1 : Hid (allHere [s1, s2, s3] x.vs = allHere x.sl x.vs) := by show _ = _; rw [he]
  have HA2 : Hid (allHere [s1, s2, s3] x.ws = allHere x.sl x.ws) := by show _ = _; rw [he]
  rw [HA1.out] at h4
  rw [HA2.out] at h5
  clear HA1 HA2 hs ht he
  generalize inB x.site 0 3 = r1 at *
  generalize sideOf x.site = sd at *
  generalize listsS x = r2 at *
  generalize allHere x.sl x.vs = r3 at *
  generalize allHere x.sl x.ws = r4 at *
  generalize waitsB x = r5 at *
  generalize owedB x = r6 at *
  have HR : Hid (r = (r1 && r2 && (x.up || decide (x.kn.length = 0)) && r3 && r4 && r5 && r6)) := by have := HE.out; rw [Bool.true_and] at this; exact this
  clear HE
  have kl := hl.k
  clear hl
  go_enter Tryz.func123, Tryz.ntmps123
  go_wp2_with fail
  generalize (w.alloc (.cells #[.int .i64 x.site, .bool x.up, .slice a.la x.sl.length a.lc, .slice a.va x.vs.length a.vc, .slice a.wa x.ws.length a.wc, .slice a.oa x.os.length a.oc, .slice a.ka x.kn.length a.kc] 32)) = w0 at *
  refine (hT _ L0.l).mono ?_
  rintro e w1 ⟨rfl, hb1⟩
  have bt : Below w1.heap.size w1 (w1.alloc (.cells (tab6 s1 s2 s3) 86)) := (Below.refl _ _).alloc (Nat.le_refl _) _
  have bb := hb1.trans (bt.mono hb1.size)
  have A1 := A0.below bb A0.lt
  have L1 := L0.below bb
  have T1 := Blk.new w1 (tab6 s1 s2 s3) 86
  have B1 : Below w.heap.size w (w1.alloc (.cells (tab6 s1 s2 s3) 86)) := b0.trans (bb.mono b0.size)
  have A1' := A0.below hb1 A0.lt
  have za := A1'.lt
  obtain ⟨q1, g1⟩ := A1'.rules
  clear A0 L0 b0 hb1 hT bt bb
  rcases r1 with _ | _
  · have hneg : decide (sd < 0) = true := by simpa using hng
    clear hng A1 L1 T1
    go_wp2_with (first | (go_at_call 187; refine (hS _).mono ?_; rintro e w' ⟨rfl, rfl⟩))
    go_ret
    exact ⟨by rw [HR.out]; simp, B1⟩
  have hneg : decide (sd < 0) = false := by simpa using hng
  clear hng
  go_wp2_with (first | (go_at_call 187; refine (hS _).mono ?_; rintro e w' ⟨rfl, rfl⟩))
  clear q1 g1 A1' hS hneg
  generalize w1.alloc (.cells (tab6 s1 s2 s3) 86) = W1 at *
  refine (h3 _ L1).mono ?_
  rintro e w3 ⟨rfl, hb3⟩
  have A3 := A1.below hb3 A1.lt
  have L3 := L1.below hb3
  have T3 := T1.below hb3 T1.lt
  have B3 : Below w.heap.size w w3 := B1.trans (hb3.mono B1.size)
  clear A1 L1 T1 B1 hb3 h3
  rcases r2 with _ | _
  · clear A3 L3 T3 h4 h5 h6 h7
    go_wp2_with fail
    go_ret
    exact ⟨by rw [HR.out]; simp, B3⟩
  obtain ⟨hc1, hc2⟩ := HL.out rfl
  obtain ⟨q2, g2⟩ := T3.rules
  have y1 := A3.lt
  have y2 := T3.lt
  simp only [servV, servC] at h6 h7
  rcases hxu : x.up with _ | _
  · rw [hxu] at A3 HR
    simp only [hxu] at h6 h7
    obtain ⟨q1, g1⟩ := A3.rules
    by_cases hk0 : x.kn.length = 0
    · have HR2 : Hid (r = (true && true && true && r3 && r4 && r5 && r6)) := by rw [hk0] at HR; exact HR.out
      have hd0 : decide ((0 : Int) < (x.kn.length : Int)) = false := by simp [hk0]
      have hd1 : decide (0 < x.kn.length) = false := by simp [hk0]
      have hd2 : ¬ 0 < x.kn.length := by omega
      clear HR hk0 hxu
      have HR := HR2
      clear HR2
      go_wp2_with fail
      clear q1 g1 q2 g2 y1 y2
      refine (h4 _ hc1 L3.v).mono ?_
      rintro e w4 ⟨rfl, hb4⟩
      have A4 := A3.below hb4 A3.lt
      have L4 := L3.below hb4
      have T4 := T3.below hb4 T3.lt
      have B4 : Below w.heap.size w w4 := B3.trans (hb4.mono B3.size)
      clear A3 L3 T3 B3 hb4 h4
      rcases r3 with _ | _
      · clear A4 L4 T4 h5 h6 h7
        go_wp2_with fail
        go_ret
        exact ⟨by rw [HR.out]; simp, B4⟩
      obtain ⟨q1, g1⟩ := A4.rules
      obtain ⟨q2, g2⟩ := T4.rules
      have y1 := A4.lt
      have y2 := T4.lt
      go_wp2_with fail
      clear q1 g1 q2 g2 y1 y2
      refine (h5 _ hc2 L4.w).mono ?_
      rintro e w5 ⟨rfl, hb5⟩
      have A5 := A4.below hb5 A4.lt
      have L5 := L4.below hb5
      have B5 : Below w.heap.size w w5 := B4.trans (hb5.mono B4.size)
      clear A4 L4 T4 B4 hb5 h5
      rcases r4 with _ | _
      · clear A5 L5 h6 h7
        go_wp2_with fail
        go_ret
        exact ⟨by rw [HR.out]; simp, B5⟩
      obtain ⟨q1, g1⟩ := A5.rules
      have y1 := A5.lt
      go_wp2_with fail
      clear q1 g1 y1
      refine (h6 _ hc1 L5).mono ?_
      rintro e w6 ⟨rfl, hb6⟩
      have A6 := A5.below hb6 A5.lt
      have L6 := L5.below hb6
      have B6 : Below w.heap.size w w6 := B5.trans (hb6.mono B5.size)
      clear A5 L5 B5 hb6 h6
      rcases r5 with _ | _
      · clear A6 L6 h7
        go_wp2_with fail
        go_ret
        exact ⟨by rw [HR.out]; simp, B6⟩
      obtain ⟨q1, g1⟩ := A6.rules
      have y1 := A6.lt
      go_wp2_with fail
      clear q1 g1 y1
      refine (h7 _ hc1 L6).mono ?_
      rintro e w7 ⟨rfl, hb7⟩
      have B7 : Below w.heap.size w w7 := B6.trans (hb7.mono B6.size)
      clear A6 L6 B6 hb7 h7
      go_wp2_with fail
      go_ret
      exact ⟨by rw [HR.out]; simp, B7⟩
    · have hd0 : decide ((0 : Int) < (x.kn.length : Int)) = true := by simp; omega
      have hd1 : decide (0 < x.kn.length) = true := by simp; omega
      have hd2 : 0 < x.kn.length := by omega
      have hd3 : (0 : Int) < (x.kn.length : Int) := by omega
      have HR2 : Hid (decide (x.kn.length = 0) = false) := by show _ = _; simpa using hk0
      rw [HR2.out] at HR
      clear h4 h5 h6 h7 L3 hk0 hxu
      go_wp2_with fail
      go_ret
      exact ⟨by rw [HR.out]; simp, B3⟩
  · rw [hxu] at A3 HR
    simp only [hxu] at h6 h7
    obtain ⟨q1, g1⟩ := A3.rules
    have HR2 : Hid (r = (true && true && true && r3 && r4 && r5 && r6)) := HR.out
    clear HR hxu
    have HR := HR2
    clear HR2
    go_wp2_with fail
    clear q1 g1 q2 g2 y1 y2
    refine (h4 _ hc1 L3.v).mono ?_
    rintro e w4 ⟨rfl, hb4⟩
    have A4 := A3.below hb4 A3.lt
    have L4 := L3.below hb4
    have T4 := T3.below hb4 T3.lt
    have B4 : Below w.heap.size w w4 := B3.trans (hb4.mono B3.size)
    clear A3 L3 T3 B3 hb4 h4
    rcases r3 with _ | _
    · clear A4 L4 T4 h5 h6 h7
      go_wp2_with fail
      go_ret
      exact ⟨by rw [HR.out]; simp, B4⟩
    obtain ⟨q1, g1⟩ := A4.rules
    obtain ⟨q2, g2⟩ := T4.rules
    have y1 := A4.lt
    have y2 := T4.lt
    go_wp2_with fail
    clear q1 g1 q2 g2 y1 y2
    refine (h5 _ hc2 L4.w).mono ?_
    rintro e w5 ⟨rfl, hb5⟩
    have A5 := A4.below hb5 A4.lt
    have L5 := L4.below hb5
    have B5 : Below w.heap.size w w5 := B4.trans (hb5.mono B4.size)
    clear A4 L4 T4 B4 hb5 h5
    rcases r4 with _ | _
    · clear A5 L5 h6 h7
      go_wp2_with fail
      go_ret
      exact ⟨by rw [HR.out]; simp, B5⟩
    obtain ⟨q1, g1⟩ := A5.rules
    have y1 := A5.lt
    go_wp2_with fail
    clear q1 g1 y1
    refine (h6 _ hc1 L5).mono ?_
    rintro e w6 ⟨rfl, hb6⟩
    have A6 := A5.below hb6 A5.lt
    have L6 := L5.below hb6
    have B6 : Below w.heap.size w w6 := B5.trans (hb6.mono B5.size)
    clear A5 L5 B5 hb6 h6
    rcases r5 with _ | _
    · clear A6 L6 h7
      go_wp2_with fail
      go_ret
      exact ⟨by rw [HR.out]; simp, B6⟩
    obtain ⟨q1, g1⟩ := A6.rules
    have y1 := A6.lt
    go_wp2_with fail
    clear q1 g1 y1
    refine (h7 _ hc1 L6).mono ?_
    rintro e w7 ⟨rfl, hb7⟩
    have B7 : Below w.heap.size w w7 := B6.trans (hb7.mono B6.size)
    clear A6 L6 B6 hb7 h7
    go_wp2_with fail
    go_ret
    exact ⟨by rw [HR.out]; simp, B7⟩
end Go.Proofs.YtpjidogilofppaaGreat

