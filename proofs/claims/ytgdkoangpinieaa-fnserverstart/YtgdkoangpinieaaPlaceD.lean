/- The program's search among versions in order, by key and stamp. -/
import Derived.Test.YtgdkoangpinieaaSvNum
import Derived.Test.YtgdkoangpinieaaGAK
namespace Go.Proofs.Ytgdkoangpinieaa
open Go.ChangeShapes Go.WideShapes Go.ChangeAt Go.RowKit

theorem ord_zeroD (t s t' s' : Int) : (ordV t s t' s' = 0) ↔ (t = t' ∧ s = s') := by
  unfold ordV cmpV
  by_cases h1 : t < t' <;> by_cases h2 : t' < t <;> by_cases h3 : s < s' <;> by_cases h4 : s' < s <;> simp [*] <;> omega
theorem dOrd_zero (k t s k' t' s' : Int) : (dOrd k t s k' t' s' = 0) ↔ (k = k' ∧ t = t' ∧ s = s') := by
  unfold dOrd
  by_cases h : k = k'
  · rw [if_pos h, ord_zeroD]; simp [h]
  · rw [if_neg h]
    unfold cmpV
    by_cases h1 : k < k' <;> by_cases h2 : k' < k <;> simp [*] <;> omega
set_option maxHeartbeats 2000000 in
set_option maxRecDepth 20000 in
theorem byName_any (v : V) (da : Option Addr) (n dc : Nat) (k t s : Int) (w : World) :
    Calls Try.prog 198 #[verV v.k v.t v.s v.val v.cl v.ca da n dc, depV k t s] w fun e w' => e = .returned (.int .i64 (dOrd v.k v.t v.s k t s)) ∧ Below w.heap.size w w' := by
  have A1 : Blk ((w.alloc (.cells #[.int .i64 v.k, .int .i64 v.t, .int .i64 v.s, .int .i64 v.val, .int .i64 v.cl, .int .i64 v.ca, .slice da n dc] 28)).alloc (.cells #[.int .i64 k, .int .i64 t, .int .i64 s] 51)) w.heap.size #[.int .i64 v.k, .int .i64 v.t, .int .i64 v.s, .int .i64 v.val, .int .i64 v.cl, .int .i64 v.ca, .slice da n dc] 28 := (Blk.new w _ _).alloc _
  have A2 : Blk ((w.alloc (.cells #[.int .i64 v.k, .int .i64 v.t, .int .i64 v.s, .int .i64 v.val, .int .i64 v.cl, .int .i64 v.ca, .slice da n dc] 28)).alloc (.cells #[.int .i64 k, .int .i64 t, .int .i64 s] 51)) (w.heap.size + 1) #[.int .i64 k, .int .i64 t, .int .i64 s] 51 := by have := Blk.new (w.alloc (.cells #[.int .i64 v.k, .int .i64 v.t, .int .i64 v.s, .int .i64 v.val, .int .i64 v.cl, .int .i64 v.ca, .slice da n dc] 28)) #[.int .i64 k, .int .i64 t, .int .i64 s] 51; simpa using this
  have b0 : Below w.heap.size w ((w.alloc (.cells #[.int .i64 v.k, .int .i64 v.t, .int .i64 v.s, .int .i64 v.val, .int .i64 v.cl, .int .i64 v.ca, .slice da n dc] 28)).alloc (.cells #[.int .i64 k, .int .i64 t, .int .i64 s] 51)) := ((Below.refl _ w).alloc (Nat.le_refl _) _).alloc (by simp) _
  have hL := fun W => depAgainst_any v.k v.t v.s k t s W
  generalize dOrd v.k v.t v.s k t s = r at *
  go_enter Try.func198, Try.ntmps198
  go_wp2_with fail
  generalize ((w.alloc (.cells #[.int .i64 v.k, .int .i64 v.t, .int .i64 v.s, .int .i64 v.val, .int .i64 v.cl, .int .i64 v.ca, .slice da n dc] 28)).alloc (.cells #[.int .i64 k, .int .i64 t, .int .i64 s] 51)) = W2 at *
  have r1 : ∀ (n' : Wof (Since W2)) (j : Nat), n'.W.cell? ⟨w.heap.size, j, none⟩ = #[.int .i64 v.k, .int .i64 v.t, .int .i64 v.s, .int .i64 v.val, .int .i64 v.cl, .int .i64 v.ca, .slice da n dc][j]? := fun n' j => (A1.below n'.h A1.lt).cell j
  have r2 : ∀ (n' : Wof (Since W2)) (j : Nat), n'.W.cell? ⟨w.heap.size + 1, j, none⟩ = #[.int .i64 k, .int .i64 t, .int .i64 s][j]? := fun n' j => (A2.below n'.h A2.lt).cell j
  have ne := since_ne W2
  clear A1 A2
  refine wp_region_class (S := Since W2) (by kernel_rfl) (by kernel_rfl) (Below.refl _ _).drew ?_
  repeat (go_big_quiet_step ((rename_i n; first | (go_at_call 184; exact Calls.inClass (named_any v da _ dc _) Since.keep) | (go_at_call 188; exact Calls.inClass (hL _) Since.keep))))
  refine wpQuiet_nil ?_
  rintro W ⟨n', hnW⟩
  have R2 := n'.h
  rw [← hnW] at R2
  have B2 : Below w.heap.size w W := b0.trans (R2.mono b0.size)
  clear R2 r1 r2 ne hnW n' b0
  go_wp2_with fail
  go_ret
  exact ⟨rfl, B2⟩
theorem byName_is {v : V} {k t s : Int} {r : Int} (h : dOrd v.k v.t v.s k t s = r) {da : Option Addr} {n dc : Nat} {w : World} :
    Calls Try.prog 198 #[verV v.k v.t v.s v.val v.cl v.ca da n dc, depV k t s] w fun e w' => e = .returned (.int .i64 r) ∧ Below w.heap.size w w' := by rw [← h]; exact byName_any v da n dc k t s w
/-- The first place that is not ahead of what is looked for. -/
def plcD (gs : List V) (k t s : Int) : Nat := (gs.takeWhile fun v => lessV v (asV k t s)).length
/-- What the search knows: all ahead of l are ahead of it, none from h on is. -/
def SoughtD (gs : List V) (k t s : Int) (l h : Nat) : Prop := (∀ j, (hj : j < gs.length) → j < l → lessV gs[j] (asV k t s) = true) ∧ (∀ j, (hj : j < gs.length) → h ≤ j → lessV gs[j] (asV k t s) = false)
theorem SoughtD.up {gs : List V} {k t s : Int} {l h m : Nat} (hs : SoughtD gs k t s l h) (ha : Asc gs) (hm : m < gs.length) (hl : lessV gs[m] (asV k t s) = true) : SoughtD gs k t s (m + 1) h := by
  refine ⟨fun j hj hjm => ?_, hs.2⟩
  by_cases e : j = m
  · subst e; exact hl
  · exact lessV_trans (List.pairwise_iff_getElem.1 ha j m hj hm (by omega)) hl
theorem SoughtD.down {gs : List V} {k t s : Int} {l h m : Nat} (hs : SoughtD gs k t s l h) (ha : Asc gs) (hm : m < gs.length) (hl : lessV gs[m] (asV k t s) = false) : SoughtD gs k t s l m := by
  refine ⟨hs.1, fun j hj hjm => ?_⟩
  by_cases e : j = m
  · subst e; exact hl
  · cases hh : lessV gs[j] (asV k t s)
    · rfl
    · have := lessV_trans (List.pairwise_iff_getElem.1 ha m j hm hj (by omega)) hh
      rw [hl] at this; cases this
theorem plcD_eq (gs : List V) (k t s : Int) : ∀ l, l ≤ gs.length → (∀ j, (hj : j < gs.length) → j < l → lessV gs[j] (asV k t s) = true) → (∀ h : l < gs.length, lessV gs[l] (asV k t s) = false) → plcD gs k t s = l := by
  induction gs with
  | nil => intro l hl _ _; simp at hl; subst hl; rfl
  | cons x xs ih =>
    intro l hl h1 h2
    cases l with
    | zero =>
      have := h2 (by simp)
      simp only [List.getElem_cons_zero] at this
      unfold plcD; rw [List.takeWhile_cons, if_neg (by rw [this]; simp)]; rfl
    | succ l =>
      have hx : lessV x (asV k t s) = true := h1 0 (by simp) (by omega)
      have := ih l (by simpa using hl) (fun j hj hjl => by have := h1 (j + 1) (by simpa using hj) (by omega); rwa [List.getElem_cons_succ] at this) (fun h => by have := h2 (by simpa using h); rwa [List.getElem_cons_succ] at this)
      unfold plcD at this ⊢
      rw [List.takeWhile_cons, if_pos hx, List.length_cons, this]
theorem SoughtD.plc {gs : List V} {k t s : Int} {l : Nat} (hs : SoughtD gs k t s l l) (hl : l ≤ gs.length) : plcD gs k t s = l := plcD_eq gs k t s l hl (fun j hj h => hs.1 j hj h) (fun h => hs.2 l h (Nat.le_refl _))
theorem hasD_at {gs : List V} {k t s : Int} {l : Nat} (hs : SoughtD gs k t s l l) (ha : Asc gs) (hl : l < gs.length) : hasB gs k t s = decide (gs[l].k = k ∧ gs[l].t = t ∧ gs[l].s = s) := by
  unfold hasB
  by_cases hq : gs[l].k = k ∧ gs[l].t = t ∧ gs[l].s = s
  · have := cAt_self ha (List.getElem_mem hl)
    rw [hq.1, hq.2.1, hq.2.2] at this
    rw [this]; simp [hq]
  · have : cAt gs k t s = none := by
      rcases hc : cAt gs k t s with _ | v
      · rfl
      · exfalso
        obtain ⟨hv, e1, e2, e3⟩ := cAt_mem hc
        obtain ⟨j, hj, rfl⟩ := List.getElem_of_mem hv
        have irr : lessV gs[j] (asV k t s) = false := by rw [lessV_false]; simp [e1, e2, e3]
        have hjl : ¬ j < l := fun h => by rw [hs.1 j hj h] at irr; cases irr
        have hne : j ≠ l := fun h => by subst h; exact hq ⟨e1, e2, e3⟩
        have h5 := List.pairwise_iff_getElem.1 ha l j hl hj (by omega)
        have h6 := hs.2 l hl (Nat.le_refl _)
        rw [lessV_iff] at h5
        rw [lessV_false] at h6
        simp only [e1, e2, e3] at h5 h6
        omega
    rw [this]; simp [hq]
theorem hasD_end {gs : List V} {k t s : Int} (hs : SoughtD gs k t s gs.length gs.length) : hasB gs k t s = false := by
  unfold hasB
  rcases hc : cAt gs k t s with _ | v
  · rfl
  · exfalso
    obtain ⟨hv, e1, e2, e3⟩ := cAt_mem hc
    obtain ⟨j, hj, rfl⟩ := List.getElem_of_mem hv
    have irr : lessV gs[j] (asV k t s) = false := by rw [lessV_false]; simp [e1, e2, e3]
    rw [hs.1 j hj hj] at irr; cases irr

set_option maxHeartbeats 4000000 in
set_option maxRecDepth 100000 in
theorem placeD_any (a : Option Addr) (cap : Nat) (gs : List V) (k t s : Int) (w : World) (hn : gs.length ≤ 100) (ha : Asc gs) (h : Vers w a gs) :
    Calls Try.prog 197 #[.slice a gs.length cap, depV k t s, .func (.func 198) #[] #[]] w fun e w' => e = .returned (.tuple #[.int .i64 (plcD gs k t s), .bool (hasB gs k t s)]) ∧ Below w.heap.size w w' := by
  have S1 := Blk.new w #[.int .i64 k, .int .i64 t, .int .i64 s] 51
  have b0 : Below w.heap.size w (w.alloc (.cells #[.int .i64 k, .int .i64 t, .int .i64 s] 51)) := (Below.refl _ w).alloc (Nat.le_refl _) _
  have h1 := h.below b0
  have hp := S1.lt
  clear h
  go_enter Try.func197, Try.ntmps197
  go_wp2
  generalize w.alloc (.cells #[.int .i64 k, .int .i64 t, .int .i64 s] 51) = W1 at *
  go_loopw [8, 9] (fun lo hi wr => ∃ l h : Nat, l ≤ h ∧ h ≤ gs.length ∧ lo = .int .i64 l ∧ hi = .int .i64 h ∧ Hid (SoughtD gs k t s l h) ∧ Below W1.heap.size W1 wr) (fun lo hi _ => (intOf hi - intOf lo).toNat)
  case atStart => exact ⟨0, gs.length, Nat.zero_le _, Nat.le_refl _, rfl, rfl, ⟨fun j hj h => absurd h (Nat.not_lt_zero _), fun j hj h => absurd hj (by omega)⟩, Below.refl _ _⟩
  case round =>
    obtain ⟨l, h, hlh, hh, rfl, rfl, HS, hB⟩ := hrel
    have hS := S1.below hB hp
    have rz : ∀ (n : Wof (Since wr)) (j : Nat), n.W.cell? ⟨w.heap.size, j, none⟩ = #[.int .i64 k, .int .i64 t, .int .i64 s][j]? := fun n j => (hS.below n.h hS.lt).cell j
    have ne := since_ne wr
    by_cases hlt : l < h
    · obtain ⟨m, hm⟩ : ∃ m : Nat, (m : Int) = (l : Int) + ((h : Int) - l) / 2 := ⟨l + (h - l) / 2, by omega⟩
      have hm1 : l ≤ m := by omega
      have hm2 : m < h := by omega
      have HM : Hid ((m : Int) = (l : Int) + ((h : Int) - l) / 2) := hm
      clear hm
      have hmg : m < gs.length := by omega
      obtain ⟨b, o, da, dc, rfl, hbb, hv1⟩ := h1.at hmg
      obtain ⟨r0, r1, r2, r3, r4, r5, r6⟩ := (hv1.below hB).rules
      obtain ⟨r, hr⟩ : ∃ r, dOrd gs[m].k gs[m].t gs[m].s k t s = r := ⟨_, rfl⟩
      have hlB : decide (r < 0) = lessV gs[m] (asV k t s) := by rw [← hr]; exact dOrd_less _ _ _ _ _ _
      by_cases hneg : r < 0
      · have HU : Hid (SoughtD gs k t s (m + 1) h) := HS.out.up ha hmg (by rw [← hlB]; simpa using hneg)
        clear hv1 hlB
        generalize gs[m] = v at *
        have m0 : (0 : Int) ≤ (m : Int) := by omega
        have m1 : (m : Int) < (gs.length : Int) := by omega
        have m2 : (m : Int) < 100 := by omega
        go_wp2_with fail
        rw [← HM.out]
        refine wp_region_class (S := Since wr) (by kernel_rfl) (by kernel_rfl) (Below.refl _ _).drew ?_
        repeat (go_big_quiet_step ((rename_i n; first | (go_at_call 198; exact Calls.inClass (byName_is hr) Since.keep))))
        refine wpQuiet_nil ?_
        rintro W ⟨n, hnW⟩
        have R2 := n.h
        rw [← hnW] at R2
        have hB2 : Below W1.heap.size W1 W := hB.trans (R2.mono hB.size)
        clear R2 r0 r1 r2 r3 r4 r5 r6 rz ne hnW n hB hS
        go_wp2
        go_roundw
        case rel => exact ⟨m + 1, h, by omega, hh, by go_num, rfl, HU, hB2⟩
        case measure => simp [intOf]; omega
      · have HU : Hid (SoughtD gs k t s l m) := HS.out.down ha hmg (by rw [← hlB]; simpa using hneg)
        have hneg2 : decide (r < 0) = false := by simpa using hneg
        clear hv1 hlB
        generalize gs[m] = v at *
        have m0 : (0 : Int) ≤ (m : Int) := by omega
        have m1 : (m : Int) < (gs.length : Int) := by omega
        go_wp2_with fail
        rw [← HM.out]
        refine wp_region_class (S := Since wr) (by kernel_rfl) (by kernel_rfl) (Below.refl _ _).drew ?_
        repeat (go_big_quiet_step ((rename_i n; first | (go_at_call 198; exact Calls.inClass (byName_is hr) Since.keep))))
        refine wpQuiet_nil ?_
        rintro W ⟨n, hnW⟩
        have R2 := n.h
        rw [← hnW] at R2
        have hB2 : Below W1.heap.size W1 W := hB.trans (R2.mono hB.size)
        clear R2 r0 r1 r2 r3 r4 r5 r6 rz ne hnW n hB hS
        go_wp2
        go_roundw
        case rel => exact ⟨l, m, hm1, by omega, rfl, rfl, HU, hB2⟩
        case measure => simp [intOf]; omega
    · have hk2 : l = h := by omega
      subst hk2
      have HP : Hid (plcD gs k t s = l) := HS.out.plc hh
      by_cases hend : l < gs.length
      · obtain ⟨b, o, da, dc, rfl, hbb, hv1⟩ := h1.at hend
        obtain ⟨r0, r1, r2, r3, r4, r5, r6⟩ := (hv1.below hB).rules
        obtain ⟨r, hr⟩ : ∃ r, dOrd gs[l].k gs[l].t gs[l].s k t s = r := ⟨_, rfl⟩
        have HT : Hid (hasB gs k t s = (r == 0)) := by
          show hasB gs k t s = (r == 0)
          rw [hasD_at HS.out ha hend, ← hr, Bool.eq_iff_iff]
          simp [dOrd_zero]
        clear hv1
        generalize gs[l] = v at *
        have m0 : (0 : Int) ≤ (l : Int) := by omega
        have m1 : (l : Int) < (gs.length : Int) := by omega
        go_wp2_with fail
        refine wp_region_class (S := Since wr) (by kernel_rfl) (by kernel_rfl) (Below.refl _ _).drew ?_
        repeat (go_big_quiet_step ((rename_i n; first | (go_at_call 198; exact Calls.inClass (byName_is hr) Since.keep))))
        refine wpQuiet_nil ?_
        rintro W ⟨n, hnW⟩
        have R2 := n.h
        rw [← hnW] at R2
        have hB2 : Below W1.heap.size W1 W := hB.trans (R2.mono hB.size)
        clear R2 r0 r1 r2 r3 r4 r5 r6 rz ne hnW n hB hS
        go_wp2
        go_ret2
        exact ⟨by rw [HP.out, HT.out]; rfl, b0.trans (hB2.mono b0.size)⟩
      · have he : l = gs.length := by omega
        subst he
        have HT : Hid (hasB gs k t s = false) := hasD_end HS.out
        clear hS
        go_wp2_with fail
        refine wp_region_class (S := Since wr) (by kernel_rfl) (by kernel_rfl) (Below.refl _ _).drew ?_
        repeat (go_big_quiet_step ((fail)))
        refine wpQuiet_nil ?_
        rintro W ⟨n, hnW⟩
        have R2 := n.h
        rw [← hnW] at R2
        have hB2 : Below W1.heap.size W1 W := hB.trans (R2.mono hB.size)
        clear R2 rz ne hnW n hB
        go_wp2
        go_ret2
        exact ⟨by rw [HP.out, HT.out]; rfl, b0.trans (hB2.mono b0.size)⟩

theorem hasVer_any (a : Option Addr) (cap : Nat) (gs : List V) (k t s : Int) (w : World) (hc : chainB gs = true) (h : Vers w a gs) :
    Calls Try.prog 183 #[.slice a gs.length cap, depV k t s] w fun e w' => e = .returned (.bool (hasB gs k t s)) ∧ Below w.heap.size w w' := by
  have hl := (chainB_iff.1 hc).1
  have b0 : Below w.heap.size w (w.alloc (.cells #[.int .i64 k, .int .i64 t, .int .i64 s] 51)) := (Below.refl _ w).alloc (Nat.le_refl _) _
  have hP := placeD_any a cap gs k t s _ (by omega) (chainB_iff.1 hc).2.2 (h.below b0)
  generalize hasB gs k t s = r at *
  generalize plcD gs k t s = p at *
  clear h hc
  go_enter Try.func183, Try.ntmps183
  go_wp2_with fail
  refine hP.mono ?_
  rintro e w1 ⟨rfl, hb⟩
  go_wp2_with fail
  go_ret
  exact ⟨rfl, b0.trans (hb.mono b0.size)⟩
end Go.Proofs.Ytgdkoangpinieaa
