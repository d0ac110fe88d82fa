/- The program's search among versions of a key. -/
import Derived.Test.YtgdkoangpinieaaAgainst
namespace Go.Proofs.Ytgdkoangpinieaa
open Go.ChangeShapes Go.WideShapes Go.ChangeAt Go.RowKit

/-- Whether a stamp is among versions of one key. -/
def thr (gs : List V) (t s : Int) : Bool := (gs.find? fun v => decide (v.t = t ∧ v.s = s)).isSome
theorem ord_zero (t s t' s' : Int) : (ordV t s t' s' = 0) ↔ (t = t' ∧ s = s') := by
  unfold ordV cmpV
  by_cases h1 : t < t' <;> by_cases h2 : t' < t <;> by_cases h3 : s < s' <;> by_cases h4 : s' < s <;> simp [*] <;> omega
theorem against_is {v : V} {t s : Int} {r : Int} (h : ordV v.t v.s t s = r) {da : Option Addr} {n dc : Nat} {w : World} :
    Calls Try.prog 170 #[verV v.k v.t v.s v.val v.cl v.ca da n dc, stampV t s] w fun e w' => e = .returned (.int .i64 r) ∧ Below w.heap.size w w' := by rw [← h]; exact against_any v da n dc t s w
theorem lessB_trans {a b c d e f : Int} (h : lessB a b c d = true) (h' : lessB c d e f = true) : lessB a b e f = true := by unfold lessB at *; simp at *; omega
theorem lessB_irr (a b : Int) : lessB a b a b = false := by unfold lessB; simp
/-- What the search knows: all ahead of l are ahead of the stamp, none from h on is. -/
def Sought (gs : List V) (t s : Int) (l h : Nat) : Prop := (∀ j, (hj : j < gs.length) → j < l → lessB gs[j].t gs[j].s t s = true) ∧ (∀ j, (hj : j < gs.length) → h ≤ j → lessB gs[j].t gs[j].s t s = false)
theorem Sought.up {gs : List V} {t s : Int} {l h m : Nat} (hs : Sought gs t s l h) (ha : gs.Pairwise (fun a b => lessB a.t a.s b.t b.s = true)) (hm : m < gs.length) (hl : lessB gs[m].t gs[m].s t s = true) : Sought gs t s (m + 1) h := by
  refine ⟨fun j hj hjm => ?_, hs.2⟩
  by_cases e : j = m
  · subst e; exact hl
  · exact lessB_trans (List.pairwise_iff_getElem.1 ha j m hj hm (by omega)) hl
theorem Sought.down {gs : List V} {t s : Int} {l h m : Nat} (hs : Sought gs t s l h) (ha : gs.Pairwise (fun a b => lessB a.t a.s b.t b.s = true)) (hm : m < gs.length) (hl : lessB gs[m].t gs[m].s t s = false) : Sought gs t s l m := by
  refine ⟨hs.1, fun j hj hjm => ?_⟩
  by_cases e : j = m
  · subst e; exact hl
  · cases hh : lessB gs[j].t gs[j].s t s
    · rfl
    · have := lessB_trans (List.pairwise_iff_getElem.1 ha m j hm hj (by omega)) hh
      rw [hl] at this; cases this
theorem Sought.plc {gs : List V} {t s : Int} {l : Nat} (hs : Sought gs t s l l) (hl : l ≤ gs.length) : plc gs t s = l := plc_eq gs t s l hl (fun j hj h => hs.1 j hj h) (fun h => hs.2 l h (Nat.le_refl _))
theorem thr_at {gs : List V} {t s : Int} {l : Nat} (hs : Sought gs t s l l) (ha : gs.Pairwise (fun a b => lessB a.t a.s b.t b.s = true)) (hl : l < gs.length) : thr gs t s = decide (gs[l].t = t ∧ gs[l].s = s) ∧ (gs[l].t = t ∧ gs[l].s = s → gs.find? (fun v => decide (v.t = t ∧ v.s = s)) = some gs[l]) := by
  have h0 : ∀ v ∈ gs.take l, ¬ (v.t = t ∧ v.s = s) := fun v hv e => by
    obtain ⟨j, hj, rfl⟩ := List.getElem_of_mem hv
    rw [List.length_take] at hj
    simp only [List.getElem_take] at e
    have := hs.1 j (by omega) (by omega)
    rw [e.1, e.2, lessB_irr] at this; cases this
  have h1 : (gs.take l).find? (fun v => decide (v.t = t ∧ v.s = s)) = none := List.find?_eq_none.2 fun v hv => by simpa using h0 v hv
  have e : gs = gs.take l ++ gs[l] :: gs.drop (l + 1) := by rw [← List.drop_eq_getElem_cons hl, List.take_append_drop]
  have h2 : gs.find? (fun v => decide (v.t = t ∧ v.s = s)) = (gs[l] :: gs.drop (l + 1)).find? (fun v => decide (v.t = t ∧ v.s = s)) := by
    rw [congrArg (List.find? fun v : V => decide (v.t = t ∧ v.s = s)) e, List.find?_append, h1]; simp
  by_cases hq : gs[l].t = t ∧ gs[l].s = s
  · have h3 : gs.find? (fun v => decide (v.t = t ∧ v.s = s)) = some gs[l] := by rw [h2, List.find?_cons]; simp [hq]
    exact ⟨by unfold thr; rw [h3]; simp [hq], fun _ => h3⟩
  · refine ⟨?_, fun h => absurd h hq⟩
    have h3 : gs.find? (fun v => decide (v.t = t ∧ v.s = s)) = none := by
      rw [h2, List.find?_eq_none]
      intro v hv
      rcases List.mem_cons.1 hv with rfl | hv
      · simpa using hq
      · obtain ⟨j, hj, rfl⟩ := List.getElem_of_mem hv
        simp only [List.getElem_drop]
        simp at hj
        intro e2
        simp at e2
        have h5 := List.pairwise_iff_getElem.1 ha l (l + 1 + j) hl (by omega) (by omega)
        rw [e2.1, e2.2, hs.2 l hl (Nat.le_refl _)] at h5; cases h5
    unfold thr; rw [h3]; simp [hq]
theorem thr_end {gs : List V} {t s : Int} (hs : Sought gs t s gs.length gs.length) : thr gs t s = false := by
  unfold thr
  rw [List.find?_eq_none.2]
  · rfl
  · intro v hv
    obtain ⟨j, hj, rfl⟩ := List.getElem_of_mem hv
    have := hs.1 j hj hj
    intro e
    simp at e
    rw [e.1, e.2, lessB_irr] at this; cases this

set_option maxHeartbeats 4000000 in
set_option maxRecDepth 100000 in
theorem placeOf_any (a : Option Addr) (cap : Nat) (gs : List V) (t s : Int) (w : World) (hn : gs.length ≤ 100) (ha : gs.Pairwise (fun a b => lessB a.t a.s b.t b.s = true)) (h : Vers w a gs) :
    Calls Try.prog 169 #[.slice a gs.length cap, stampV t s, .func (.func 170) #[] #[]] w fun e w' => e = .returned (.tuple #[.int .i64 (plc gs t s), .bool (thr gs t s)]) ∧ Below w.heap.size w w' := by
  have S1 := Blk.new w #[.int .i64 t, .int .i64 s] 25
  have b0 : Below w.heap.size w (w.alloc (.cells #[.int .i64 t, .int .i64 s] 25)) := (Below.refl _ w).alloc (Nat.le_refl _) _
  have h1 := h.below b0
  have hp := S1.lt
  clear h
  go_enter Try.func169, Try.ntmps169
  go_wp2
  generalize w.alloc (.cells #[.int .i64 t, .int .i64 s] 25) = W1 at *
  go_loopw [8, 9] (fun lo hi wr => ∃ l h : Nat, l ≤ h ∧ h ≤ gs.length ∧ lo = .int .i64 l ∧ hi = .int .i64 h ∧ Hid (Sought gs t s l h) ∧ Below W1.heap.size W1 wr) (fun lo hi _ => (intOf hi - intOf lo).toNat)
  case atStart => exact ⟨0, gs.length, Nat.zero_le _, Nat.le_refl _, rfl, rfl, ⟨fun j hj h => absurd h (Nat.not_lt_zero _), fun j hj h => absurd hj (by omega)⟩, Below.refl _ _⟩
  case round =>
    obtain ⟨l, h, hlh, hh, rfl, rfl, HS, hB⟩ := hrel
    have hS := S1.below hB hp
    have rz : ∀ (n : Wof (Since wr)) (j : Nat), n.W.cell? ⟨w.heap.size, j, none⟩ = #[.int .i64 t, .int .i64 s][j]? := fun n j => (hS.below n.h hS.lt).cell j
    have ne := since_ne wr
    by_cases hlt : l < h
    · obtain ⟨m, hm⟩ : ∃ m : Nat, (m : Int) = (l : Int) + ((h : Int) - l) / 2 := ⟨l + (h - l) / 2, by omega⟩
      have hm1 : l ≤ m := by omega
      have hm2 : m < h := by omega
      have HM : Hid ((m : Int) = (l : Int) + ((h : Int) - l) / 2) := hm
      clear hm
      have hmg : m < gs.length := by omega
      obtain ⟨b, o, da, dc, rfl, hbb, hv1⟩ := h1.at hmg
      obtain ⟨r0, r1, r2, r3, r4, r5, r6⟩ := (hv1.below hB).rules
      obtain ⟨r, hr⟩ : ∃ r, ordV gs[m].t gs[m].s t s = r := ⟨_, rfl⟩
      have hlB := ord_less gs[m].t gs[m].s t s
      rw [hr] at hlB
      by_cases hneg : r < 0
      · have HU : Hid (Sought gs t s (m + 1) h) := HS.out.up ha hmg (by rw [← hlB]; simpa using hneg)
        clear hv1 hlB
        generalize gs[m] = v at *
        have m0 : (0 : Int) ≤ (m : Int) := by omega
        have m1 : (m : Int) < (gs.length : Int) := by omega
        have m2 : (m : Int) < 100 := by omega
        go_wp2_with fail
        rw [← HM.out]
        refine wp_region_class (S := Since wr) (by kernel_rfl) (by kernel_rfl) (Below.refl _ _).drew ?_
        repeat (go_big_quiet_step ((rename_i n; first | (go_at_call 170; exact Calls.inClass (against_is hr) Since.keep))))
        refine wpQuiet_nil ?_
        rintro W ⟨n, hnW⟩
        have R2 := n.h
        rw [← hnW] at R2
        have hB2 : Below W1.heap.size W1 W := hB.trans (R2.mono hB.size)
        clear R2 r0 r1 r2 r3 r4 r5 r6 rz ne hnW n hB hS
        go_wp2
        go_roundw
        case rel => exact ⟨m + 1, h, by omega, hh, by go_num, rfl, HU, hB2⟩
        case measure => simp [intOf]; omega
      · have HU : Hid (Sought gs t s l m) := HS.out.down ha hmg (by rw [← hlB]; simpa using hneg)
        have hneg2 : decide (r < 0) = false := by simpa using hneg
        clear hv1 hlB
        generalize gs[m] = v at *
        have m0 : (0 : Int) ≤ (m : Int) := by omega
        have m1 : (m : Int) < (gs.length : Int) := by omega
        go_wp2_with fail
        rw [← HM.out]
        refine wp_region_class (S := Since wr) (by kernel_rfl) (by kernel_rfl) (Below.refl _ _).drew ?_
        repeat (go_big_quiet_step ((rename_i n; first | (go_at_call 170; exact Calls.inClass (against_is hr) Since.keep))))
        refine wpQuiet_nil ?_
        rintro W ⟨n, hnW⟩
        have R2 := n.h
        rw [← hnW] at R2
        have hB2 : Below W1.heap.size W1 W := hB.trans (R2.mono hB.size)
        clear R2 r0 r1 r2 r3 r4 r5 r6 rz ne hnW n hB hS
        go_wp2
        go_roundw
        case rel => exact ⟨l, m, hm1, by omega, rfl, rfl, HU, hB2⟩
        case measure => simp [intOf]; omega
    · have hk2 : l = h := by omega
      subst hk2
      have HP : Hid (plc gs t s = l) := HS.out.plc hh
      by_cases hend : l < gs.length
      · obtain ⟨b, o, da, dc, rfl, hbb, hv1⟩ := h1.at hend
        obtain ⟨r0, r1, r2, r3, r4, r5, r6⟩ := (hv1.below hB).rules
        obtain ⟨r, hr⟩ : ∃ r, ordV gs[l].t gs[l].s t s = r := ⟨_, rfl⟩
        have HT : Hid (thr gs t s = (r == 0)) := by
          show thr gs t s = (r == 0)
          rw [(thr_at HS.out ha hend).1, ← hr, Bool.eq_iff_iff]
          simp [ord_zero]
        clear hv1
        generalize gs[l] = v at *
        have m0 : (0 : Int) ≤ (l : Int) := by omega
        have m1 : (l : Int) < (gs.length : Int) := by omega
        go_wp2_with fail
        refine wp_region_class (S := Since wr) (by kernel_rfl) (by kernel_rfl) (Below.refl _ _).drew ?_
        repeat (go_big_quiet_step ((rename_i n; first | (go_at_call 170; exact Calls.inClass (against_is hr) Since.keep))))
        refine wpQuiet_nil ?_
        rintro W ⟨n, hnW⟩
        have R2 := n.h
        rw [← hnW] at R2
        have hB2 : Below W1.heap.size W1 W := hB.trans (R2.mono hB.size)
        clear R2 r0 r1 r2 r3 r4 r5 r6 rz ne hnW n hB hS
        go_wp2
        go_ret2
        exact ⟨by rw [HP.out, HT.out]; rfl, b0.trans (hB2.mono b0.size)⟩
      · have he : l = gs.length := by omega
        subst he
        have HT : Hid (thr gs t s = false) := thr_end HS.out
        clear hS
        go_wp2_with fail
        refine wp_region_class (S := Since wr) (by kernel_rfl) (by kernel_rfl) (Below.refl _ _).drew ?_
        repeat (go_big_quiet_step ((fail)))
        refine wpQuiet_nil ?_
        rintro W ⟨n, hnW⟩
        have R2 := n.h
        rw [← hnW] at R2
        have hB2 : Below W1.heap.size W1 W := hB.trans (R2.mono hB.size)
        clear R2 rz ne hnW n hB
        go_wp2
        go_ret2
        exact ⟨by rw [HP.out, HT.out]; rfl, b0.trans (hB2.mono b0.size)⟩
end Go.Proofs.Ytgdkoangpinieaa
