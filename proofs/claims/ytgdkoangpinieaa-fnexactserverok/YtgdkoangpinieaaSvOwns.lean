/- ServerOwns, of the program and of the specification. -/
import Derived.Test.YtgdkoangpinieaaSvOkI
namespace Go.Proofs.Ytgdkoangpinieaa
open Go.ChangeShapes Go.WideShapes Go.ChangeAt Go.RowKit Go.Deep

/-- Whether a server owns the slot of that number. -/
def ownsB (xs : List Sl) (n : Int) : Bool := standAt xs n == 1
def owB (x : Sv) (key : Int) : Bool := servB x && ownsB x.sl (slotOf key)
theorem owns_out {s1 s2 s3 : Sl} {n : Int} (h : n < 0 ∨ 3 ≤ n) : ownsB [s1, s2, s3] n = false := by
  unfold ownsB standAt
  rcases h with h | h
  · rw [if_pos h]; rfl
  · rw [if_neg (by omega)]
    have : [s1, s2, s3][n.toNat]? = none := by rw [List.getElem?_eq_none]; simp; omega
    rw [this]; rfl
theorem ownsI_any (s1 s2 s3 : Sl) (n : Int) (w : World) :
    Calls Try.prog 137 #[.agg (tab6 s1 s2 s3), .int .i64 n] w fun e w' => e = .returned (.bool (ownsB [s1, s2, s3] n)) ∧ Below w.heap.size w w' := by
  have b0 : Below w.heap.size w (w.alloc (.cells (tab6 s1 s2 s3) 137)) := (Below.refl _ _).alloc (Nat.le_refl _) _
  by_cases h0 : n < 0
  · have HR : Hid (ownsB [s1, s2, s3] n = false) := owns_out (.inl h0)
    have hd : decide (0 ≤ n) = false := by simpa using h0
    generalize ownsB [s1, s2, s3] n = r at *
    go_enter Try.func137, Try.ntmps137
    go_wp2_with fail
    go_ret
    exact ⟨by rw [HR.out]; rfl, b0⟩
  by_cases h3 : 3 ≤ n
  · have HR : Hid (ownsB [s1, s2, s3] n = false) := owns_out (.inr h3)
    have hd : decide (n < 3) = false := by simp; omega
    generalize ownsB [s1, s2, s3] n = r at *
    go_enter Try.func137, Try.ntmps137
    go_wp2_with fail
    go_ret
    exact ⟨by rw [HR.out]; rfl, b0⟩
  have : n = 0 ∨ n = 1 ∨ n = 2 := by omega
  rcases this with rfl | rfl | rfl
  · have HR : Hid (ownsB [s1, s2, s3] 0 = (s1.st == 1)) := by show _ = _; unfold ownsB; rw [stand0]
    generalize ownsB [s1, s2, s3] 0 = r at *
    go_enter Try.func137, Try.ntmps137
    go_wp2_with fail
    go_ret
    exact ⟨by rw [HR.out]; rfl, b0⟩
  · have HR : Hid (ownsB [s1, s2, s3] 1 = (s2.st == 1)) := by show _ = _; unfold ownsB; rw [stand1]
    generalize ownsB [s1, s2, s3] 1 = r at *
    go_enter Try.func137, Try.ntmps137
    go_wp2_with fail
    go_ret
    exact ⟨by rw [HR.out]; rfl, b0⟩
  · have HR : Hid (ownsB [s1, s2, s3] 2 = (s3.st == 1)) := by show _ = _; unfold ownsB; rw [stand2]
    generalize ownsB [s1, s2, s3] 2 = r at *
    go_enter Try.func137, Try.ntmps137
    go_wp2_with fail
    go_ret
    exact ⟨by rw [HR.out]; rfl, b0⟩
theorem ownsI_is {s1 s2 s3 : Sl} {n : Int} {r : Bool} (h : ownsB [s1, s2, s3] n = r) {w : World} : Calls Try.prog 137 #[.agg (tab6 s1 s2 s3), .int .i64 n] w fun e w' => e = .returned (.bool r) ∧ Below w.heap.size w w' := by rw [← h]; exact ownsI_any s1 s2 s3 n w
theorem islot_b (n : Int) {w : World} : Calls Try.prog 50 #[.int .i64 n] w fun e w' => e = .returned (.int .i64 (slotOf n)) ∧ Below w.heap.size w w' := (slot_is rfl w).mono fun e w' h => ⟨h.1, by rw [h.2]; exact Below.refl _ _⟩
theorem iServerOk_is {x : Sv} {a : Sa} {r : Bool} (h : servB x = r) {w : World} (hl : LenS x) (hi : InS w x a) : Calls Try.prog 70 #[servV x a] w fun e w' => e = .returned (.bool r) ∧ Below w.heap.size w w' := by rw [← h]; exact iServerOk_any x a w hl hi

set_option maxHeartbeats 4000000 in
set_option maxRecDepth 20000 in
theorem iOwns_any (x : Sv) (a : Sa) (key : Int) (w : World) (hl : LenS x) (h : InS w x a) : Calls Try.prog 58 #[servV x a, .int .i64 key] w fun e w' => e = .returned (.bool (owB x key)) ∧ Below w.heap.size w w' := by
  have b0 : Below w.heap.size w (w.alloc (.cells #[.int .i64 x.site, .bool x.up, .slice a.la x.sl.length a.lc, .slice a.va x.vs.length a.vc, .slice a.wa x.ws.length a.wc, .slice a.oa x.os.length a.oc, .slice a.ka x.kn.length a.kc] 63)) := (Below.refl _ _).alloc (Nat.le_refl _) _
  have A0 := Blk.new w #[.int .i64 x.site, .bool x.up, .slice a.la x.sl.length a.lc, .slice a.va x.vs.length a.vc, .slice a.wa x.ws.length a.wc, .slice a.oa x.os.length a.oc, .slice a.ka x.kn.length a.kc] 63
  have L0 := h.below b0
  have hT := fun W h => slotsTab_any a.la a.lc x.sl W hl.l h
  have HE : Hid (owB x key = (servB x && ownsB x.sl (slotOf key))) := rfl
  have HSB : Hid (servB x = true → slotsB x.sl = true) := by show _ → _; intro hh; unfold servB at hh; simp at hh; exact hh.1.1.1.1.1.1.1
  generalize owB x key = q at *
  clear h
  rcases hs : slotsB x.sl with _ | _
  · rw [hs, tabV_no hs] at hT
    have hb : servB x = false := by
      cases hb : servB x
      · rfl
      · rw [HSB.out hb] at hs; cases hs
    have HB : Hid (servB x = false) := hb
    rw [hb] at HE
    clear hs hb
    go_enter Try.func58, Try.ntmps58
    go_wp2_with fail
    generalize (w.alloc (.cells #[.int .i64 x.site, .bool x.up, .slice a.la x.sl.length a.lc, .slice a.va x.vs.length a.vc, .slice a.wa x.ws.length a.wc, .slice a.oa x.os.length a.oc, .slice a.ka x.kn.length a.kc] 63)) = w0 at *
    refine (hT _ L0.l).mono ?_
    rintro e w1 ⟨rfl, hb1⟩
    have B1 : Below w.heap.size w (w1.alloc (.cells zero6 137)) := (b0.trans (hb1.mono b0.size)).alloc (by have := b0.size; have := hb1.size; omega) _
    have A1 := (A0.below hb1 A0.lt).alloc (.cells zero6 137)
    have L1 := (L0.below hb1).below ((Below.refl _ w1).alloc (Nat.le_refl _) (.cells zero6 137))
    clear hb1 b0 L0 hT A0
    go_wp2_with fail
    generalize w1.alloc (.cells zero6 137) = W2 at *
    have r1 : ∀ (n' : Wof (Since W2)) (j : Nat), n'.W.cell? ⟨w.heap.size, j, none⟩ = #[.int .i64 x.site, .bool x.up, .slice a.la x.sl.length a.lc, .slice a.va x.vs.length a.vc, .slice a.wa x.ws.length a.wc, .slice a.oa x.os.length a.oc, .slice a.ka x.kn.length a.kc][j]? := fun n' j => (A1.below n'.h A1.lt).cell j
    have ne := since_ne W2
    clear A1
    refine wp_region_class (S := Since W2) (by kernel_rfl) (by kernel_rfl) (Below.refl _ _).drew ?_
    repeat (go_big_quiet_step ((rename_i n; first | (go_at_call 70; exact Calls.inClass (iServerOk_is HB.out hl (L1.below n.h)) Since.keep))))
    refine wpQuiet_nil ?_
    rintro W ⟨n, hnW⟩
    have R2 := n.h
    rw [← hnW] at R2
    have B2 : Below w.heap.size w W := B1.trans (R2.mono B1.size)
    clear R2 r1 ne hnW n L1
    go_wp2_with fail
    go_ret
    exact ⟨by rw [HE.out]; rfl, B2⟩
  obtain ⟨s1, s2, s3, he⟩ := slotsB_three hs
  have ht : tabV x.sl = tab6 s1 s2 s3 := by rw [he]; exact tabV_yes (by rw [← he]; exact hs)
  rw [hs, ht] at hT
  have HO : Hid (ownsB [s1, s2, s3] (slotOf key) = ownsB x.sl (slotOf key)) := by show _ = _; rw [he]
  obtain ⟨rb, hrb⟩ : ∃ rb, servB x = rb := ⟨_, rfl⟩
  obtain ⟨ro, hro⟩ : ∃ ro, ownsB x.sl (slotOf key) = ro := ⟨_, rfl⟩
  rw [hrb, hro] at HE
  have HB : Hid (servB x = rb) := hrb
  have HO2 : Hid (ownsB [s1, s2, s3] (slotOf key) = ro) := by show _ = _; rw [HO.out, hro]
  clear hs ht he hrb hro HO HSB
  go_enter Try.func58, Try.ntmps58
  go_wp2_with fail
  generalize (w.alloc (.cells #[.int .i64 x.site, .bool x.up, .slice a.la x.sl.length a.lc, .slice a.va x.vs.length a.vc, .slice a.wa x.ws.length a.wc, .slice a.oa x.os.length a.oc, .slice a.ka x.kn.length a.kc] 63)) = w0 at *
  refine (hT _ L0.l).mono ?_
  rintro e w1 ⟨rfl, hb1⟩
  have B1 : Below w.heap.size w (w1.alloc (.cells (tab6 s1 s2 s3) 137)) := (b0.trans (hb1.mono b0.size)).alloc (by have := b0.size; have := hb1.size; omega) _
  have A1 := (A0.below hb1 A0.lt).alloc (.cells (tab6 s1 s2 s3) 137)
  have T1 := Blk.new w1 (tab6 s1 s2 s3) 137
  have L1 := (L0.below hb1).below ((Below.refl _ w1).alloc (Nat.le_refl _) (.cells (tab6 s1 s2 s3) 137))
  clear hb1 b0 L0 hT A0
  go_wp2_with fail
  generalize w1.alloc (.cells (tab6 s1 s2 s3) 137) = W2 at *
  have r1 : ∀ (n' : Wof (Since W2)) (j : Nat), n'.W.cell? ⟨w.heap.size, j, none⟩ = #[.int .i64 x.site, .bool x.up, .slice a.la x.sl.length a.lc, .slice a.va x.vs.length a.vc, .slice a.wa x.ws.length a.wc, .slice a.oa x.os.length a.oc, .slice a.ka x.kn.length a.kc][j]? := fun n' j => (A1.below n'.h A1.lt).cell j
  have r2 : ∀ (n' : Wof (Since W2)) (j : Nat), n'.W.cell? ⟨w1.heap.size, j, none⟩ = (tab6 s1 s2 s3)[j]? := fun n' j => (T1.below n'.h T1.lt).cell j
  have ne := since_ne W2
  clear A1 T1
  rcases rb with _ | _
  all_goals
    refine wp_region_class (S := Since W2) (by kernel_rfl) (by kernel_rfl) (Below.refl _ _).drew ?_
    repeat (go_big_quiet_step ((rename_i n; first | (go_at_call 70; exact Calls.inClass (iServerOk_is HB.out hl (L1.below n.h)) Since.keep) | (go_at_call 50; exact Calls.inClass (islot_b _) Since.keep) | (go_at_call 137; exact Calls.inClass (ownsI_is HO2.out) Since.keep))))
    refine wpQuiet_nil ?_
    rintro W ⟨n, hnW⟩
    have R2 := n.h
    rw [← hnW] at R2
    have B2 : Below w.heap.size w W := B1.trans (R2.mono B1.size)
    clear R2 r1 r2 ne hnW n L1
    go_wp2_with fail
    go_ret
    exact ⟨by rw [HE.out]; rfl, B2⟩
end Go.Proofs.Ytgdkoangpinieaa
