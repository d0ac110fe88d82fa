/- The exact law of ChainSlot. -/
import Derived.Test.YtgdkoangpinieaaXMarkV
import Derived.Test.YtgdkoangpinieaaGAQ
import Derived.Test.YtgdkoangpinieaaSSlotC
import Derived.Test.YtgdkoangpinieaaISlotC
namespace Go.Proofs.Ytgdkoangpinieaa
open Go.ChangeShapes Go.WideShapes Go.ChangeAt Go.RowKit

theorem OwnV.asL {w : World} {base : Nat} {u : Value} {ys : List XV} {vs : List V} (h : OwnV w base u ys) (hy : ys.map XV.v = vs) : ∃ a cap, u = .slice a vs.length cap ∧ Vers w a vs := by
  obtain ⟨a, cap, h1, h2, h3⟩ := h.vers
  subst hy
  exact ⟨a, cap, by rw [h1, List.length_map], h2⟩
theorem OwnV.versAt {w : World} {base : Nat} {a : Option Addr} {n cap : Nat} {ys : List XV} {vs : List V} (h : OwnV w base (.slice a n cap) ys) (hy : ys.map XV.v = vs) : Vers w a vs := by
  obtain ⟨a', c', e, V⟩ := h.asL hy
  injection e with e1 e2 e3
  subst e1; exact V
theorem two_apart {w : World} {b : Nat} {u u' : Value} {ys zs : List XV} (h : OwnV w b u ys) (h' : OwnV w b u' zs) (ha : ApartV u u') (hd : ∀ y ∈ ys, ∀ z ∈ zs, ApartV y.p z.p) (j : Nat) (hj : inV u' zs j) : ¬ inV u ys j := by
  intro hi
  rcases hi with hi | ⟨y, hy, hi⟩ <;> rcases hj with hj | ⟨z, hz, hj⟩
  · exact ha j hi hj
  · rcases row_other h.row (h'.deps z hz).1 with e | e
    · rw [hj] at e; cases e
    · exact e (hj.trans hi.symm)
  · rcases row_other h'.row (h.deps y hy).1 with e | e
    · rw [hi] at e; cases e
    · exact e (hi.trans hj.symm)
  · exact hd y hy z hz j hi hj
theorem tot_parts (p : V → Bool) (vs : List V) : (vs.filter p).length + (vs.filter fun v => !p v).length = vs.length ∧ tot (vs.filter p) + tot (vs.filter fun v => !p v) = tot vs := by
  induction vs with
  | nil => exact ⟨rfl, rfl⟩
  | cons v vs ih =>
    cases hp : p v <;> simp only [List.filter_cons, hp, Bool.not_true, Bool.not_false, if_true, List.length_cons, tot_cons] <;> simp only [Bool.false_eq_true, if_false] <;> omega
theorem slot_parts (vs : List V) (s : Int) : (slotL vs s).length + (restL vs s).length ≤ vs.length ∧ tot (slotL vs s) + tot (restL vs s) ≤ tot vs ∧ (∀ v ∈ slotL vs s, v ∈ vs) ∧ ∀ v ∈ restL vs s, v ∈ vs := by
  cases hc : chainB vs with
  | false => rw [(slotL_no hc s).1, (slotL_no hc s).2]; simp [tot]
  | true =>
    rw [(slotL_yes hc s).1, (slotL_yes hc s).2]
    have := tot_parts (fun v => slotOf v.k == s) vs
    exact ⟨by omega, by omega, fun v hv => (List.mem_filter.1 hv).1, fun v hv => (List.mem_filter.1 hv).1⟩

set_option maxHeartbeats 8000000 in
theorem lawXChainSlot (a : Option Addr) (cap : Nat) (vs : List V) (slot : Int) (w : World) (hn : vs.length ≤ maxLen) (h : VersI w a vs) :
    Calls Try.prog 27 #[.slice a vs.length cap, .int .i64 slot] w fun e w' => e = .returned (.bool true) ∧ Below w.heap.size w w' := by
  have hz := szVers_any a cap vs w hn h
  by_cases hbig : (1048576 : Int) < (vs.length : Int) + tot vs
  · rw [if_pos hbig] at hz
    go_enter Try.func27, Try.ntmps27
    go_wp2_with fail
    refine hz.mono ?_
    rintro e w1 ⟨rfl, hb1⟩
    clear hz
    go_wp2
    go_ret
    exact ⟨rfl, hb1⟩
  rw [if_neg hbig] at hz
  have hx : vs.length ≤ 1048576 := by omega
  have hl : ∀ v ∈ vs, v.ds.length ≤ 1048576 := fun v hv => by have := tot_mem hv; omega
  have hend : endV 1 vs ≤ 10000000 := by unfold endV; omega
  have hend0 : 0 ≤ endV 1 vs := by unfold endV; omega
  have hV := h.vers (fun v hv => by have := hl v hv; omega)
  have hpos : (0 : Int) ≤ 1048576 - vs.length - (tot vs : Int) := by omega
  obtain ⟨p1, p2, p3, p4⟩ := slot_parts vs slot
  have hS := fun b c W h => sSlotC_any b c vs slot W (by omega) h
  have hI := fun b c W h => iSlotC_any b c vs slot W (by omega) h
  generalize slotL vs slot = sl at *
  generalize restL vs slot = re at *
  have ls : sl.length ≤ 1048576 := by omega
  have lr : re.length ≤ 1048576 := by omega
  have ds : ∀ v ∈ sl, v.ds.length ≤ 1048576 := fun v hv => hl v (p3 v hv)
  have dr : ∀ v ∈ re, v.ds.length ≤ 1048576 := fun v hv => hl v (p4 v hv)
  have es : endV 1 sl ≤ 10000000 := by unfold endV; omega
  have es0 : 0 ≤ endV 1 sl := by unfold endV; omega
  have er : endV (endV 1 sl) re ≤ 10000000 := by unfold endV; omega
  have er0 : 0 ≤ endV (endV 1 sl) re := by unfold endV; omega
  clear hbig h hn p1 p2 p3 p4
  go_enter Try.func27, Try.ntmps27
  go_wp2_with fail
  refine hz.mono ?_
  rintro e w1 ⟨rfl, hb1⟩
  clear hz
  go_wp2_with fail
  refine (toVers_any a cap vs _ hx hl (hV.below hb1)).mono ?_
  rintro e w2 ⟨u2, ys2, rfl, O2, hy2, hb2⟩
  obtain ⟨a2, c2, rfl, V2⟩ := O2.asL hy2
  have B2 : Below w.heap.size w w2 := hb1.trans (hb2.mono hb1.size)
  clear hb1 hb2 O2
  go_wp2_with fail
  refine (hS a2 c2 _ V2).mono ?_
  rintro e w3 ⟨u3, ys3, u3', zs3, rfl, ⟨P3, Q3, _, _⟩, hys3, hzs3, hb3⟩
  obtain ⟨aP, cP, rfl, _⟩ := P3.asL hys3
  obtain ⟨aQ, cQ, rfl, _⟩ := Q3.asL hzs3
  have B3 : Below w.heap.size w w3 := B2.trans (hb3.mono B2.size)
  have hP : ∀ j, inV (Value.slice aP sl.length cP) ys3 j → j < w3.heap.size := fun j hj => (P3.lt hj).2
  have hQ : ∀ j, inV (Value.slice aQ re.length cQ) zs3 j → j < w3.heap.size := fun j hj => (Q3.lt hj).2
  have hbase : w.heap.size ≤ w3.heap.size := B3.size
  clear B2 hb3 V2 hS hy2
  go_wp2_with fail
  refine (toVers_any a cap vs _ hx hl (hV.below B3)).mono ?_
  rintro e w4 ⟨u4, ys4, rfl, X4, hy4, hb4⟩
  obtain ⟨a4, c4, rfl, V4⟩ := X4.asL hy4
  have hX : ∀ j, inV (Value.slice a4 vs.length c4) ys4 j → w3.heap.size ≤ j ∧ j < w4.heap.size := fun j hj => X4.lt hj
  have P4 := P3.below hb4 (Nat.le_refl _)
  have Q4 := Q3.below hb4 (Nat.le_refl _)
  have B4 : Below w.heap.size w w4 := B3.trans (hb4.mono B3.size)
  have z4 := hb4.size
  clear B3 hb4 P3 Q3
  go_wp2_with fail
  refine (hI a4 c4 _ V4).mono ?_
  rintro e w5 ⟨u5, ys5, u5', zs5, rfl, G5, H5, ap1, ap2, hys5, hzs5, hb5⟩
  obtain ⟨aG, cG, rfl, _⟩ := G5.asL hys5
  obtain ⟨aH, cH, rfl, _⟩ := H5.asL hzs5
  have hGH := two_apart G5 H5 ap1 ap2
  have hG : ∀ j, inV (Value.slice aG sl.length cG) ys5 j → w4.heap.size ≤ j := fun j hj => (G5.lt hj).1
  have hH : ∀ j, inV (Value.slice aH re.length cH) zs5 j → w4.heap.size ≤ j := fun j hj => (H5.lt hj).1
  have X5 := X4.below hb5 (Nat.le_refl _)
  have P5 := P4.below hb5 (Nat.le_refl _)
  have Q5 := Q4.below hb5 (Nat.le_refl _)
  have B5 : Below w.heap.size w w5 := B4.trans (hb5.mono B4.size)
  clear V4 B4 hb5 X4 P4 Q4 ap1 ap2
  go_wp2_with fail
  refine (eqVers_any aG aP sl cG cP _ ls ds (G5.versAt hys5) (P5.versAt hys3)).mono ?_
  rintro e w6 ⟨rfl, hb6⟩
  have X6 := X5.below hb6 (Nat.le_refl _)
  have P6 := P5.below hb6 (Nat.le_refl _)
  have Q6 := Q5.below hb6 (Nat.le_refl _)
  have G6 := G5.below hb6 (Nat.le_refl _)
  have H6 := H5.below hb6 (Nat.le_refl _)
  have B6 : Below w.heap.size w w6 := B5.trans (hb6.mono B5.size)
  clear X5 P5 Q5 G5 H5 B5 hb6
  go_wp2_with fail
  refine (eqVers_any aH aQ re cH cQ _ lr dr (H6.versAt hzs5) (Q6.versAt hzs3)).mono ?_
  rintro e w7 ⟨rfl, hb7⟩
  have X7 := X6.below hb7 (Nat.le_refl _)
  have P7 := P6.below hb7 (Nat.le_refl _)
  have Q7 := Q6.below hb7 (Nat.le_refl _)
  have G7 := G6.below hb7 (Nat.le_refl _)
  have H7 := H6.below hb7 (Nat.le_refl _)
  have B7 : Below w.heap.size w w7 := B6.trans (hb7.mono B6.size)
  clear X6 P6 Q6 G6 H6 B6 hb7
  go_wp2_with fail
  refine (toVers_any a cap vs _ hx hl (hV.below B7)).mono ?_
  rintro e w8 ⟨u8, ys8, rfl, O8, hy8, hb8⟩
  obtain ⟨a8, c8, rfl, V8⟩ := O8.asL hy8
  have X8 := X7.below hb8 (Nat.le_refl _)
  have P8 := P7.below hb8 (Nat.le_refl _)
  have Q8 := Q7.below hb8 (Nat.le_refl _)
  have G8 := G7.below hb8 (Nat.le_refl _)
  have H8 := H7.below hb8 (Nat.le_refl _)
  have B8 : Below w.heap.size w w8 := B7.trans (hb8.mono B7.size)
  clear X7 P7 Q7 G7 H7 B7 hb8
  clear O8
  go_wp2_with fail
  refine (eqVers_any a4 a8 vs c4 c8 _ hx hl (X8.versAt hy4) V8).mono ?_
  rintro e w9 ⟨rfl, hb9⟩
  clear V8
  have X9 := X8.below hb9 (Nat.le_refl _)
  have P9 := P8.below hb9 (Nat.le_refl _)
  have Q9 := Q8.below hb9 (Nat.le_refl _)
  have G9 := G8.below hb9 (Nat.le_refl _)
  have H9 := H8.below hb9 (Nat.le_refl _)
  have B9 : Below w.heap.size w w9 := B8.trans (hb9.mono B8.size)
  clear X8 P8 Q8 G8 H8 B8 hb9
  go_wp2_with fail
  refine (markVers_as _ _ ys4 vs 1 _ hy4 (by omega) hl (by omega) hend X9).mono ?_
  rintro e w10 ⟨rfl, _, on10⟩
  have P10 := on10.ownV P9 (fun j hj hj' => by have := hX j hj'; have := hP j hj; omega)
  have Q10 := on10.ownV Q9 (fun j hj hj' => by have := hX j hj'; have := hQ j hj; omega)
  have G10 := on10.ownV G9 (fun j hj hj' => by have := hX j hj'; have := hG j hj; omega)
  have H10 := on10.ownV H9 (fun j hj hj' => by have := hX j hj'; have := hH j hj; omega)
  have B10 : Below w.heap.size w w10 := B9.trans (on10.below B9.size (fun j hj => by have := hX _ hj; omega))
  clear X9 P9 Q9 G9 H9 B9 on10 hX
  generalize endV 1 vs = k9 at *
  go_wp2_with fail
  refine (eqVers_any aG aP sl cG cP _ ls ds (G10.versAt hys5) (P10.versAt hys3)).mono ?_
  rintro e w11 ⟨rfl, hb11⟩
  have P11 := P10.below hb11 (Nat.le_refl _)
  have Q11 := Q10.below hb11 (Nat.le_refl _)
  have G11 := G10.below hb11 (Nat.le_refl _)
  have H11 := H10.below hb11 (Nat.le_refl _)
  have B11 : Below w.heap.size w w11 := B10.trans (hb11.mono B10.size)
  clear P10 Q10 G10 H10 B10 hb11
  go_wp2_with fail
  refine (eqVers_any aH aQ re cH cQ _ lr dr (H11.versAt hzs5) (Q11.versAt hzs3)).mono ?_
  rintro e w12 ⟨rfl, hb12⟩
  have P12 := P11.below hb12 (Nat.le_refl _)
  have Q12 := Q11.below hb12 (Nat.le_refl _)
  have G12 := G11.below hb12 (Nat.le_refl _)
  have H12 := H11.below hb12 (Nat.le_refl _)
  have B12 : Below w.heap.size w w12 := B11.trans (hb12.mono B11.size)
  clear P11 Q11 G11 H11 B11 hb12
  go_wp2_with fail
  refine (markVers_as _ _ ys5 sl 1 _ hys5 (by omega) ds (by omega) es G12).mono ?_
  rintro e w13 ⟨rfl, ⟨gs, G13, hgs, hgi⟩, on13⟩
  have P13 := on13.ownV P12 (fun j hj hj' => by have := hG j hj'; have := hP j hj; omega)
  have Q13 := on13.ownV Q12 (fun j hj hj' => by have := hG j hj'; have := hQ j hj; omega)
  have H13 := on13.ownV H12 hGH
  have B13 : Below w.heap.size w w13 := B12.trans (on13.below B12.size (fun j hj => by have := hG _ hj; omega))
  clear P12 Q12 G12 H12 B12 on13
  go_wp2_with fail
  refine (markVers_as _ _ zs5 re (endV 1 sl) _ hzs5 (by omega) dr es0 er H13).mono ?_
  rintro e w14 ⟨rfl, ⟨ks, H14, hks, _⟩, on14⟩
  have P14 := on14.ownV P13 (fun j hj hj' => by have := hH j hj'; have := hP j hj; omega)
  have Q14 := on14.ownV Q13 (fun j hj hj' => by have := hH j hj'; have := hQ j hj; omega)
  have G14 := on14.ownV G13 (fun j hj hj' => hGH j hj' (hgi j hj))
  have B14 : Below w.heap.size w w14 := B13.trans (on14.below B13.size (fun j hj => by have := hH _ hj; omega))
  clear P13 Q13 G13 H13 B13 on14 hGH hgi
  go_wp2_with fail
  refine (heldVers_any aG cG sl 1 _ (by omega) ds (by omega) es (G14.versAt hgs)).mono ?_
  rintro e w15 ⟨rfl, rfl⟩
  go_wp2_with fail
  refine (heldVers_any aH cH re (endV 1 sl) _ (by omega) dr es0 er (H14.versAt hks)).mono ?_
  rintro e w16 ⟨rfl, rfl⟩
  go_wp2_with fail
  refine (toVers_any a cap vs _ hx hl (hV.below B14)).mono ?_
  rintro e w17 ⟨u17, ys17, rfl, O17, hy17, hb17⟩
  obtain ⟨a17, c17, rfl, V17⟩ := O17.asL hy17
  have P17 := P14.below hb17 (Nat.le_refl _)
  have Q17 := Q14.below hb17 (Nat.le_refl _)
  have G17 := G14.below hb17 (Nat.le_refl _)
  have H17 := H14.below hb17 (Nat.le_refl _)
  have B17 : Below w.heap.size w w17 := B14.trans (hb17.mono B14.size)
  clear P14 Q14 G14 H14 B14 hb17
  clear O17
  go_wp2_with fail
  refine (hI a17 c17 _ V17).mono ?_
  rintro e w18 ⟨u18, ys18, u18', zs18, rfl, S18, T18, _, _, hys18, hzs18, hb18⟩
  obtain ⟨aS, cS, rfl, _⟩ := S18.asL hys18
  obtain ⟨aT, cT, rfl, _⟩ := T18.asL hzs18
  have P18 := P17.below hb18 (Nat.le_refl _)
  have Q18 := Q17.below hb18 (Nat.le_refl _)
  have G18 := G17.below hb18 (Nat.le_refl _)
  have H18 := H17.below hb18 (Nat.le_refl _)
  have B18 : Below w.heap.size w w18 := B17.trans (hb18.mono B17.size)
  clear P17 Q17 G17 H17 B17 hb18
  clear V17 hI
  go_wp2_with fail
  refine (eqVers_any aS aP sl cS cP _ ls ds (S18.versAt hys18) (P18.versAt hys3)).mono ?_
  rintro e w19 ⟨rfl, hb19⟩
  clear S18
  have P19 := P18.below hb19 (Nat.le_refl _)
  have Q19 := Q18.below hb19 (Nat.le_refl _)
  have G19 := G18.below hb19 (Nat.le_refl _)
  have H19 := H18.below hb19 (Nat.le_refl _)
  have T19 := T18.below hb19 (Nat.le_refl _)
  have B19 : Below w.heap.size w w19 := B18.trans (hb19.mono B18.size)
  clear P18 Q18 G18 H18 T18 B18 hb19
  go_wp2_with fail
  refine (eqVers_any aT aQ re cT cQ _ lr dr (T19.versAt hzs18) (Q19.versAt hzs3)).mono ?_
  rintro e w20 ⟨rfl, hb20⟩
  have P20 := P19.below hb20 (Nat.le_refl _)
  have Q20 := Q19.below hb20 (Nat.le_refl _)
  have G20 := G19.below hb20 (Nat.le_refl _)
  have H20 := H19.below hb20 (Nat.le_refl _)
  have T20 := T19.below hb20 (Nat.le_refl _)
  have B20 : Below w.heap.size w w20 := B19.trans (hb20.mono B19.size)
  clear P19 Q19 G19 H19 T19 B19 hb20
  go_wp2_with fail
  refine (heldVers_any aG cG sl 1 _ (by omega) ds (by omega) es (G20.versAt hgs)).mono ?_
  rintro e w21 ⟨rfl, rfl⟩
  go_wp2_with fail
  refine (heldVers_any aH cH re (endV 1 sl) _ (by omega) dr es0 er (H20.versAt hks)).mono ?_
  rintro e w22 ⟨rfl, rfl⟩
  clear P20 Q20 G20 H20 T20
  go_wp2_with fail
  go_ret
  exact ⟨rfl, B20⟩
end Go.Proofs.Ytgdkoangpinieaa
