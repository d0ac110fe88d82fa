/- The exact law of ChainPut. -/
import Derived.Test.YtgdkoangpinieaaXMarkV
import Derived.Test.YtgdkoangpinieaaGAQ
import Derived.Test.YtgdkoangpinieaaSPutC
import Derived.Test.YtgdkoangpinieaaGAL
namespace Go.Proofs.Ytgdkoangpinieaa
open Go.ChangeShapes Go.WideShapes Go.ChangeAt Go.RowKit Go.Deep

theorem OwnV.asP {w : World} {base : Nat} {u : Value} {ys : List XV} {vs : List V} (h : OwnV w base u ys) (hy : ys.map XV.v = vs) : ∃ a cap, u = .slice a vs.length cap ∧ Vers w a vs := by
  obtain ⟨a, cap, h1, h2, h3⟩ := h.vers
  subst hy
  exact ⟨a, cap, by rw [h1, List.length_map], h2⟩
theorem OwnV.atP {w : World} {base : Nat} {a : Option Addr} {n cap : Nat} {ys : List XV} {vs : List V} (h : OwnV w base (.slice a n cap) ys) (hy : ys.map XV.v = vs) : Vers w a vs := by
  obtain ⟨a', c', e, V⟩ := h.asP hy
  injection e with e1 e2 e3
  subst e1; exact V
theorem Blk.onlyP {w w' : World} {S : Nat → Prop} {B : Nat} {vs : Array Value} {T : TypeId} (h : Blk w B vs T) (o : Only w w' S) (hB : ¬ S B) : Blk w' B vs T := (o.block B h.lt hB).trans h
theorem insV_parts (v : V) (vs : List V) : (insV v vs).length = vs.length + 1 ∧ tot (insV v vs) = tot vs + v.ds.length ∧ ∀ x ∈ insV v vs, x = v ∨ x ∈ vs := by
  induction vs with
  | nil => exact ⟨rfl, by simp [insV, tot], fun x hx => by simpa [insV] using hx⟩
  | cons y ys ih =>
    unfold insV
    split
    · exact ⟨rfl, by simp only [tot_cons]; omega, fun x hx => by simpa using hx⟩
    · refine ⟨by simp only [List.length_cons]; omega, by simp only [tot_cons]; omega, fun x hx => ?_⟩
      rcases List.mem_cons.1 hx with rfl | hx
      · exact .inr (by simp)
      · rcases ih.2.2 x hx with h | h
        · exact .inl h
        · exact .inr (by simp [h])
theorem put_parts (v : V) (vs : List V) : ((cPut vs v).length ≤ vs.length ∨ (cPut vs v).length ≤ 80) ∧ (cPut vs v).length ≤ vs.length + 1 ∧ tot (cPut vs v) ≤ tot vs + v.ds.length ∧ ∀ x ∈ cPut vs v, x = v ∨ x ∈ vs := by
  unfold cPut
  split
  · split
    · rename_i hp
      have h80 : vs.length < 80 := by unfold putB at hp; simp at hp; omega
      have := insV_parts v vs
      exact ⟨.inr (by omega), by omega, by omega, this.2.2⟩
    · exact ⟨.inl (Nat.le_refl _), by omega, by omega, fun x hx => .inr hx⟩
  · exact ⟨.inl (by simp), by simp, by simp [tot], fun x hx => (by cases hx)⟩
/-- What is known in a region of the law: nothing old has turned, and the version that came in. -/
def InW (w0 : World) (E : Nat) (vs : Array Value) (W : World) : Prop := Below w0.heap.size w0 W ∧ (E < W.heap.size ∧ ∀ j, W.cell? ⟨E, j, none⟩ = vs[j]?)
theorem InW.below {w0 w w' : World} {E : Nat} {vs : Array Value} (h : InW w0 E vs w) (k : Below w.heap.size w w') : InW w0 E vs w' := by
  obtain ⟨h1, ⟨a1, a2⟩⟩ := h
  exact ⟨h1.trans (k.mono h1.size), ⟨Nat.lt_of_lt_of_le a1 k.size, fun j => (k.cell (p := ⟨E, j, none⟩) a1).trans (a2 j)⟩⟩
theorem InW.only {w0 w w' : World} {E : Nat} {vs : Array Value} {S : Nat → Prop} (h : InW w0 E vs w) (o : Only w w' S) (hS : ∀ j, S j → w0.heap.size ≤ j ∧ j ≠ E) : InW w0 E vs w' := by
  obtain ⟨h1, ⟨a1, a2⟩⟩ := h
  have hk : w'.heap[E]? = w.heap[E]? := o.block E a1 (fun e => (hS E e).2 rfl)
  have hc : ∀ j, w'.cell? ⟨E, j, none⟩ = w.cell? ⟨E, j, none⟩ := fun j => World.cell?_of_block (w := w) hk
  exact ⟨h1.trans (o.below h1.size fun j hj => (hS j hj).1), Nat.lt_of_lt_of_le a1 o.size, fun j => (hc j).trans (a2 j)⟩
theorem InW.drew {w0 w : World} {E : Nat} {vs : Array Value} (h : InW w0 E vs w) : InW w0 E vs w.drew := h.below (Below.refl _ _).drew

set_option maxHeartbeats 8000000 in
set_option maxRecDepth 100000 in
theorem lawXChainPut (a : Option Addr) (cap : Nat) (vs : List V) (v : V) (va : Option Addr) (vc : Nat) (w : World) (hn : vs.length ≤ maxLen) (h : VersI w a vs) (hm : v.ds.length ≤ maxLen) (hd : Deps w va v.ds) :
    Calls Try.prog 23 #[.slice a vs.length cap, verV v.k v.t v.s v.val v.cl v.ca va v.ds.length vc] w fun e w' => e = .returned (.bool true) ∧ Below w.heap.size w w' := by
  have b0 : Below w.heap.size w (w.alloc (.cells #[.int .i64 v.k, .int .i64 v.t, .int .i64 v.s, .int .i64 v.val, .int .i64 v.cl, .int .i64 v.ca, .slice va v.ds.length vc] 92)) := (Below.refl _ w).alloc (Nat.le_refl _) _
  have A0 := Blk.new w #[.int .i64 v.k, .int .i64 v.t, .int .i64 v.s, .int .i64 v.val, .int .i64 v.cl, .int .i64 v.ca, .slice va v.ds.length vc] 92
  have hz := szVers_any a cap vs _ hn (h.below b0)
  by_cases hbig : (1048576 : Int) < (vs.length : Int) + tot vs
  · rw [if_pos hbig] at hz
    go_enter Try.func23, Try.ntmps23
    go_wp2_with fail
    refine hz.mono ?_
    rintro e w1 ⟨rfl, hb1⟩
    clear hz
    go_wp2
    go_ret
    exact ⟨rfl, b0.trans (hb1.mono b0.size)⟩
  rw [if_neg hbig] at hz
  have hx : vs.length ≤ 1048576 := by omega
  have hl : ∀ v ∈ vs, v.ds.length ≤ 1048576 := fun v hv => by have := tot_mem hv; omega
  have hV := h.vers (fun v hv => by have := hl v hv; omega)
  have hpos : (0 : Int) ≤ 1048576 - vs.length - (tot vs : Int) := by omega
  have hz2 := fun w => szVerL_any v.k v.t v.s v.val v.cl v.ca (1048576 - vs.length - (tot vs : Int)) va v.ds.length vc w hm hpos (by omega)
  by_cases hbig2 : (1048576 - vs.length - (tot vs : Int)) < (v.ds.length : Int)
  · rw [if_pos hbig2] at hz2
    go_enter Try.func23, Try.ntmps23
    go_wp2_with fail
    refine hz.mono ?_
    rintro e w1 ⟨rfl, hb1⟩
    have A1 := A0.below hb1 A0.lt
    have B1 : Below w.heap.size w w1 := b0.trans (hb1.mono b0.size)
    clear hz hb1 A0 b0
    obtain ⟨q1, g1⟩ := A1.rules
    go_wp2_with fail
    refine (hz2 _).mono ?_
    rintro e w2 ⟨rfl, hb2⟩
    clear hz2 q1 g1 A1
    go_wp2
    go_ret
    exact ⟨rfl, B1.trans (hb2.mono B1.size)⟩
  rw [if_neg hbig2] at hz2
  have hpos2 : (0 : Int) ≤ 1048576 - vs.length - (tot vs : Int) - (v.ds.length : Int) := by omega
  have hvl : v.ds.length ≤ 1048576 := by omega
  have hvl' : v.ds.length ≤ 1099511627776 := by omega
  have hend : endV 1 vs ≤ 10000000 := by unfold endV; omega
  have hend0 : 0 ≤ endV 1 vs := by unfold endV; omega
  have hend2 : 0 ≤ endV 1 vs + 3 * (v.ds.length : Int) := by omega
  obtain ⟨p1, p2, p3, p4⟩ := put_parts v vs
  have hS := fun b c W va vc h h' => sPutV_any b c vs v va vc W (by omega) h hvl' h'
  have hI := fun b c W va vc h h' => iPutV_any b c vs v va vc W (by omega) h hvl' h'
  generalize cPut vs v = pl at *
  generalize cDid vs v = r at *
  have lp : pl.length ≤ 1048576 := by omega
  have dp : ∀ x ∈ pl, x.ds.length ≤ 1048576 := fun x hx' => (p4 x hx').elim (fun e => e ▸ hvl) (hl x)
  have ep : endV 1 pl ≤ 10000000 := by unfold endV; omega
  have ep0 : 0 ≤ endV 1 pl := by unfold endV; omega
  clear hbig hbig2 h hn hm p1 p2 p3 p4
  go_enter Try.func23, Try.ntmps23
  go_wp2_with fail
  refine hz.mono ?_
  rintro e w0 ⟨rfl, hb0⟩
  have A1 := A0.below hb0 A0.lt
  have B1 : Below w.heap.size w w0 := b0.trans (hb0.mono b0.size)
  clear hz hb0 A0 b0
  obtain ⟨q1, g1⟩ := A1.rules
  go_wp2_with fail
  refine (hz2 _).mono ?_
  rintro e w1 ⟨rfl, hb1⟩
  have A2 := A1.below hb1 A1.lt
  have R : InW w w.heap.size #[.int .i64 v.k, .int .i64 v.t, .int .i64 v.s, .int .i64 v.val, .int .i64 v.cl, .int .i64 v.ca, .slice va v.ds.length vc] w1 := ⟨B1.trans (hb1.mono B1.size), A2.lt, A2.cell⟩
  clear hz2 q1 g1 A1 A2 B1 hb1
  go_wp2_with fail
  go_region_held3 (fun W => Below w.heap.size w W ∧ (w.heap.size < W.heap.size ∧ ∀ j, W.cell? ⟨w.heap.size, j, none⟩ = #[.int .i64 v.k, .int .i64 v.t, .int .i64 v.s, .int .i64 v.val, .int .i64 v.cl, .int .i64 v.ca, .slice va v.ds.length vc][j]?)) (first | exact InW.drew (by assumption) | exact InW.below (by assumption) (by assumption)) (first | (go_at_call 77; refine (toVers_any a cap vs _ hx hl (hV.below (InW.drew R).1)).mono ?_; rintro e w2 ⟨u2, ys2, rfl, O2, hy2, hb2⟩; obtain ⟨a2, c2, rfl, V2⟩ := O2.asP hy2) | (go_at_call 80; refine (toVer_any v.k v.t v.s v.val v.cl v.ca va vc v.ds _ hvl (hd.below (((InW.drew R).below hb2).1))).mono ?_; rintro e w2' ⟨b2, rfl, D2, hb2'⟩) | (go_at_call 29; refine (hS a2 c2 _ _ _ (V2.below hb2') (row_deps D2)).mono ?_; rintro e w3 ⟨u3, ys3, rfl, P3, hy3, hb3⟩; obtain ⟨aP, cP, rfl, _⟩ := P3.asP hy3))
  rename_i I3
  have I3 : InW w w.heap.size #[.int .i64 v.k, .int .i64 v.t, .int .i64 v.s, .int .i64 v.val, .int .i64 v.cl, .int .i64 v.ca, .slice va v.ds.length vc] w3 := I3
  have hP : ∀ j, inV (Value.slice aP pl.length cP) ys3 j → w.heap.size + 1 ≤ j ∧ j < w3.heap.size := fun j hj => by
    have h1 := P3.lt hj
    have h2 := (((InW.drew R).below hb2).below hb2').2.1
    omega
  clear R O2 V2 hb2 hb2' D2 hb3 hS hy2
  go_wp2_with fail
  refine (toVers_any a cap vs _ hx hl (hV.below I3.1)).mono ?_
  rintro e w4 ⟨u4, ys4, rfl, X4, hy4, hb4⟩
  obtain ⟨a4, c4, rfl, V4⟩ := X4.asP hy4
  have hX : ∀ j, inV (Value.slice a4 vs.length c4) ys4 j → w3.heap.size ≤ j ∧ j < w4.heap.size := fun j hj => X4.lt hj
  have hA : w.heap.size < w3.heap.size := I3.2.1
  have P4 := P3.below hb4 (Nat.le_refl _)
  have I4 := I3.below hb4
  have z4 := hb4.size
  clear hb4 P3 I3
  have q1 := I4.2.2
  go_wp2_with fail
  clear q1
  refine (toVer_any v.k v.t v.s v.val v.cl v.ca va vc v.ds _ hvl (hd.below I4.1)).mono ?_
  rintro e w5 ⟨b5, rfl, D5, hb5⟩
  have hD : ∀ j, (Value.slice (some ⟨b5, 0, none⟩) v.ds.length v.ds.length).ownBlock = some j → w4.heap.size ≤ j ∧ j < w5.heap.size := fun j hj => D5.lt j hj
  have P5 := (P4.below hb5 (Nat.le_refl _)).alloc (.cells #[.int .i64 v.k, .int .i64 v.t, .int .i64 v.s, .int .i64 v.val, .int .i64 v.cl, .int .i64 v.ca, .slice (some ⟨b5, 0, none⟩) v.ds.length v.ds.length] 28)
  have X5 := (X4.below hb5 (Nat.le_refl _)).alloc (.cells #[.int .i64 v.k, .int .i64 v.t, .int .i64 v.s, .int .i64 v.val, .int .i64 v.cl, .int .i64 v.ca, .slice (some ⟨b5, 0, none⟩) v.ds.length v.ds.length] 28)
  have V5 := (V4.below hb5).below ((Below.refl _ _).alloc (Nat.le_refl _) (.cells #[.int .i64 v.k, .int .i64 v.t, .int .i64 v.s, .int .i64 v.val, .int .i64 v.cl, .int .i64 v.ca, .slice (some ⟨b5, 0, none⟩) v.ds.length v.ds.length] 28))
  have I5 := (I4.below hb5).below ((Below.refl _ _).alloc (Nat.le_refl _) (.cells #[.int .i64 v.k, .int .i64 v.t, .int .i64 v.s, .int .i64 v.val, .int .i64 v.cl, .int .i64 v.ca, .slice (some ⟨b5, 0, none⟩) v.ds.length v.ds.length] 28))
  have D5' := D5.alloc (.cells #[.int .i64 v.k, .int .i64 v.t, .int .i64 v.s, .int .i64 v.val, .int .i64 v.cl, .int .i64 v.ca, .slice (some ⟨b5, 0, none⟩) v.ds.length v.ds.length] 28)
  have E5 := Blk.new w5 #[.int .i64 v.k, .int .i64 v.t, .int .i64 v.s, .int .i64 v.val, .int .i64 v.cl, .int .i64 v.ca, .slice (some ⟨b5, 0, none⟩) v.ds.length v.ds.length] 28
  have z5 := hb5.size
  have z5' : (w5.alloc (.cells #[.int .i64 v.k, .int .i64 v.t, .int .i64 v.s, .int .i64 v.val, .int .i64 v.cl, .int .i64 v.ca, .slice (some ⟨b5, 0, none⟩) v.ds.length v.ds.length] 28)).heap.size = w5.heap.size + 1 := by simp
  clear P4 X4 V4 I4 D5 hb5
  obtain ⟨q2, g2⟩ := E5.rules
  go_wp2_with fail
  clear q2 g2
  generalize w5.alloc (.cells #[.int .i64 v.k, .int .i64 v.t, .int .i64 v.s, .int .i64 v.val, .int .i64 v.cl, .int .i64 v.ca, .slice (some ⟨b5, 0, none⟩) v.ds.length v.ds.length] 28) = w5' at *
  refine (hI a4 c4 _ _ _ V5 (row_deps D5')).mono ?_
  rintro e w6 ⟨u6, ys6, rfl, G6, hy6, hb6⟩
  obtain ⟨aG, cG, rfl, _⟩ := G6.asP hy6
  have hG : ∀ j, inV (Value.slice aG pl.length cG) ys6 j → w5.heap.size + 1 ≤ j := fun j hj => by have := (G6.lt hj).1; omega
  have P6 := P5.below hb6 (Nat.le_refl _)
  have X6 := X5.below hb6 (Nat.le_refl _)
  have D6 := row_below D5' hb6 (Nat.le_refl _)
  have E6 := E5.below hb6 E5.lt
  have I6 := I5.below hb6
  clear P5 X5 V5 I5 D5' E5 hb6
  go_wp2_with fail
  refine (eqVers_any aG aP pl cG cP _ lp dp (G6.atP hy6) (P6.atP hy3)).mono ?_
  rintro e w7 ⟨rfl, hb7⟩
  have G7 := G6.below hb7 (Nat.le_refl _)
  have P7 := P6.below hb7 (Nat.le_refl _)
  have X7 := X6.below hb7 (Nat.le_refl _)
  have D7 := row_below D6 hb7 (Nat.le_refl _)
  have E7 := E6.below hb7 E6.lt
  have I7 := I6.below hb7
  clear G6 P6 X6 D6 E6 I6 hb7
  go_wp2_with fail
  refine (toVers_any a cap vs _ hx hl (hV.below I7.1)).mono ?_
  rintro e w8 ⟨u8, ys8, rfl, O8, hy8, hb8⟩
  obtain ⟨a8, c8, rfl, V8⟩ := O8.asP hy8
  clear O8
  have G8 := G7.below hb8 (Nat.le_refl _)
  have P8 := P7.below hb8 (Nat.le_refl _)
  have X8 := X7.below hb8 (Nat.le_refl _)
  have D8 := row_below D7 hb8 (Nat.le_refl _)
  have E8 := E7.below hb8 E7.lt
  have I8 := I7.below hb8
  clear G7 P7 X7 D7 E7 I7 hb8
  go_wp2_with fail
  refine (eqVers_any a4 a8 vs c4 c8 _ hx hl (X8.atP hy4) V8).mono ?_
  rintro e w9 ⟨rfl, hb9⟩
  clear V8
  have G9 := G8.below hb9 (Nat.le_refl _)
  have P9 := P8.below hb9 (Nat.le_refl _)
  have X9 := X8.below hb9 (Nat.le_refl _)
  have D9 := row_below D8 hb9 (Nat.le_refl _)
  have E9 := E8.below hb9 E8.lt
  have I9 := I8.below hb9
  clear G8 P8 X8 D8 E8 I8 hb9
  have J9 : InV w w.heap.size w5.heap.size _ _ w9 := ⟨I9.1, I9.2, ⟨E9.lt, E9.cell⟩⟩
  go_wp2_with fail
  go_region_held3 (fun W => Below w.heap.size w W ∧ (w.heap.size < W.heap.size ∧ ∀ j, W.cell? ⟨w.heap.size, j, none⟩ = #[.int .i64 v.k, .int .i64 v.t, .int .i64 v.s, .int .i64 v.val, .int .i64 v.cl, .int .i64 v.ca, .slice va v.ds.length vc][j]?) ∧ (w5.heap.size < W.heap.size ∧ ∀ j, W.cell? ⟨w5.heap.size, j, none⟩ = #[.int .i64 v.k, .int .i64 v.t, .int .i64 v.s, .int .i64 v.val, .int .i64 v.cl, .int .i64 v.ca, .slice (some ⟨b5, 0, none⟩) v.ds.length v.ds.length][j]?)) (first | exact InV.drew (by assumption) | exact InV.below (by assumption) (by assumption)) (first | (go_at_call 80; refine (toVer_any v.k v.t v.s v.val v.cl v.ca va vc v.ds _ hvl (hd.below (InV.drew J9).1)).mono ?_; rintro e w10 ⟨b10, rfl, T10, hb10⟩) | (go_at_call 81; refine (eqVer_any v.k v.t v.s v.val v.cl v.ca _ _ _ _ v.ds _ hvl (row_deps (row_below (row_below D9 (Below.refl _ _).drew (Nat.le_refl _)) hb10 (Nat.le_refl _))) (row_deps T10)).mono ?_; rintro e w11 ⟨rfl, hb11⟩))
  rename_i J11
  have hbb : Below w9.heap.size w9 w11 := ((Below.refl _ _).drew.trans (hb10.mono (Nat.le_refl _))).trans (hb11.mono hb10.size)
  clear J11 J9 T10 hb10 hb11
  have G11 := G9.below hbb (Nat.le_refl _)
  have P11 := P9.below hbb (Nat.le_refl _)
  have X11 := X9.below hbb (Nat.le_refl _)
  have D11 := row_below D9 hbb (Nat.le_refl _)
  have E11 := E9.below hbb E9.lt
  have I11 := I9.below hbb
  clear G9 P9 X9 D9 E9 I9 hbb
  go_wp2_with fail
  refine (markVers_as _ _ ys4 vs 1 _ hy4 (by omega) hl (by omega) hend X11).mono ?_
  rintro e w12 ⟨rfl, _, on12⟩
  have P12 := on12.ownV P11 (fun j hj hj' => by have := hX j hj'; have := hP j hj; omega)
  have G12 := on12.ownV G11 (fun j hj hj' => by have := hX j hj'; have := hG j hj; omega)
  have D12 := on12.row D11 (fun j hj hj' => by have := hX j hj'; have := hD j hj; omega)
  have E12 := E11.onlyP on12 (fun hj => by have := hX _ hj; omega)
  have I12 := I11.only on12 (fun j hj => by have := hX j hj; omega)
  clear P11 G11 D11 E11 I11 X11 on12
  obtain ⟨q2, g2⟩ := E12.rules
  go_wp2_with fail
  clear q2 g2
  refine (markVer_any v (some ⟨b5, 0, none⟩) v.ds.length _ (endV 1 vs) _ hvl hend0 hend D12).mono ?_
  rintro e w13 ⟨rfl, _, on13⟩
  have P13 := on13.ownV P12 (fun j hj hj' => by
    have a1 := hP j hj; have a2 := (P12.lt hj).2
    rcases hj' with hj' | hj'
    · omega
    · have := hD _ hj'; omega)
  have G13 := on13.ownV G12 (fun j hj hj' => by
    have a1 := hG j hj; have a2 := (G12.lt hj).2
    rcases hj' with hj' | hj'
    · omega
    · have := hD _ hj'; omega)
  have I13 := I12.only on13 (fun j hj => by
    have a2 := I12.2.1; have a3 := I12.1.size
    rcases hj with hj | hj
    · omega
    · have := hD _ hj; omega)
  clear P12 G12 D12 E12 I12 on13
  generalize endV 1 vs + 3 * (v.ds.length : Int) = k13 at *
  go_wp2_with fail
  refine (eqVers_any aG aP pl cG cP _ lp dp (G13.atP hy6) (P13.atP hy3)).mono ?_
  rintro e w14 ⟨rfl, hb14⟩
  have G14 := G13.below hb14 (Nat.le_refl _)
  have P14 := P13.below hb14 (Nat.le_refl _)
  have I14 := I13.below hb14
  clear G13 P13 I13 hb14
  go_wp2_with fail
  refine (markVers_as _ _ ys6 pl 1 _ hy6 (by omega) dp (by omega) ep G14).mono ?_
  rintro e w15 ⟨rfl, ⟨gs, G15, hgs, _⟩, on15⟩
  have P15 := on15.ownV P14 (fun j hj hj' => by have := hG j hj'; have := hP j hj; omega)
  have I15 := I14.only on15 (fun j hj => by have := hG j hj; omega)
  clear P14 G14 I14 on15
  go_wp2_with fail
  refine (heldVers_any aG cG pl 1 _ (by omega) dp (by omega) ep (G15.atP hgs)).mono ?_
  rintro e w16 ⟨rfl, rfl⟩
  have R := I15
  go_wp2_with fail
  go_region_held3 (fun W => Below w.heap.size w W ∧ (w.heap.size < W.heap.size ∧ ∀ j, W.cell? ⟨w.heap.size, j, none⟩ = #[.int .i64 v.k, .int .i64 v.t, .int .i64 v.s, .int .i64 v.val, .int .i64 v.cl, .int .i64 v.ca, .slice va v.ds.length vc][j]?)) (first | exact InW.drew (by assumption) | exact InW.below (by assumption) (by assumption)) (first | (go_at_call 77; refine (toVers_any a cap vs _ hx hl (hV.below (InW.drew R).1)).mono ?_; rintro e w17 ⟨u17, ys17, rfl, O17, hy17, hb17⟩; obtain ⟨a17, c17, rfl, V17⟩ := O17.asP hy17) | (go_at_call 80; refine (toVer_any v.k v.t v.s v.val v.cl v.ca va vc v.ds _ hvl (hd.below (((InW.drew R).below hb17).1))).mono ?_; rintro e w17' ⟨b17, rfl, D17, hb17'⟩) | (go_at_call 31; refine (hI a17 c17 _ _ _ (V17.below hb17') (row_deps D17)).mono ?_; rintro e w18 ⟨u18, ys18, rfl, S18, hy18, hb18⟩; obtain ⟨aS, cS, rfl, _⟩ := S18.asP hy18))
  rename_i I18
  have I18 : InW w w.heap.size #[.int .i64 v.k, .int .i64 v.t, .int .i64 v.s, .int .i64 v.val, .int .i64 v.cl, .int .i64 v.ca, .slice va v.ds.length vc] w18 := I18
  have hbb : Below w16.heap.size w16 w18 := (((Below.refl _ _).drew.trans (hb17.mono (Nat.le_refl _))).trans (hb17'.mono hb17.size)).trans (hb18.mono (Nat.le_trans hb17.size hb17'.size))
  have P18 := P15.below hbb (Nat.le_refl _)
  have G18 := G15.below hbb (Nat.le_refl _)
  clear R I15 O17 V17 hb17 hb17' D17 hb18 hbb P15 G15 hI
  go_wp2_with fail
  refine (eqVers_any aS aP pl cS cP _ lp dp (S18.atP hy18) (P18.atP hy3)).mono ?_
  rintro e w19 ⟨rfl, hb19⟩
  have G19 := G18.below hb19 (Nat.le_refl _)
  have I19 := I18.below hb19
  clear P18 G18 S18 I18 hb19
  go_wp2_with fail
  refine (heldVers_any aG cG pl 1 _ (by omega) dp (by omega) ep (G19.atP hgs)).mono ?_
  rintro e w20 ⟨rfl, rfl⟩
  have BB := I19.1
  clear G19 I19
  go_wp2_with fail
  go_ret
  exact ⟨rfl, BB⟩
end Go.Proofs.Ytgdkoangpinieaa
