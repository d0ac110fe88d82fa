/- 2 texts in one: XSOk, XSOwns. -/
import Derived.Test.YtgdkoangpinieaaGSX
import Derived.Test.YtgdkoangpinieaaSvOkI
import Derived.Test.YtgdkoangpinieaaSvOkS
import Derived.Test.YtgdkoangpinieaaSvOwns
/- The exact law of ServerOk. -/
namespace Go.Proofs.Ytgdkoangpinieaa
open Go.ChangeShapes Go.WideShapes Go.ChangeAt Go.RowKit Go.Deep

set_option maxHeartbeats 4000000 in
set_option maxRecDepth 20000 in
theorem lawXServOk (x : Sv) (a : Sa) (w : World) (h : InJ w x a) :
    Calls Try.prog 18 #[servV x a] w fun e w' => e = .returned (.bool true) ∧ Below w.heap.size w w' := by
  have b0 : Below w.heap.size w (w.alloc (.cells #[.int .i64 x.site, .bool x.up, .slice a.la x.sl.length a.lc, .slice a.va x.vs.length a.vc, .slice a.wa x.ws.length a.wc, .slice a.oa x.os.length a.oc, .slice a.ka x.kn.length a.kc] 81)) := (Below.refl _ _).alloc (Nat.le_refl _) _
  have A0 := Blk.new w #[.int .i64 x.site, .bool x.up, .slice a.la x.sl.length a.lc, .slice a.va x.vs.length a.vc, .slice a.wa x.ws.length a.wc, .slice a.oa x.os.length a.oc, .slice a.ka x.kn.length a.kc] 81
  have I0 := h.below b0
  go_enter Try.func18, Try.ntmps18
  go_wp2_with fail
  generalize w.alloc (.cells #[.int .i64 x.site, .bool x.up, .slice a.la x.sl.length a.lc, .slice a.va x.vs.length a.vc, .slice a.wa x.ws.length a.wc, .slice a.oa x.os.length a.oc, .slice a.ka x.kn.length a.kc] 81) = w0 at *
  refine (szServer_any x a _ I0).mono ?_
  rintro e w1 ⟨r, rfl, hr, hb1⟩
  have A1 := A0.below hb1 A0.lt
  have I1 := I0.below hb1
  have B1 : Below w.heap.size w w1 := b0.trans (hb1.mono b0.size)
  clear A0 I0 b0 hb1
  rcases hr with hr | ⟨hr, hs⟩
  · have d1 : decide (r < 0) = true := by simpa using hr
    clear A1 I1 hr h
    go_wp2_with fail
    go_ret
    exact ⟨rfl, B1⟩
  have d1 : decide (r < 0) = false := by simp; omega
  have hF := Fit.of hs
  have L1 := I1.inS hs
  have hT := fun W h => toServer_any x a W hF h
  have hS := fun b W h => sServerOk_any x b W hF.len h
  have hI := fun b W h => iServerOk_any x b W hF.len h
  have hE := fun c b W h h' => eqServer_any x c b W hF h h'
  generalize servB x = q at *
  clear I1 h hs hF
  obtain ⟨q1, g1⟩ := A1.rules
  go_wp2_with fail
  clear q1 g1 d1
  refine (hT _ L1).mono ?_
  rintro e w2 ⟨b, ys, zs, rfl, M2, hb2⟩
  have A2 := A1.below hb2 A1.lt
  have L2 := L1.below hb2
  have B2 : Below w.heap.size w w2 := B1.trans (hb2.mono B1.size)
  have N2 := M2.inS
  clear A1 L1 B1 hb2 M2
  go_wp2_with fail
  refine (hS b _ N2).mono ?_
  rintro e w3 ⟨rfl, hb3⟩
  have A3 := A2.below hb3 A2.lt
  have L3 := L2.below hb3
  have B3 : Below w.heap.size w w3 := B2.trans (hb3.mono B2.size)
  clear A2 L2 B2 hb3 N2 hS
  obtain ⟨q1, g1⟩ := A3.rules
  go_wp2_with fail
  clear q1 g1
  refine (hT _ L3).mono ?_
  rintro e w4 ⟨b, ys, zs, rfl, M4, hb4⟩
  have b4 := (Below.refl _ w4).alloc (Nat.le_refl _) (.cells #[.int .i64 x.site, .bool x.up, .slice b.la x.sl.length b.lc, .slice b.va x.vs.length b.vc, .slice b.wa x.ws.length b.wc, .slice b.oa x.os.length b.oc, .slice b.ka x.kn.length b.kc] 63)
  have bb4 := hb4.trans (b4.mono hb4.size)
  have A4 := A3.below bb4 A3.lt
  have L4 := L3.below bb4
  have M4' := M4.inS.below b4
  have E4 := Blk.new w4 #[.int .i64 x.site, .bool x.up, .slice b.la x.sl.length b.lc, .slice b.va x.vs.length b.vc, .slice b.wa x.ws.length b.wc, .slice b.oa x.os.length b.oc, .slice b.ka x.kn.length b.kc] 63
  have B4 : Below w.heap.size w (w4.alloc (.cells #[.int .i64 x.site, .bool x.up, .slice b.la x.sl.length b.lc, .slice b.va x.vs.length b.vc, .slice b.wa x.ws.length b.wc, .slice b.oa x.os.length b.oc, .slice b.ka x.kn.length b.kc] 63)) := B3.trans (bb4.mono B3.size)
  clear A3 L3 B3 hb4 M4 b4 bb4
  obtain ⟨q1, g1⟩ := E4.rules
  go_wp2_with fail
  clear q1 g1
  generalize w4.alloc (.cells #[.int .i64 x.site, .bool x.up, .slice b.la x.sl.length b.lc, .slice b.va x.vs.length b.vc, .slice b.wa x.ws.length b.wc, .slice b.oa x.os.length b.oc, .slice b.ka x.kn.length b.kc] 63) = w4' at *
  refine (hI b _ M4').mono ?_
  rintro e w5 ⟨rfl, hb5⟩
  have A5 := A4.below hb5 A4.lt
  have E5 := E4.below hb5 E4.lt
  have L5 := L4.below hb5
  have M5 := M4'.below hb5
  have B5 : Below w.heap.size w w5 := B4.trans (hb5.mono B4.size)
  have I5 : InV w5 w.heap.size w4.heap.size _ _ w5 := ⟨Below.refl _ _, ⟨A5.lt, A5.cell⟩, ⟨E5.lt, E5.cell⟩⟩
  clear A4 E4 L4 M4' B4 hb5 hI A5 E5
  go_wp2_with fail
  go_region_held3 (fun W => Below w5.heap.size w5 W ∧ (w.heap.size < W.heap.size ∧ ∀ j, W.cell? ⟨w.heap.size, j, none⟩ = #[.int .i64 x.site, .bool x.up, .slice a.la x.sl.length a.lc, .slice a.va x.vs.length a.vc, .slice a.wa x.ws.length a.wc, .slice a.oa x.os.length a.oc, .slice a.ka x.kn.length a.kc][j]?) ∧ (w4.heap.size < W.heap.size ∧ ∀ j, W.cell? ⟨w4.heap.size, j, none⟩ = #[.int .i64 x.site, .bool x.up, .slice b.la x.sl.length b.lc, .slice b.va x.vs.length b.vc, .slice b.wa x.ws.length b.wc, .slice b.oa x.os.length b.oc, .slice b.ka x.kn.length b.kc][j]?)) (first | exact InV.drew (by assumption) | exact InV.below (by assumption) (by assumption)) (first | (go_at_call 69; refine (hT _ (L5.below (InV.drew I5).1)).mono ?_; rintro e w6 ⟨c, ys6, zs6, rfl, M6, h6⟩) | (go_at_call 64; refine (hE b c _ ((M5.below (InV.drew I5).1).below h6) M6.inS).mono ?_; rintro e w7 ⟨rfl, h7⟩))
  rename_i I7
  have BB7 : Below w.heap.size w w7 := B5.trans (I7.1.mono B5.size)
  clear I7 I5 M5 M6 h6 h7 L5 B5 hT hE
  go_wp2_with fail
  go_ret
  exact ⟨by simp, BB7⟩
end Go.Proofs.Ytgdkoangpinieaa

/- The specification's ServerOwns; the exact law. -/
namespace Go.Proofs.Ytgdkoangpinieaa
open Go.ChangeShapes Go.WideShapes Go.ChangeAt Go.RowKit Go.Deep

theorem sServerOk_is {x : Sv} {a : Sa} {r : Bool} (h : servB x = r) {w : World} (hl : LenS x) (hi : InS w x a) : Calls Try.prog 68 #[servV x a] w fun e w' => e = .returned (.bool r) ∧ Below w.heap.size w w' := by rw [← h]; exact sServerOk_any x a w hl hi
theorem skey_b {n : Int} {r : Bool} (h : inB n 0 5 = r) {w : World} : Calls Try.prog 117 #[.int .i64 n] w fun e w' => e = .returned (.bool r) ∧ Below w.heap.size w w' := (sKey_is h w).mono fun e w' h => ⟨h.1, by rw [h.2]; exact Below.refl _ _⟩
set_option maxHeartbeats 4000000 in
set_option maxRecDepth 20000 in
theorem sOwns_any (x : Sv) (a : Sa) (key : Int) (w : World) (hl : LenS x) (h : InS w x a) : Calls Try.prog 71 #[servV x a, .int .i64 key] w fun e w' => e = .returned (.bool (owB x key)) ∧ Below w.heap.size w w' := by
  have b0 : Below w.heap.size w (w.alloc (.cells #[.int .i64 x.site, .bool x.up, .slice a.la x.sl.length a.lc, .slice a.va x.vs.length a.vc, .slice a.wa x.ws.length a.wc, .slice a.oa x.os.length a.oc, .slice a.ka x.kn.length a.kc] 63)) := (Below.refl _ _).alloc (Nat.le_refl _) _
  have A0 := Blk.new w #[.int .i64 x.site, .bool x.up, .slice a.la x.sl.length a.lc, .slice a.va x.vs.length a.vc, .slice a.wa x.ws.length a.wc, .slice a.oa x.os.length a.oc, .slice a.ka x.kn.length a.kc] 63
  have L0 := h.below b0
  have HE : Hid (owB x key = (servB x && ownsB x.sl (slotOf key))) := rfl
  have HSB : Hid (servB x = true → x.sl.length = 3) := by show _ → _; intro hh; unfold servB at hh; simp at hh; exact (slotsB_iff.1 hh.1.1.1.1.1.1.1).1
  obtain ⟨rb, hrb⟩ : ∃ rb, servB x = rb := ⟨_, rfl⟩
  obtain ⟨rk, hrk⟩ : ∃ rk, inB key 0 5 = rk := ⟨_, rfl⟩
  have HB : Hid (servB x = rb) := hrb
  have HK : Hid (inB key 0 5 = rk) := hrk
  rw [hrb] at HE HSB
  generalize owB x key = q at *
  clear h hrb hrk
  have hcase : (rb = false) ∨ (rb = true ∧ rk = false) ∨ (rb = true ∧ rk = true) := by cases rb <;> cases rk <;> simp
  rcases hcase with rfl | ⟨rfl, rfl⟩ | ⟨rfl, rfl⟩
  · go_enter Try.func71, Try.ntmps71
    go_wp2_with fail
    generalize (w.alloc (.cells #[.int .i64 x.site, .bool x.up, .slice a.la x.sl.length a.lc, .slice a.va x.vs.length a.vc, .slice a.wa x.ws.length a.wc, .slice a.oa x.os.length a.oc, .slice a.ka x.kn.length a.kc] 63)) = W2 at *
    have r1 : ∀ (n' : Wof (Since W2)) (j : Nat), n'.W.cell? ⟨w.heap.size, j, none⟩ = #[.int .i64 x.site, .bool x.up, .slice a.la x.sl.length a.lc, .slice a.va x.vs.length a.vc, .slice a.wa x.ws.length a.wc, .slice a.oa x.os.length a.oc, .slice a.ka x.kn.length a.kc][j]? := fun n' j => (A0.below n'.h A0.lt).cell j
    have ne := since_ne W2
    clear A0
    refine wp_region_class (S := Since W2) (by kernel_rfl) (by kernel_rfl) (Below.refl _ _).drew ?_
    repeat (go_big_quiet_step ((rename_i n; first | (go_at_call 68; exact Calls.inClass (sServerOk_is HB.out hl (L0.below n.h)) Since.keep))))
    refine wpQuiet_nil ?_
    rintro W ⟨n, hnW⟩
    have R2 := n.h
    rw [← hnW] at R2
    have B2 : Below w.heap.size w W := b0.trans (R2.mono b0.size)
    clear R2 r1 ne hnW n L0
    go_wp2_with fail
    go_ret
    exact ⟨by rw [HE.out]; rfl, B2⟩
  · have HF : Hid (ownsB x.sl (slotOf key) = false) := by
      show _ = false
      have : slotOf key = -1 := by unfold slotOf; rw [if_neg (by rw [HK.out]; exact Bool.false_ne_true)]
      rw [this]; unfold ownsB standAt; rw [if_pos (by omega)]; rfl
    rw [HF.out] at HE
    go_enter Try.func71, Try.ntmps71
    go_wp2_with fail
    generalize (w.alloc (.cells #[.int .i64 x.site, .bool x.up, .slice a.la x.sl.length a.lc, .slice a.va x.vs.length a.vc, .slice a.wa x.ws.length a.wc, .slice a.oa x.os.length a.oc, .slice a.ka x.kn.length a.kc] 63)) = W2 at *
    have r1 : ∀ (n' : Wof (Since W2)) (j : Nat), n'.W.cell? ⟨w.heap.size, j, none⟩ = #[.int .i64 x.site, .bool x.up, .slice a.la x.sl.length a.lc, .slice a.va x.vs.length a.vc, .slice a.wa x.ws.length a.wc, .slice a.oa x.os.length a.oc, .slice a.ka x.kn.length a.kc][j]? := fun n' j => (A0.below n'.h A0.lt).cell j
    have ne := since_ne W2
    clear A0
    refine wp_region_class (S := Since W2) (by kernel_rfl) (by kernel_rfl) (Below.refl _ _).drew ?_
    repeat (go_big_quiet_step ((rename_i n; first | (go_at_call 68; exact Calls.inClass (sServerOk_is HB.out hl (L0.below n.h)) Since.keep) | (go_at_call 117; exact Calls.inClass (skey_b HK.out) Since.keep))))
    refine wpQuiet_nil ?_
    rintro W ⟨n, hnW⟩
    have R2 := n.h
    rw [← hnW] at R2
    have B2 : Below w.heap.size w W := b0.trans (R2.mono b0.size)
    clear R2 r1 ne hnW n L0
    go_wp2_with fail
    go_ret
    exact ⟨by rw [HE.out]; rfl, B2⟩
  · have h3 := HSB.out rfl
    obtain ⟨r, hr, hr3⟩ : ∃ r : Nat, slotOf key = (r : Int) ∧ r < x.sl.length := by
      rcases slot_in HK.out with h | h | h
      · exact ⟨0, h, by omega⟩
      · exact ⟨1, h, by omega⟩
      · exact ⟨2, h, by omega⟩
    obtain ⟨b, o, hae, hbb, _, c1⟩ := L0.l.at hr3
    have HO : Hid (ownsB x.sl (slotOf key) = (x.sl[r].st == 1)) := by show _ = _; unfold ownsB; rw [hr, stand_at hr3]
    rw [HO.out] at HE
    have j0 : (0 : Int) ≤ (r : Int) := by omega
    have j1 : (r : Int) < (x.sl.length : Int) := by omega
    have HS : Hid (slotOf key = (r : Int)) := hr
    generalize x.sl[r] = sl at *
    have HAE : Hid (a.la = some ⟨b, o, none⟩) := hae
    clear hr h3 hae HO
    go_enter Try.func71, Try.ntmps71
    go_wp2_with fail
    generalize (w.alloc (.cells #[.int .i64 x.site, .bool x.up, .slice a.la x.sl.length a.lc, .slice a.va x.vs.length a.vc, .slice a.wa x.ws.length a.wc, .slice a.oa x.os.length a.oc, .slice a.ka x.kn.length a.kc] 63)) = W2 at *
    have r1 : ∀ (n' : Wof (Since W2)) (j : Nat), n'.W.cell? ⟨w.heap.size, j, none⟩ = #[.int .i64 x.site, .bool x.up, .slice a.la x.sl.length a.lc, .slice a.va x.vs.length a.vc, .slice a.wa x.ws.length a.wc, .slice a.oa x.os.length a.oc, .slice a.ka x.kn.length a.kc][j]? := fun n' j => (A0.below n'.h A0.lt).cell j
    have r2 := since_cell c1
    have ne := since_ne W2
    clear A0 c1
    have hlO := hl
    obtain ⟨la, lc, va, vc, wa, wc, oa, oc, ka, kc⟩ := a
    simp only at HAE r1 L0
    obtain rfl := HAE.out
    clear HAE
    refine wp_region_class (S := Since W2) (by kernel_rfl) (by kernel_rfl) (Below.refl _ _).drew ?_
    repeat (go_big_quiet_step ((rename_i n; first | (go_at_call 68; exact Calls.inClass (sServerOk_is (a := ⟨some ⟨b, o, none⟩, lc, va, vc, wa, wc, oa, oc, ka, kc⟩) HB.out hlO (L0.below n.h)) Since.keep) | (go_at_call 117; exact Calls.inClass (skey_b HK.out) Since.keep) | (go_at_call 119; exact Calls.inClass (slot_b HS.out) Since.keep))))
    refine wpQuiet_nil ?_
    rintro W ⟨n, hnW⟩
    have R2 := n.h
    rw [← hnW] at R2
    have B2 : Below w.heap.size w W := b0.trans (R2.mono b0.size)
    clear R2 r1 r2 ne hnW n L0
    go_wp2_with fail
    go_ret
    exact ⟨by rw [HE.out]; simp, B2⟩
set_option maxHeartbeats 4000000 in
set_option maxRecDepth 20000 in
theorem lawXServOwns (x : Sv) (a : Sa) (key : Int) (w : World) (h : InJ w x a) :
    Calls Try.prog 19 #[servV x a, .int .i64 key] w fun e w' => e = .returned (.bool true) ∧ Below w.heap.size w w' := by
  have b0 : Below w.heap.size w (w.alloc (.cells #[.int .i64 x.site, .bool x.up, .slice a.la x.sl.length a.lc, .slice a.va x.vs.length a.vc, .slice a.wa x.ws.length a.wc, .slice a.oa x.os.length a.oc, .slice a.ka x.kn.length a.kc] 81)) := (Below.refl _ _).alloc (Nat.le_refl _) _
  have A0 := Blk.new w #[.int .i64 x.site, .bool x.up, .slice a.la x.sl.length a.lc, .slice a.va x.vs.length a.vc, .slice a.wa x.ws.length a.wc, .slice a.oa x.os.length a.oc, .slice a.ka x.kn.length a.kc] 81
  have I0 := h.below b0
  go_enter Try.func19, Try.ntmps19
  go_wp2_with fail
  generalize w.alloc (.cells #[.int .i64 x.site, .bool x.up, .slice a.la x.sl.length a.lc, .slice a.va x.vs.length a.vc, .slice a.wa x.ws.length a.wc, .slice a.oa x.os.length a.oc, .slice a.ka x.kn.length a.kc] 81) = w0 at *
  refine (szServer_any x a _ I0).mono ?_
  rintro e w1 ⟨r, rfl, hr, hb1⟩
  have A1 := A0.below hb1 A0.lt
  have I1 := I0.below hb1
  have B1 : Below w.heap.size w w1 := b0.trans (hb1.mono b0.size)
  clear A0 I0 b0 hb1
  rcases hr with hr | ⟨hr, hs⟩
  · have d1 : decide (r < 0) = true := by simpa using hr
    clear A1 I1 hr h
    go_wp2_with fail
    go_ret
    exact ⟨rfl, B1⟩
  have d1 : decide (r < 0) = false := by simp; omega
  have hF := Fit.of hs
  have L1 := I1.inS hs
  have hT := fun W h => toServer_any x a W hF h
  have hS := fun b W h => sOwns_any x b key W hF.len h
  have hI := fun b W h => iOwns_any x b key W hF.len h
  have hE := fun c b W h h' => eqServer_any x c b W hF h h'
  generalize owB x key = q at *
  clear I1 h hs hF
  obtain ⟨q1, g1⟩ := A1.rules
  go_wp2_with fail
  clear q1 g1 d1
  refine (hT _ L1).mono ?_
  rintro e w2 ⟨b, ys, zs, rfl, M2, hb2⟩
  have A2 := A1.below hb2 A1.lt
  have L2 := L1.below hb2
  have B2 : Below w.heap.size w w2 := B1.trans (hb2.mono B1.size)
  have N2 := M2.inS
  clear A1 L1 B1 hb2 M2
  go_wp2_with fail
  refine (hS b _ N2).mono ?_
  rintro e w3 ⟨rfl, hb3⟩
  have A3 := A2.below hb3 A2.lt
  have L3 := L2.below hb3
  have B3 : Below w.heap.size w w3 := B2.trans (hb3.mono B2.size)
  clear A2 L2 B2 hb3 N2 hS
  obtain ⟨q1, g1⟩ := A3.rules
  go_wp2_with fail
  clear q1 g1
  refine (hT _ L3).mono ?_
  rintro e w4 ⟨b, ys, zs, rfl, M4, hb4⟩
  have b4 := (Below.refl _ w4).alloc (Nat.le_refl _) (.cells #[.int .i64 x.site, .bool x.up, .slice b.la x.sl.length b.lc, .slice b.va x.vs.length b.vc, .slice b.wa x.ws.length b.wc, .slice b.oa x.os.length b.oc, .slice b.ka x.kn.length b.kc] 63)
  have bb4 := hb4.trans (b4.mono hb4.size)
  have A4 := A3.below bb4 A3.lt
  have L4 := L3.below bb4
  have M4' := M4.inS.below b4
  have E4 := Blk.new w4 #[.int .i64 x.site, .bool x.up, .slice b.la x.sl.length b.lc, .slice b.va x.vs.length b.vc, .slice b.wa x.ws.length b.wc, .slice b.oa x.os.length b.oc, .slice b.ka x.kn.length b.kc] 63
  have B4 : Below w.heap.size w (w4.alloc (.cells #[.int .i64 x.site, .bool x.up, .slice b.la x.sl.length b.lc, .slice b.va x.vs.length b.vc, .slice b.wa x.ws.length b.wc, .slice b.oa x.os.length b.oc, .slice b.ka x.kn.length b.kc] 63)) := B3.trans (bb4.mono B3.size)
  clear A3 L3 B3 hb4 M4 b4 bb4
  obtain ⟨q1, g1⟩ := E4.rules
  go_wp2_with fail
  clear q1 g1
  generalize w4.alloc (.cells #[.int .i64 x.site, .bool x.up, .slice b.la x.sl.length b.lc, .slice b.va x.vs.length b.vc, .slice b.wa x.ws.length b.wc, .slice b.oa x.os.length b.oc, .slice b.ka x.kn.length b.kc] 63) = w4' at *
  refine (hI b _ M4').mono ?_
  rintro e w5 ⟨rfl, hb5⟩
  have A5 := A4.below hb5 A4.lt
  have E5 := E4.below hb5 E4.lt
  have L5 := L4.below hb5
  have M5 := M4'.below hb5
  have B5 : Below w.heap.size w w5 := B4.trans (hb5.mono B4.size)
  have I5 : InV w5 w.heap.size w4.heap.size _ _ w5 := ⟨Below.refl _ _, ⟨A5.lt, A5.cell⟩, ⟨E5.lt, E5.cell⟩⟩
  clear A4 E4 L4 M4' B4 hb5 hI A5 E5
  go_wp2_with fail
  go_region_held3 (fun W => Below w5.heap.size w5 W ∧ (w.heap.size < W.heap.size ∧ ∀ j, W.cell? ⟨w.heap.size, j, none⟩ = #[.int .i64 x.site, .bool x.up, .slice a.la x.sl.length a.lc, .slice a.va x.vs.length a.vc, .slice a.wa x.ws.length a.wc, .slice a.oa x.os.length a.oc, .slice a.ka x.kn.length a.kc][j]?) ∧ (w4.heap.size < W.heap.size ∧ ∀ j, W.cell? ⟨w4.heap.size, j, none⟩ = #[.int .i64 x.site, .bool x.up, .slice b.la x.sl.length b.lc, .slice b.va x.vs.length b.vc, .slice b.wa x.ws.length b.wc, .slice b.oa x.os.length b.oc, .slice b.ka x.kn.length b.kc][j]?)) (first | exact InV.drew (by assumption) | exact InV.below (by assumption) (by assumption)) (first | (go_at_call 69; refine (hT _ (L5.below (InV.drew I5).1)).mono ?_; rintro e w6 ⟨c, ys6, zs6, rfl, M6, h6⟩) | (go_at_call 64; refine (hE b c _ ((M5.below (InV.drew I5).1).below h6) M6.inS).mono ?_; rintro e w7 ⟨rfl, h7⟩))
  rename_i I7
  have BB7 : Below w.heap.size w w7 := B5.trans (I7.1.mono B5.size)
  clear I7 I5 M5 M6 h6 h7 L5 B5 hT hE
  go_wp2_with fail
  go_ret
  exact ⟨by simp, BB7⟩
end Go.Proofs.Ytgdkoangpinieaa

