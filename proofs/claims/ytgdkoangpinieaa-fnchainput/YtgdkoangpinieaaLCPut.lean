/- The law: a version that is put is there, and all others stay. -/
import Derived.Test.YtgdkoangpinieaaLMath
import Derived.Test.YtgdkoangpinieaaLiHas
import Derived.Test.YtgdkoangpinieaaLCTop
namespace Go.Proofs.Ytgdkoangpinieaa
open Go.ChangeShapes Go.WideShapes Go.ChangeAt Go.RowKit

set_option maxHeartbeats 4000000 in
set_option maxRecDepth 20000 in
theorem lawCPut (w : World) (a : Option Addr) (len cap : Nat) (h : Code w a len cap) :
    Calls Try.prog 3 #[.slice a len cap] w fun e w' => e = .returned (.bool true) ∧ Below w.heap.size w w' := by
  have hm := h.2.1
  have hl := h.1
  unfold maxLen at hm
  by_cases hc : 1048576 < (len : Int)
  · go_enter Try.func3, Try.ntmps3
    go_wp2
    go_ret
    exact ⟨rfl, Below.refl _ _⟩
  go_enter Try.func3, Try.ntmps3
  go_wp2_with fail
  refine (drawCPut w a len cap h).mono ?_
  rintro e w1 ⟨v1, ys, vs, x, da, dc, rfl, O1, hy, hF, hxl, D1, B1⟩
  obtain ⟨va, vc, rfl, V1⟩ := O1.asD hy
  have hvl : vs.length ≤ 81 := hF.1
  have dv : ∀ v ∈ vs, v.ds.length ≤ 1048576 := fun v hv => by have := hF.2 v hv; omega
  have Fp := hF.put81 hxl
  have lp := Fp.1
  have dp : ∀ v ∈ cPut vs x, v.ds.length ≤ 1048576 := fun v hv => by have := Fp.2 v hv; omega
  have hI := fun W va' vc' h h' => iPutV_any va vc vs x va' vc' W (by omega) h (by omega) h'
  have hS := fun W va' vc' h h' => sPutV_any va vc vs x va' vc' W (by omega) h (by omega) h'
  have hI2 := fun b cc W va' vc' h h' => iPutV_any b cc (cPut vs x) x va' vc' W (by omega) h (by omega) h'
  have hC := fun W h => sChainOk_any va vc vs W (by omega) h
  have hD := fun W h => iChainOk_any va vc vs W (by omega) h
  have hE := fun b cc W h => iChainOk_any b cc (cPut vs x) W (by omega) h
  have H0 : Hid (chainB vs = false → cDid vs x = false ∧ cPut vs x = []) := fun hb => put_none hb
  have H1 : Hid (chainB vs = true → cDid vs x = false → cPut vs x = vs) := fun hb hd => put_same hb hd
  have H2 : Hid (cDid vs x = true → chainB (cPut vs x) = true ∧ (cPut vs x).length = vs.length + 1 ∧ (∀ v ∈ vs, cAt (cPut vs x) v.k v.t v.s = some v) ∧ cAt (cPut vs x) x.k x.t x.s = some x ∧ cDid (cPut vs x) x = false) := fun hd => put_has hd
  generalize cPut (cPut vs x) x = ql at *
  generalize cDid (cPut vs x) x = did2 at *
  generalize cPut vs x = pl at *
  generalize cDid vs x = did at *
  have b1 := (Below.refl _ w1).alloc (Nat.le_refl _) (.cells #[.int .i64 x.k, .int .i64 x.t, .int .i64 x.s, .int .i64 x.val, .int .i64 x.cl, .int .i64 x.ca, .slice da x.ds.length dc] 28)
  have A1 := Blk.new w1 #[.int .i64 x.k, .int .i64 x.t, .int .i64 x.s, .int .i64 x.val, .int .i64 x.cl, .int .i64 x.ca, .slice da x.ds.length dc] 28
  have V1' := V1.below b1
  have D1' := D1.below b1
  have B1' := B1.trans (b1.mono B1.size)
  clear h hm hl O1 hy hF hc Fp V1 D1 B1 b1
  obtain ⟨q1, g1⟩ := A1.rules
  go_wp2_with fail
  clear q1 g1
  generalize w1.alloc (.cells #[.int .i64 x.k, .int .i64 x.t, .int .i64 x.s, .int .i64 x.val, .int .i64 x.cl, .int .i64 x.ca, .slice da x.ds.length dc] 28) = w1' at *
  refine (hS _ _ _ V1' D1').mono ?_
  rintro e w2 ⟨u2, ys2, rfl, P2, hy2, hb2⟩
  obtain ⟨aP, cP, rfl, VP2⟩ := P2.asD hy2
  have V2 := V1'.below hb2
  have D2 := D1'.below hb2
  have A2 := A1.below hb2 A1.lt
  have B2 : Below w.heap.size w w2 := B1'.trans (hb2.mono B1'.size)
  clear V1' D1' B1' hb2 P2 A1 hS
  go_wp2_with fail
  refine (hC _ V2).mono ?_
  rintro e w3 ⟨rfl, hb3⟩
  have V3 := V2.below hb3
  have VP3 := VP2.below hb3
  have D3 := D2.below hb3
  have A3 := A2.below hb3 A2.lt
  have B3 : Below w.heap.size w w3 := B2.trans (hb3.mono B2.size)
  clear V2 D2 B2 hb3 VP2 A2 hC
  obtain ⟨q1, g1⟩ := A3.rules
  go_wp2_with fail
  clear q1 g1
  refine (hI _ _ _ V3 D3).mono ?_
  rintro e w4 ⟨u4, ys4, rfl, G4, hy4, hb4⟩
  obtain ⟨aG, cG, rfl, VG4⟩ := G4.asD hy4
  have V4 := V3.below hb4
  have VP4 := VP3.below hb4
  have D4 := D3.below hb4
  have A4 := A3.below hb4 A3.lt
  have B4 : Below w.heap.size w w4 := B3.trans (hb4.mono B3.size)
  clear V3 D3 B3 hb4 VP3 A3 G4 hI
  go_wp2_with fail
  refine (liVers_any aG aP pl cG cP _ (by omega) dp VG4 VP4).mono ?_
  rintro e w5 ⟨rfl, hb5⟩
  have V5 := V4.below hb5
  have VG5 := VG4.below hb5
  have D5 := D4.below hb5
  have A5 := A4.below hb5 A4.lt
  have B5 : Below w.heap.size w w5 := B4.trans (hb5.mono B4.size)
  clear V4 VP4 VG4 B4 hb5 D4 A4
  go_wp2_with fail
  refine (hD _ V5).mono ?_
  rintro e w6 ⟨rfl, hb6⟩
  have V6 := V5.below hb6
  have VG6 := VG5.below hb6
  have D6 := D5.below hb6
  have A6 := A5.below hb6 A5.lt
  have B6 : Below w.heap.size w w6 := B5.trans (hb6.mono B5.size)
  clear V5 VG5 B5 hb6 D5 A5 hD
  rcases hcb : chainB vs with _ | _
  · obtain ⟨e1, e2⟩ := H0.out hcb
    subst e1 e2
    clear H0 H1 H2 hcb hE hI2 V6 VG6 D6 A6
    go_wp2_with fail
    go_ret
    exact ⟨by simp, B6⟩
  clear H0
  rcases did with _ | _
  · obtain rfl := H1.out hcb rfl
    clear H1 H2 hcb hE hI2 D6 A6
    go_wp2_with fail
    refine (liVers_any aG va _ cG vc _ (by omega) dv VG6 V6).mono ?_
    rintro e w7 ⟨rfl, hb7⟩
    have B7 : Below w.heap.size w w7 := B6.trans (hb7.mono B6.size)
    clear B6 hb7 VG6 V6
    go_wp2_with fail
    go_ret
    exact ⟨by simp, B7⟩
  obtain ⟨c1, c2, c3, c4, c5⟩ := H2.out rfl
  have H3 : Hid (∀ v ∈ vs, cAt pl v.k v.t v.s = some v) := c3
  have H4 : Hid (∀ v ∈ [x], cAt pl v.k v.t v.s = some v) := fun v hv => by simp at hv; subst hv; exact c4
  have hlen : (vs.length : Int) + 1 = (pl.length : Int) := by omega
  have dx : ∀ v ∈ [x], v.ds.length ≤ 1048576 := fun v hv => by simp at hv; subst hv; omega
  rw [c1] at hE
  subst c5
  clear H1 H2 c1 c2 c3 c4 hcb
  obtain ⟨q1, g1⟩ := A6.rules
  go_wp2_with fail
  clear q1 g1
  refine (hI2 aG cG _ _ _ VG6 D6).mono ?_
  rintro e w7 ⟨u7, ys7, rfl, Q7, hy7, hb7⟩
  obtain ⟨aQ, cQ, rfl, _⟩ := Q7.asD hy7
  have V7 := V6.below hb7
  have VG7 := VG6.below hb7
  have D7 := D6.below hb7
  have A7 := A6.below hb7 A6.lt
  have B7 : Below w.heap.size w w7 := B6.trans (hb7.mono B6.size)
  clear V6 VG6 D6 A6 B6 hb7 Q7 hI2
  go_wp2_with fail
  refine (hE aG cG _ VG7).mono ?_
  rintro e w8 ⟨rfl, hb8⟩
  have V8 := V7.below hb8
  have VG8 := VG7.below hb8
  have D8 := D7.below hb8
  have A8 := A7.below hb8 A7.lt
  have B8 : Below w.heap.size w w8 := B7.trans (hb8.mono B7.size)
  clear V7 VG7 D7 A7 B7 hb8 hE
  go_wp2_with fail
  refine (liHas_any aG va pl vs cG vc _ (by omega) (by omega) dv VG8 V8 H3.out).mono ?_
  rintro e w9 ⟨rfl, hb9⟩
  have VG9 := VG8.below hb9
  have D9 := D8.below hb9
  have A9 := A8.below hb9 A8.lt
  have B9 : Below w.heap.size w w9 := B8.trans (hb9.mono B8.size)
  clear V8 VG8 D8 A8 B8 hb9 H3
  have b10 := (Below.refl _ w9).alloc (Nat.le_refl _) (.cells #[.int .i64 x.k, .int .i64 x.t, .int .i64 x.s, .int .i64 x.val, .int .i64 x.cl, .int .i64 x.ca, .slice da x.ds.length dc] 28)
  have O10 := vers_one (Blk.new w9 #[.int .i64 x.k, .int .i64 x.t, .int .i64 x.s, .int .i64 x.val, .int .i64 x.cl, .int .i64 x.ca, .slice da x.ds.length dc] 28) (D9.below b10) hxl
  have VG10 := VG9.below b10
  have B10 := B9.trans (b10.mono B9.size)
  obtain ⟨q1, g1⟩ := A9.rules
  go_wp2_with fail
  clear q1 g1 A9 D9 VG9 B9 b10
  refine (liHas_any aG (some ⟨w9.heap.size, 0, none⟩) pl [x] cG 1 _ (by omega) (by simp) dx VG10 O10 H4.out).mono ?_
  rintro e w11 ⟨rfl, hb11⟩
  have B11 := B10.trans (hb11.mono B10.size)
  clear VG10 O10 H4 B10 hb11
  go_wp2_with fail
  go_ret
  exact ⟨by simp, B11⟩
end Go.Proofs.Ytgdkoangpinieaa
