/- The law: the newest version never gets older. -/
import Derived.Test.YtgdkoangpinieaaLMath
import Derived.Test.YtgdkoangpinieaaITopV
namespace Go.Proofs.Ytgdkoangpinieaa
open Go.ChangeShapes Go.WideShapes Go.ChangeAt Go.RowKit


set_option maxHeartbeats 4000000 in
set_option maxRecDepth 20000 in
theorem lawGrow (w : World) (a : Option Addr) (len cap : Nat) (h : Code w a len cap) :
    Calls Try.prog 9 #[.slice a len cap] w fun e w' => e = .returned (.bool true) ∧ Below w.heap.size w w' := by
  have hm := h.2.1
  have hl := h.1
  unfold maxLen at hm
  by_cases hc : 1048576 < (len : Int)
  · go_enter Try.func9, Try.ntmps9
    go_wp2
    go_ret
    exact ⟨rfl, Below.refl _ _⟩
  go_enter Try.func9, Try.ntmps9
  go_wp2_with fail
  refine (drawCPut w a len cap h).mono ?_
  rintro e w1 ⟨v1, ys, vs, x, da, dc, rfl, O1, hy, hF, hxl, D1, B1⟩
  obtain ⟨va, vc, rfl, V1⟩ := O1.asD hy
  have hvl : vs.length ≤ 81 := hF.1
  have Fp := hF.put81 hxl
  have lp := Fp.1
  have dp : ∀ v ∈ cPut vs x, v.ds.length ≤ 1048576 := fun v hv => by have := Fp.2 v hv; omega
  have hI := fun W va' vc' h h' => iPutV_any va vc vs x va' vc' W (by omega) h (by omega) h'
  have hS := fun W va' vc' h h' => sPutV_any va vc vs x va' vc' W (by omega) h (by omega) h'
  have hT1 := fun k W h hw => iTopV_any va vc vs k W (by omega) h hw
  have hT2 := fun b cc k W h hw => iTopV_any b cc (cPut vs x) k W (by omega) h hw
  have HT : Hid (cDid vs x = true → ∀ k, (topA vs k).isSome = true → (topA (cPut vs x) k).isSome = true ∧ lessB ((topA (cPut vs x) k).getD zeroV).t ((topA (cPut vs x) k).getD zeroV).s ((topA vs k).getD zeroV).t ((topA vs k).getD zeroV).s = false ∧ ((topA (cPut vs x) k).getD zeroV = (topA vs k).getD zeroV ∨ (topA (cPut vs x) k).getD zeroV = x ∧ ¬ (x.t = ((topA vs k).getD zeroV).t ∧ x.s = ((topA vs k).getD zeroV).s))) := fun hd k hk => grow hd k hk
  generalize cPut vs x = pl at *
  generalize cDid vs x = did at *
  have b1 := (Below.refl _ w1).alloc (Nat.le_refl _) (.cells #[.int .i64 x.k, .int .i64 x.t, .int .i64 x.s, .int .i64 x.val, .int .i64 x.cl, .int .i64 x.ca, .slice da x.ds.length dc] 28)
  have A1 := Blk.new w1 #[.int .i64 x.k, .int .i64 x.t, .int .i64 x.s, .int .i64 x.val, .int .i64 x.cl, .int .i64 x.ca, .slice da x.ds.length dc] 28
  have V1' := V1.below b1
  have D1' := D1.below b1
  have B1' := B1.trans (b1.mono B1.size)
  clear h hm hl O1 hy hF hc Fp V1 D1 B1 b1
  obtain ⟨q1, g1⟩ := A1.rules
  go_wp2_with fail
  clear q1 g1
  generalize w1.alloc (.cells #[.int .i64 x.k, .int .i64 x.t, .int .i64 x.s, .int .i64 x.val, .int .i64 x.cl, .int .i64 x.ca, .slice da x.ds.length dc] 28) = w1' at *
  refine (hS _ _ _ V1' D1').mono ?_
  rintro e w2 ⟨u2, ys2, rfl, P2, hy2, hb2⟩
  obtain ⟨aP, cP, rfl, VP2⟩ := P2.asD hy2
  have V2 := V1'.below hb2
  have D2 := D1'.below hb2
  have A2 := A1.below hb2 A1.lt
  have B2 : Below w.heap.size w w2 := B1'.trans (hb2.mono B1'.size)
  clear V1' D1' B1' hb2 P2 A1 hS
  obtain ⟨q1, g1⟩ := A2.rules
  go_wp2_with fail
  clear q1 g1
  refine (hI _ _ _ V2 D2).mono ?_
  rintro e w3 ⟨u3, ys3, rfl, G3, hy3, hb3⟩
  obtain ⟨aG, cG, rfl, VG3⟩ := G3.asD hy3
  have V3 := V2.below hb3
  have VP3 := VP2.below hb3
  have D3 := D2.below hb3
  have A3 := A2.below hb3 A2.lt
  have B3 : Below w.heap.size w w3 := B2.trans (hb3.mono B2.size)
  clear V2 D2 B2 hb3 VP2 A2 G3 hI
  go_wp2_with fail
  refine (liVers_any aG aP pl cG cP _ (by omega) dp VG3 VP3).mono ?_
  rintro e w4 ⟨rfl, hb4⟩
  have V4 := V3.below hb4
  have VP4 := VP3.below hb4
  have VG4 := VG3.below hb4
  have D4 := D3.below hb4
  have A4 := A3.below hb4 A3.lt
  have B4 : Below w.heap.size w w4 := B3.trans (hb4.mono B3.size)
  clear V3 VP3 VG3 B3 hb4 D3 A3
  rcases did with _ | _
  · clear HT hT1 hT2
    go_wp2_with fail
    refine (liVers_any aG aP pl cG cP _ (by omega) dp VG4 VP4).mono ?_
    rintro e w6 ⟨rfl, hb6⟩
    have B6 : Below w.heap.size w w6 := B4.trans (hb6.mono B4.size)
    clear VP4 VG4 B4 hb6 V4 D4 A4
    go_wp2_with fail
    go_ret
    exact ⟨rfl, B6⟩
  have HG : Hid (∀ k, (topA vs k).isSome = true → (topA pl k).isSome = true ∧ lessB ((topA pl k).getD zeroV).t ((topA pl k).getD zeroV).s ((topA vs k).getD zeroV).t ((topA vs k).getD zeroV).s = false ∧ ((topA pl k).getD zeroV = (topA vs k).getD zeroV ∨ (topA pl k).getD zeroV = x ∧ ¬ (x.t = ((topA vs k).getD zeroV).t ∧ x.s = ((topA vs k).getD zeroV).s))) := HT.out rfl
  clear HT VP4 dp
  go_wp2_with fail
  go_loopw [9] (fun i wr => ∃ k : Nat, k ≤ 6 ∧ i = .int .i64 k ∧ Vers wr va vs ∧ Vers wr aG pl ∧ Deps wr da x.ds ∧ Blk wr w1.heap.size #[.int .i64 x.k, .int .i64 x.t, .int .i64 x.s, .int .i64 x.val, .int .i64 x.cl, .int .i64 x.ca, .slice da x.ds.length dc] 28 ∧ Below w.heap.size w wr) (fun i _ => 6 - (intOf i).toNat)
  case atStart => exact ⟨0, by omega, rfl, V4, VG4, D4, A4, B4⟩
  case round =>
    clear V4 VG4 D4 A4 B4
    obtain ⟨k, hk, rfl, V5, VG5, D5, A5, B5⟩ := hrel
    by_cases hlt : (k : Int) < 6
    · have hwf : (Lit.int .i64 (k : Int)).wf = true := by
        have : k = 0 ∨ k = 1 ∨ k = 2 ∨ k = 3 ∨ k = 4 ∨ k = 5 := by omega
        rcases this with rfl | rfl | rfl | rfl | rfl | rfl <;> rfl
      have h1 := hT1 k _ V5 hwf
      have h2 := fun W h => hT2 aG cG k W h hwf
      have hg := HG.out k
      clear hT1 hT2 HG
      generalize (topA vs (k : Int)).isSome = r1 at *
      generalize (topA pl (k : Int)).isSome = r2 at *
      generalize (topA vs (k : Int)).getD zeroV = u1 at *
      generalize (topA pl (k : Int)).getD zeroV = u2 at *
      have Hg : Hid (r1 = true → r2 = true ∧ lessB u2.t u2.s u1.t u1.s = false ∧ (u2 = u1 ∨ u2 = x ∧ ¬ (x.t = u1.t ∧ x.s = u1.s))) := hg
      clear hg
      go_wp2_with fail
      refine h1.mono ?_
      rintro e w6 ⟨v6, pa1, pc1, hv6, rfl, _, hb6⟩
      have e6 : v6 = u1 := hv6.out
      subst v6
      have b6 := (Below.refl _ w6).alloc (Nat.le_refl _) (.cells #[.int .i64 u1.k, .int .i64 u1.t, .int .i64 u1.s, .int .i64 u1.val, .int .i64 u1.cl, .int .i64 u1.ca, .slice pa1 u1.ds.length pc1] 28)
      have bb6 := hb6.trans (b6.mono hb6.size)
      have C6 := Blk.new w6 #[.int .i64 u1.k, .int .i64 u1.t, .int .i64 u1.s, .int .i64 u1.val, .int .i64 u1.cl, .int .i64 u1.ca, .slice pa1 u1.ds.length pc1] 28
      have V6 := V5.below bb6
      have VG6 := VG5.below bb6
      have D6 := D5.below bb6
      have A6 := A5.below bb6 A5.lt
      have B6 := B5.trans (bb6.mono B5.size)
      clear V5 VG5 D5 A5 B5 bb6 b6 hb6 h1
      go_wp2_with fail
      generalize w6.alloc (.cells #[.int .i64 u1.k, .int .i64 u1.t, .int .i64 u1.s, .int .i64 u1.val, .int .i64 u1.cl, .int .i64 u1.ca, .slice pa1 u1.ds.length pc1] 28) = w6' at *
      refine (h2 _ VG6).mono ?_
      rintro e w7 ⟨v7, pa2, pc2, hv7, rfl, R7, hb7⟩
      have e7 : v7 = u2 := hv7.out
      subst v7
      have b7 := (Below.refl _ w7).alloc (Nat.le_refl _) (.cells #[.int .i64 u2.k, .int .i64 u2.t, .int .i64 u2.s, .int .i64 u2.val, .int .i64 u2.cl, .int .i64 u2.ca, .slice pa2 u2.ds.length pc2] 28)
      have bb7 := hb7.trans (b7.mono hb7.size)
      have E7 := Blk.new w7 #[.int .i64 u2.k, .int .i64 u2.t, .int .i64 u2.s, .int .i64 u2.val, .int .i64 u2.cl, .int .i64 u2.ca, .slice pa2 u2.ds.length pc2] 28
      have K7 := (row_deps' R7).below b7
      have C7 := C6.below bb7 C6.lt
      have V7 := V6.below bb7
      have VG7 := VG6.below bb7
      have D7 := D6.below bb7
      have A7 := A6.below bb7 A6.lt
      have B7 := B6.trans (bb7.mono B6.size)
      clear V6 VG6 D6 A6 B6 bb7 b7 hb7 h2 R7 C6
      rcases r1 with _ | _
      · clear Hg K7 C7 E7
        go_wp2_with fail
        go_roundw
        case rel => exact ⟨k + 1, by omega, by go_num, V7, VG7, D7, A7, B7⟩
        case measure => simp [intOf]; omega
      obtain ⟨hr2, hless, hor⟩ := Hg.out rfl
      clear Hg
      subst hr2
      obtain ⟨qc, gc⟩ := C7.rules
      obtain ⟨qe, ge⟩ := E7.rules
      go_wp2_with fail
      generalize w7.alloc (.cells #[.int .i64 u2.k, .int .i64 u2.t, .int .i64 u2.s, .int .i64 u2.val, .int .i64 u2.cl, .int .i64 u2.ca, .slice pa2 u2.ds.length pc2] 28) = w7' at *
      clear qc gc qe ge
      refine (iLess_any _ _ _ _ _).mono ?_
      rw [hless]
      rintro e w8 ⟨rfl, hb8⟩
      have V8 := V7.below hb8
      have VG8 := VG7.below hb8
      have D8 := D7.below hb8
      have K8 := K7.below hb8
      have A8 := A7.below hb8 A7.lt
      have C8 := C7.below hb8 C7.lt
      have E8 := E7.below hb8 E7.lt
      have B8 := B7.trans (hb8.mono B7.size)
      clear V7 VG7 D7 K7 A7 C7 E7 B7 hb8 hless
      rcases hor with e | ⟨e, hne⟩
      · subst e
        obtain ⟨qc, gc⟩ := C8.rules
        obtain ⟨qe, ge⟩ := E8.rules
        clear C8 E8 K8
        go_wp2_with fail
        clear qc gc qe ge
        go_roundw
        case rel => exact ⟨k + 1, by omega, by go_num, V8, VG8, D8, A8, B8⟩
        case measure => simp [intOf]; omega
      · subst e
        obtain ⟨qc, gc⟩ := C8.rules
        obtain ⟨qe, ge⟩ := E8.rules
        obtain ⟨qa, ga⟩ := A8.rules
        by_cases ht : u2.t = u1.t
        · have hs : ¬ u2.s = u1.s := fun hs => hne ⟨ht, hs⟩
          have h1 : (u2.t == u1.t) = true := by simpa using ht
          have h2 : (u2.s == u1.s) = false := by simpa using hs
          clear ht hs hne
          go_wp2_with fail
          clear qc gc qe ge qa ga
          refine (liVer_any u2 pa2 da pc2 dc _ (by omega) K8 D8).mono ?_
          rintro e w9 ⟨rfl, hb9⟩
          have V9 := V8.below hb9
          have VG9 := VG8.below hb9
          have D9 := D8.below hb9
          have A9 := A8.below hb9 A8.lt
          have B9 := B8.trans (hb9.mono B8.size)
          clear V8 VG8 D8 K8 A8 C8 E8 B8 hb9
          go_wp2_with fail
          go_roundw
          case rel => exact ⟨k + 1, by omega, by go_num, V9, VG9, D9, A9, B9⟩
          case measure => simp [intOf]; omega
        · have h1 : (u2.t == u1.t) = false := by simpa using ht
          clear ht hne
          go_wp2_with fail
          clear qc gc qe ge qa ga
          refine (liVer_any u2 pa2 da pc2 dc _ (by omega) K8 D8).mono ?_
          rintro e w9 ⟨rfl, hb9⟩
          have V9 := V8.below hb9
          have VG9 := VG8.below hb9
          have D9 := D8.below hb9
          have A9 := A8.below hb9 A8.lt
          have B9 := B8.trans (hb9.mono B8.size)
          clear V8 VG8 D8 K8 A8 C8 E8 B8 hb9
          go_wp2_with fail
          go_roundw
          case rel => exact ⟨k + 1, by omega, by go_num, V9, VG9, D9, A9, B9⟩
          case measure => simp [intOf]; omega
    · go_wp2_with fail
      go_ret
      exact ⟨rfl, B5⟩
end Go.Proofs.Ytgdkoangpinieaa
