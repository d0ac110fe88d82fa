/- The laws' comparison of servers. -/
import Derived.Test.YtgdkoangpinieaaGSX
import Derived.Test.YtgdkoangpinieaaLiV
namespace Go.Proofs.Ytgdkoangpinieaa
open Go.ChangeShapes Go.WideShapes Go.ChangeAt Go.RowKit

set_option maxHeartbeats 8000000 in
set_option maxRecDepth 20000 in
theorem liServer_any (x : Sv) (a b : Sa) (w : World) (hf : Fit x) (h : InS w x a) (h' : InS w x b) :
    Calls Try.prog 55 #[servV x a, servV x b] w fun e w' => e = .returned (.bool true) ∧ Below w.heap.size w w' := by
  have A0 : Blk ((w.alloc (.cells #[.int .i64 x.site, .bool x.up, .slice a.la x.sl.length a.lc, .slice a.va x.vs.length a.vc, .slice a.wa x.ws.length a.wc, .slice a.oa x.os.length a.oc, .slice a.ka x.kn.length a.kc] 63)).alloc (.cells #[.int .i64 x.site, .bool x.up, .slice b.la x.sl.length b.lc, .slice b.va x.vs.length b.vc, .slice b.wa x.ws.length b.wc, .slice b.oa x.os.length b.oc, .slice b.ka x.kn.length b.kc] 63)) w.heap.size #[.int .i64 x.site, .bool x.up, .slice a.la x.sl.length a.lc, .slice a.va x.vs.length a.vc, .slice a.wa x.ws.length a.wc, .slice a.oa x.os.length a.oc, .slice a.ka x.kn.length a.kc] 63 := (Blk.new w _ _).alloc _
  have Z0 : Blk ((w.alloc (.cells #[.int .i64 x.site, .bool x.up, .slice a.la x.sl.length a.lc, .slice a.va x.vs.length a.vc, .slice a.wa x.ws.length a.wc, .slice a.oa x.os.length a.oc, .slice a.ka x.kn.length a.kc] 63)).alloc (.cells #[.int .i64 x.site, .bool x.up, .slice b.la x.sl.length b.lc, .slice b.va x.vs.length b.vc, .slice b.wa x.ws.length b.wc, .slice b.oa x.os.length b.oc, .slice b.ka x.kn.length b.kc] 63)) (w.heap.size + 1) #[.int .i64 x.site, .bool x.up, .slice b.la x.sl.length b.lc, .slice b.va x.vs.length b.vc, .slice b.wa x.ws.length b.wc, .slice b.oa x.os.length b.oc, .slice b.ka x.kn.length b.kc] 63 := by have := Blk.new (w.alloc (.cells #[.int .i64 x.site, .bool x.up, .slice a.la x.sl.length a.lc, .slice a.va x.vs.length a.vc, .slice a.wa x.ws.length a.wc, .slice a.oa x.os.length a.oc, .slice a.ka x.kn.length a.kc] 63)) #[.int .i64 x.site, .bool x.up, .slice b.la x.sl.length b.lc, .slice b.va x.vs.length b.vc, .slice b.wa x.ws.length b.wc, .slice b.oa x.os.length b.oc, .slice b.ka x.kn.length b.kc] 63; simpa using this
  have B0 : Below w.heap.size w ((w.alloc (.cells #[.int .i64 x.site, .bool x.up, .slice a.la x.sl.length a.lc, .slice a.va x.vs.length a.vc, .slice a.wa x.ws.length a.wc, .slice a.oa x.os.length a.oc, .slice a.ka x.kn.length a.kc] 63)).alloc (.cells #[.int .i64 x.site, .bool x.up, .slice b.la x.sl.length b.lc, .slice b.va x.vs.length b.vc, .slice b.wa x.ws.length b.wc, .slice b.oa x.os.length b.oc, .slice b.ka x.kn.length b.kc] 63)) := ((Below.refl _ _).alloc (Nat.le_refl _) _).alloc (by simp) _
  have L0 := h.below B0
  have M0 := h'.below B0
  have ls := hf.l
  clear h h'
  go_enter Try.func55, Try.ntmps55
  go_wp2_with fail
  generalize ((w.alloc (.cells #[.int .i64 x.site, .bool x.up, .slice a.la x.sl.length a.lc, .slice a.va x.vs.length a.vc, .slice a.wa x.ws.length a.wc, .slice a.oa x.os.length a.oc, .slice a.ka x.kn.length a.kc] 63)).alloc (.cells #[.int .i64 x.site, .bool x.up, .slice b.la x.sl.length b.lc, .slice b.va x.vs.length b.vc, .slice b.wa x.ws.length b.wc, .slice b.oa x.os.length b.oc, .slice b.ka x.kn.length b.kc] 63)) = w0 at *
  refine (liVers_any a.va b.va x.vs a.vc b.vc _ hf.v hf.dv L0.v M0.v).mono ?_
  rintro e w1 ⟨rfl, hb⟩
  have A1 := A0.below hb A0.lt
  have Z1 := Z0.below hb Z0.lt
  have L1 := L0.below hb
  have M1 := M0.below hb
  have B1 : Below w.heap.size w w1 := B0.trans (hb.mono B0.size)
  clear A0 Z0 L0 M0 B0 hb
  obtain ⟨q1, g1⟩ := A1.rules
  obtain ⟨q2, g2⟩ := Z1.rules
  go_wp2_with fail
  clear q1 g1 q2 g2
  refine (liVers_any a.wa b.wa x.ws a.wc b.wc _ hf.w hf.dw L1.w M1.w).mono ?_
  rintro e w2 ⟨rfl, hb⟩
  have A2 := A1.below hb A1.lt
  have Z2 := Z1.below hb Z1.lt
  have L2 := L1.below hb
  have M2 := M1.below hb
  have B2 : Below w.heap.size w w2 := B1.trans (hb.mono B1.size)
  clear A1 Z1 L1 M1 B1 hb
  obtain ⟨q1, g1⟩ := A2.rules
  obtain ⟨q2, g2⟩ := Z2.rules
  go_wp2_with fail
  clear q1 g1 q2 g2
  refine (liDeps_any a.oa b.oa x.os a.oc b.oc _ hf.o L2.o M2.o).mono ?_
  rintro e w3 ⟨rfl, hb⟩
  have A3 := A2.below hb A2.lt
  have Z3 := Z2.below hb Z2.lt
  have L3 := L2.below hb
  have M3 := M2.below hb
  have B3 : Below w.heap.size w w3 := B2.trans (hb.mono B2.size)
  clear A2 Z2 L2 M2 B2 hb
  obtain ⟨q1, g1⟩ := A3.rules
  obtain ⟨q2, g2⟩ := Z3.rules
  go_wp2_with fail
  clear q1 g1 q2 g2
  refine (liDeps_any a.ka b.ka x.kn a.kc b.kc _ hf.k L3.k M3.k).mono ?_
  rintro e w4 ⟨rfl, hb⟩
  have A4 := A3.below hb A3.lt
  have Z4 := Z3.below hb Z3.lt
  have L4 := L3.below hb
  have M4 := M3.below hb
  have B4 : Below w.heap.size w w4 := B3.trans (hb.mono B3.size)
  clear A3 Z3 L3 M3 B3 hb
  obtain ⟨q1, g1⟩ := A4.rules
  obtain ⟨q2, g2⟩ := Z4.rules
  go_wp2_with fail
  clear q1 g1 q2 g2
  go_loopw [5] (fun i wr => ∃ k : Nat, k ≤ x.sl.length ∧ i = .int .i64 k ∧ Below w4.heap.size w4 wr) (fun i _ => x.sl.length - (intOf i).toNat)
  case atStart => exact ⟨0, Nat.zero_le _, rfl, Below.refl _ _⟩
  case round =>
    obtain ⟨k, hk, rfl, hB⟩ := hrel
    have A5 := A4.below hB A4.lt
    have Z5 := Z4.below hB Z4.lt
    have B5 : Below w.heap.size w wr := B4.trans (hB.mono B4.size)
    by_cases hlt : k < x.sl.length
    · obtain ⟨b1, o1, hae, hbb, c0, c1⟩ := (L4.l.below hB).at hlt
      obtain ⟨b2, o2, hae', hbb', c2, c3⟩ := (M4.l.below hB).at hlt
      generalize x.sl[k] = sl at *
      have j0 : (0 : Int) ≤ (k : Int) := by omega
      have j1 : (k : Int) < (x.sl.length : Int) := by omega
      have r0 := since_cell c0
      have r1 := since_cell c1
      have r2 := since_cell c2
      have r3 := since_cell c3
      have r4 : ∀ (n' : Wof (Since wr)) (j : Nat), n'.W.cell? ⟨w.heap.size, j, none⟩ = #[.int .i64 x.site, .bool x.up, .slice a.la x.sl.length a.lc, .slice a.va x.vs.length a.vc, .slice a.wa x.ws.length a.wc, .slice a.oa x.os.length a.oc, .slice a.ka x.kn.length a.kc][j]? := fun n' j => (A5.below n'.h A5.lt).cell j
      have r5 : ∀ (n' : Wof (Since wr)) (j : Nat), n'.W.cell? ⟨w.heap.size + 1, j, none⟩ = #[.int .i64 x.site, .bool x.up, .slice b.la x.sl.length b.lc, .slice b.va x.vs.length b.vc, .slice b.wa x.ws.length b.wc, .slice b.oa x.os.length b.oc, .slice b.ka x.kn.length b.kc][j]? := fun n' j => (Z5.below n'.h Z5.lt).cell j
      have ne := since_ne wr
      obtain ⟨q1, g1⟩ := A5.rules
      rw [hae] at r4
      rw [hae'] at r5
      clear hae hae' c0 c1 c2 c3 A5 Z5
      go_wp2_with fail
      clear q1 g1
      refine wp_region_class (S := Since wr) (by kernel_rfl) (by kernel_rfl) (Below.refl _ _).drew ?_
      repeat (go_big_quiet_step ((fail)))
      refine wpQuiet_nil ?_
      rintro W ⟨n, hnW⟩
      have R2 := n.h
      rw [← hnW] at R2
      have B6 : Below w4.heap.size w4 W := hB.trans (R2.mono hB.size)
      clear R2 r0 r1 r2 r3 r4 r5 ne hnW n hB B5
      go_wp2_with fail
      go_roundw
      case rel => exact ⟨k + 1, by omega, by go_num, B6⟩
      case measure => simp [intOf]; omega
    · obtain ⟨q1, g1⟩ := A5.rules
      go_wp2_with fail
      go_ret
      exact ⟨rfl, B5⟩
end Go.Proofs.Ytgdkoangpinieaa
