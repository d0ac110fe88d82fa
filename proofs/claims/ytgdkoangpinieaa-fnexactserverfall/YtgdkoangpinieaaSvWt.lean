/- The program's ServerOk. -/
import Derived.Test.YtgdkoangpinieaaSvOkB
namespace Go.Proofs.Ytgdkoangpinieaa
open Go.ChangeShapes Go.WideShapes Go.ChangeAt Go.RowKit

theorem side_b (n : Int) {w : World} : Calls Try.prog 134 #[.int .i64 n] w fun e w' => e = .returned (.int .i64 (sideOf n)) ∧ Below w.heap.size w w' := (iSide_any n w).mono fun e w' h => ⟨h.1, by rw [h.2]; exact Below.refl _ _⟩

set_option maxHeartbeats 4000000 in
set_option maxRecDepth 20000 in
theorem waitsOk_any (x : Sv) (a : Sa) (w : World) (hc : chainB x.vs = true) (ho : x.ws.length ≤ 1099511627776) (h : InS w x a) :
    Calls Try.prog 154 #[servV x a] w fun e w' => e = .returned (.bool (waitsB x)) ∧ Below w.heap.size w w' := by
  rw [waitsB_eq]
  have A0 := Blk.new w #[.int .i64 x.site, .bool x.up, .slice a.la x.sl.length a.lc, .slice a.va x.vs.length a.vc, .slice a.wa x.ws.length a.wc, .slice a.oa x.os.length a.oc, .slice a.ka x.kn.length a.kc] 63
  have b0 : Below w.heap.size w (w.alloc (.cells #[.int .i64 x.site, .bool x.up, .slice a.la x.sl.length a.lc, .slice a.va x.vs.length a.vc, .slice a.wa x.ws.length a.wc, .slice a.oa x.os.length a.oc, .slice a.ka x.kn.length a.kc] 63)) := (Below.refl _ _).alloc (Nat.le_refl _) _
  have h1 := h.below b0
  clear h
  have hp := A0.lt
  obtain ⟨q0, g0⟩ := A0.rules
  go_enter Try.func154, Try.ntmps154
  go_wp2_with fail
  clear q0 g0
  generalize w.alloc (.cells #[.int .i64 x.site, .bool x.up, .slice a.la x.sl.length a.lc, .slice a.va x.vs.length a.vc, .slice a.wa x.ws.length a.wc, .slice a.oa x.os.length a.oc, .slice a.ka x.kn.length a.kc] 63) = W1 at *
  go_loopw [8] (fun i wr => ∃ k : Nat, k ≤ x.ws.length ∧ i = .int .i64 k ∧ Hid (waitsP x (x.ws.take k) = true) ∧ Below W1.heap.size W1 wr) (fun i _ => x.ws.length - (intOf i).toNat)
  case atStart => exact ⟨0, Nat.zero_le _, rfl, rfl, Below.refl _ _⟩
  case round =>
    obtain ⟨k, hk, rfl, HA, hB⟩ := hrel
    have A1 := A0.below hB hp
    have z1 := A1.lt
    by_cases hlt : k < x.ws.length
    · obtain ⟨b, o, da, dc, hae, hbb, hv⟩ := (h1.w.below hB).at hlt
      have HY : Hid (wait1 x x.ws[k] = true → waitsP x (x.ws.take (k + 1)) = true) := by show _ → _; intro hp; exact waits_step hlt HA.out hp
      have HN : Hid (wait1 x x.ws[k] = false → waitsP x x.ws = false) := by show _ → _; intro hp; exact waits_bad hlt hp
      have HW : Hid (wait1 x x.ws[k] = (!(sideOf x.ws[k].s == sideOf x.site) && !(hasB x.vs x.ws[k].k x.ws[k].t x.ws[k].s))) := by show _ = _; unfold wait1; rfl
      have hV := h1.v.below hB
      have j0 : (0 : Int) ≤ (k : Int) := by omega
      have j1 : (k : Int) < (x.ws.length : Int) := by omega
      clear h1 HA
      generalize x.ws[k] = v at *
      obtain ⟨c0, c1, c2, c3, c4, c5, c6, _, _⟩ := hv
      have hB1 : Below W1.heap.size W1 (wr.alloc (.cells #[.int .i64 v.k, .int .i64 v.t, .int .i64 v.s, .int .i64 v.val, .int .i64 v.cl, .int .i64 v.ca, .slice da v.ds.length dc] 28)) := hB.alloc hB.size _
      have A2 := A1.alloc (.cells #[.int .i64 v.k, .int .i64 v.t, .int .i64 v.s, .int .i64 v.val, .int .i64 v.cl, .int .i64 v.ca, .slice da v.ds.length dc] 28)
      have V2 := Blk.new wr #[.int .i64 v.k, .int .i64 v.t, .int .i64 v.s, .int .i64 v.val, .int .i64 v.cl, .int .i64 v.ca, .slice da v.ds.length dc] 28
      have hV2 := hV.below ((Below.refl _ wr).alloc (Nat.le_refl _) (.cells #[.int .i64 v.k, .int .i64 v.t, .int .i64 v.s, .int .i64 v.val, .int .i64 v.cl, .int .i64 v.ca, .slice da v.ds.length dc] 28))
      obtain ⟨r, hr⟩ : ∃ r, hasB x.vs v.k v.t v.s = r := ⟨_, rfl⟩
      rw [hr] at HW
      have H3 : Hid (hasB x.vs v.k v.t v.s = r) := hr
      rw [hae]
      clear hV A1 hB A0 hr
      go_wp2_with fail
      clear c0 c1 c2 c3 c4 c5 c6
      generalize wr.alloc (.cells #[.int .i64 v.k, .int .i64 v.t, .int .i64 v.s, .int .i64 v.val, .int .i64 v.cl, .int .i64 v.ca, .slice da v.ds.length dc] 28) = W2 at *
      have r1 : ∀ (n' : Wof (Since W2)) (j : Nat), n'.W.cell? ⟨w.heap.size, j, none⟩ = #[.int .i64 x.site, .bool x.up, .slice a.la x.sl.length a.lc, .slice a.va x.vs.length a.vc, .slice a.wa x.ws.length a.wc, .slice a.oa x.os.length a.oc, .slice a.ka x.kn.length a.kc][j]? := fun n' j => (A2.below n'.h A2.lt).cell j
      have r2 : ∀ (n' : Wof (Since W2)) (j : Nat), n'.W.cell? ⟨wr.heap.size, j, none⟩ = #[.int .i64 v.k, .int .i64 v.t, .int .i64 v.s, .int .i64 v.val, .int .i64 v.cl, .int .i64 v.ca, .slice da v.ds.length dc][j]? := fun n' j => (V2.below n'.h V2.lt).cell j
      have ne := since_ne W2
      have l1 := A2.lt
      have l2 := V2.lt
      clear A2 V2
      rcases hq : (sideOf v.s == sideOf x.site) with _ | _
      · rw [hq] at HW
        refine wp_region_class (S := Since W2) (by kernel_rfl) (by kernel_rfl) (Below.refl _ _).drew ?_
        repeat (go_big_quiet_step ((rename_i n; first | (go_at_call 134; exact Calls.inClass (side_b _) Since.keep) | (go_at_call 184; exact Calls.inClass named_is Since.keep) | (go_at_call 183; exact Calls.inClass (hasVer_is H3.out hc (hV2.below n.h)) Since.keep))))
        refine wpQuiet_nil ?_
        rintro W ⟨n, hnW⟩
        have R2 := n.h
        rw [← hnW] at R2
        have B2 : Below W1.heap.size W1 W := hB1.trans (R2.mono hB1.size)
        clear R2 r1 r2 ne hnW n hB1 hV2 l1 l2
        rcases r with _ | _
        · have HR2 : Hid (waitsP x (x.ws.take (k + 1)) = true) := HY.out (by rw [HW.out]; rfl)
          clear HN HY HW H3 hq
          go_wp2_with fail
          go_roundw
          case rel => exact ⟨k + 1, by omega, by go_num, HR2, B2⟩
          case measure => simp [intOf]; omega
        · have HR2 : Hid (waitsP x x.ws = false) := HN.out (by rw [HW.out]; rfl)
          clear HN HY HW H3 hq
          go_wp2_with fail
          go_ret
          exact ⟨by rw [HR2.out]; rfl, b0.trans (B2.mono b0.size)⟩
      · rw [hq] at HW
        refine wp_region_class (S := Since W2) (by kernel_rfl) (by kernel_rfl) (Below.refl _ _).drew ?_
        repeat (go_big_quiet_step ((rename_i n; first | (go_at_call 134; exact Calls.inClass (side_b _) Since.keep) | (go_at_call 184; exact Calls.inClass named_is Since.keep) | (go_at_call 183; exact Calls.inClass (hasVer_is H3.out hc (hV2.below n.h)) Since.keep))))
        refine wpQuiet_nil ?_
        rintro W ⟨n, hnW⟩
        have R2 := n.h
        rw [← hnW] at R2
        have B2 : Below W1.heap.size W1 W := hB1.trans (R2.mono hB1.size)
        clear R2 r1 r2 ne hnW n hB1 hV2 l1 l2
        have HR2 : Hid (waitsP x x.ws = false) := HN.out (by rw [HW.out]; rfl)
        clear HN HY HW H3 hq
        go_wp2_with fail
        go_ret
        exact ⟨by rw [HR2.out]; rfl, b0.trans (B2.mono b0.size)⟩
    · have hk2 : k = x.ws.length := by omega
      subst hk2
      rw [List.take_length] at HA
      clear A1 A0
      go_wp2_with fail
      go_ret
      exact ⟨by rw [HA.out]; rfl, b0.trans (hB.mono b0.size)⟩
end Go.Proofs.Ytgdkoangpinieaa
