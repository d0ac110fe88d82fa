/- The law: a version that is there is found by its own key and stamp. -/
import Derived.Test.YtgdkoangpinieaaEndT
import Derived.Test.YtgdkoangpinieaaIHasC
namespace Go.Proofs.Ytgdkoangpinieaa
open Go.ChangeShapes Go.WideShapes Go.ChangeAt Go.RowKit

set_option maxHeartbeats 8000000 in
set_option maxRecDepth 20000 in
theorem lawCSelf (w : World) (a : Option Addr) (len cap : Nat) (h : Code w a len cap) :
    Calls Try.prog 14 #[.slice a len cap] w fun e w' => e = .returned (.bool true) ∧ Below w.heap.size w w' := by
  have hm := h.2.1
  have hl := h.1
  unfold maxLen at hm
  by_cases hc : 1048576 < (len : Int)
  · go_enter Try.func14, Try.ntmps14
    go_wp2
    go_ret
    exact ⟨rfl, Below.refl _ _⟩
  go_enter Try.func14, Try.ntmps14
  go_wp2_with fail
  refine (drawCOk w a len cap h).mono ?_
  rintro e w1 ⟨v1, ys, vs, rfl, O1, hy, hF, B1⟩
  obtain ⟨va, vc, rfl, V1⟩ := O1.asD hy
  have hvl : vs.length ≤ 81 := hF.1
  have dv : ∀ v ∈ vs, v.ds.length ≤ 1048576 := fun v hv => by have := hF.2 v hv; omega
  have hC := fun W h => sChainOk_any va vc vs W (by omega) h
  have hD := fun W h => iChainOk_any va vc vs W (by omega) h
  clear h hm hl O1 hy hF hc
  go_wp2_with fail
  refine (hC _ V1).mono ?_
  rintro e w2 ⟨rfl, hb2⟩
  have V2 := V1.below hb2
  have B2 : Below w.heap.size w w2 := B1.trans (hb2.mono B1.size)
  clear V1 B1 hb2 hC
  rcases hcb : chainB vs with _ | _
  · rw [hcb] at hD
    clear hcb
    go_wp2_with fail
    refine (hD _ V2).mono ?_
    rintro e w3 ⟨rfl, hb3⟩
    have B3 : Below w.heap.size w w3 := B2.trans (hb3.mono B2.size)
    clear V2 B2 hb3 hD
    go_wp2_with fail
    go_ret
    exact ⟨rfl, B3⟩
  rw [hcb] at hD
  have hA := (chainB_iff.1 hcb).2
  have HC : Hid (chainB vs = true) := hcb
  clear hcb
  have R0 : RowD (w2.alloc (.cells #[] 51)) w.heap.size (.slice (some ⟨w2.heap.size, 0, none⟩) ([] : List D).length 0) [] := World.ownsRow_made w2 #[] 0 B2.size (by unfold maxLen; omega) rfl
  have b0 := (Below.refl _ w2).alloc (Nat.le_refl _) (.cells #[] 51)
  have V0 := V2.below b0
  have B0 := B2.trans (b0.mono B2.size)
  go_wp2_with fail
  go_loopw [4, 5] (fun v i wr => ∃ (k : Nat) (ea : Option Addr) (ec : Nat) (ds : List D), k ≤ vs.length ∧ i = .int .i64 k ∧ v = .slice ea ds.length ec ∧ RowD wr w.heap.size (.slice ea ds.length ec) ds ∧ Hid (AllOf vs ds) ∧ ds.length ≤ 6 ∧ Vers wr va vs ∧ Below w.heap.size w wr) (fun _ i _ => vs.length - (intOf i).toNat)
  case atStart => exact ⟨0, _, _, [], Nat.zero_le _, rfl, rfl, R0, AllOf.nil vs, by simp, V0, B0⟩
  case round =>
    clear R0 b0 V0 B0 V2 B2
    obtain ⟨k, ea, ec, ds, hk, rfl, rfl, RQ, HQ, hdl, VQ, BQ⟩ := hrel
    by_cases hlt : k < vs.length
    · have HN : Hid (AllOf vs (putL ds ⟨vs[k].k, vs[k].t, vs[k].s⟩)) := HQ.out.put HC.out (List.getElem_mem hlt)
      have hpl := putL_len ds ⟨vs[k].k, vs[k].t, vs[k].s⟩
      have hP := fun W h => iPut_any ea ec ds ⟨vs[k].k, vs[k].t, vs[k].s⟩ W (by omega) h
      obtain ⟨b, o, da, dc, rfl, hbb, hv⟩ := VQ.at hlt
      have hvl2 := dv vs[k] (List.getElem_mem hlt)
      have hok := okV_key (hA.1 vs[k] (List.getElem_mem hlt))
      have hL := fun W h => iAtV_any (some ⟨b, o, none⟩) vc vs vs[k].k vs[k].t vs[k].s W (by omega) h (key5_wf hok.1 hok.2)
      rw [atA_yes HC.out, cAt_self hA.2 (List.getElem_mem hlt)] at hL
      have hlt2 : (k : Int) < vs.length := by omega
      have hk0 : (0 : Int) ≤ k := by omega
      clear HQ hok hA dv
      generalize putL ds ⟨vs[k].k, vs[k].t, vs[k].s⟩ = ds2 at *
      generalize vs[k] = u at *
      have R : InT wr b (o + k * 7) u.k u.t u.s wr := ⟨Below.refl _ _, hbb, hv.c0, hv.c1, hv.c2⟩
      go_upto_region 10 with fail
      go_cut [6, 7] (fun s6 s7 wx => ∃ D pa pc, s6 = .pointer (some ⟨D, 0, none⟩) ∧ s7 = .bool true ∧ EndT wr b (o + k * 7) u.k u.t u.s u D pa pc wx)
      case first =>
        clear hv RQ BQ hP
        go_region_held3 (fun W => Below wr.heap.size wr W ∧ b < W.heap.size ∧ W.cell? ⟨b, o + k * 7, none⟩ = some (.int .i64 u.k) ∧ W.cell? ⟨b, o + k * 7 + 1, none⟩ = some (.int .i64 u.t) ∧ W.cell? ⟨b, o + k * 7 + 2, none⟩ = some (.int .i64 u.s)) (with_reducible (first | assumption | exact InT.drew (by assumption) | exact InT.below (by assumption) (by assumption) | exact InT.alloc (by assumption) _ | exact InT.drew (InT.alloc (by assumption) _) | exact EndQ.i (EndT.q (by assumption))))
          (first
            | (go_at_call 42
               refine (hL _ ?hv).mono ?_
               (case hv => exact VQ.below (InT.fst (b := b) (x := o + k * 7) (k := u.k) (t := u.t) (s := u.s) (by with_reducible assumption)))
               rintro e w3 ⟨u3, pa3, pc3, hu3, rfl, R3, hb3⟩
               have e3 : u3 = u := hu3.out
               subst u3
               (first
                 | (with_reducible (have I3 := ((R.alloc _).drew.below hb3)
                                    have Z3 := ((Blk.new wr #[.int .i64 0, .int .i64 0, .int .i64 0, .int .i64 0, .int .i64 0, .int .i64 0, .slice none 0 0] 28).drwW).upW hb3
                                    have EF := EndT.fill (u := u) I3 hbb Z3 (Nat.le_refl _) R3 (by simp)
                                    obtain ⟨qz, gz⟩ := Z3.rules))
                 | (with_reducible (have I3 := R.drew.below hb3
                                    have EF := EndT.new (u := u) I3 R3)))))
        all_goals (clear R VQ; go_wp2_with fail; go_meet; case rel => exact ⟨_, _, _, rfl, rfl, EF⟩)
      case rest =>
        obtain ⟨D, pa, pc, rfl, rfl, N3⟩ := hcut
        generalize wc = w3 at *
        have hb3 := N3.q.i.1
        have D3 := N3.q.d
        have K3 := N3.r
        have V3 := VQ.below hb3
        have RR3 := row_below RQ hb3 (Nat.le_refl _)
        have B3 : Below w.heap.size w w3 := BQ.trans (hb3.mono BQ.size)
        have hv3 := hv.below hb3
        obtain ⟨q0, q1, q2, q3, q4, q5, q6⟩ := hv3.rules
        have hd' := hv3.ds
        have r : ∀ (n : Wof (Since w3)) (j : Nat), n.W.cell? ⟨D, j, none⟩ = #[.int .i64 u.k, .int .i64 u.t, .int .i64 u.s, .int .i64 u.val, .int .i64 u.cl, .int .i64 u.ca, .slice pa u.ds.length pc][j]? := fun n j => (D3.below n.h D3.lt).cell j
        have ne := since_ne w3
        clear R hv hv3 hb3 N3 hL RQ VQ BQ
        go_wp2_with fail
        refine wp_region_class (S := Since w3) (by kernel_rfl) (by kernel_rfl) (Below.refl _ _).drew ?_
        repeat (go_big_quiet_step ((rename_i n; first | (go_at_call 38; exact Calls.inClass (liVer_any u _ _ _ _ _ hvl2 (K3.below n.h) (hd'.below n.h)) Since.keep))))
        refine wpQuiet_nil ?_
        rintro W ⟨n, hnW⟩
        have R2 := n.h
        rw [← hnW] at R2
        have D4 := D3.below R2 D3.lt
        have V4 := V3.below R2
        have RR4 := row_below RR3 R2 (Nat.le_refl _)
        have B4 : Below w.heap.size w W := B3.trans (R2.mono B3.size)
        clear R2 q0 q1 q2 q3 q4 q5 q6 r ne hnW n B3 K3 hd' D3 V3 RR3
        obtain ⟨q1, g1⟩ := D4.rules
        go_wp2_with fail
        clear q1 g1
        refine (hP _ (row_deps' RR4)).mono ?_
        rintro e w5 ⟨v5, rfl, R5, hb5⟩
        obtain ⟨ea5, ec5, rfl, _⟩ := deps_of_row R5
        have V5 := V4.below hb5
        have R6 := row_mono R5 B4.size
        have B5 : Below w.heap.size w w5 := B4.trans (hb5.mono B4.size)
        clear V4 RR4 D4 B4 hb5 R5 hP
        go_wp2_with fail
        go_roundw
        case rel => exact ⟨k + 1, ea5, ec5, ds2, by omega, by go_num, rfl, R6, HN, by omega, V5, B5⟩
        case measure => simp [intOf]; omega
    · have HH : Hid (cHas vs ds = true) := HQ.out.has HC.out
      have hH := fun W h h' => iHasC_any va vc vs ea ec ds W (by omega) h (by omega) h'
      rw [HH.out] at hH
      clear HQ HH
      go_wp2_with fail
      refine (hH _ VQ (row_deps' RQ)).mono ?_
      rintro e w5 ⟨rfl, hb5⟩
      have V5 := VQ.below hb5
      have B5 : Below w.heap.size w w5 := BQ.trans (hb5.mono BQ.size)
      clear VQ RQ BQ hb5 hH
      go_wp2_with fail
      refine (hD _ V5).mono ?_
      rintro e w6 ⟨rfl, hb6⟩
      have B6 : Below w.heap.size w w6 := B5.trans (hb6.mono B5.size)
      clear V5 B5 hb6 hD
      go_wp2_with fail
      go_ret
      exact ⟨rfl, B6⟩
end Go.Proofs.Ytgdkoangpinieaa
