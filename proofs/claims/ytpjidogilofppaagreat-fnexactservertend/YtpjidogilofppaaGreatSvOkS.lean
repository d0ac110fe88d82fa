/- The specification's ServerOk. -/
import Derived.Test.YtpjidogilofppaaGreatZH
import Derived.Test.YtpjidogilofppaaGreatZO
namespace Go.Proofs.YtpjidogilofppaaGreat
open Go.ChangeShapes Go.WideShapes Go.ChangeAt Go.RowKit

theorem all3_step {xs : List Sl} {k : Nat} (hk : k < xs.length) (h : (xs.take k).all slB = true) (hp : slB xs[k] = true) : (xs.take (k + 1)).all slB = true := by
  rw [List.take_succ_eq_append_getElem hk, List.all_append, h]; simp [hp]
theorem all3_bad {xs : List Sl} {k : Nat} (hk : k < xs.length) (hp : slB xs[k] = false) : slotsB xs = false := by
  cases hb : slotsB xs
  · rfl
  · have := (slotsB_iff.1 hb).2 xs[k] (List.getElem_mem hk); rw [hp] at this; cases this
theorem slB_parts (s : Sl) : slB s = (inB s.ep 0 9999 && inB s.st 0 2 && (decide (s.st = 0) || decide (0 < s.ep))) := rfl

set_option maxHeartbeats 8000000 in
set_option maxRecDepth 20000 in
theorem sServerOk_any (x : Sv) (a : Sa) (w : World) (hl : LenS x) (h : InS w x a) : Calls Tryz.prog 42 #[servV x a] w fun e w' => e = .returned (.bool (servB x)) ∧ Below w.heap.size w w' := by
  have b0 : Below w.heap.size w (w.alloc (.cells #[.int .i64 x.site, .bool x.up, .slice a.la x.sl.length a.lc, .slice a.va x.vs.length a.vc, .slice a.wa x.ws.length a.wc, .slice a.oa x.os.length a.oc, .slice a.ka x.kn.length a.kc] 32)) := (Below.refl _ _).alloc (Nat.le_refl _) _
  have A0 := Blk.new w #[.int .i64 x.site, .bool x.up, .slice a.la x.sl.length a.lc, .slice a.va x.vs.length a.vc, .slice a.wa x.ws.length a.wc, .slice a.oa x.os.length a.oc, .slice a.ka x.kn.length a.kc] 32
  have L0 := h.below b0
  have hp := A0.lt
  have HE : Hid (servB x = (slotsB x.sl && inB x.site 0 3 && listsS x && (x.up || decide (x.kn.length = 0)) && allHere x.sl x.vs && allHere x.sl x.ws && waitsB x && owedB x)) := by show _ = _; unfold servB; rfl
  have HLs : Hid (listsS x = (chainB x.vs && chainB x.ws && owesB x.os && owesB x.kn)) := rfl
  rw [HLs.out] at HE
  have h1 : ∀ W, Calls Tryz.prog 112 #[.int .i64 x.site] W fun e w' => e = .returned (.bool (inB x.site 0 3)) ∧ w' = W := fun W => site_any x.site W
  have h2 := fun W h => sChainOk_any a.va a.vc x.vs W hl.v h
  have h3 := fun W h => sChainOk_any a.wa a.wc x.ws W hl.w h
  have h4 := fun W h => sOwes_any a.oa a.oc x.os W hl.o h
  have h5 := fun W h => sOwes_any a.ka a.kc x.kn W hl.k h
  have HC1 : Hid (∀ r, chainB x.vs = r → r = true → chainB x.vs = true) := by show ∀ r, _; intro r h1 h2; rw [h1, h2]
  generalize servB x = r at *
  generalize hr1 : inB x.site 0 3 = r1 at *
  generalize hr2 : chainB x.vs = r2 at *
  generalize hr3 : chainB x.ws = r3 at *
  generalize owesB x.os = r4 at *
  generalize owesB x.kn = r5 at *
  have HK2 : Hid (chainB x.vs = r2) := hr2
  have HK3 : Hid (chainB x.ws = r3) := hr3
  have vl := hl.v
  have wl := hl.w
  have ol := hl.o
  have ll := hl.l
  clear h hl HC1 hr1 hr2 hr3 HLs
  by_cases hl3 : (x.sl.length : Int) = 3
  · have H3 : Hid (x.sl.length = 3) := by show _ = _; omega
    have hl' : ((x.sl.length : Int) == 3) = true := by simpa using hl3
    have hn3 : ((x.sl.length : Int) != 3) = false := by simpa [bne] using hl3
    clear hl3
    go_enter Tryz.func42, Tryz.ntmps42
    go_wp2_with fail
    generalize (w.alloc (.cells #[.int .i64 x.site, .bool x.up, .slice a.la x.sl.length a.lc, .slice a.va x.vs.length a.vc, .slice a.wa x.ws.length a.wc, .slice a.oa x.os.length a.oc, .slice a.ka x.kn.length a.kc] 32)) = w0 at *
    obtain ⟨q1, g1⟩ := A0.rules
    refine (h1 _).mono ?_
    rintro e w' ⟨rfl, rfl⟩
    clear h1
    rcases r1 with _ | _
    · clear h2 h3 h4 h5 L0
      go_wp2_with fail
      go_ret
      exact ⟨by rw [HE.out]; simp, b0⟩
    go_wp2_with fail
    clear q1 g1
    refine (h2 _ L0.v).mono ?_
    rintro e w1 ⟨rfl, hb1⟩
    have A1 := A0.below hb1 A0.lt
    have L1 := L0.below hb1
    have B1 : Below w.heap.size w w1 := b0.trans (hb1.mono b0.size)
    clear A0 L0 b0 hb1 h2
    obtain ⟨q1, g1⟩ := A1.rules
    rcases r2 with _ | _
    · clear L1 h3 h4 h5
      go_wp2_with fail
      go_ret
      exact ⟨by rw [HE.out]; simp, B1⟩
    go_wp2_with fail
    clear q1 g1
    refine (h3 _ L1.w).mono ?_
    rintro e w2 ⟨rfl, hb2⟩
    have A2 := A1.below hb2 A1.lt
    have L2 := L1.below hb2
    have B2 : Below w.heap.size w w2 := B1.trans (hb2.mono B1.size)
    clear A1 L1 B1 hb2 h3
    obtain ⟨q1, g1⟩ := A2.rules
    rcases r3 with _ | _
    · clear L2 h4 h5
      go_wp2_with fail
      go_ret
      exact ⟨by rw [HE.out]; simp, B2⟩
    go_wp2_with fail
    clear q1 g1
    refine (h4 _ L2.o).mono ?_
    rintro e w3 ⟨rfl, hb3⟩
    have A3 := A2.below hb3 A2.lt
    have L3 := L2.below hb3
    have B3 : Below w.heap.size w w3 := B2.trans (hb3.mono B2.size)
    clear A2 L2 B2 hb3 h4
    obtain ⟨q1, g1⟩ := A3.rules
    rcases r4 with _ | _
    · clear L3 h5
      go_wp2_with fail
      go_ret
      exact ⟨by rw [HE.out]; simp, B3⟩
    go_wp2_with fail
    clear q1 g1
    refine (h5 _ L3.k).mono ?_
    rintro e w4 ⟨rfl, hb4⟩
    have A4 := A3.below hb4 A3.lt
    have L4 := L3.below hb4
    have B4 : Below w.heap.size w w4 := B3.trans (hb4.mono B3.size)
    clear A3 L3 B3 hb4 h5
    obtain ⟨q1, g1⟩ := A4.rules
    rcases r5 with _ | _
    · clear L4 
      go_wp2_with fail
      go_ret
      exact ⟨by rw [HE.out]; simp, B4⟩
    clear q1 g1
    have hc1 : chainB x.vs = true := HK2.out
    have hc2 : chainB x.ws = true := HK3.out
    have h6 := fun W h hv => sAllHere_any x a a.va a.vc x.vs W H3.out hc1 h hv
    have h7 := fun W h hv => sAllHere_any x a a.wa a.wc x.ws W H3.out hc2 h hv
    have HE2 : Hid (r = (slotsB x.sl && (x.up || decide (x.kn.length = 0)) && allHere x.sl x.vs && allHere x.sl x.ws && waitsB x && owedB x)) := by show r = _; rw [HE.out]; simp
    clear HE
    have HE := HE2
    clear HE2
    generalize allHere x.sl x.vs = r6 at *
    generalize allHere x.sl x.ws = r7 at *
    simp only [servV, servC] at h6 h7
    rcases hxu : x.up with _ | _
    · rw [hxu] at A4 HE
      simp only [hxu] at h6 h7
      obtain ⟨q1, g1⟩ := A4.rules
      by_cases hk0 : x.kn.length = 0
      · have HR2 : Hid (r = (slotsB x.sl && r6 && r7 && waitsB x && owedB x)) := by show r = _; rw [HE.out, hk0]; simp
        have hd0 : decide ((0 : Int) < (x.kn.length : Int)) = false := by simp [hk0]
        have hd1 : decide (0 < x.kn.length) = false := by simp [hk0]
        have hd2 : ¬ 0 < x.kn.length := by omega
        clear HE hk0 hxu
        have HE := HR2
        clear HR2
        clear q1 g1
        have HS : Hid (slotsB x.sl = true → True) := fun _ => trivial
        obtain ⟨q1, g1⟩ := A4.rules
        go_wp2_with fail
        clear q1 g1
        go_loopw [3] (fun i wr => ∃ k : Nat, k ≤ x.sl.length ∧ i = .int .i64 k ∧ Hid ((x.sl.take k).all slB = true) ∧ Below w4.heap.size w4 wr) (fun i _ => x.sl.length - (intOf i).toNat)
        case atStart => exact ⟨0, Nat.zero_le _, rfl, rfl, Below.refl _ _⟩
        case round =>
          obtain ⟨k, hk, rfl, HA, hB⟩ := hrel
          have A1 := A4.below hB A4.lt
          have z1 := A1.lt
          obtain ⟨q1, g1⟩ := A1.rules
          by_cases hlt : k < x.sl.length
          · obtain ⟨b, o, hae, hbb, c0, c1⟩ := (L4.l.below hB).at hlt
            have HY : Hid (slB x.sl[k] = true → (x.sl.take (k + 1)).all slB = true) := by show _ → _; intro hp; exact all3_step hlt HA.out hp
            have HN : Hid (slB x.sl[k] = false → slotsB x.sl = false) := by show _ → _; intro hp; exact all3_bad hlt hp
            have HP : Hid (slB x.sl[k] = (inB x.sl[k].ep 0 9999 && inB x.sl[k].st 0 2 && (decide (x.sl[k].st = 0) || decide (0 < x.sl[k].ep)))) := slB_parts _
            have j0 : (0 : Int) ≤ (k : Int) := by omega
            have j1 : (k : Int) < (x.sl.length : Int) := by omega
            have B5 : Below w.heap.size w wr := B4.trans (hB.mono B4.size)
            clear HA
            generalize x.sl[k] = sl at *
            rw [hae] at q1
            clear hae
            have hYN : (slB sl = true ∧ inB sl.ep 0 9999 = true ∧ inB sl.st 0 2 = true ∧ (sl.st = 0 ∨ sl.st ≠ 0 ∧ 1 ≤ sl.ep)) ∨ (slB sl = false ∧ (inB sl.ep 0 9999 = false ∨ inB sl.ep 0 9999 = true ∧ inB sl.st 0 2 = false ∨ inB sl.ep 0 9999 = true ∧ inB sl.st 0 2 = true ∧ sl.st ≠ 0 ∧ sl.ep < 1)) := by
              rw [HP.out]
              rcases inB sl.ep 0 9999 with _ | _ <;> rcases inB sl.st 0 2 with _ | _ <;> simp <;> omega
            clear HP L4 h6 h7
            rcases hYN with ⟨hs, i1, i2, i3 | ⟨i3, i4⟩⟩ | ⟨hs, i1 | ⟨i1, i2⟩ | ⟨i1, i2, i3, i4⟩⟩
            · have HR : Hid ((x.sl.take (k + 1)).all slB = true) := HY.out hs
              clear HY HN hs
              go_wp2_with (first | (go_at_call 60; refine (in_any _ _ _ _).mono ?_; rintro e w' ⟨rfl, rfl⟩))
              go_roundw
              case rel => exact ⟨k + 1, by omega, by go_num, HR, hB⟩
              case measure => simp [intOf]; omega
            · have HR : Hid ((x.sl.take (k + 1)).all slB = true) := HY.out hs
              have i3' : (sl.st == 0) = false := by simpa using i3
              clear HY HN hs
              go_wp2_with (first | (go_at_call 60; refine (in_any _ _ _ _).mono ?_; rintro e w' ⟨rfl, rfl⟩))
              go_roundw
              case rel => exact ⟨k + 1, by omega, by go_num, HR, hB⟩
              case measure => simp [intOf]; omega
            · have HR : Hid (slotsB x.sl = false) := HN.out hs
              clear HY HN hs
              go_wp2_with (first | (go_at_call 60; refine (in_any _ _ _ _).mono ?_; rintro e w' ⟨rfl, rfl⟩))
              go_ret
              exact ⟨by rw [HE.out, HR.out]; simp, B5⟩
            · have HR : Hid (slotsB x.sl = false) := HN.out hs
              clear HY HN hs
              go_wp2_with (first | (go_at_call 60; refine (in_any _ _ _ _).mono ?_; rintro e w' ⟨rfl, rfl⟩))
              go_ret
              exact ⟨by rw [HE.out, HR.out]; simp, B5⟩
            · have HR : Hid (slotsB x.sl = false) := HN.out hs
              have i3' : (sl.st == 0) = false := by simpa using i3
              clear HY HN hs
              go_wp2_with (first | (go_at_call 60; refine (in_any _ _ _ _).mono ?_; rintro e w' ⟨rfl, rfl⟩))
              go_ret
              exact ⟨by rw [HE.out, HR.out]; simp, B5⟩
          · have hk2 : k = x.sl.length := by omega
            subst hk2
            rw [List.take_length] at HA
            have HSl : Hid (slotsB x.sl = true) := by show _ = true; unfold slotsB; rw [HA.out, H3.out]; rfl
            rw [HSl.out] at HE
            have B5 : Below w.heap.size w wr := B4.trans (hB.mono B4.size)
            have L5 := L4.below hB
            clear HA HSl A4 L4 B4 hB
            go_wp2_with fail
            clear q1 g1
            refine (h6 _ L5.l L5.v).mono ?_
            rintro e w6 ⟨rfl, hb6⟩
            have A6 := A1.below hb6 A1.lt
            have L6 := L5.below hb6
            have B6 : Below w.heap.size w w6 := B5.trans (hb6.mono B5.size)
            clear A1 L5 B5 hb6 h6 z1
            obtain ⟨q1, g1⟩ := A6.rules
            have z1 := A6.lt
            rcases r6 with _ | _
            · clear L6 h7
              go_wp2_with fail
              go_ret
              exact ⟨by rw [HE.out]; simp, B6⟩
            go_wp2_with fail
            clear q1 g1 z1
            refine (h7 _ L6.l L6.w).mono ?_
            rintro e w7 ⟨rfl, hb7⟩
            have A7 := A6.below hb7 A6.lt
            have L7 := L6.below hb7
            have B7 : Below w.heap.size w w7 := B6.trans (hb7.mono B6.size)
            clear A6 L6 B6 hb7 h7
            obtain ⟨q1, g1⟩ := A7.rules
            have z1 := A7.lt
            rcases r7 with _ | _
            · clear L7
              go_wp2_with fail
              go_ret
              exact ⟨by rw [HE.out]; simp, B7⟩
            go_wp2_with fail
            clear q1 g1 z1
            go_loopw [4] (fun i wr => ∃ k : Nat, k ≤ x.ws.length ∧ i = .int .i64 k ∧ Hid (waitsP x (x.ws.take k) = true) ∧ Below w7.heap.size w7 wr) (fun i _ => x.ws.length - (intOf i).toNat)
            case atStart => exact ⟨0, Nat.zero_le _, rfl, rfl, Below.refl _ _⟩
            case round =>
              obtain ⟨k, hk, rfl, HA, hB7⟩ := hrel
              have A1 := A7.below hB7 A7.lt
              have z1 := A1.lt
              have hB : Below w.heap.size w wr := B7.trans (hB7.mono B7.size)
              by_cases hlt : k < x.ws.length
              · obtain ⟨b, o, da, dc, hae, hbb, hv⟩ := (L7.w.below hB7).at hlt
                have HY : Hid (wait1 x x.ws[k] = true → waitsP x (x.ws.take (k + 1)) = true) := by show _ → _; intro hp; exact waits_step hlt HA.out hp
                have HN : Hid (wait1 x x.ws[k] = false → waitsB x = false) := by show _ → _; intro hp; rw [waitsB_eq]; exact waits_bad hlt hp
                have HW : Hid (wait1 x x.ws[k] = (!(sideOf x.ws[k].s == sideOf x.site) && !(hasB x.vs x.ws[k].k x.ws[k].t x.ws[k].s))) := by show _ = _; unfold wait1; rfl
                have hV := L7.v.below hB7
                have j0 : (0 : Int) ≤ (k : Int) := by omega
                have j1 : (k : Int) < (x.ws.length : Int) := by omega
                have HT : Hid ((atA x.vs x.ws[k].k x.ws[k].t x.ws[k].s).isSome = hasB x.vs x.ws[k].k x.ws[k].t x.ws[k].s) := by show _ = _; rw [atA_yes hc1]; rfl
                obtain ⟨c0, c1, c2, _⟩ := hv
                clear HA
                generalize x.ws[k] = v at *
                obtain ⟨dk, dt, dss, v3, v4, v5, v6⟩ := v
                simp only at c0 c1 c2 HT HW
                obtain ⟨rb, hrb⟩ : ∃ rb, hasB x.vs dk dt dss = rb := ⟨_, rfl⟩
                have hr : (atA x.vs dk dt dss).isSome = rb := by rw [HT.out, hrb]
                rw [hrb] at HW
                clear hrb HT
                rw [hae] at A1
                clear hae
                rcases rb with _ | _
                · rcases hq : (sideOf dss == sideOf x.site) with _ | _
                  · rw [hq] at HW
                    have HR : Hid (waitsP x (x.ws.take (k + 1)) = true) := HY.out (by rw [HW.out]; rfl)
                    clear HY HN HW
                    have AT := fun (W : World) (k : Below wr.heap.size wr W) => InQ.at (W := W) A1 z1 hbb c0 c1 c2 k
                    have s0 : Hid (InQ w.heap.size #[.int .i64 x.site, .bool false, .slice a.la x.sl.length a.lc, .slice a.va x.vs.length a.vc, .slice (some ⟨b, o, none⟩) x.ws.length a.wc, .slice a.oa x.os.length a.oc, .slice a.ka x.kn.length a.kc] b (o + k * 7) dk dt dss (wr)) := AT wr (Below.refl _ _)
                    have kA : Below wr.heap.size wr (wr.alloc (.cells #[.int .i64 0, .int .i64 0, .int .i64 0, .int .i64 0, .int .i64 0, .int .i64 0, .slice none 0 0] 107)) := (Below.refl _ _).alloc (Nat.le_refl _) _
                    have sA : Hid (InQ w.heap.size #[.int .i64 x.site, .bool false, .slice a.la x.sl.length a.lc, .slice a.va x.vs.length a.vc, .slice (some ⟨b, o, none⟩) x.ws.length a.wc, .slice a.oa x.os.length a.oc, .slice a.ka x.kn.length a.kc] b (o + k * 7) dk dt dss (wr.alloc (.cells #[.int .i64 0, .int .i64 0, .int .i64 0, .int .i64 0, .int .i64 0, .int .i64 0, .slice none 0 0] 107))) := AT _ kA
                    have V1 : Vers wr.drew a.va x.vs := hV.below (Below.refl _ wr).drew
                    have VA : Vers (wr.drew.alloc (.cells #[.int .i64 0, .int .i64 0, .int .i64 0, .int .i64 0, .int .i64 0, .int .i64 0, .slice none 0 0] 107)) a.va x.vs := hV.below (((Below.refl _ wr).drew).alloc (Nat.le_refl _) _)
                    have ZA : Blk (wr.drew.alloc (.cells #[.int .i64 0, .int .i64 0, .int .i64 0, .int .i64 0, .int .i64 0, .int .i64 0, .slice none 0 0] 107)) wr.heap.size #[.int .i64 0, .int .i64 0, .int .i64 0, .int .i64 0, .int .i64 0, .int .i64 0, .slice none 0 0] 107 := Blk.new wr.drew _ _
                    have kD : Below wr.heap.size wr wr.drew := (Below.refl _ wr).drew
                    have kDA : Below wr.heap.size wr (wr.drew.alloc (.cells #[.int .i64 0, .int .i64 0, .int .i64 0, .int .i64 0, .int .i64 0, .int .i64 0, .slice none 0 0] 107)) := kD.alloc (Nat.le_refl _) _
                    obtain ⟨q1, g1⟩ := A1.rules
                    clear c0 c1 c2 A1 hV kA
                    go_wp2_with fail
                    clear q1 g1
                    go_region_held3 (fun W => (∀ j, W.cell? ⟨w.heap.size, j, none⟩ = #[.int .i64 x.site, .bool false, .slice a.la x.sl.length a.lc, .slice a.va x.vs.length a.vc, .slice (some ⟨b, o, none⟩) x.ws.length a.wc, .slice a.oa x.os.length a.oc, .slice a.ka x.kn.length a.kc][j]?) ∧ W.cell? ⟨b, o + k * 7, none⟩ = some (.int .i64 dk) ∧ W.cell? ⟨b, o + k * 7 + 1, none⟩ = some (.int .i64 dt) ∧ W.cell? ⟨b, o + k * 7 + 2, none⟩ = some (.int .i64 dss)) (first | with_reducible exact s4.out | with_reducible exact s3.out | with_reducible exact s2.out | with_reducible exact sA.out | with_reducible exact s0.out | exact s4.out | exact s3.out | exact s2.out | exact sA.out | exact s0.out)
                      (first | (go_at_call 70
                                refine (sAtV_any a.va a.vc x.vs dk dt dss _ vl ?hv).mono ?_
                                (case hv => exact V1)
                                rw [hr]
                                rintro e w3 ⟨u, pa, pc, Hu, rfl, hrow, hb3⟩
                                have k3 : Below wr.heap.size wr w3 := kD.trans (hb3.mono (Nat.le_refl _))
                                have s2 : Hid (InQ w.heap.size #[.int .i64 x.site, .bool false, .slice a.la x.sl.length a.lc, .slice a.va x.vs.length a.vc, .slice (some ⟨b, o, none⟩) x.ws.length a.wc, .slice a.oa x.os.length a.oc, .slice a.ka x.kn.length a.kc] b (o + k * 7) dk dt dss (w3)) := AT _ k3
                                have s3 : Hid (InQ w.heap.size #[.int .i64 x.site, .bool false, .slice a.la x.sl.length a.lc, .slice a.va x.vs.length a.vc, .slice (some ⟨b, o, none⟩) x.ws.length a.wc, .slice a.oa x.os.length a.oc, .slice a.ka x.kn.length a.kc] b (o + k * 7) dk dt dss (w3.alloc (.cells #[.int .i64 0, .int .i64 0, .int .i64 0, .int .i64 0, .int .i64 0, .int .i64 0, .slice none 0 0] 107))) := AT _ (k3.alloc k3.size _)
                                have k4 : Below wr.heap.size wr (w3.alloc (.cells #[.int .i64 u.k, .int .i64 u.t, .int .i64 u.s, .int .i64 u.val, .int .i64 u.cl, .int .i64 u.ca, .slice pa u.ds.length pc] 107)) := k3.alloc k3.size _
                                have s4 : Hid (InQ w.heap.size #[.int .i64 x.site, .bool false, .slice a.la x.sl.length a.lc, .slice a.va x.vs.length a.vc, .slice (some ⟨b, o, none⟩) x.ws.length a.wc, .slice a.oa x.os.length a.oc, .slice a.ka x.kn.length a.kc] b (o + k * 7) dk dt dss (w3.alloc (.cells #[.int .i64 u.k, .int .i64 u.t, .int .i64 u.s, .int .i64 u.val, .int .i64 u.cl, .int .i64 u.ca, .slice pa u.ds.length pc] 107))) := AT _ k4
                                have B5 := hB7.trans (k4.mono hB7.size)
                                have l5 := k4.size
                                clear Hu hrow hb3 V1 VA ZA sA k3 k4 kD kDA AT)
                             | (go_at_call 70
                                refine (sAtV_any a.va a.vc x.vs dk dt dss _ vl ?hv).mono ?_
                                (case hv => exact VA)
                                rw [hr]
                                rintro e w3 ⟨u, pa, pc, Hu, rfl, hrow, hb3⟩
                                have k3 : Below wr.heap.size wr w3 := kDA.trans (hb3.mono (by simp))
                                have s2 : Hid (InQ w.heap.size #[.int .i64 x.site, .bool false, .slice a.la x.sl.length a.lc, .slice a.va x.vs.length a.vc, .slice (some ⟨b, o, none⟩) x.ws.length a.wc, .slice a.oa x.os.length a.oc, .slice a.ka x.kn.length a.kc] b (o + k * 7) dk dt dss (w3)) := AT _ k3
                                have Z3 := ZA.below hb3 ZA.lt
                                obtain ⟨zq, zf⟩ := Z3.rules
                                have k4 : Below wr.heap.size wr ((((((((w3.setCell ⟨wr.heap.size, 0, none⟩ (.int .i64 u.k)).setCell ⟨wr.heap.size, 1, none⟩ (.int .i64 u.t)).setCell ⟨wr.heap.size, 2, none⟩ (.int .i64 u.s)).setCell ⟨wr.heap.size, 3, none⟩ (.int .i64 u.val)).setCell ⟨wr.heap.size, 4, none⟩ (.int .i64 u.cl)).setCell ⟨wr.heap.size, 5, none⟩ (.int .i64 u.ca)).setCell ⟨wr.heap.size, 6, none⟩ (.slice pa u.ds.length pc))) := fill7_below k3 (Nat.le_refl _)
                                have s4 : Hid (InQ w.heap.size #[.int .i64 x.site, .bool false, .slice a.la x.sl.length a.lc, .slice a.va x.vs.length a.vc, .slice (some ⟨b, o, none⟩) x.ws.length a.wc, .slice a.oa x.os.length a.oc, .slice a.ka x.kn.length a.kc] b (o + k * 7) dk dt dss ((((((((w3.setCell ⟨wr.heap.size, 0, none⟩ (.int .i64 u.k)).setCell ⟨wr.heap.size, 1, none⟩ (.int .i64 u.t)).setCell ⟨wr.heap.size, 2, none⟩ (.int .i64 u.s)).setCell ⟨wr.heap.size, 3, none⟩ (.int .i64 u.val)).setCell ⟨wr.heap.size, 4, none⟩ (.int .i64 u.cl)).setCell ⟨wr.heap.size, 5, none⟩ (.int .i64 u.ca)).setCell ⟨wr.heap.size, 6, none⟩ (.slice pa u.ds.length pc)))) := AT _ k4
                                have B5 := hB7.trans (k4.mono hB7.size)
                                have l5 := k4.size
                                clear Hu hrow hb3 V1 VA ZA sA k3 k4 kD kDA AT))
                    all_goals
                      try clear s3
                      obtain ⟨t1, t2, t3, t4⟩ := s4.out.since (by omega) (by omega)
                      have ne := s4.out.ne
                      clear s0 s2 s4
                      go_wp2_with fail
                      refine wp_region_class (S := Since _) (by kernel_rfl) (by kernel_rfl) (Below.refl _ _).drew ?_
                      repeat (go_big_quiet_step ((rename_i n; first | (go_at_call 79; exact Calls.inClass (sside_b _) Since.keep))))
                      refine wpQuiet_nil ?_
                      rintro W ⟨n, hnW⟩
                      have R2 := n.h
                      rw [← hnW] at R2
                      have B6 := B5.trans (R2.mono B5.size)
                      clear R2 t1 t2 t3 t4 ne hnW n B5 l5
                      go_wp2_with fail
                      go_roundw
                      case rel => exact ⟨k + 1, by omega, by go_num, HR, B6⟩
                      case measure => simp [intOf]; omega
                  · rw [hq] at HW
                    have HR : Hid (waitsB x = false) := HN.out (by rw [HW.out]; rfl)
                    clear HY HN HW
                    have AT := fun (W : World) (k : Below wr.heap.size wr W) => InQ.at (W := W) A1 z1 hbb c0 c1 c2 k
                    have s0 : Hid (InQ w.heap.size #[.int .i64 x.site, .bool false, .slice a.la x.sl.length a.lc, .slice a.va x.vs.length a.vc, .slice (some ⟨b, o, none⟩) x.ws.length a.wc, .slice a.oa x.os.length a.oc, .slice a.ka x.kn.length a.kc] b (o + k * 7) dk dt dss (wr)) := AT wr (Below.refl _ _)
                    have kA : Below wr.heap.size wr (wr.alloc (.cells #[.int .i64 0, .int .i64 0, .int .i64 0, .int .i64 0, .int .i64 0, .int .i64 0, .slice none 0 0] 107)) := (Below.refl _ _).alloc (Nat.le_refl _) _
                    have sA : Hid (InQ w.heap.size #[.int .i64 x.site, .bool false, .slice a.la x.sl.length a.lc, .slice a.va x.vs.length a.vc, .slice (some ⟨b, o, none⟩) x.ws.length a.wc, .slice a.oa x.os.length a.oc, .slice a.ka x.kn.length a.kc] b (o + k * 7) dk dt dss (wr.alloc (.cells #[.int .i64 0, .int .i64 0, .int .i64 0, .int .i64 0, .int .i64 0, .int .i64 0, .slice none 0 0] 107))) := AT _ kA
                    have V1 : Vers wr.drew a.va x.vs := hV.below (Below.refl _ wr).drew
                    have VA : Vers (wr.drew.alloc (.cells #[.int .i64 0, .int .i64 0, .int .i64 0, .int .i64 0, .int .i64 0, .int .i64 0, .slice none 0 0] 107)) a.va x.vs := hV.below (((Below.refl _ wr).drew).alloc (Nat.le_refl _) _)
                    have ZA : Blk (wr.drew.alloc (.cells #[.int .i64 0, .int .i64 0, .int .i64 0, .int .i64 0, .int .i64 0, .int .i64 0, .slice none 0 0] 107)) wr.heap.size #[.int .i64 0, .int .i64 0, .int .i64 0, .int .i64 0, .int .i64 0, .int .i64 0, .slice none 0 0] 107 := Blk.new wr.drew _ _
                    have kD : Below wr.heap.size wr wr.drew := (Below.refl _ wr).drew
                    have kDA : Below wr.heap.size wr (wr.drew.alloc (.cells #[.int .i64 0, .int .i64 0, .int .i64 0, .int .i64 0, .int .i64 0, .int .i64 0, .slice none 0 0] 107)) := kD.alloc (Nat.le_refl _) _
                    obtain ⟨q1, g1⟩ := A1.rules
                    clear c0 c1 c2 A1 hV kA
                    go_wp2_with fail
                    clear q1 g1
                    go_region_held3 (fun W => (∀ j, W.cell? ⟨w.heap.size, j, none⟩ = #[.int .i64 x.site, .bool false, .slice a.la x.sl.length a.lc, .slice a.va x.vs.length a.vc, .slice (some ⟨b, o, none⟩) x.ws.length a.wc, .slice a.oa x.os.length a.oc, .slice a.ka x.kn.length a.kc][j]?) ∧ W.cell? ⟨b, o + k * 7, none⟩ = some (.int .i64 dk) ∧ W.cell? ⟨b, o + k * 7 + 1, none⟩ = some (.int .i64 dt) ∧ W.cell? ⟨b, o + k * 7 + 2, none⟩ = some (.int .i64 dss)) (first | with_reducible exact s4.out | with_reducible exact s3.out | with_reducible exact s2.out | with_reducible exact sA.out | with_reducible exact s0.out | exact s4.out | exact s3.out | exact s2.out | exact sA.out | exact s0.out)
                      (first | (go_at_call 70
                                refine (sAtV_any a.va a.vc x.vs dk dt dss _ vl ?hv).mono ?_
                                (case hv => exact V1)
                                rw [hr]
                                rintro e w3 ⟨u, pa, pc, Hu, rfl, hrow, hb3⟩
                                have k3 : Below wr.heap.size wr w3 := kD.trans (hb3.mono (Nat.le_refl _))
                                have s2 : Hid (InQ w.heap.size #[.int .i64 x.site, .bool false, .slice a.la x.sl.length a.lc, .slice a.va x.vs.length a.vc, .slice (some ⟨b, o, none⟩) x.ws.length a.wc, .slice a.oa x.os.length a.oc, .slice a.ka x.kn.length a.kc] b (o + k * 7) dk dt dss (w3)) := AT _ k3
                                have s3 : Hid (InQ w.heap.size #[.int .i64 x.site, .bool false, .slice a.la x.sl.length a.lc, .slice a.va x.vs.length a.vc, .slice (some ⟨b, o, none⟩) x.ws.length a.wc, .slice a.oa x.os.length a.oc, .slice a.ka x.kn.length a.kc] b (o + k * 7) dk dt dss (w3.alloc (.cells #[.int .i64 0, .int .i64 0, .int .i64 0, .int .i64 0, .int .i64 0, .int .i64 0, .slice none 0 0] 107))) := AT _ (k3.alloc k3.size _)
                                have k4 : Below wr.heap.size wr (w3.alloc (.cells #[.int .i64 u.k, .int .i64 u.t, .int .i64 u.s, .int .i64 u.val, .int .i64 u.cl, .int .i64 u.ca, .slice pa u.ds.length pc] 107)) := k3.alloc k3.size _
                                have s4 : Hid (InQ w.heap.size #[.int .i64 x.site, .bool false, .slice a.la x.sl.length a.lc, .slice a.va x.vs.length a.vc, .slice (some ⟨b, o, none⟩) x.ws.length a.wc, .slice a.oa x.os.length a.oc, .slice a.ka x.kn.length a.kc] b (o + k * 7) dk dt dss (w3.alloc (.cells #[.int .i64 u.k, .int .i64 u.t, .int .i64 u.s, .int .i64 u.val, .int .i64 u.cl, .int .i64 u.ca, .slice pa u.ds.length pc] 107))) := AT _ k4
                                have B5 := hB7.trans (k4.mono hB7.size)
                                have l5 := k4.size
                                clear Hu hrow hb3 V1 VA ZA sA k3 k4 kD kDA AT)
                             | (go_at_call 70
                                refine (sAtV_any a.va a.vc x.vs dk dt dss _ vl ?hv).mono ?_
                                (case hv => exact VA)
                                rw [hr]
                                rintro e w3 ⟨u, pa, pc, Hu, rfl, hrow, hb3⟩
                                have k3 : Below wr.heap.size wr w3 := kDA.trans (hb3.mono (by simp))
                                have s2 : Hid (InQ w.heap.size #[.int .i64 x.site, .bool false, .slice a.la x.sl.length a.lc, .slice a.va x.vs.length a.vc, .slice (some ⟨b, o, none⟩) x.ws.length a.wc, .slice a.oa x.os.length a.oc, .slice a.ka x.kn.length a.kc] b (o + k * 7) dk dt dss (w3)) := AT _ k3
                                have Z3 := ZA.below hb3 ZA.lt
                                obtain ⟨zq, zf⟩ := Z3.rules
                                have k4 : Below wr.heap.size wr ((((((((w3.setCell ⟨wr.heap.size, 0, none⟩ (.int .i64 u.k)).setCell ⟨wr.heap.size, 1, none⟩ (.int .i64 u.t)).setCell ⟨wr.heap.size, 2, none⟩ (.int .i64 u.s)).setCell ⟨wr.heap.size, 3, none⟩ (.int .i64 u.val)).setCell ⟨wr.heap.size, 4, none⟩ (.int .i64 u.cl)).setCell ⟨wr.heap.size, 5, none⟩ (.int .i64 u.ca)).setCell ⟨wr.heap.size, 6, none⟩ (.slice pa u.ds.length pc))) := fill7_below k3 (Nat.le_refl _)
                                have s4 : Hid (InQ w.heap.size #[.int .i64 x.site, .bool false, .slice a.la x.sl.length a.lc, .slice a.va x.vs.length a.vc, .slice (some ⟨b, o, none⟩) x.ws.length a.wc, .slice a.oa x.os.length a.oc, .slice a.ka x.kn.length a.kc] b (o + k * 7) dk dt dss ((((((((w3.setCell ⟨wr.heap.size, 0, none⟩ (.int .i64 u.k)).setCell ⟨wr.heap.size, 1, none⟩ (.int .i64 u.t)).setCell ⟨wr.heap.size, 2, none⟩ (.int .i64 u.s)).setCell ⟨wr.heap.size, 3, none⟩ (.int .i64 u.val)).setCell ⟨wr.heap.size, 4, none⟩ (.int .i64 u.cl)).setCell ⟨wr.heap.size, 5, none⟩ (.int .i64 u.ca)).setCell ⟨wr.heap.size, 6, none⟩ (.slice pa u.ds.length pc)))) := AT _ k4
                                have B5 := hB7.trans (k4.mono hB7.size)
                                have l5 := k4.size
                                clear Hu hrow hb3 V1 VA ZA sA k3 k4 kD kDA AT))
                    all_goals
                      try clear s3
                      obtain ⟨t1, t2, t3, t4⟩ := s4.out.since (by omega) (by omega)
                      have ne := s4.out.ne
                      clear s0 s2 s4
                      go_wp2_with fail
                      refine wp_region_class (S := Since _) (by kernel_rfl) (by kernel_rfl) (Below.refl _ _).drew ?_
                      repeat (go_big_quiet_step ((rename_i n; first | (go_at_call 79; exact Calls.inClass (sside_b _) Since.keep))))
                      refine wpQuiet_nil ?_
                      rintro W ⟨n, hnW⟩
                      have R2 := n.h
                      rw [← hnW] at R2
                      have B6 := B5.trans (R2.mono B5.size)
                      clear R2 t1 t2 t3 t4 ne hnW n B5 l5
                      go_wp2_with fail
                      go_ret
                      exact ⟨by rw [HE.out, HR.out]; simp, B7.trans (B6.mono B7.size)⟩
                · have HR : Hid (waitsB x = false) := HN.out (by rw [HW.out]; simp)
                  clear HY HN HW
                  have AT := fun (W : World) (k : Below wr.heap.size wr W) => InQ.at (W := W) A1 z1 hbb c0 c1 c2 k
                  have s0 : Hid (InQ w.heap.size #[.int .i64 x.site, .bool false, .slice a.la x.sl.length a.lc, .slice a.va x.vs.length a.vc, .slice (some ⟨b, o, none⟩) x.ws.length a.wc, .slice a.oa x.os.length a.oc, .slice a.ka x.kn.length a.kc] b (o + k * 7) dk dt dss (wr)) := AT wr (Below.refl _ _)
                  have kA : Below wr.heap.size wr (wr.alloc (.cells #[.int .i64 0, .int .i64 0, .int .i64 0, .int .i64 0, .int .i64 0, .int .i64 0, .slice none 0 0] 107)) := (Below.refl _ _).alloc (Nat.le_refl _) _
                  have sA : Hid (InQ w.heap.size #[.int .i64 x.site, .bool false, .slice a.la x.sl.length a.lc, .slice a.va x.vs.length a.vc, .slice (some ⟨b, o, none⟩) x.ws.length a.wc, .slice a.oa x.os.length a.oc, .slice a.ka x.kn.length a.kc] b (o + k * 7) dk dt dss (wr.alloc (.cells #[.int .i64 0, .int .i64 0, .int .i64 0, .int .i64 0, .int .i64 0, .int .i64 0, .slice none 0 0] 107))) := AT _ kA
                  have V1 : Vers wr.drew a.va x.vs := hV.below (Below.refl _ wr).drew
                  have VA : Vers (wr.drew.alloc (.cells #[.int .i64 0, .int .i64 0, .int .i64 0, .int .i64 0, .int .i64 0, .int .i64 0, .slice none 0 0] 107)) a.va x.vs := hV.below (((Below.refl _ wr).drew).alloc (Nat.le_refl _) _)
                  have ZA : Blk (wr.drew.alloc (.cells #[.int .i64 0, .int .i64 0, .int .i64 0, .int .i64 0, .int .i64 0, .int .i64 0, .slice none 0 0] 107)) wr.heap.size #[.int .i64 0, .int .i64 0, .int .i64 0, .int .i64 0, .int .i64 0, .int .i64 0, .slice none 0 0] 107 := Blk.new wr.drew _ _
                  have kD : Below wr.heap.size wr wr.drew := (Below.refl _ wr).drew
                  have kDA : Below wr.heap.size wr (wr.drew.alloc (.cells #[.int .i64 0, .int .i64 0, .int .i64 0, .int .i64 0, .int .i64 0, .int .i64 0, .slice none 0 0] 107)) := kD.alloc (Nat.le_refl _) _
                  obtain ⟨q1, g1⟩ := A1.rules
                  clear c0 c1 c2 A1 hV kA
                  go_wp2_with fail
                  clear q1 g1
                  go_region_held3 (fun W => (∀ j, W.cell? ⟨w.heap.size, j, none⟩ = #[.int .i64 x.site, .bool false, .slice a.la x.sl.length a.lc, .slice a.va x.vs.length a.vc, .slice (some ⟨b, o, none⟩) x.ws.length a.wc, .slice a.oa x.os.length a.oc, .slice a.ka x.kn.length a.kc][j]?) ∧ W.cell? ⟨b, o + k * 7, none⟩ = some (.int .i64 dk) ∧ W.cell? ⟨b, o + k * 7 + 1, none⟩ = some (.int .i64 dt) ∧ W.cell? ⟨b, o + k * 7 + 2, none⟩ = some (.int .i64 dss)) (first | with_reducible exact s4.out | with_reducible exact s3.out | with_reducible exact s2.out | with_reducible exact sA.out | with_reducible exact s0.out | exact s4.out | exact s3.out | exact s2.out | exact sA.out | exact s0.out)
                    (first | (go_at_call 70
                              refine (sAtV_any a.va a.vc x.vs dk dt dss _ vl ?hv).mono ?_
                              (case hv => exact V1)
                              rw [hr]
                              rintro e w3 ⟨u, pa, pc, Hu, rfl, hrow, hb3⟩
                              have k3 : Below wr.heap.size wr w3 := kD.trans (hb3.mono (Nat.le_refl _))
                              have s2 : Hid (InQ w.heap.size #[.int .i64 x.site, .bool false, .slice a.la x.sl.length a.lc, .slice a.va x.vs.length a.vc, .slice (some ⟨b, o, none⟩) x.ws.length a.wc, .slice a.oa x.os.length a.oc, .slice a.ka x.kn.length a.kc] b (o + k * 7) dk dt dss (w3)) := AT _ k3
                              have s3 : Hid (InQ w.heap.size #[.int .i64 x.site, .bool false, .slice a.la x.sl.length a.lc, .slice a.va x.vs.length a.vc, .slice (some ⟨b, o, none⟩) x.ws.length a.wc, .slice a.oa x.os.length a.oc, .slice a.ka x.kn.length a.kc] b (o + k * 7) dk dt dss (w3.alloc (.cells #[.int .i64 0, .int .i64 0, .int .i64 0, .int .i64 0, .int .i64 0, .int .i64 0, .slice none 0 0] 107))) := AT _ (k3.alloc k3.size _)
                              have k4 : Below wr.heap.size wr (w3.alloc (.cells #[.int .i64 u.k, .int .i64 u.t, .int .i64 u.s, .int .i64 u.val, .int .i64 u.cl, .int .i64 u.ca, .slice pa u.ds.length pc] 107)) := k3.alloc k3.size _
                              have s4 : Hid (InQ w.heap.size #[.int .i64 x.site, .bool false, .slice a.la x.sl.length a.lc, .slice a.va x.vs.length a.vc, .slice (some ⟨b, o, none⟩) x.ws.length a.wc, .slice a.oa x.os.length a.oc, .slice a.ka x.kn.length a.kc] b (o + k * 7) dk dt dss (w3.alloc (.cells #[.int .i64 u.k, .int .i64 u.t, .int .i64 u.s, .int .i64 u.val, .int .i64 u.cl, .int .i64 u.ca, .slice pa u.ds.length pc] 107))) := AT _ k4
                              have B5 := hB7.trans (k4.mono hB7.size)
                              have l5 := k4.size
                              clear Hu hrow hb3 V1 VA ZA sA k3 k4 kD kDA AT)
                           | (go_at_call 70
                              refine (sAtV_any a.va a.vc x.vs dk dt dss _ vl ?hv).mono ?_
                              (case hv => exact VA)
                              rw [hr]
                              rintro e w3 ⟨u, pa, pc, Hu, rfl, hrow, hb3⟩
                              have k3 : Below wr.heap.size wr w3 := kDA.trans (hb3.mono (by simp))
                              have s2 : Hid (InQ w.heap.size #[.int .i64 x.site, .bool false, .slice a.la x.sl.length a.lc, .slice a.va x.vs.length a.vc, .slice (some ⟨b, o, none⟩) x.ws.length a.wc, .slice a.oa x.os.length a.oc, .slice a.ka x.kn.length a.kc] b (o + k * 7) dk dt dss (w3)) := AT _ k3
                              have Z3 := ZA.below hb3 ZA.lt
                              obtain ⟨zq, zf⟩ := Z3.rules
                              have k4 : Below wr.heap.size wr ((((((((w3.setCell ⟨wr.heap.size, 0, none⟩ (.int .i64 u.k)).setCell ⟨wr.heap.size, 1, none⟩ (.int .i64 u.t)).setCell ⟨wr.heap.size, 2, none⟩ (.int .i64 u.s)).setCell ⟨wr.heap.size, 3, none⟩ (.int .i64 u.val)).setCell ⟨wr.heap.size, 4, none⟩ (.int .i64 u.cl)).setCell ⟨wr.heap.size, 5, none⟩ (.int .i64 u.ca)).setCell ⟨wr.heap.size, 6, none⟩ (.slice pa u.ds.length pc))) := fill7_below k3 (Nat.le_refl _)
                              have s4 : Hid (InQ w.heap.size #[.int .i64 x.site, .bool false, .slice a.la x.sl.length a.lc, .slice a.va x.vs.length a.vc, .slice (some ⟨b, o, none⟩) x.ws.length a.wc, .slice a.oa x.os.length a.oc, .slice a.ka x.kn.length a.kc] b (o + k * 7) dk dt dss ((((((((w3.setCell ⟨wr.heap.size, 0, none⟩ (.int .i64 u.k)).setCell ⟨wr.heap.size, 1, none⟩ (.int .i64 u.t)).setCell ⟨wr.heap.size, 2, none⟩ (.int .i64 u.s)).setCell ⟨wr.heap.size, 3, none⟩ (.int .i64 u.val)).setCell ⟨wr.heap.size, 4, none⟩ (.int .i64 u.cl)).setCell ⟨wr.heap.size, 5, none⟩ (.int .i64 u.ca)).setCell ⟨wr.heap.size, 6, none⟩ (.slice pa u.ds.length pc)))) := AT _ k4
                              have B5 := hB7.trans (k4.mono hB7.size)
                              have l5 := k4.size
                              clear Hu hrow hb3 V1 VA ZA sA k3 k4 kD kDA AT))
                  all_goals
                    try clear s3
                    obtain ⟨t1, t2, t3, t4⟩ := s4.out.since (by omega) (by omega)
                    have ne := s4.out.ne
                    clear s0 s2 s4
                    go_wp2_with fail
                    refine wp_region_class (S := Since _) (by kernel_rfl) (by kernel_rfl) (Below.refl _ _).drew ?_
                    repeat (go_big_quiet_step ((rename_i n; first | (go_at_call 79; exact Calls.inClass (sside_b _) Since.keep))))
                    refine wpQuiet_nil ?_
                    rintro W ⟨n, hnW⟩
                    have R2 := n.h
                    rw [← hnW] at R2
                    have B6 := B5.trans (R2.mono B5.size)
                    clear R2 t1 t2 t3 t4 ne hnW n B5 l5
                    go_wp2_with fail
                    go_ret
                    exact ⟨by rw [HE.out, HR.out]; simp, B7.trans (B6.mono B7.size)⟩
              · have hk2 : k = x.ws.length := by omega
                subst hk2
                rw [List.take_length] at HA
                have HWt : Hid (waitsB x = true) := by show _ = true; rw [waitsB_eq]; exact HA.out
                rw [HWt.out] at HE
                clear HA HWt
                obtain ⟨q1, g1⟩ := A1.rules
                go_wp2_with fail
                clear q1 g1 A1 z1
                go_loopw [7] (fun i w8 => ∃ k : Nat, k ≤ x.os.length ∧ i = .int .i64 k ∧ Hid (owedP x (x.os.take k) = true) ∧ Below w7.heap.size w7 w8) (fun i _ => x.os.length - (intOf i).toNat)
                case atStart => exact ⟨0, Nat.zero_le _, rfl, rfl, hB7⟩
                case round =>
                  clear hB7 hB
                  obtain ⟨k, hk, rfl, HA, hB7⟩ := hrel
                  have A1 := A7.below hB7 A7.lt
                  have z1 := A1.lt
                  by_cases hlt : k < x.os.length
                  · obtain ⟨b, o, hae, hbb, c0, c1, c2⟩ := (L7.o.below hB7).at hlt
                    have HY : Hid (hasB x.vs x.os[k].k x.os[k].t x.os[k].s = true → owedP x (x.os.take (k + 1)) = true) := by show _ → _; intro hp; exact owed_step hlt HA.out hp
                    have HN : Hid (hasB x.vs x.os[k].k x.os[k].t x.os[k].s = false → owedB x = false) := by show _ → _; intro hp; rw [owedB_eq]; exact owed_bad hlt hp
                    have hV := L7.v.below hB7
                    have j0 : (0 : Int) ≤ (k : Int) := by omega
                    have j1 : (k : Int) < (x.os.length : Int) := by omega
                    have HT : Hid ((atA x.vs x.os[k].k x.os[k].t x.os[k].s).isSome = hasB x.vs x.os[k].k x.os[k].t x.os[k].s) := by show _ = _; rw [atA_yes hc1]; rfl
                    clear HA
                    generalize x.os[k] = v at *
                    obtain ⟨dk, dt, dss⟩ := v
                    simp only at c0 c1 c2 HT HY HN
                    obtain ⟨rb, hrb⟩ : ∃ rb, hasB x.vs dk dt dss = rb := ⟨_, rfl⟩
                    have hr : (atA x.vs dk dt dss).isSome = rb := by rw [HT.out, hrb]
                    have HB : Hid (hasB x.vs dk dt dss = rb) := hrb
                    clear hrb HT
                    rw [hae] at A1
                    clear hae
                    rcases rb with _ | _
                    · have HR : Hid (owedB x = false) := HN.out HB.out
                      clear HY HN HB
                      have AT := fun (W : World) (k : Below wr.heap.size wr W) => InQ.at (W := W) A1 z1 hbb c0 c1 c2 k
                      have s0 : Hid (InQ w.heap.size #[.int .i64 x.site, .bool false, .slice a.la x.sl.length a.lc, .slice a.va x.vs.length a.vc, .slice a.wa x.ws.length a.wc, .slice (some ⟨b, o, none⟩) x.os.length a.oc, .slice a.ka x.kn.length a.kc] b (o + k * 3) dk dt dss (wr)) := AT wr (Below.refl _ _)
                      have kA : Below wr.heap.size wr (wr.alloc (.cells #[.int .i64 0, .int .i64 0, .int .i64 0, .int .i64 0, .int .i64 0, .int .i64 0, .slice none 0 0] 107)) := (Below.refl _ _).alloc (Nat.le_refl _) _
                      have sA : Hid (InQ w.heap.size #[.int .i64 x.site, .bool false, .slice a.la x.sl.length a.lc, .slice a.va x.vs.length a.vc, .slice a.wa x.ws.length a.wc, .slice (some ⟨b, o, none⟩) x.os.length a.oc, .slice a.ka x.kn.length a.kc] b (o + k * 3) dk dt dss (wr.alloc (.cells #[.int .i64 0, .int .i64 0, .int .i64 0, .int .i64 0, .int .i64 0, .int .i64 0, .slice none 0 0] 107))) := AT _ kA
                      have V1 : Vers wr.drew a.va x.vs := hV.below (Below.refl _ wr).drew
                      have VA : Vers (wr.drew.alloc (.cells #[.int .i64 0, .int .i64 0, .int .i64 0, .int .i64 0, .int .i64 0, .int .i64 0, .slice none 0 0] 107)) a.va x.vs := hV.below (((Below.refl _ wr).drew).alloc (Nat.le_refl _) _)
                      have ZA : Blk (wr.drew.alloc (.cells #[.int .i64 0, .int .i64 0, .int .i64 0, .int .i64 0, .int .i64 0, .int .i64 0, .slice none 0 0] 107)) wr.heap.size #[.int .i64 0, .int .i64 0, .int .i64 0, .int .i64 0, .int .i64 0, .int .i64 0, .slice none 0 0] 107 := Blk.new wr.drew _ _
                      have kD : Below wr.heap.size wr wr.drew := (Below.refl _ wr).drew
                      have kDA : Below wr.heap.size wr (wr.drew.alloc (.cells #[.int .i64 0, .int .i64 0, .int .i64 0, .int .i64 0, .int .i64 0, .int .i64 0, .slice none 0 0] 107)) := kD.alloc (Nat.le_refl _) _
                      obtain ⟨q1, g1⟩ := A1.rules
                      clear c0 c1 c2 A1 hV kA
                      go_wp2_with fail
                      clear q1 g1
                      go_region_held3 (fun W => (∀ j, W.cell? ⟨w.heap.size, j, none⟩ = #[.int .i64 x.site, .bool false, .slice a.la x.sl.length a.lc, .slice a.va x.vs.length a.vc, .slice a.wa x.ws.length a.wc, .slice (some ⟨b, o, none⟩) x.os.length a.oc, .slice a.ka x.kn.length a.kc][j]?) ∧ W.cell? ⟨b, o + k * 3, none⟩ = some (.int .i64 dk) ∧ W.cell? ⟨b, o + k * 3 + 1, none⟩ = some (.int .i64 dt) ∧ W.cell? ⟨b, o + k * 3 + 2, none⟩ = some (.int .i64 dss)) (first | with_reducible exact s4.out | with_reducible exact s3.out | with_reducible exact s2.out | with_reducible exact sA.out | with_reducible exact s0.out | exact s4.out | exact s3.out | exact s2.out | exact sA.out | exact s0.out)
                        (first | (go_at_call 70
                                  refine (sAtV_any a.va a.vc x.vs dk dt dss _ vl ?hv).mono ?_
                                  (case hv => exact V1)
                                  rw [hr]
                                  rintro e w3 ⟨u, pa, pc, Hu, rfl, hrow, hb3⟩
                                  have k3 : Below wr.heap.size wr w3 := kD.trans (hb3.mono (Nat.le_refl _))
                                  have s2 : Hid (InQ w.heap.size #[.int .i64 x.site, .bool false, .slice a.la x.sl.length a.lc, .slice a.va x.vs.length a.vc, .slice a.wa x.ws.length a.wc, .slice (some ⟨b, o, none⟩) x.os.length a.oc, .slice a.ka x.kn.length a.kc] b (o + k * 3) dk dt dss (w3)) := AT _ k3
                                  have s3 : Hid (InQ w.heap.size #[.int .i64 x.site, .bool false, .slice a.la x.sl.length a.lc, .slice a.va x.vs.length a.vc, .slice a.wa x.ws.length a.wc, .slice (some ⟨b, o, none⟩) x.os.length a.oc, .slice a.ka x.kn.length a.kc] b (o + k * 3) dk dt dss (w3.alloc (.cells #[.int .i64 0, .int .i64 0, .int .i64 0, .int .i64 0, .int .i64 0, .int .i64 0, .slice none 0 0] 107))) := AT _ (k3.alloc k3.size _)
                                  have k4 : Below wr.heap.size wr (w3.alloc (.cells #[.int .i64 u.k, .int .i64 u.t, .int .i64 u.s, .int .i64 u.val, .int .i64 u.cl, .int .i64 u.ca, .slice pa u.ds.length pc] 107)) := k3.alloc k3.size _
                                  have s4 : Hid (InQ w.heap.size #[.int .i64 x.site, .bool false, .slice a.la x.sl.length a.lc, .slice a.va x.vs.length a.vc, .slice a.wa x.ws.length a.wc, .slice (some ⟨b, o, none⟩) x.os.length a.oc, .slice a.ka x.kn.length a.kc] b (o + k * 3) dk dt dss (w3.alloc (.cells #[.int .i64 u.k, .int .i64 u.t, .int .i64 u.s, .int .i64 u.val, .int .i64 u.cl, .int .i64 u.ca, .slice pa u.ds.length pc] 107))) := AT _ k4
                                  have B5 := hB7.trans (k4.mono hB7.size)
                                  have l5 := k4.size
                                  clear Hu hrow hb3 V1 VA ZA sA k3 k4 kD kDA AT)
                               | (go_at_call 70
                                  refine (sAtV_any a.va a.vc x.vs dk dt dss _ vl ?hv).mono ?_
                                  (case hv => exact VA)
                                  rw [hr]
                                  rintro e w3 ⟨u, pa, pc, Hu, rfl, hrow, hb3⟩
                                  have k3 : Below wr.heap.size wr w3 := kDA.trans (hb3.mono (by simp))
                                  have s2 : Hid (InQ w.heap.size #[.int .i64 x.site, .bool false, .slice a.la x.sl.length a.lc, .slice a.va x.vs.length a.vc, .slice a.wa x.ws.length a.wc, .slice (some ⟨b, o, none⟩) x.os.length a.oc, .slice a.ka x.kn.length a.kc] b (o + k * 3) dk dt dss (w3)) := AT _ k3
                                  have Z3 := ZA.below hb3 ZA.lt
                                  obtain ⟨zq, zf⟩ := Z3.rules
                                  have k4 : Below wr.heap.size wr ((((((((w3.setCell ⟨wr.heap.size, 0, none⟩ (.int .i64 u.k)).setCell ⟨wr.heap.size, 1, none⟩ (.int .i64 u.t)).setCell ⟨wr.heap.size, 2, none⟩ (.int .i64 u.s)).setCell ⟨wr.heap.size, 3, none⟩ (.int .i64 u.val)).setCell ⟨wr.heap.size, 4, none⟩ (.int .i64 u.cl)).setCell ⟨wr.heap.size, 5, none⟩ (.int .i64 u.ca)).setCell ⟨wr.heap.size, 6, none⟩ (.slice pa u.ds.length pc))) := fill7_below k3 (Nat.le_refl _)
                                  have s4 : Hid (InQ w.heap.size #[.int .i64 x.site, .bool false, .slice a.la x.sl.length a.lc, .slice a.va x.vs.length a.vc, .slice a.wa x.ws.length a.wc, .slice (some ⟨b, o, none⟩) x.os.length a.oc, .slice a.ka x.kn.length a.kc] b (o + k * 3) dk dt dss ((((((((w3.setCell ⟨wr.heap.size, 0, none⟩ (.int .i64 u.k)).setCell ⟨wr.heap.size, 1, none⟩ (.int .i64 u.t)).setCell ⟨wr.heap.size, 2, none⟩ (.int .i64 u.s)).setCell ⟨wr.heap.size, 3, none⟩ (.int .i64 u.val)).setCell ⟨wr.heap.size, 4, none⟩ (.int .i64 u.cl)).setCell ⟨wr.heap.size, 5, none⟩ (.int .i64 u.ca)).setCell ⟨wr.heap.size, 6, none⟩ (.slice pa u.ds.length pc)))) := AT _ k4
                                  have B5 := hB7.trans (k4.mono hB7.size)
                                  have l5 := k4.size
                                  clear Hu hrow hb3 V1 VA ZA sA k3 k4 kD kDA AT))
                      all_goals
                        try clear s3
                        clear s0 s2 s4 l5
                        go_wp2_with fail
                        go_ret
                        exact ⟨by rw [HE.out, HR.out]; simp, B7.trans (B5.mono B7.size)⟩
                    · have HR : Hid (owedP x (x.os.take (k + 1)) = true) := HY.out HB.out
                      clear HY HN HB
                      have AT := fun (W : World) (k : Below wr.heap.size wr W) => InQ.at (W := W) A1 z1 hbb c0 c1 c2 k
                      have s0 : Hid (InQ w.heap.size #[.int .i64 x.site, .bool false, .slice a.la x.sl.length a.lc, .slice a.va x.vs.length a.vc, .slice a.wa x.ws.length a.wc, .slice (some ⟨b, o, none⟩) x.os.length a.oc, .slice a.ka x.kn.length a.kc] b (o + k * 3) dk dt dss (wr)) := AT wr (Below.refl _ _)
                      have kA : Below wr.heap.size wr (wr.alloc (.cells #[.int .i64 0, .int .i64 0, .int .i64 0, .int .i64 0, .int .i64 0, .int .i64 0, .slice none 0 0] 107)) := (Below.refl _ _).alloc (Nat.le_refl _) _
                      have sA : Hid (InQ w.heap.size #[.int .i64 x.site, .bool false, .slice a.la x.sl.length a.lc, .slice a.va x.vs.length a.vc, .slice a.wa x.ws.length a.wc, .slice (some ⟨b, o, none⟩) x.os.length a.oc, .slice a.ka x.kn.length a.kc] b (o + k * 3) dk dt dss (wr.alloc (.cells #[.int .i64 0, .int .i64 0, .int .i64 0, .int .i64 0, .int .i64 0, .int .i64 0, .slice none 0 0] 107))) := AT _ kA
                      have V1 : Vers wr.drew a.va x.vs := hV.below (Below.refl _ wr).drew
                      have VA : Vers (wr.drew.alloc (.cells #[.int .i64 0, .int .i64 0, .int .i64 0, .int .i64 0, .int .i64 0, .int .i64 0, .slice none 0 0] 107)) a.va x.vs := hV.below (((Below.refl _ wr).drew).alloc (Nat.le_refl _) _)
                      have ZA : Blk (wr.drew.alloc (.cells #[.int .i64 0, .int .i64 0, .int .i64 0, .int .i64 0, .int .i64 0, .int .i64 0, .slice none 0 0] 107)) wr.heap.size #[.int .i64 0, .int .i64 0, .int .i64 0, .int .i64 0, .int .i64 0, .int .i64 0, .slice none 0 0] 107 := Blk.new wr.drew _ _
                      have kD : Below wr.heap.size wr wr.drew := (Below.refl _ wr).drew
                      have kDA : Below wr.heap.size wr (wr.drew.alloc (.cells #[.int .i64 0, .int .i64 0, .int .i64 0, .int .i64 0, .int .i64 0, .int .i64 0, .slice none 0 0] 107)) := kD.alloc (Nat.le_refl _) _
                      obtain ⟨q1, g1⟩ := A1.rules
                      clear c0 c1 c2 A1 hV kA
                      go_wp2_with fail
                      clear q1 g1
                      go_region_held3 (fun W => (∀ j, W.cell? ⟨w.heap.size, j, none⟩ = #[.int .i64 x.site, .bool false, .slice a.la x.sl.length a.lc, .slice a.va x.vs.length a.vc, .slice a.wa x.ws.length a.wc, .slice (some ⟨b, o, none⟩) x.os.length a.oc, .slice a.ka x.kn.length a.kc][j]?) ∧ W.cell? ⟨b, o + k * 3, none⟩ = some (.int .i64 dk) ∧ W.cell? ⟨b, o + k * 3 + 1, none⟩ = some (.int .i64 dt) ∧ W.cell? ⟨b, o + k * 3 + 2, none⟩ = some (.int .i64 dss)) (first | with_reducible exact s4.out | with_reducible exact s3.out | with_reducible exact s2.out | with_reducible exact sA.out | with_reducible exact s0.out | exact s4.out | exact s3.out | exact s2.out | exact sA.out | exact s0.out)
                        (first | (go_at_call 70
                                  refine (sAtV_any a.va a.vc x.vs dk dt dss _ vl ?hv).mono ?_
                                  (case hv => exact V1)
                                  rw [hr]
                                  rintro e w3 ⟨u, pa, pc, Hu, rfl, hrow, hb3⟩
                                  have k3 : Below wr.heap.size wr w3 := kD.trans (hb3.mono (Nat.le_refl _))
                                  have s2 : Hid (InQ w.heap.size #[.int .i64 x.site, .bool false, .slice a.la x.sl.length a.lc, .slice a.va x.vs.length a.vc, .slice a.wa x.ws.length a.wc, .slice (some ⟨b, o, none⟩) x.os.length a.oc, .slice a.ka x.kn.length a.kc] b (o + k * 3) dk dt dss (w3)) := AT _ k3
                                  have s3 : Hid (InQ w.heap.size #[.int .i64 x.site, .bool false, .slice a.la x.sl.length a.lc, .slice a.va x.vs.length a.vc, .slice a.wa x.ws.length a.wc, .slice (some ⟨b, o, none⟩) x.os.length a.oc, .slice a.ka x.kn.length a.kc] b (o + k * 3) dk dt dss (w3.alloc (.cells #[.int .i64 0, .int .i64 0, .int .i64 0, .int .i64 0, .int .i64 0, .int .i64 0, .slice none 0 0] 107))) := AT _ (k3.alloc k3.size _)
                                  have k4 : Below wr.heap.size wr (w3.alloc (.cells #[.int .i64 u.k, .int .i64 u.t, .int .i64 u.s, .int .i64 u.val, .int .i64 u.cl, .int .i64 u.ca, .slice pa u.ds.length pc] 107)) := k3.alloc k3.size _
                                  have s4 : Hid (InQ w.heap.size #[.int .i64 x.site, .bool false, .slice a.la x.sl.length a.lc, .slice a.va x.vs.length a.vc, .slice a.wa x.ws.length a.wc, .slice (some ⟨b, o, none⟩) x.os.length a.oc, .slice a.ka x.kn.length a.kc] b (o + k * 3) dk dt dss (w3.alloc (.cells #[.int .i64 u.k, .int .i64 u.t, .int .i64 u.s, .int .i64 u.val, .int .i64 u.cl, .int .i64 u.ca, .slice pa u.ds.length pc] 107))) := AT _ k4
                                  have B5 := hB7.trans (k4.mono hB7.size)
                                  have l5 := k4.size
                                  clear Hu hrow hb3 V1 VA ZA sA k3 k4 kD kDA AT)
                               | (go_at_call 70
                                  refine (sAtV_any a.va a.vc x.vs dk dt dss _ vl ?hv).mono ?_
                                  (case hv => exact VA)
                                  rw [hr]
                                  rintro e w3 ⟨u, pa, pc, Hu, rfl, hrow, hb3⟩
                                  have k3 : Below wr.heap.size wr w3 := kDA.trans (hb3.mono (by simp))
                                  have s2 : Hid (InQ w.heap.size #[.int .i64 x.site, .bool false, .slice a.la x.sl.length a.lc, .slice a.va x.vs.length a.vc, .slice a.wa x.ws.length a.wc, .slice (some ⟨b, o, none⟩) x.os.length a.oc, .slice a.ka x.kn.length a.kc] b (o + k * 3) dk dt dss (w3)) := AT _ k3
                                  have Z3 := ZA.below hb3 ZA.lt
                                  obtain ⟨zq, zf⟩ := Z3.rules
                                  have k4 : Below wr.heap.size wr ((((((((w3.setCell ⟨wr.heap.size, 0, none⟩ (.int .i64 u.k)).setCell ⟨wr.heap.size, 1, none⟩ (.int .i64 u.t)).setCell ⟨wr.heap.size, 2, none⟩ (.int .i64 u.s)).setCell ⟨wr.heap.size, 3, none⟩ (.int .i64 u.val)).setCell ⟨wr.heap.size, 4, none⟩ (.int .i64 u.cl)).setCell ⟨wr.heap.size, 5, none⟩ (.int .i64 u.ca)).setCell ⟨wr.heap.size, 6, none⟩ (.slice pa u.ds.length pc))) := fill7_below k3 (Nat.le_refl _)
                                  have s4 : Hid (InQ w.heap.size #[.int .i64 x.site, .bool false, .slice a.la x.sl.length a.lc, .slice a.va x.vs.length a.vc, .slice a.wa x.ws.length a.wc, .slice (some ⟨b, o, none⟩) x.os.length a.oc, .slice a.ka x.kn.length a.kc] b (o + k * 3) dk dt dss ((((((((w3.setCell ⟨wr.heap.size, 0, none⟩ (.int .i64 u.k)).setCell ⟨wr.heap.size, 1, none⟩ (.int .i64 u.t)).setCell ⟨wr.heap.size, 2, none⟩ (.int .i64 u.s)).setCell ⟨wr.heap.size, 3, none⟩ (.int .i64 u.val)).setCell ⟨wr.heap.size, 4, none⟩ (.int .i64 u.cl)).setCell ⟨wr.heap.size, 5, none⟩ (.int .i64 u.ca)).setCell ⟨wr.heap.size, 6, none⟩ (.slice pa u.ds.length pc)))) := AT _ k4
                                  have B5 := hB7.trans (k4.mono hB7.size)
                                  have l5 := k4.size
                                  clear Hu hrow hb3 V1 VA ZA sA k3 k4 kD kDA AT))
                      all_goals
                        try clear s3
                        clear s0 s2 s4 l5
                        go_wp2_with fail
                        go_roundw
                        case rel => exact ⟨k + 1, by omega, by go_num, HR, B5⟩
                        case measure => simp [intOf]; omega
                  · have hk2 : k = x.os.length := by omega
                    subst hk2
                    rw [List.take_length] at HA
                    have HWt : Hid (owedB x = true) := by show _ = true; rw [owedB_eq]; exact HA.out
                    rw [HWt.out] at HE
                    obtain ⟨q1, g1⟩ := A1.rules
                    go_wp2_with fail
                    go_ret
                    exact ⟨by rw [HE.out]; simp, B7.trans (hB7.mono B7.size)⟩
      · have hd0 : decide ((0 : Int) < (x.kn.length : Int)) = true := by simp; omega
        have hd1 : decide (0 < x.kn.length) = true := by simp; omega
        have hd2 : 0 < x.kn.length := by omega
        have hd3 : (0 : Int) < (x.kn.length : Int) := by omega
        have HR2 : Hid (decide (x.kn.length = 0) = false) := by show _ = _; simpa using hk0
        rw [HR2.out] at HE
        clear h6 h7 L4 hk0 hxu
        go_wp2_with fail
        go_ret
        exact ⟨by rw [HE.out]; simp, B4⟩
    · rw [hxu] at A4 HE
      simp only [hxu] at h6 h7
      obtain ⟨q1, g1⟩ := A4.rules
      have HR2 : Hid (r = (slotsB x.sl && r6 && r7 && waitsB x && owedB x)) := by show r = _; rw [HE.out]; simp
      clear HE hxu
      have HE := HR2
      clear HR2
      clear q1 g1
      have HS : Hid (slotsB x.sl = true → True) := fun _ => trivial
      obtain ⟨q1, g1⟩ := A4.rules
      go_wp2_with fail
      clear q1 g1
      go_loopw [3] (fun i wr => ∃ k : Nat, k ≤ x.sl.length ∧ i = .int .i64 k ∧ Hid ((x.sl.take k).all slB = true) ∧ Below w4.heap.size w4 wr) (fun i _ => x.sl.length - (intOf i).toNat)
      case atStart => exact ⟨0, Nat.zero_le _, rfl, rfl, Below.refl _ _⟩
      case round =>
        obtain ⟨k, hk, rfl, HA, hB⟩ := hrel
        have A1 := A4.below hB A4.lt
        have z1 := A1.lt
        obtain ⟨q1, g1⟩ := A1.rules
        by_cases hlt : k < x.sl.length
        · obtain ⟨b, o, hae, hbb, c0, c1⟩ := (L4.l.below hB).at hlt
          have HY : Hid (slB x.sl[k] = true → (x.sl.take (k + 1)).all slB = true) := by show _ → _; intro hp; exact all3_step hlt HA.out hp
          have HN : Hid (slB x.sl[k] = false → slotsB x.sl = false) := by show _ → _; intro hp; exact all3_bad hlt hp
          have HP : Hid (slB x.sl[k] = (inB x.sl[k].ep 0 9999 && inB x.sl[k].st 0 2 && (decide (x.sl[k].st = 0) || decide (0 < x.sl[k].ep)))) := slB_parts _
          have j0 : (0 : Int) ≤ (k : Int) := by omega
          have j1 : (k : Int) < (x.sl.length : Int) := by omega
          have B5 : Below w.heap.size w wr := B4.trans (hB.mono B4.size)
          clear HA
          generalize x.sl[k] = sl at *
          rw [hae] at q1
          clear hae
          have hYN : (slB sl = true ∧ inB sl.ep 0 9999 = true ∧ inB sl.st 0 2 = true ∧ (sl.st = 0 ∨ sl.st ≠ 0 ∧ 1 ≤ sl.ep)) ∨ (slB sl = false ∧ (inB sl.ep 0 9999 = false ∨ inB sl.ep 0 9999 = true ∧ inB sl.st 0 2 = false ∨ inB sl.ep 0 9999 = true ∧ inB sl.st 0 2 = true ∧ sl.st ≠ 0 ∧ sl.ep < 1)) := by
            rw [HP.out]
            rcases inB sl.ep 0 9999 with _ | _ <;> rcases inB sl.st 0 2 with _ | _ <;> simp <;> omega
          clear HP L4 h6 h7
          rcases hYN with ⟨hs, i1, i2, i3 | ⟨i3, i4⟩⟩ | ⟨hs, i1 | ⟨i1, i2⟩ | ⟨i1, i2, i3, i4⟩⟩
          · have HR : Hid ((x.sl.take (k + 1)).all slB = true) := HY.out hs
            clear HY HN hs
            go_wp2_with (first | (go_at_call 60; refine (in_any _ _ _ _).mono ?_; rintro e w' ⟨rfl, rfl⟩))
            go_roundw
            case rel => exact ⟨k + 1, by omega, by go_num, HR, hB⟩
            case measure => simp [intOf]; omega
          · have HR : Hid ((x.sl.take (k + 1)).all slB = true) := HY.out hs
            have i3' : (sl.st == 0) = false := by simpa using i3
            clear HY HN hs
            go_wp2_with (first | (go_at_call 60; refine (in_any _ _ _ _).mono ?_; rintro e w' ⟨rfl, rfl⟩))
            go_roundw
            case rel => exact ⟨k + 1, by omega, by go_num, HR, hB⟩
            case measure => simp [intOf]; omega
          · have HR : Hid (slotsB x.sl = false) := HN.out hs
            clear HY HN hs
            go_wp2_with (first | (go_at_call 60; refine (in_any _ _ _ _).mono ?_; rintro e w' ⟨rfl, rfl⟩))
            go_ret
            exact ⟨by rw [HE.out, HR.out]; simp, B5⟩
          · have HR : Hid (slotsB x.sl = false) := HN.out hs
            clear HY HN hs
            go_wp2_with (first | (go_at_call 60; refine (in_any _ _ _ _).mono ?_; rintro e w' ⟨rfl, rfl⟩))
            go_ret
            exact ⟨by rw [HE.out, HR.out]; simp, B5⟩
          · have HR : Hid (slotsB x.sl = false) := HN.out hs
            have i3' : (sl.st == 0) = false := by simpa using i3
            clear HY HN hs
            go_wp2_with (first | (go_at_call 60; refine (in_any _ _ _ _).mono ?_; rintro e w' ⟨rfl, rfl⟩))
            go_ret
            exact ⟨by rw [HE.out, HR.out]; simp, B5⟩
        · have hk2 : k = x.sl.length := by omega
          subst hk2
          rw [List.take_length] at HA
          have HSl : Hid (slotsB x.sl = true) := by show _ = true; unfold slotsB; rw [HA.out, H3.out]; rfl
          rw [HSl.out] at HE
          have B5 : Below w.heap.size w wr := B4.trans (hB.mono B4.size)
          have L5 := L4.below hB
          clear HA HSl A4 L4 B4 hB
          go_wp2_with fail
          clear q1 g1
          refine (h6 _ L5.l L5.v).mono ?_
          rintro e w6 ⟨rfl, hb6⟩
          have A6 := A1.below hb6 A1.lt
          have L6 := L5.below hb6
          have B6 : Below w.heap.size w w6 := B5.trans (hb6.mono B5.size)
          clear A1 L5 B5 hb6 h6 z1
          obtain ⟨q1, g1⟩ := A6.rules
          have z1 := A6.lt
          rcases r6 with _ | _
          · clear L6 h7
            go_wp2_with fail
            go_ret
            exact ⟨by rw [HE.out]; simp, B6⟩
          go_wp2_with fail
          clear q1 g1 z1
          refine (h7 _ L6.l L6.w).mono ?_
          rintro e w7 ⟨rfl, hb7⟩
          have A7 := A6.below hb7 A6.lt
          have L7 := L6.below hb7
          have B7 : Below w.heap.size w w7 := B6.trans (hb7.mono B6.size)
          clear A6 L6 B6 hb7 h7
          obtain ⟨q1, g1⟩ := A7.rules
          have z1 := A7.lt
          rcases r7 with _ | _
          · clear L7
            go_wp2_with fail
            go_ret
            exact ⟨by rw [HE.out]; simp, B7⟩
          go_wp2_with fail
          clear q1 g1 z1
          go_loopw [4] (fun i wr => ∃ k : Nat, k ≤ x.ws.length ∧ i = .int .i64 k ∧ Hid (waitsP x (x.ws.take k) = true) ∧ Below w7.heap.size w7 wr) (fun i _ => x.ws.length - (intOf i).toNat)
          case atStart => exact ⟨0, Nat.zero_le _, rfl, rfl, Below.refl _ _⟩
          case round =>
            obtain ⟨k, hk, rfl, HA, hB7⟩ := hrel
            have A1 := A7.below hB7 A7.lt
            have z1 := A1.lt
            have hB : Below w.heap.size w wr := B7.trans (hB7.mono B7.size)
            by_cases hlt : k < x.ws.length
            · obtain ⟨b, o, da, dc, hae, hbb, hv⟩ := (L7.w.below hB7).at hlt
              have HY : Hid (wait1 x x.ws[k] = true → waitsP x (x.ws.take (k + 1)) = true) := by show _ → _; intro hp; exact waits_step hlt HA.out hp
              have HN : Hid (wait1 x x.ws[k] = false → waitsB x = false) := by show _ → _; intro hp; rw [waitsB_eq]; exact waits_bad hlt hp
              have HW : Hid (wait1 x x.ws[k] = (!(sideOf x.ws[k].s == sideOf x.site) && !(hasB x.vs x.ws[k].k x.ws[k].t x.ws[k].s))) := by show _ = _; unfold wait1; rfl
              have hV := L7.v.below hB7
              have j0 : (0 : Int) ≤ (k : Int) := by omega
              have j1 : (k : Int) < (x.ws.length : Int) := by omega
              have HT : Hid ((atA x.vs x.ws[k].k x.ws[k].t x.ws[k].s).isSome = hasB x.vs x.ws[k].k x.ws[k].t x.ws[k].s) := by show _ = _; rw [atA_yes hc1]; rfl
              obtain ⟨c0, c1, c2, _⟩ := hv
              clear HA
              generalize x.ws[k] = v at *
              obtain ⟨dk, dt, dss, v3, v4, v5, v6⟩ := v
              simp only at c0 c1 c2 HT HW
              obtain ⟨rb, hrb⟩ : ∃ rb, hasB x.vs dk dt dss = rb := ⟨_, rfl⟩
              have hr : (atA x.vs dk dt dss).isSome = rb := by rw [HT.out, hrb]
              rw [hrb] at HW
              clear hrb HT
              rw [hae] at A1
              clear hae
              rcases rb with _ | _
              · rcases hq : (sideOf dss == sideOf x.site) with _ | _
                · rw [hq] at HW
                  have HR : Hid (waitsP x (x.ws.take (k + 1)) = true) := HY.out (by rw [HW.out]; rfl)
                  clear HY HN HW
                  have AT := fun (W : World) (k : Below wr.heap.size wr W) => InQ.at (W := W) A1 z1 hbb c0 c1 c2 k
                  have s0 : Hid (InQ w.heap.size #[.int .i64 x.site, .bool true, .slice a.la x.sl.length a.lc, .slice a.va x.vs.length a.vc, .slice (some ⟨b, o, none⟩) x.ws.length a.wc, .slice a.oa x.os.length a.oc, .slice a.ka x.kn.length a.kc] b (o + k * 7) dk dt dss (wr)) := AT wr (Below.refl _ _)
                  have kA : Below wr.heap.size wr (wr.alloc (.cells #[.int .i64 0, .int .i64 0, .int .i64 0, .int .i64 0, .int .i64 0, .int .i64 0, .slice none 0 0] 107)) := (Below.refl _ _).alloc (Nat.le_refl _) _
                  have sA : Hid (InQ w.heap.size #[.int .i64 x.site, .bool true, .slice a.la x.sl.length a.lc, .slice a.va x.vs.length a.vc, .slice (some ⟨b, o, none⟩) x.ws.length a.wc, .slice a.oa x.os.length a.oc, .slice a.ka x.kn.length a.kc] b (o + k * 7) dk dt dss (wr.alloc (.cells #[.int .i64 0, .int .i64 0, .int .i64 0, .int .i64 0, .int .i64 0, .int .i64 0, .slice none 0 0] 107))) := AT _ kA
                  have V1 : Vers wr.drew a.va x.vs := hV.below (Below.refl _ wr).drew
                  have VA : Vers (wr.drew.alloc (.cells #[.int .i64 0, .int .i64 0, .int .i64 0, .int .i64 0, .int .i64 0, .int .i64 0, .slice none 0 0] 107)) a.va x.vs := hV.below (((Below.refl _ wr).drew).alloc (Nat.le_refl _) _)
                  have ZA : Blk (wr.drew.alloc (.cells #[.int .i64 0, .int .i64 0, .int .i64 0, .int .i64 0, .int .i64 0, .int .i64 0, .slice none 0 0] 107)) wr.heap.size #[.int .i64 0, .int .i64 0, .int .i64 0, .int .i64 0, .int .i64 0, .int .i64 0, .slice none 0 0] 107 := Blk.new wr.drew _ _
                  have kD : Below wr.heap.size wr wr.drew := (Below.refl _ wr).drew
                  have kDA : Below wr.heap.size wr (wr.drew.alloc (.cells #[.int .i64 0, .int .i64 0, .int .i64 0, .int .i64 0, .int .i64 0, .int .i64 0, .slice none 0 0] 107)) := kD.alloc (Nat.le_refl _) _
                  obtain ⟨q1, g1⟩ := A1.rules
                  clear c0 c1 c2 A1 hV kA
                  go_wp2_with fail
                  clear q1 g1
                  go_region_held3 (fun W => (∀ j, W.cell? ⟨w.heap.size, j, none⟩ = #[.int .i64 x.site, .bool true, .slice a.la x.sl.length a.lc, .slice a.va x.vs.length a.vc, .slice (some ⟨b, o, none⟩) x.ws.length a.wc, .slice a.oa x.os.length a.oc, .slice a.ka x.kn.length a.kc][j]?) ∧ W.cell? ⟨b, o + k * 7, none⟩ = some (.int .i64 dk) ∧ W.cell? ⟨b, o + k * 7 + 1, none⟩ = some (.int .i64 dt) ∧ W.cell? ⟨b, o + k * 7 + 2, none⟩ = some (.int .i64 dss)) (first | with_reducible exact s4.out | with_reducible exact s3.out | with_reducible exact s2.out | with_reducible exact sA.out | with_reducible exact s0.out | exact s4.out | exact s3.out | exact s2.out | exact sA.out | exact s0.out)
                    (first | (go_at_call 70
                              refine (sAtV_any a.va a.vc x.vs dk dt dss _ vl ?hv).mono ?_
                              (case hv => exact V1)
                              rw [hr]
                              rintro e w3 ⟨u, pa, pc, Hu, rfl, hrow, hb3⟩
                              have k3 : Below wr.heap.size wr w3 := kD.trans (hb3.mono (Nat.le_refl _))
                              have s2 : Hid (InQ w.heap.size #[.int .i64 x.site, .bool true, .slice a.la x.sl.length a.lc, .slice a.va x.vs.length a.vc, .slice (some ⟨b, o, none⟩) x.ws.length a.wc, .slice a.oa x.os.length a.oc, .slice a.ka x.kn.length a.kc] b (o + k * 7) dk dt dss (w3)) := AT _ k3
                              have s3 : Hid (InQ w.heap.size #[.int .i64 x.site, .bool true, .slice a.la x.sl.length a.lc, .slice a.va x.vs.length a.vc, .slice (some ⟨b, o, none⟩) x.ws.length a.wc, .slice a.oa x.os.length a.oc, .slice a.ka x.kn.length a.kc] b (o + k * 7) dk dt dss (w3.alloc (.cells #[.int .i64 0, .int .i64 0, .int .i64 0, .int .i64 0, .int .i64 0, .int .i64 0, .slice none 0 0] 107))) := AT _ (k3.alloc k3.size _)
                              have k4 : Below wr.heap.size wr (w3.alloc (.cells #[.int .i64 u.k, .int .i64 u.t, .int .i64 u.s, .int .i64 u.val, .int .i64 u.cl, .int .i64 u.ca, .slice pa u.ds.length pc] 107)) := k3.alloc k3.size _
                              have s4 : Hid (InQ w.heap.size #[.int .i64 x.site, .bool true, .slice a.la x.sl.length a.lc, .slice a.va x.vs.length a.vc, .slice (some ⟨b, o, none⟩) x.ws.length a.wc, .slice a.oa x.os.length a.oc, .slice a.ka x.kn.length a.kc] b (o + k * 7) dk dt dss (w3.alloc (.cells #[.int .i64 u.k, .int .i64 u.t, .int .i64 u.s, .int .i64 u.val, .int .i64 u.cl, .int .i64 u.ca, .slice pa u.ds.length pc] 107))) := AT _ k4
                              have B5 := hB7.trans (k4.mono hB7.size)
                              have l5 := k4.size
                              clear Hu hrow hb3 V1 VA ZA sA k3 k4 kD kDA AT)
                           | (go_at_call 70
                              refine (sAtV_any a.va a.vc x.vs dk dt dss _ vl ?hv).mono ?_
                              (case hv => exact VA)
                              rw [hr]
                              rintro e w3 ⟨u, pa, pc, Hu, rfl, hrow, hb3⟩
                              have k3 : Below wr.heap.size wr w3 := kDA.trans (hb3.mono (by simp))
                              have s2 : Hid (InQ w.heap.size #[.int .i64 x.site, .bool true, .slice a.la x.sl.length a.lc, .slice a.va x.vs.length a.vc, .slice (some ⟨b, o, none⟩) x.ws.length a.wc, .slice a.oa x.os.length a.oc, .slice a.ka x.kn.length a.kc] b (o + k * 7) dk dt dss (w3)) := AT _ k3
                              have Z3 := ZA.below hb3 ZA.lt
                              obtain ⟨zq, zf⟩ := Z3.rules
                              have k4 : Below wr.heap.size wr ((((((((w3.setCell ⟨wr.heap.size, 0, none⟩ (.int .i64 u.k)).setCell ⟨wr.heap.size, 1, none⟩ (.int .i64 u.t)).setCell ⟨wr.heap.size, 2, none⟩ (.int .i64 u.s)).setCell ⟨wr.heap.size, 3, none⟩ (.int .i64 u.val)).setCell ⟨wr.heap.size, 4, none⟩ (.int .i64 u.cl)).setCell ⟨wr.heap.size, 5, none⟩ (.int .i64 u.ca)).setCell ⟨wr.heap.size, 6, none⟩ (.slice pa u.ds.length pc))) := fill7_below k3 (Nat.le_refl _)
                              have s4 : Hid (InQ w.heap.size #[.int .i64 x.site, .bool true, .slice a.la x.sl.length a.lc, .slice a.va x.vs.length a.vc, .slice (some ⟨b, o, none⟩) x.ws.length a.wc, .slice a.oa x.os.length a.oc, .slice a.ka x.kn.length a.kc] b (o + k * 7) dk dt dss ((((((((w3.setCell ⟨wr.heap.size, 0, none⟩ (.int .i64 u.k)).setCell ⟨wr.heap.size, 1, none⟩ (.int .i64 u.t)).setCell ⟨wr.heap.size, 2, none⟩ (.int .i64 u.s)).setCell ⟨wr.heap.size, 3, none⟩ (.int .i64 u.val)).setCell ⟨wr.heap.size, 4, none⟩ (.int .i64 u.cl)).setCell ⟨wr.heap.size, 5, none⟩ (.int .i64 u.ca)).setCell ⟨wr.heap.size, 6, none⟩ (.slice pa u.ds.length pc)))) := AT _ k4
                              have B5 := hB7.trans (k4.mono hB7.size)
                              have l5 := k4.size
                              clear Hu hrow hb3 V1 VA ZA sA k3 k4 kD kDA AT))
                  all_goals
                    try clear s3
                    obtain ⟨t1, t2, t3, t4⟩ := s4.out.since (by omega) (by omega)
                    have ne := s4.out.ne
                    clear s0 s2 s4
                    go_wp2_with fail
                    refine wp_region_class (S := Since _) (by kernel_rfl) (by kernel_rfl) (Below.refl _ _).drew ?_
                    repeat (go_big_quiet_step ((rename_i n; first | (go_at_call 79; exact Calls.inClass (sside_b _) Since.keep))))
                    refine wpQuiet_nil ?_
                    rintro W ⟨n, hnW⟩
                    have R2 := n.h
                    rw [← hnW] at R2
                    have B6 := B5.trans (R2.mono B5.size)
                    clear R2 t1 t2 t3 t4 ne hnW n B5 l5
                    go_wp2_with fail
                    go_roundw
                    case rel => exact ⟨k + 1, by omega, by go_num, HR, B6⟩
                    case measure => simp [intOf]; omega
                · rw [hq] at HW
                  have HR : Hid (waitsB x = false) := HN.out (by rw [HW.out]; rfl)
                  clear HY HN HW
                  have AT := fun (W : World) (k : Below wr.heap.size wr W) => InQ.at (W := W) A1 z1 hbb c0 c1 c2 k
                  have s0 : Hid (InQ w.heap.size #[.int .i64 x.site, .bool true, .slice a.la x.sl.length a.lc, .slice a.va x.vs.length a.vc, .slice (some ⟨b, o, none⟩) x.ws.length a.wc, .slice a.oa x.os.length a.oc, .slice a.ka x.kn.length a.kc] b (o + k * 7) dk dt dss (wr)) := AT wr (Below.refl _ _)
                  have kA : Below wr.heap.size wr (wr.alloc (.cells #[.int .i64 0, .int .i64 0, .int .i64 0, .int .i64 0, .int .i64 0, .int .i64 0, .slice none 0 0] 107)) := (Below.refl _ _).alloc (Nat.le_refl _) _
                  have sA : Hid (InQ w.heap.size #[.int .i64 x.site, .bool true, .slice a.la x.sl.length a.lc, .slice a.va x.vs.length a.vc, .slice (some ⟨b, o, none⟩) x.ws.length a.wc, .slice a.oa x.os.length a.oc, .slice a.ka x.kn.length a.kc] b (o + k * 7) dk dt dss (wr.alloc (.cells #[.int .i64 0, .int .i64 0, .int .i64 0, .int .i64 0, .int .i64 0, .int .i64 0, .slice none 0 0] 107))) := AT _ kA
                  have V1 : Vers wr.drew a.va x.vs := hV.below (Below.refl _ wr).drew
                  have VA : Vers (wr.drew.alloc (.cells #[.int .i64 0, .int .i64 0, .int .i64 0, .int .i64 0, .int .i64 0, .int .i64 0, .slice none 0 0] 107)) a.va x.vs := hV.below (((Below.refl _ wr).drew).alloc (Nat.le_refl _) _)
                  have ZA : Blk (wr.drew.alloc (.cells #[.int .i64 0, .int .i64 0, .int .i64 0, .int .i64 0, .int .i64 0, .int .i64 0, .slice none 0 0] 107)) wr.heap.size #[.int .i64 0, .int .i64 0, .int .i64 0, .int .i64 0, .int .i64 0, .int .i64 0, .slice none 0 0] 107 := Blk.new wr.drew _ _
                  have kD : Below wr.heap.size wr wr.drew := (Below.refl _ wr).drew
                  have kDA : Below wr.heap.size wr (wr.drew.alloc (.cells #[.int .i64 0, .int .i64 0, .int .i64 0, .int .i64 0, .int .i64 0, .int .i64 0, .slice none 0 0] 107)) := kD.alloc (Nat.le_refl _) _
                  obtain ⟨q1, g1⟩ := A1.rules
                  clear c0 c1 c2 A1 hV kA
                  go_wp2_with fail
                  clear q1 g1
                  go_region_held3 (fun W => (∀ j, W.cell? ⟨w.heap.size, j, none⟩ = #[.int .i64 x.site, .bool true, .slice a.la x.sl.length a.lc, .slice a.va x.vs.length a.vc, .slice (some ⟨b, o, none⟩) x.ws.length a.wc, .slice a.oa x.os.length a.oc, .slice a.ka x.kn.length a.kc][j]?) ∧ W.cell? ⟨b, o + k * 7, none⟩ = some (.int .i64 dk) ∧ W.cell? ⟨b, o + k * 7 + 1, none⟩ = some (.int .i64 dt) ∧ W.cell? ⟨b, o + k * 7 + 2, none⟩ = some (.int .i64 dss)) (first | with_reducible exact s4.out | with_reducible exact s3.out | with_reducible exact s2.out | with_reducible exact sA.out | with_reducible exact s0.out | exact s4.out | exact s3.out | exact s2.out | exact sA.out | exact s0.out)
                    (first | (go_at_call 70
                              refine (sAtV_any a.va a.vc x.vs dk dt dss _ vl ?hv).mono ?_
                              (case hv => exact V1)
                              rw [hr]
                              rintro e w3 ⟨u, pa, pc, Hu, rfl, hrow, hb3⟩
                              have k3 : Below wr.heap.size wr w3 := kD.trans (hb3.mono (Nat.le_refl _))
                              have s2 : Hid (InQ w.heap.size #[.int .i64 x.site, .bool true, .slice a.la x.sl.length a.lc, .slice a.va x.vs.length a.vc, .slice (some ⟨b, o, none⟩) x.ws.length a.wc, .slice a.oa x.os.length a.oc, .slice a.ka x.kn.length a.kc] b (o + k * 7) dk dt dss (w3)) := AT _ k3
                              have s3 : Hid (InQ w.heap.size #[.int .i64 x.site, .bool true, .slice a.la x.sl.length a.lc, .slice a.va x.vs.length a.vc, .slice (some ⟨b, o, none⟩) x.ws.length a.wc, .slice a.oa x.os.length a.oc, .slice a.ka x.kn.length a.kc] b (o + k * 7) dk dt dss (w3.alloc (.cells #[.int .i64 0, .int .i64 0, .int .i64 0, .int .i64 0, .int .i64 0, .int .i64 0, .slice none 0 0] 107))) := AT _ (k3.alloc k3.size _)
                              have k4 : Below wr.heap.size wr (w3.alloc (.cells #[.int .i64 u.k, .int .i64 u.t, .int .i64 u.s, .int .i64 u.val, .int .i64 u.cl, .int .i64 u.ca, .slice pa u.ds.length pc] 107)) := k3.alloc k3.size _
                              have s4 : Hid (InQ w.heap.size #[.int .i64 x.site, .bool true, .slice a.la x.sl.length a.lc, .slice a.va x.vs.length a.vc, .slice (some ⟨b, o, none⟩) x.ws.length a.wc, .slice a.oa x.os.length a.oc, .slice a.ka x.kn.length a.kc] b (o + k * 7) dk dt dss (w3.alloc (.cells #[.int .i64 u.k, .int .i64 u.t, .int .i64 u.s, .int .i64 u.val, .int .i64 u.cl, .int .i64 u.ca, .slice pa u.ds.length pc] 107))) := AT _ k4
                              have B5 := hB7.trans (k4.mono hB7.size)
                              have l5 := k4.size
                              clear Hu hrow hb3 V1 VA ZA sA k3 k4 kD kDA AT)
                           | (go_at_call 70
                              refine (sAtV_any a.va a.vc x.vs dk dt dss _ vl ?hv).mono ?_
                              (case hv => exact VA)
                              rw [hr]
                              rintro e w3 ⟨u, pa, pc, Hu, rfl, hrow, hb3⟩
                              have k3 : Below wr.heap.size wr w3 := kDA.trans (hb3.mono (by simp))
                              have s2 : Hid (InQ w.heap.size #[.int .i64 x.site, .bool true, .slice a.la x.sl.length a.lc, .slice a.va x.vs.length a.vc, .slice (some ⟨b, o, none⟩) x.ws.length a.wc, .slice a.oa x.os.length a.oc, .slice a.ka x.kn.length a.kc] b (o + k * 7) dk dt dss (w3)) := AT _ k3
                              have Z3 := ZA.below hb3 ZA.lt
                              obtain ⟨zq, zf⟩ := Z3.rules
                              have k4 : Below wr.heap.size wr ((((((((w3.setCell ⟨wr.heap.size, 0, none⟩ (.int .i64 u.k)).setCell ⟨wr.heap.size, 1, none⟩ (.int .i64 u.t)).setCell ⟨wr.heap.size, 2, none⟩ (.int .i64 u.s)).setCell ⟨wr.heap.size, 3, none⟩ (.int .i64 u.val)).setCell ⟨wr.heap.size, 4, none⟩ (.int .i64 u.cl)).setCell ⟨wr.heap.size, 5, none⟩ (.int .i64 u.ca)).setCell ⟨wr.heap.size, 6, none⟩ (.slice pa u.ds.length pc))) := fill7_below k3 (Nat.le_refl _)
                              have s4 : Hid (InQ w.heap.size #[.int .i64 x.site, .bool true, .slice a.la x.sl.length a.lc, .slice a.va x.vs.length a.vc, .slice (some ⟨b, o, none⟩) x.ws.length a.wc, .slice a.oa x.os.length a.oc, .slice a.ka x.kn.length a.kc] b (o + k * 7) dk dt dss ((((((((w3.setCell ⟨wr.heap.size, 0, none⟩ (.int .i64 u.k)).setCell ⟨wr.heap.size, 1, none⟩ (.int .i64 u.t)).setCell ⟨wr.heap.size, 2, none⟩ (.int .i64 u.s)).setCell ⟨wr.heap.size, 3, none⟩ (.int .i64 u.val)).setCell ⟨wr.heap.size, 4, none⟩ (.int .i64 u.cl)).setCell ⟨wr.heap.size, 5, none⟩ (.int .i64 u.ca)).setCell ⟨wr.heap.size, 6, none⟩ (.slice pa u.ds.length pc)))) := AT _ k4
                              have B5 := hB7.trans (k4.mono hB7.size)
                              have l5 := k4.size
                              clear Hu hrow hb3 V1 VA ZA sA k3 k4 kD kDA AT))
                  all_goals
                    try clear s3
                    obtain ⟨t1, t2, t3, t4⟩ := s4.out.since (by omega) (by omega)
                    have ne := s4.out.ne
                    clear s0 s2 s4
                    go_wp2_with fail
                    refine wp_region_class (S := Since _) (by kernel_rfl) (by kernel_rfl) (Below.refl _ _).drew ?_
                    repeat (go_big_quiet_step ((rename_i n; first | (go_at_call 79; exact Calls.inClass (sside_b _) Since.keep))))
                    refine wpQuiet_nil ?_
                    rintro W ⟨n, hnW⟩
                    have R2 := n.h
                    rw [← hnW] at R2
                    have B6 := B5.trans (R2.mono B5.size)
                    clear R2 t1 t2 t3 t4 ne hnW n B5 l5
                    go_wp2_with fail
                    go_ret
                    exact ⟨by rw [HE.out, HR.out]; simp, B7.trans (B6.mono B7.size)⟩
              · have HR : Hid (waitsB x = false) := HN.out (by rw [HW.out]; simp)
                clear HY HN HW
                have AT := fun (W : World) (k : Below wr.heap.size wr W) => InQ.at (W := W) A1 z1 hbb c0 c1 c2 k
                have s0 : Hid (InQ w.heap.size #[.int .i64 x.site, .bool true, .slice a.la x.sl.length a.lc, .slice a.va x.vs.length a.vc, .slice (some ⟨b, o, none⟩) x.ws.length a.wc, .slice a.oa x.os.length a.oc, .slice a.ka x.kn.length a.kc] b (o + k * 7) dk dt dss (wr)) := AT wr (Below.refl _ _)
                have kA : Below wr.heap.size wr (wr.alloc (.cells #[.int .i64 0, .int .i64 0, .int .i64 0, .int .i64 0, .int .i64 0, .int .i64 0, .slice none 0 0] 107)) := (Below.refl _ _).alloc (Nat.le_refl _) _
                have sA : Hid (InQ w.heap.size #[.int .i64 x.site, .bool true, .slice a.la x.sl.length a.lc, .slice a.va x.vs.length a.vc, .slice (some ⟨b, o, none⟩) x.ws.length a.wc, .slice a.oa x.os.length a.oc, .slice a.ka x.kn.length a.kc] b (o + k * 7) dk dt dss (wr.alloc (.cells #[.int .i64 0, .int .i64 0, .int .i64 0, .int .i64 0, .int .i64 0, .int .i64 0, .slice none 0 0] 107))) := AT _ kA
                have V1 : Vers wr.drew a.va x.vs := hV.below (Below.refl _ wr).drew
                have VA : Vers (wr.drew.alloc (.cells #[.int .i64 0, .int .i64 0, .int .i64 0, .int .i64 0, .int .i64 0, .int .i64 0, .slice none 0 0] 107)) a.va x.vs := hV.below (((Below.refl _ wr).drew).alloc (Nat.le_refl _) _)
                have ZA : Blk (wr.drew.alloc (.cells #[.int .i64 0, .int .i64 0, .int .i64 0, .int .i64 0, .int .i64 0, .int .i64 0, .slice none 0 0] 107)) wr.heap.size #[.int .i64 0, .int .i64 0, .int .i64 0, .int .i64 0, .int .i64 0, .int .i64 0, .slice none 0 0] 107 := Blk.new wr.drew _ _
                have kD : Below wr.heap.size wr wr.drew := (Below.refl _ wr).drew
                have kDA : Below wr.heap.size wr (wr.drew.alloc (.cells #[.int .i64 0, .int .i64 0, .int .i64 0, .int .i64 0, .int .i64 0, .int .i64 0, .slice none 0 0] 107)) := kD.alloc (Nat.le_refl _) _
                obtain ⟨q1, g1⟩ := A1.rules
                clear c0 c1 c2 A1 hV kA
                go_wp2_with fail
                clear q1 g1
                go_region_held3 (fun W => (∀ j, W.cell? ⟨w.heap.size, j, none⟩ = #[.int .i64 x.site, .bool true, .slice a.la x.sl.length a.lc, .slice a.va x.vs.length a.vc, .slice (some ⟨b, o, none⟩) x.ws.length a.wc, .slice a.oa x.os.length a.oc, .slice a.ka x.kn.length a.kc][j]?) ∧ W.cell? ⟨b, o + k * 7, none⟩ = some (.int .i64 dk) ∧ W.cell? ⟨b, o + k * 7 + 1, none⟩ = some (.int .i64 dt) ∧ W.cell? ⟨b, o + k * 7 + 2, none⟩ = some (.int .i64 dss)) (first | with_reducible exact s4.out | with_reducible exact s3.out | with_reducible exact s2.out | with_reducible exact sA.out | with_reducible exact s0.out | exact s4.out | exact s3.out | exact s2.out | exact sA.out | exact s0.out)
                  (first | (go_at_call 70
                            refine (sAtV_any a.va a.vc x.vs dk dt dss _ vl ?hv).mono ?_
                            (case hv => exact V1)
                            rw [hr]
                            rintro e w3 ⟨u, pa, pc, Hu, rfl, hrow, hb3⟩
                            have k3 : Below wr.heap.size wr w3 := kD.trans (hb3.mono (Nat.le_refl _))
                            have s2 : Hid (InQ w.heap.size #[.int .i64 x.site, .bool true, .slice a.la x.sl.length a.lc, .slice a.va x.vs.length a.vc, .slice (some ⟨b, o, none⟩) x.ws.length a.wc, .slice a.oa x.os.length a.oc, .slice a.ka x.kn.length a.kc] b (o + k * 7) dk dt dss (w3)) := AT _ k3
                            have s3 : Hid (InQ w.heap.size #[.int .i64 x.site, .bool true, .slice a.la x.sl.length a.lc, .slice a.va x.vs.length a.vc, .slice (some ⟨b, o, none⟩) x.ws.length a.wc, .slice a.oa x.os.length a.oc, .slice a.ka x.kn.length a.kc] b (o + k * 7) dk dt dss (w3.alloc (.cells #[.int .i64 0, .int .i64 0, .int .i64 0, .int .i64 0, .int .i64 0, .int .i64 0, .slice none 0 0] 107))) := AT _ (k3.alloc k3.size _)
                            have k4 : Below wr.heap.size wr (w3.alloc (.cells #[.int .i64 u.k, .int .i64 u.t, .int .i64 u.s, .int .i64 u.val, .int .i64 u.cl, .int .i64 u.ca, .slice pa u.ds.length pc] 107)) := k3.alloc k3.size _
                            have s4 : Hid (InQ w.heap.size #[.int .i64 x.site, .bool true, .slice a.la x.sl.length a.lc, .slice a.va x.vs.length a.vc, .slice (some ⟨b, o, none⟩) x.ws.length a.wc, .slice a.oa x.os.length a.oc, .slice a.ka x.kn.length a.kc] b (o + k * 7) dk dt dss (w3.alloc (.cells #[.int .i64 u.k, .int .i64 u.t, .int .i64 u.s, .int .i64 u.val, .int .i64 u.cl, .int .i64 u.ca, .slice pa u.ds.length pc] 107))) := AT _ k4
                            have B5 := hB7.trans (k4.mono hB7.size)
                            have l5 := k4.size
                            clear Hu hrow hb3 V1 VA ZA sA k3 k4 kD kDA AT)
                         | (go_at_call 70
                            refine (sAtV_any a.va a.vc x.vs dk dt dss _ vl ?hv).mono ?_
                            (case hv => exact VA)
                            rw [hr]
                            rintro e w3 ⟨u, pa, pc, Hu, rfl, hrow, hb3⟩
                            have k3 : Below wr.heap.size wr w3 := kDA.trans (hb3.mono (by simp))
                            have s2 : Hid (InQ w.heap.size #[.int .i64 x.site, .bool true, .slice a.la x.sl.length a.lc, .slice a.va x.vs.length a.vc, .slice (some ⟨b, o, none⟩) x.ws.length a.wc, .slice a.oa x.os.length a.oc, .slice a.ka x.kn.length a.kc] b (o + k * 7) dk dt dss (w3)) := AT _ k3
                            have Z3 := ZA.below hb3 ZA.lt
                            obtain ⟨zq, zf⟩ := Z3.rules
                            have k4 : Below wr.heap.size wr ((((((((w3.setCell ⟨wr.heap.size, 0, none⟩ (.int .i64 u.k)).setCell ⟨wr.heap.size, 1, none⟩ (.int .i64 u.t)).setCell ⟨wr.heap.size, 2, none⟩ (.int .i64 u.s)).setCell ⟨wr.heap.size, 3, none⟩ (.int .i64 u.val)).setCell ⟨wr.heap.size, 4, none⟩ (.int .i64 u.cl)).setCell ⟨wr.heap.size, 5, none⟩ (.int .i64 u.ca)).setCell ⟨wr.heap.size, 6, none⟩ (.slice pa u.ds.length pc))) := fill7_below k3 (Nat.le_refl _)
                            have s4 : Hid (InQ w.heap.size #[.int .i64 x.site, .bool true, .slice a.la x.sl.length a.lc, .slice a.va x.vs.length a.vc, .slice (some ⟨b, o, none⟩) x.ws.length a.wc, .slice a.oa x.os.length a.oc, .slice a.ka x.kn.length a.kc] b (o + k * 7) dk dt dss ((((((((w3.setCell ⟨wr.heap.size, 0, none⟩ (.int .i64 u.k)).setCell ⟨wr.heap.size, 1, none⟩ (.int .i64 u.t)).setCell ⟨wr.heap.size, 2, none⟩ (.int .i64 u.s)).setCell ⟨wr.heap.size, 3, none⟩ (.int .i64 u.val)).setCell ⟨wr.heap.size, 4, none⟩ (.int .i64 u.cl)).setCell ⟨wr.heap.size, 5, none⟩ (.int .i64 u.ca)).setCell ⟨wr.heap.size, 6, none⟩ (.slice pa u.ds.length pc)))) := AT _ k4
                            have B5 := hB7.trans (k4.mono hB7.size)
                            have l5 := k4.size
                            clear Hu hrow hb3 V1 VA ZA sA k3 k4 kD kDA AT))
                all_goals
                  try clear s3
                  obtain ⟨t1, t2, t3, t4⟩ := s4.out.since (by omega) (by omega)
                  have ne := s4.out.ne
                  clear s0 s2 s4
                  go_wp2_with fail
                  refine wp_region_class (S := Since _) (by kernel_rfl) (by kernel_rfl) (Below.refl _ _).drew ?_
                  repeat (go_big_quiet_step ((rename_i n; first | (go_at_call 79; exact Calls.inClass (sside_b _) Since.keep))))
                  refine wpQuiet_nil ?_
                  rintro W ⟨n, hnW⟩
                  have R2 := n.h
                  rw [← hnW] at R2
                  have B6 := B5.trans (R2.mono B5.size)
                  clear R2 t1 t2 t3 t4 ne hnW n B5 l5
                  go_wp2_with fail
                  go_ret
                  exact ⟨by rw [HE.out, HR.out]; simp, B7.trans (B6.mono B7.size)⟩
            · have hk2 : k = x.ws.length := by omega
              subst hk2
              rw [List.take_length] at HA
              have HWt : Hid (waitsB x = true) := by show _ = true; rw [waitsB_eq]; exact HA.out
              rw [HWt.out] at HE
              clear HA HWt
              obtain ⟨q1, g1⟩ := A1.rules
              go_wp2_with fail
              clear q1 g1 A1 z1
              go_loopw [7] (fun i w8 => ∃ k : Nat, k ≤ x.os.length ∧ i = .int .i64 k ∧ Hid (owedP x (x.os.take k) = true) ∧ Below w7.heap.size w7 w8) (fun i _ => x.os.length - (intOf i).toNat)
              case atStart => exact ⟨0, Nat.zero_le _, rfl, rfl, hB7⟩
              case round =>
                clear hB7 hB
                obtain ⟨k, hk, rfl, HA, hB7⟩ := hrel
                have A1 := A7.below hB7 A7.lt
                have z1 := A1.lt
                by_cases hlt : k < x.os.length
                · obtain ⟨b, o, hae, hbb, c0, c1, c2⟩ := (L7.o.below hB7).at hlt
                  have HY : Hid (hasB x.vs x.os[k].k x.os[k].t x.os[k].s = true → owedP x (x.os.take (k + 1)) = true) := by show _ → _; intro hp; exact owed_step hlt HA.out hp
                  have HN : Hid (hasB x.vs x.os[k].k x.os[k].t x.os[k].s = false → owedB x = false) := by show _ → _; intro hp; rw [owedB_eq]; exact owed_bad hlt hp
                  have hV := L7.v.below hB7
                  have j0 : (0 : Int) ≤ (k : Int) := by omega
                  have j1 : (k : Int) < (x.os.length : Int) := by omega
                  have HT : Hid ((atA x.vs x.os[k].k x.os[k].t x.os[k].s).isSome = hasB x.vs x.os[k].k x.os[k].t x.os[k].s) := by show _ = _; rw [atA_yes hc1]; rfl
                  clear HA
                  generalize x.os[k] = v at *
                  obtain ⟨dk, dt, dss⟩ := v
                  simp only at c0 c1 c2 HT HY HN
                  obtain ⟨rb, hrb⟩ : ∃ rb, hasB x.vs dk dt dss = rb := ⟨_, rfl⟩
                  have hr : (atA x.vs dk dt dss).isSome = rb := by rw [HT.out, hrb]
                  have HB : Hid (hasB x.vs dk dt dss = rb) := hrb
                  clear hrb HT
                  rw [hae] at A1
                  clear hae
                  rcases rb with _ | _
                  · have HR : Hid (owedB x = false) := HN.out HB.out
                    clear HY HN HB
                    have AT := fun (W : World) (k : Below wr.heap.size wr W) => InQ.at (W := W) A1 z1 hbb c0 c1 c2 k
                    have s0 : Hid (InQ w.heap.size #[.int .i64 x.site, .bool true, .slice a.la x.sl.length a.lc, .slice a.va x.vs.length a.vc, .slice a.wa x.ws.length a.wc, .slice (some ⟨b, o, none⟩) x.os.length a.oc, .slice a.ka x.kn.length a.kc] b (o + k * 3) dk dt dss (wr)) := AT wr (Below.refl _ _)
                    have kA : Below wr.heap.size wr (wr.alloc (.cells #[.int .i64 0, .int .i64 0, .int .i64 0, .int .i64 0, .int .i64 0, .int .i64 0, .slice none 0 0] 107)) := (Below.refl _ _).alloc (Nat.le_refl _) _
                    have sA : Hid (InQ w.heap.size #[.int .i64 x.site, .bool true, .slice a.la x.sl.length a.lc, .slice a.va x.vs.length a.vc, .slice a.wa x.ws.length a.wc, .slice (some ⟨b, o, none⟩) x.os.length a.oc, .slice a.ka x.kn.length a.kc] b (o + k * 3) dk dt dss (wr.alloc (.cells #[.int .i64 0, .int .i64 0, .int .i64 0, .int .i64 0, .int .i64 0, .int .i64 0, .slice none 0 0] 107))) := AT _ kA
                    have V1 : Vers wr.drew a.va x.vs := hV.below (Below.refl _ wr).drew
                    have VA : Vers (wr.drew.alloc (.cells #[.int .i64 0, .int .i64 0, .int .i64 0, .int .i64 0, .int .i64 0, .int .i64 0, .slice none 0 0] 107)) a.va x.vs := hV.below (((Below.refl _ wr).drew).alloc (Nat.le_refl _) _)
                    have ZA : Blk (wr.drew.alloc (.cells #[.int .i64 0, .int .i64 0, .int .i64 0, .int .i64 0, .int .i64 0, .int .i64 0, .slice none 0 0] 107)) wr.heap.size #[.int .i64 0, .int .i64 0, .int .i64 0, .int .i64 0, .int .i64 0, .int .i64 0, .slice none 0 0] 107 := Blk.new wr.drew _ _
                    have kD : Below wr.heap.size wr wr.drew := (Below.refl _ wr).drew
                    have kDA : Below wr.heap.size wr (wr.drew.alloc (.cells #[.int .i64 0, .int .i64 0, .int .i64 0, .int .i64 0, .int .i64 0, .int .i64 0, .slice none 0 0] 107)) := kD.alloc (Nat.le_refl _) _
                    obtain ⟨q1, g1⟩ := A1.rules
                    clear c0 c1 c2 A1 hV kA
                    go_wp2_with fail
                    clear q1 g1
                    go_region_held3 (fun W => (∀ j, W.cell? ⟨w.heap.size, j, none⟩ = #[.int .i64 x.site, .bool true, .slice a.la x.sl.length a.lc, .slice a.va x.vs.length a.vc, .slice a.wa x.ws.length a.wc, .slice (some ⟨b, o, none⟩) x.os.length a.oc, .slice a.ka x.kn.length a.kc][j]?) ∧ W.cell? ⟨b, o + k * 3, none⟩ = some (.int .i64 dk) ∧ W.cell? ⟨b, o + k * 3 + 1, none⟩ = some (.int .i64 dt) ∧ W.cell? ⟨b, o + k * 3 + 2, none⟩ = some (.int .i64 dss)) (first | with_reducible exact s4.out | with_reducible exact s3.out | with_reducible exact s2.out | with_reducible exact sA.out | with_reducible exact s0.out | exact s4.out | exact s3.out | exact s2.out | exact sA.out | exact s0.out)
                      (first | (go_at_call 70
                                refine (sAtV_any a.va a.vc x.vs dk dt dss _ vl ?hv).mono ?_
                                (case hv => exact V1)
                                rw [hr]
                                rintro e w3 ⟨u, pa, pc, Hu, rfl, hrow, hb3⟩
                                have k3 : Below wr.heap.size wr w3 := kD.trans (hb3.mono (Nat.le_refl _))
                                have s2 : Hid (InQ w.heap.size #[.int .i64 x.site, .bool true, .slice a.la x.sl.length a.lc, .slice a.va x.vs.length a.vc, .slice a.wa x.ws.length a.wc, .slice (some ⟨b, o, none⟩) x.os.length a.oc, .slice a.ka x.kn.length a.kc] b (o + k * 3) dk dt dss (w3)) := AT _ k3
                                have s3 : Hid (InQ w.heap.size #[.int .i64 x.site, .bool true, .slice a.la x.sl.length a.lc, .slice a.va x.vs.length a.vc, .slice a.wa x.ws.length a.wc, .slice (some ⟨b, o, none⟩) x.os.length a.oc, .slice a.ka x.kn.length a.kc] b (o + k * 3) dk dt dss (w3.alloc (.cells #[.int .i64 0, .int .i64 0, .int .i64 0, .int .i64 0, .int .i64 0, .int .i64 0, .slice none 0 0] 107))) := AT _ (k3.alloc k3.size _)
                                have k4 : Below wr.heap.size wr (w3.alloc (.cells #[.int .i64 u.k, .int .i64 u.t, .int .i64 u.s, .int .i64 u.val, .int .i64 u.cl, .int .i64 u.ca, .slice pa u.ds.length pc] 107)) := k3.alloc k3.size _
                                have s4 : Hid (InQ w.heap.size #[.int .i64 x.site, .bool true, .slice a.la x.sl.length a.lc, .slice a.va x.vs.length a.vc, .slice a.wa x.ws.length a.wc, .slice (some ⟨b, o, none⟩) x.os.length a.oc, .slice a.ka x.kn.length a.kc] b (o + k * 3) dk dt dss (w3.alloc (.cells #[.int .i64 u.k, .int .i64 u.t, .int .i64 u.s, .int .i64 u.val, .int .i64 u.cl, .int .i64 u.ca, .slice pa u.ds.length pc] 107))) := AT _ k4
                                have B5 := hB7.trans (k4.mono hB7.size)
                                have l5 := k4.size
                                clear Hu hrow hb3 V1 VA ZA sA k3 k4 kD kDA AT)
                             | (go_at_call 70
                                refine (sAtV_any a.va a.vc x.vs dk dt dss _ vl ?hv).mono ?_
                                (case hv => exact VA)
                                rw [hr]
                                rintro e w3 ⟨u, pa, pc, Hu, rfl, hrow, hb3⟩
                                have k3 : Below wr.heap.size wr w3 := kDA.trans (hb3.mono (by simp))
                                have s2 : Hid (InQ w.heap.size #[.int .i64 x.site, .bool true, .slice a.la x.sl.length a.lc, .slice a.va x.vs.length a.vc, .slice a.wa x.ws.length a.wc, .slice (some ⟨b, o, none⟩) x.os.length a.oc, .slice a.ka x.kn.length a.kc] b (o + k * 3) dk dt dss (w3)) := AT _ k3
                                have Z3 := ZA.below hb3 ZA.lt
                                obtain ⟨zq, zf⟩ := Z3.rules
                                have k4 : Below wr.heap.size wr ((((((((w3.setCell ⟨wr.heap.size, 0, none⟩ (.int .i64 u.k)).setCell ⟨wr.heap.size, 1, none⟩ (.int .i64 u.t)).setCell ⟨wr.heap.size, 2, none⟩ (.int .i64 u.s)).setCell ⟨wr.heap.size, 3, none⟩ (.int .i64 u.val)).setCell ⟨wr.heap.size, 4, none⟩ (.int .i64 u.cl)).setCell ⟨wr.heap.size, 5, none⟩ (.int .i64 u.ca)).setCell ⟨wr.heap.size, 6, none⟩ (.slice pa u.ds.length pc))) := fill7_below k3 (Nat.le_refl _)
                                have s4 : Hid (InQ w.heap.size #[.int .i64 x.site, .bool true, .slice a.la x.sl.length a.lc, .slice a.va x.vs.length a.vc, .slice a.wa x.ws.length a.wc, .slice (some ⟨b, o, none⟩) x.os.length a.oc, .slice a.ka x.kn.length a.kc] b (o + k * 3) dk dt dss ((((((((w3.setCell ⟨wr.heap.size, 0, none⟩ (.int .i64 u.k)).setCell ⟨wr.heap.size, 1, none⟩ (.int .i64 u.t)).setCell ⟨wr.heap.size, 2, none⟩ (.int .i64 u.s)).setCell ⟨wr.heap.size, 3, none⟩ (.int .i64 u.val)).setCell ⟨wr.heap.size, 4, none⟩ (.int .i64 u.cl)).setCell ⟨wr.heap.size, 5, none⟩ (.int .i64 u.ca)).setCell ⟨wr.heap.size, 6, none⟩ (.slice pa u.ds.length pc)))) := AT _ k4
                                have B5 := hB7.trans (k4.mono hB7.size)
                                have l5 := k4.size
                                clear Hu hrow hb3 V1 VA ZA sA k3 k4 kD kDA AT))
                    all_goals
                      try clear s3
                      clear s0 s2 s4 l5
                      go_wp2_with fail
                      go_ret
                      exact ⟨by rw [HE.out, HR.out]; simp, B7.trans (B5.mono B7.size)⟩
                  · have HR : Hid (owedP x (x.os.take (k + 1)) = true) := HY.out HB.out
                    clear HY HN HB
                    have AT := fun (W : World) (k : Below wr.heap.size wr W) => InQ.at (W := W) A1 z1 hbb c0 c1 c2 k
                    have s0 : Hid (InQ w.heap.size #[.int .i64 x.site, .bool true, .slice a.la x.sl.length a.lc, .slice a.va x.vs.length a.vc, .slice a.wa x.ws.length a.wc, .slice (some ⟨b, o, none⟩) x.os.length a.oc, .slice a.ka x.kn.length a.kc] b (o + k * 3) dk dt dss (wr)) := AT wr (Below.refl _ _)
                    have kA : Below wr.heap.size wr (wr.alloc (.cells #[.int .i64 0, .int .i64 0, .int .i64 0, .int .i64 0, .int .i64 0, .int .i64 0, .slice none 0 0] 107)) := (Below.refl _ _).alloc (Nat.le_refl _) _
                    have sA : Hid (InQ w.heap.size #[.int .i64 x.site, .bool true, .slice a.la x.sl.length a.lc, .slice a.va x.vs.length a.vc, .slice a.wa x.ws.length a.wc, .slice (some ⟨b, o, none⟩) x.os.length a.oc, .slice a.ka x.kn.length a.kc] b (o + k * 3) dk dt dss (wr.alloc (.cells #[.int .i64 0, .int .i64 0, .int .i64 0, .int .i64 0, .int .i64 0, .int .i64 0, .slice none 0 0] 107))) := AT _ kA
                    have V1 : Vers wr.drew a.va x.vs := hV.below (Below.refl _ wr).drew
                    have VA : Vers (wr.drew.alloc (.cells #[.int .i64 0, .int .i64 0, .int .i64 0, .int .i64 0, .int .i64 0, .int .i64 0, .slice none 0 0] 107)) a.va x.vs := hV.below (((Below.refl _ wr).drew).alloc (Nat.le_refl _) _)
                    have ZA : Blk (wr.drew.alloc (.cells #[.int .i64 0, .int .i64 0, .int .i64 0, .int .i64 0, .int .i64 0, .int .i64 0, .slice none 0 0] 107)) wr.heap.size #[.int .i64 0, .int .i64 0, .int .i64 0, .int .i64 0, .int .i64 0, .int .i64 0, .slice none 0 0] 107 := Blk.new wr.drew _ _
                    have kD : Below wr.heap.size wr wr.drew := (Below.refl _ wr).drew
                    have kDA : Below wr.heap.size wr (wr.drew.alloc (.cells #[.int .i64 0, .int .i64 0, .int .i64 0, .int .i64 0, .int .i64 0, .int .i64 0, .slice none 0 0] 107)) := kD.alloc (Nat.le_refl _) _
                    obtain ⟨q1, g1⟩ := A1.rules
                    clear c0 c1 c2 A1 hV kA
                    go_wp2_with fail
                    clear q1 g1
                    go_region_held3 (fun W => (∀ j, W.cell? ⟨w.heap.size, j, none⟩ = #[.int .i64 x.site, .bool true, .slice a.la x.sl.length a.lc, .slice a.va x.vs.length a.vc, .slice a.wa x.ws.length a.wc, .slice (some ⟨b, o, none⟩) x.os.length a.oc, .slice a.ka x.kn.length a.kc][j]?) ∧ W.cell? ⟨b, o + k * 3, none⟩ = some (.int .i64 dk) ∧ W.cell? ⟨b, o + k * 3 + 1, none⟩ = some (.int .i64 dt) ∧ W.cell? ⟨b, o + k * 3 + 2, none⟩ = some (.int .i64 dss)) (first | with_reducible exact s4.out | with_reducible exact s3.out | with_reducible exact s2.out | with_reducible exact sA.out | with_reducible exact s0.out | exact s4.out | exact s3.out | exact s2.out | exact sA.out | exact s0.out)
                      (first | (go_at_call 70
                                refine (sAtV_any a.va a.vc x.vs dk dt dss _ vl ?hv).mono ?_
                                (case hv => exact V1)
                                rw [hr]
                                rintro e w3 ⟨u, pa, pc, Hu, rfl, hrow, hb3⟩
                                have k3 : Below wr.heap.size wr w3 := kD.trans (hb3.mono (Nat.le_refl _))
                                have s2 : Hid (InQ w.heap.size #[.int .i64 x.site, .bool true, .slice a.la x.sl.length a.lc, .slice a.va x.vs.length a.vc, .slice a.wa x.ws.length a.wc, .slice (some ⟨b, o, none⟩) x.os.length a.oc, .slice a.ka x.kn.length a.kc] b (o + k * 3) dk dt dss (w3)) := AT _ k3
                                have s3 : Hid (InQ w.heap.size #[.int .i64 x.site, .bool true, .slice a.la x.sl.length a.lc, .slice a.va x.vs.length a.vc, .slice a.wa x.ws.length a.wc, .slice (some ⟨b, o, none⟩) x.os.length a.oc, .slice a.ka x.kn.length a.kc] b (o + k * 3) dk dt dss (w3.alloc (.cells #[.int .i64 0, .int .i64 0, .int .i64 0, .int .i64 0, .int .i64 0, .int .i64 0, .slice none 0 0] 107))) := AT _ (k3.alloc k3.size _)
                                have k4 : Below wr.heap.size wr (w3.alloc (.cells #[.int .i64 u.k, .int .i64 u.t, .int .i64 u.s, .int .i64 u.val, .int .i64 u.cl, .int .i64 u.ca, .slice pa u.ds.length pc] 107)) := k3.alloc k3.size _
                                have s4 : Hid (InQ w.heap.size #[.int .i64 x.site, .bool true, .slice a.la x.sl.length a.lc, .slice a.va x.vs.length a.vc, .slice a.wa x.ws.length a.wc, .slice (some ⟨b, o, none⟩) x.os.length a.oc, .slice a.ka x.kn.length a.kc] b (o + k * 3) dk dt dss (w3.alloc (.cells #[.int .i64 u.k, .int .i64 u.t, .int .i64 u.s, .int .i64 u.val, .int .i64 u.cl, .int .i64 u.ca, .slice pa u.ds.length pc] 107))) := AT _ k4
                                have B5 := hB7.trans (k4.mono hB7.size)
                                have l5 := k4.size
                                clear Hu hrow hb3 V1 VA ZA sA k3 k4 kD kDA AT)
                             | (go_at_call 70
                                refine (sAtV_any a.va a.vc x.vs dk dt dss _ vl ?hv).mono ?_
                                (case hv => exact VA)
                                rw [hr]
                                rintro e w3 ⟨u, pa, pc, Hu, rfl, hrow, hb3⟩
                                have k3 : Below wr.heap.size wr w3 := kDA.trans (hb3.mono (by simp))
                                have s2 : Hid (InQ w.heap.size #[.int .i64 x.site, .bool true, .slice a.la x.sl.length a.lc, .slice a.va x.vs.length a.vc, .slice a.wa x.ws.length a.wc, .slice (some ⟨b, o, none⟩) x.os.length a.oc, .slice a.ka x.kn.length a.kc] b (o + k * 3) dk dt dss (w3)) := AT _ k3
                                have Z3 := ZA.below hb3 ZA.lt
                                obtain ⟨zq, zf⟩ := Z3.rules
                                have k4 : Below wr.heap.size wr ((((((((w3.setCell ⟨wr.heap.size, 0, none⟩ (.int .i64 u.k)).setCell ⟨wr.heap.size, 1, none⟩ (.int .i64 u.t)).setCell ⟨wr.heap.size, 2, none⟩ (.int .i64 u.s)).setCell ⟨wr.heap.size, 3, none⟩ (.int .i64 u.val)).setCell ⟨wr.heap.size, 4, none⟩ (.int .i64 u.cl)).setCell ⟨wr.heap.size, 5, none⟩ (.int .i64 u.ca)).setCell ⟨wr.heap.size, 6, none⟩ (.slice pa u.ds.length pc))) := fill7_below k3 (Nat.le_refl _)
                                have s4 : Hid (InQ w.heap.size #[.int .i64 x.site, .bool true, .slice a.la x.sl.length a.lc, .slice a.va x.vs.length a.vc, .slice a.wa x.ws.length a.wc, .slice (some ⟨b, o, none⟩) x.os.length a.oc, .slice a.ka x.kn.length a.kc] b (o + k * 3) dk dt dss ((((((((w3.setCell ⟨wr.heap.size, 0, none⟩ (.int .i64 u.k)).setCell ⟨wr.heap.size, 1, none⟩ (.int .i64 u.t)).setCell ⟨wr.heap.size, 2, none⟩ (.int .i64 u.s)).setCell ⟨wr.heap.size, 3, none⟩ (.int .i64 u.val)).setCell ⟨wr.heap.size, 4, none⟩ (.int .i64 u.cl)).setCell ⟨wr.heap.size, 5, none⟩ (.int .i64 u.ca)).setCell ⟨wr.heap.size, 6, none⟩ (.slice pa u.ds.length pc)))) := AT _ k4
                                have B5 := hB7.trans (k4.mono hB7.size)
                                have l5 := k4.size
                                clear Hu hrow hb3 V1 VA ZA sA k3 k4 kD kDA AT))
                    all_goals
                      try clear s3
                      clear s0 s2 s4 l5
                      go_wp2_with fail
                      go_roundw
                      case rel => exact ⟨k + 1, by omega, by go_num, HR, B5⟩
                      case measure => simp [intOf]; omega
                · have hk2 : k = x.os.length := by omega
                  subst hk2
                  rw [List.take_length] at HA
                  have HWt : Hid (owedB x = true) := by show _ = true; rw [owedB_eq]; exact HA.out
                  rw [HWt.out] at HE
                  obtain ⟨q1, g1⟩ := A1.rules
                  go_wp2_with fail
                  go_ret
                  exact ⟨by rw [HE.out]; simp, B7.trans (hB7.mono B7.size)⟩
  · have HN : Hid (slotsB x.sl = false) := slotsB_len hl3
    rw [HN.out] at HE
    have hl' : ((x.sl.length : Int) == 3) = false := by simpa using hl3
    go_enter Tryz.func42, Tryz.ntmps42
    go_wp2_with fail
    obtain ⟨q1, g1⟩ := A0.rules
    refine (h1 _).mono ?_
    rintro e w' ⟨rfl, rfl⟩
    clear h1
    rcases r1 with _ | _
    · go_wp2_with fail
      go_ret
      exact ⟨by rw [HE.out]; simp, b0⟩
    · go_wp2_with fail
      go_ret
      exact ⟨by rw [HE.out]; simp, b0⟩
end Go.Proofs.YtpjidogilofppaaGreat
