/- The law: a slot's versions and all others are all versions. -/
import Derived.Test.YtgdkoangpinieaaLMath
import Derived.Test.YtgdkoangpinieaaSSlotC
namespace Go.Proofs.Ytgdkoangpinieaa
open Go.ChangeShapes Go.WideShapes Go.ChangeAt Go.RowKit

theorem slots_few {n : Nat} {vs : List V} (h : Few n vs) (s : Int) : Few n (slotL vs s) ∧ Few n (restL vs s) := by
  cases hc : chainB vs with
  | false => rw [(slotL_no hc s).1, (slotL_no hc s).2]; exact ⟨⟨by simp, fun x hx => (by cases hx)⟩, ⟨by simp, fun x hx => (by cases hx)⟩⟩
  | true =>
    rw [(slotL_yes hc s).1, (slotL_yes hc s).2]
    exact ⟨⟨Nat.le_trans (List.length_filter_le _ _) h.1, fun x hx => h.2 x (List.mem_filter.1 hx).1⟩, ⟨Nat.le_trans (List.length_filter_le _ _) h.1, fun x hx => h.2 x (List.mem_filter.1 hx).1⟩⟩
/-- What the loop knows: a slot's versions are put to the rest, one behind the other. -/
structure Backs (vs sl re : List V) (slot : Int) (P : Nat → List V → Prop) : Prop where
  first : P 0 re
  next : ∀ (n : Nat) (xs : List V) (hn : n < sl.length), P n xs → cDid xs sl[n] = true ∧ P (n + 1) (cPut xs sl[n])
  last : ∀ xs, P sl.length xs → xs = vs
  len : ∀ n xs, P n xs → xs.length ≤ 80
  slot : ∀ v ∈ sl, slotOf v.k = slot
theorem backs {vs : List V} (h : chainB vs = true) (s : Int) : Backs vs (slotL vs s) (restL vs s) s (Back vs s) :=
  ⟨Back.first h, fun _ _ hn hb => hb.next h hn, fun _ hb => Back.all h hb, fun _ _ hb => hb.len, fun _ hv => slot_mem hv⟩

set_option maxHeartbeats 4000000 in
set_option maxRecDepth 20000 in
theorem lawCSlot (w : World) (a : Option Addr) (len cap : Nat) (h : Code w a len cap) :
    Calls Try.prog 8 #[.slice a len cap] w fun e w' => e = .returned (.bool true) ∧ Below w.heap.size w w' := by
  have hm := h.2.1
  have hl := h.1
  unfold maxLen at hm
  by_cases hc : 1048576 < (len : Int)
  · go_enter Try.func8, Try.ntmps8
    go_wp2
    go_ret
    exact ⟨rfl, Below.refl _ _⟩
  go_enter Try.func8, Try.ntmps8
  go_wp2_with fail
  refine (drawCSlot w a len cap h).mono ?_
  rintro e w1 ⟨v1, ys, vs, slot, rfl, O1, hy, hF, k0, k1, B1⟩
  obtain ⟨va, vc, rfl, V1⟩ := O1.asD hy
  have hvl : vs.length ≤ 81 := hF.1
  have dv : ∀ v ∈ vs, v.ds.length ≤ 1048576 := fun v hv => by have := hF.2 v hv; omega
  have hI := fun W h => iSlotC_any va vc vs slot W (by omega) h
  have hS := fun W h => sSlotC_any va vc vs slot W (by omega) h
  have hC := fun W h => sChainOk_any va vc vs W (by omega) h
  obtain ⟨Fs, Fr⟩ := slots_few hF slot
  have HB : Hid (chainB vs = true → ∃ P, Backs vs (slotL vs slot) (restL vs slot) slot P) := fun hb => ⟨_, backs hb slot⟩
  generalize slotL vs slot = sl at *
  generalize restL vs slot = re at *
  have ls := Fs.1
  have lr := Fr.1
  have ds : ∀ v ∈ sl, v.ds.length ≤ 1048576 := fun v hv => by have := Fs.2 v hv; omega
  have dr : ∀ v ∈ re, v.ds.length ≤ 1048576 := fun v hv => by have := Fr.2 v hv; omega
  clear h hm hl O1 hy hF hc Fs Fr
  go_wp2_with fail
  refine (hS _ V1).mono ?_
  rintro e w2 ⟨u2, ys2, u2', zs2, rfl, ⟨P2, Q2, _, _⟩, hys2, hzs2, hb2⟩
  obtain ⟨aP, cP, rfl, VP2⟩ := P2.asD hys2
  obtain ⟨aQ, cQ, rfl, VQ2⟩ := Q2.asD hzs2
  have V2 := V1.below hb2
  have B2 : Below w.heap.size w w2 := B1.trans (hb2.mono B1.size)
  clear V1 B1 hb2 P2 Q2 hS
  go_wp2_with fail
  refine (hI _ V2).mono ?_
  rintro e w3 ⟨u3, ys3, u3', zs3, rfl, G3, H3, _, _, hys3, hzs3, hb3⟩
  obtain ⟨aG, cG, rfl, VG3⟩ := G3.asD hys3
  obtain ⟨aH, cH, rfl, VH3⟩ := H3.asD hzs3
  have V3 := V2.below hb3
  have VP3 := VP2.below hb3
  have VQ3 := VQ2.below hb3
  have B3 : Below w.heap.size w w3 := B2.trans (hb3.mono B2.size)
  clear V2 VP2 VQ2 B2 hb3 G3 H3 hI
  go_wp2_with fail
  refine (liVers_any aG aP sl cG cP _ (by omega) ds VG3 VP3).mono ?_
  rintro e w4 ⟨rfl, hb4⟩
  have V4 := V3.below hb4
  have VG4 := VG3.below hb4
  have VH4 := VH3.below hb4
  have VP4 := VP3.below hb4
  have VQ4 := VQ3.below hb4
  have B4 : Below w.heap.size w w4 := B3.trans (hb4.mono B3.size)
  clear V3 VG3 VH3 VP3 VQ3 B3 hb4
  go_wp2_with fail
  refine (liVers_any aH aQ re cH cQ _ (by omega) dr VH4 VQ4).mono ?_
  rintro e w5 ⟨rfl, hb5⟩
  have V5 := V4.below hb5
  have VG5 := VG4.below hb5
  have VH5 := VH4.below hb5
  have VP5 := VP4.below hb5
  have VQ5 := VQ4.below hb5
  have B5 : Below w.heap.size w w5 := B4.trans (hb5.mono B4.size)
  clear V4 VG4 VH4 VP4 VQ4 B4 hb5
  go_wp2_with fail
  refine (hC _ V5).mono ?_
  rintro e w6 ⟨rfl, hb6⟩
  have V6 := V5.below hb6
  have VG6 := VG5.below hb6
  have VH6 := VH5.below hb6
  have VP6 := VP5.below hb6
  have VQ6 := VQ5.below hb6
  have B6 : Below w.heap.size w w6 := B5.trans (hb6.mono B5.size)
  clear V5 VG5 VH5 VP5 VQ5 B5 hb6 hC
  rcases hcb : chainB vs with _ | _
  · clear V6 HB
    go_wp2_with fail
    refine (liVers_any aG aP sl cG cP _ (by omega) ds VG6 VP6).mono ?_
    rintro e w7 ⟨rfl, hb7⟩
    have VH7 := VH6.below hb7
    have VQ7 := VQ6.below hb7
    have B7 : Below w.heap.size w w7 := B6.trans (hb7.mono B6.size)
    clear VG6 VH6 VP6 VQ6 B6 hb7
    go_wp2_with fail
    refine (liVers_any aH aQ re cH cQ _ (by omega) dr VH7 VQ7).mono ?_
    rintro e w8 ⟨rfl, hb8⟩
    have B8 : Below w.heap.size w w8 := B7.trans (hb8.mono B7.size)
    clear VH7 VQ7 B7 hb8
    go_wp2_with fail
    go_ret
    exact ⟨rfl, B8⟩
  · obtain ⟨P, HP⟩ := HB.out hcb
    have HX : Hid (Backs vs sl re slot P) := HP
    clear HB HP VP6 VQ6 hcb
    go_wp2_with fail
    go_loopw [9, 10] (fun v i wr => ∃ (k : Nat) (ax : Option Addr) (cx : Nat) (xs : List V), k ≤ sl.length ∧ i = .int .i64 k ∧ v = .slice ax xs.length cx ∧ Hid (P k xs) ∧ xs.length ≤ 80 ∧ Vers wr ax xs ∧ Vers wr aG sl ∧ Vers wr va vs ∧ Below w.heap.size w wr) (fun _ i _ => sl.length - (intOf i).toNat)
    case atStart => exact ⟨0, aH, cH, re, Nat.zero_le _, rfl, rfl, HX.out.first, HX.out.len _ _ HX.out.first, VH6, VG6, V6, B6⟩
    case round =>
      obtain ⟨k, ax, cx, xs, hk, rfl, rfl, HK, hxl, VX, VG7, V7, B7⟩ := hrel
      clear V6 VG6 VH6 B6
      by_cases hlt : k < sl.length
      · obtain ⟨hd, hp⟩ := HX.out.next k xs hlt HK.out
        have hx2 := HX.out.len _ _ hp
        have HN : Hid (P (k + 1) (cPut xs sl[k])) := hp
        have hsl := slot_is (HX.out.slot sl[k] (List.getElem_mem hlt))
        have hvd := ds sl[k] (List.getElem_mem hlt)
        obtain ⟨b, o, da, dc, rfl, hbb, hv⟩ := VG7.at hlt
        have hP := fun (W : World) (h : Vers W ax xs) (h' : Deps W da sl[k].ds) => iPutV_any ax cx xs sl[k] da dc W (by omega) h (by omega) h'
        rw [hd] at hP
        have j0 : (0 : Int) ≤ (k : Int) := by omega
        have j1 : (k : Int) < (sl.length : Int) := by omega
        clear hp hd HK
        generalize cPut xs sl[k] = pl at *
        generalize sl[k] = v at *
        obtain ⟨c0, c1, c2, c3, c4, c5, c6, hdd, _⟩ := hv
        go_wp2_with fail
        refine (hsl _).mono ?_
        rintro e w8 ⟨rfl, rfl⟩
        go_wp2_with fail
        refine (hP _ VX hdd).mono ?_
        rintro e w9 ⟨u9, ys9, rfl, G9, hy9, hb9⟩
        obtain ⟨a9, c9, rfl, VX9⟩ := G9.asD hy9
        have VG9 := VG7.below hb9
        have V9 := V7.below hb9
        have B9 : Below w.heap.size w w9 := B7.trans (hb9.mono B7.size)
        clear c0 c1 c2 c3 c4 c5 c6 hdd VX VG7 V7 B7 hb9 G9 hP hsl
        go_wp2_with fail
        go_roundw
        case rel => exact ⟨k + 1, a9, c9, pl, by omega, by go_num, rfl, HN, hx2, VX9, VG9, V9, B9⟩
        case measure => simp [intOf]; omega
      · have hk4 : k = sl.length := by omega
        subst hk4
        obtain rfl := HX.out.last xs HK.out
        clear HX HK
        go_wp2_with fail
        refine (liVers_any ax va _ cx vc _ (by omega) dv VX V7).mono ?_
        rintro e w8 ⟨rfl, hb8⟩
        have B8 : Below w.heap.size w w8 := B7.trans (hb8.mono B7.size)
        clear VX VG7 V7 B7 hb8
        go_wp2_with fail
        go_ret
        exact ⟨rfl, B8⟩
end Go.Proofs.Ytgdkoangpinieaa
