/- The law: the slots' versions are all versions. -/
import Derived.Test.YtgdkoangpinieaaGAA
import Derived.Test.YtgdkoangpinieaaLiV
import Derived.Test.YtgdkoangpinieaaSSlotC
import Derived.Test.YtgdkoangpinieaaISlotC
namespace Go.Proofs.Ytgdkoangpinieaa
open Go.ChangeShapes Go.WideShapes Go.ChangeAt Go.RowKit

theorem slotOf_ok {v : V} (h : okV v = true) : slotOf v.k = 0 ∨ slotOf v.k = 1 ∨ slotOf v.k = 2 := by
  have := okV_key h
  have e : v.k = 0 ∨ v.k = 1 ∨ v.k = 2 ∨ v.k = 3 ∨ v.k = 4 ∨ v.k = 5 := by omega
  rcases e with e | e | e | e | e | e <;> rw [e] <;> decide
theorem three_slots (vs : List V) (h : ∀ v ∈ vs, slotOf v.k = 0 ∨ slotOf v.k = 1 ∨ slotOf v.k = 2) : (vs.filter fun v => slotOf v.k == 0).length + (vs.filter fun v => slotOf v.k == 1).length + (vs.filter fun v => slotOf v.k == 2).length = vs.length := by
  induction vs with
  | nil => rfl
  | cons v vs ih =>
    have i := ih fun x hx => h x (by simp [hx])
    rcases h v (by simp) with e | e | e <;> simp [e] <;> omega
theorem slots_all {vs : List V} (h : chainB vs = true) : (slotL vs 0).length + (slotL vs 1).length + (slotL vs 2).length = vs.length := by
  rw [(slotL_yes h 0).1, (slotL_yes h 1).1, (slotL_yes h 2).1]
  exact three_slots vs fun v hv => slotOf_ok ((chainB_iff.1 h).2.1 v hv)
theorem filter_both (p : V → Bool) (vs : List V) : (vs.filter p).length + (vs.filter fun v => !p v).length = vs.length := by
  induction vs with
  | nil => rfl
  | cons v vs ih => cases hp : p v <;> simp [hp] <;> omega
theorem slot_both {vs : List V} (h : chainB vs = true) (s : Int) : (slotL vs s).length + (restL vs s).length = vs.length := by
  rw [(slotL_yes h s).1, (slotL_yes h s).2]
  exact filter_both _ vs
theorem slot_few {n : Nat} {vs : List V} (h : Few n vs) (s : Int) : Few n (slotL vs s) ∧ Few n (restL vs s) := by
  cases hc : chainB vs with
  | false => rw [(slotL_no hc s).1, (slotL_no hc s).2]; exact ⟨⟨by simp, fun x hx => (by cases hx)⟩, ⟨by simp, fun x hx => (by cases hx)⟩⟩
  | true =>
    rw [(slotL_yes hc s).1, (slotL_yes hc s).2]
    exact ⟨⟨Nat.le_trans (List.length_filter_le _ _) h.1, fun x hx => h.2 x (List.mem_filter.1 hx).1⟩, ⟨Nat.le_trans (List.length_filter_le _ _) h.1, fun x hx => h.2 x (List.mem_filter.1 hx).1⟩⟩

set_option maxHeartbeats 4000000 in
set_option maxRecDepth 20000 in
theorem lawParts (w : World) (a : Option Addr) (len cap : Nat) (h : Code w a len cap) :
    Calls Try.prog 12 #[.slice a len cap] w fun e w' => e = .returned (.bool true) ∧ Below w.heap.size w w' := by
  have hm := h.2.1
  have hl := h.1
  unfold maxLen at hm
  by_cases hc : 1048576 < (len : Int)
  · go_enter Try.func12, Try.ntmps12
    go_wp2
    go_ret
    exact ⟨rfl, Below.refl _ _⟩
  go_enter Try.func12, Try.ntmps12
  go_wp2_with fail
  refine (drawCSlot w a len cap h).mono ?_
  rintro e w1 ⟨v1, ys, vs, slot, rfl, O1, hy, hF, k0, k1, B1⟩
  obtain ⟨va, vc, rfl, V1⟩ := O1.asD hy
  have hvl : vs.length ≤ 81 := hF.1
  have hI := fun s W h => iSlotC_any va vc vs s W (by omega) h
  have hS := sSlotC_any va vc vs slot
  have hC := fun W h => sChainOk_any va vc vs W (by omega) h
  obtain ⟨Fs, Fr⟩ := slot_few hF slot
  have HB : Hid (∀ s, chainB vs = true → (slotL vs s).length + (restL vs s).length = vs.length) := fun s hb => slot_both hb s
  have HA : Hid (chainB vs = true → (slotL vs 0).length + (slotL vs 1).length + (slotL vs 2).length = vs.length) := fun hb => slots_all hb
  have ls := Fs.1
  have lr := Fr.1
  have ds : ∀ v ∈ slotL vs slot, v.ds.length ≤ 1048576 := fun v hv => by have := Fs.2 v hv; omega
  have dr : ∀ v ∈ restL vs slot, v.ds.length ≤ 1048576 := fun v hv => by have := Fr.2 v hv; omega
  have hI1 := hI slot
  obtain ⟨sl, hsl⟩ : ∃ sl, sl = slotL vs slot := ⟨_, rfl⟩
  obtain ⟨re, hre⟩ : ∃ re, re = restL vs slot := ⟨_, rfl⟩
  rw [← hsl] at ls ds hI1
  rw [← hre] at lr dr hI1
  have hS1 : ∀ W, Vers W va vs → _ := fun W hW => hS W (by omega) hW
  rw [← hsl, ← hre] at hS1
  clear h hm hl O1 hy hF hc Fs Fr hsl hre hS
  go_wp2_with fail
  refine (hI1 _ V1).mono ?_
  rintro e w2 ⟨u2, ys2, u2', zs2, rfl, G2, H2, _, _, hys2, hzs2, hb2⟩
  obtain ⟨aG, cG, rfl, VG2⟩ := G2.asD hys2
  obtain ⟨aH, cH, rfl, VH2⟩ := H2.asD hzs2
  have V2 := V1.below hb2
  have B2 : Below w.heap.size w w2 := B1.trans (hb2.mono B1.size)
  clear V1 B1 hb2 G2 H2 hI1
  go_wp2_with fail
  refine (hS1 _ V2).mono ?_
  rintro e w3 ⟨u3, ys3, u3', zs3, rfl, ⟨P3, Q3, _, _⟩, hys3, hzs3, hb3⟩
  obtain ⟨aP, cP, rfl, VP3⟩ := P3.asD hys3
  obtain ⟨aQ, cQ, rfl, VQ3⟩ := Q3.asD hzs3
  have V3 := V2.below hb3
  have VG3 := VG2.below hb3
  have VH3 := VH2.below hb3
  have B3 : Below w.heap.size w w3 := B2.trans (hb3.mono B2.size)
  clear V2 VG2 VH2 B2 hb3 P3 Q3 hS1
  go_wp2_with fail
  refine (liVers_any aG aP sl cG cP _ (by omega) ds VG3 VP3).mono ?_
  rintro e w4 ⟨rfl, hb4⟩
  have V4 := V3.below hb4
  have VG4 := VG3.below hb4
  have VH4 := VH3.below hb4
  have VP4 := VP3.below hb4
  have VQ4 := VQ3.below hb4
  have B4 : Below w.heap.size w w4 := B3.trans (hb4.mono B3.size)
  clear V3 VG3 VH3 VP3 VQ3 B3 hb4
  go_wp2_with fail
  refine (liVers_any aH aQ re cH cQ _ (by omega) dr VH4 VQ4).mono ?_
  rintro e w5 ⟨rfl, hb5⟩
  have V5 := V4.below hb5
  have VG5 := VG4.below hb5
  have VH5 := VH4.below hb5
  have VP5 := VP4.below hb5
  have VQ5 := VQ4.below hb5
  have B5 : Below w.heap.size w w5 := B4.trans (hb5.mono B4.size)
  clear V4 VG4 VH4 VP4 VQ4 B4 hb5
  go_wp2_with fail
  refine (hC _ V5).mono ?_
  rintro e w6 ⟨rfl, hb6⟩
  have V6 := V5.below hb6
  have VG6 := VG5.below hb6
  have VH6 := VH5.below hb6
  have VP6 := VP5.below hb6
  have VQ6 := VQ5.below hb6
  have B6 : Below w.heap.size w w6 := B5.trans (hb6.mono B5.size)
  clear V5 VG5 VH5 VP5 VQ5 B5 hb6 hC
  rcases hcb : chainB vs with _ | _
  · clear hI V6 HA HB
    go_wp2_with fail
    refine (liVers_any aG aP sl cG cP _ (by omega) ds VG6 VP6).mono ?_
    rintro e w7 ⟨rfl, hb7⟩
    have VH7 := VH6.below hb7
    have VQ7 := VQ6.below hb7
    have B7 : Below w.heap.size w w7 := B6.trans (hb7.mono B6.size)
    clear VG6 VH6 VP6 VQ6 B6 hb7
    go_wp2_with fail
    refine (liVers_any aH aQ re cH cQ _ (by omega) dr VH7 VQ7).mono ?_
    rintro e w8 ⟨rfl, hb8⟩
    have B8 : Below w.heap.size w w8 := B7.trans (hb8.mono B7.size)
    clear VH7 VQ7 B7 hb8
    go_wp2_with fail
    go_ret
    exact ⟨rfl, B8⟩
  · have HA' : Hid ((slotL vs 0).length + (slotL vs 1).length + (slotL vs 2).length = vs.length) := HA.out hcb
    have HB' : Hid (∀ s, (slotL vs s).length + (restL vs s).length = vs.length) := fun s => HB.out s hcb
    clear HA HB VG6 VH6 VP6 VQ6 hcb ds dr ls lr
    go_wp2_with fail
    go_loopw [9, 10] (fun n i wr => ∃ k : Nat, k ≤ 3 ∧ i = .int .i64 k ∧ n = .int .i64 (((if 0 < k then (slotL vs 0).length else 0) + (if 1 < k then (slotL vs 1).length else 0) + (if 2 < k then (slotL vs 2).length else 0) : Nat) : Int) ∧ Vers wr va vs ∧ Below w.heap.size w wr) (fun _ i _ => 3 - (intOf i).toNat)
    case atStart => exact ⟨0, by omega, rfl, by simp, V6, B6⟩
    case round =>
      obtain ⟨k, hk, rfl, rfl, V7, B7⟩ := hrel
      clear V6 B6
      obtain ⟨m, hmm⟩ : ∃ m, m = (if 0 < k then (slotL vs 0).length else 0) + (if 1 < k then (slotL vs 1).length else 0) + (if 2 < k then (slotL vs 2).length else 0) := ⟨_, rfl⟩
      have HM : Hid (m = (if 0 < k then (slotL vs 0).length else 0) + (if 1 < k then (slotL vs 1).length else 0) + (if 2 < k then (slotL vs 2).length else 0)) := hmm
      have hml : m ≤ 300 := by have := HA'.out; rw [hmm]; split <;> split <;> split <;> omega
      rw [← hmm]
      clear hmm
      by_cases hk3 : (k : Int) < 3
      · go_wp2_with fail
        have hIk := hI k _ V7
        have hbk := HB'.out k
        have HN : Hid (m + (slotL vs k).length = (if 0 < k + 1 then (slotL vs 0).length else 0) + (if 1 < k + 1 then (slotL vs 1).length else 0) + (if 2 < k + 1 then (slotL vs 2).length else 0)) := by
          show _ = _
          rw [HM.out]
          have : k = 0 ∨ k = 1 ∨ k = 2 := by omega
          rcases this with rfl | rfl | rfl <;> simp
        generalize slotL vs k = sk at *
        generalize restL vs k = rk at *
        refine hIk.mono ?_
        rintro e w8 ⟨u8, ys8, u8', zs8, rfl, G8, H8, _, _, hys8, hzs8, hb8⟩
        obtain ⟨a8, c8, rfl, _⟩ := G8.asD hys8
        obtain ⟨a9, c9, rfl, _⟩ := H8.asD hzs8
        have V8 := V7.below hb8
        have B8 : Below w.heap.size w w8 := B7.trans (hb8.mono B7.size)
        obtain ⟨m', hm'⟩ : ∃ m' : Nat, m' = m + sk.length := ⟨_, rfl⟩
        have hs1 : (m : Int) + sk.length = (m' : Int) := by omega
        have hs2 : (sk.length : Int) + rk.length = vs.length := by omega
        rw [← hm'] at HN
        clear V7 B7 hb8 G8 H8 hIk hm' hbk
        go_wp2_with fail
        go_roundw
        case rel => exact ⟨k + 1, by omega, by go_num, by rw [← HN.out], V8, B8⟩
        case measure => simp [intOf]; omega
      · have hk4 : k = 3 := by omega
        subst hk4
        have hme : m = vs.length := by rw [HM.out]; simpa using HA'.out
        subst hme
        clear HM
        go_wp2_with fail
        go_ret
        exact ⟨by simp, B7⟩
end Go.Proofs.Ytgdkoangpinieaa
