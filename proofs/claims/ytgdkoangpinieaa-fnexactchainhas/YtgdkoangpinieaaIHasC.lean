/- The program's ChainHas. -/
import Derived.Test.YtgdkoangpinieaaIAtV
namespace Go.Proofs.Ytgdkoangpinieaa
open Go.ChangeShapes Go.WideShapes Go.ChangeAt Go.RowKit

set_option maxHeartbeats 4000000 in
set_option maxRecDepth 100000 in
theorem iHasC_any (a : Option Addr) (cap : Nat) (vs : List V) (c : Option Addr) (cc : Nat) (ds : List D) (w : World) (hn : vs.length ≤ 1099511627776) (h : Vers w a vs) (hm : ds.length ≤ 1099511627776) (hd : Deps w c ds) :
    Calls Try.prog 44 #[.slice a vs.length cap, .slice c ds.length cc] w fun e w' => e = .returned (.bool (cHas vs ds)) ∧ Below w.heap.size w w' := by
  rcases hc : chainB vs with _ | _
  · have HN : Hid (cHas vs ds = false) := has_chain hc
    have hC := iChainOf_no a cap vs w hn h hc
    clear h hc hd
    go_enter Try.func44, Try.ntmps44
    go_wp2_with fail
    refine hC.mono ?_
    rintro e w1 ⟨rfl, hb1⟩
    clear hC
    go_wp2_with fail
    go_ret
    exact ⟨by rw [HN.out]; rfl, hb1⟩
  have hC := iChainOf_yes a cap vs w hn h hc
  have hD := fun W h => iDepsOk_any c cc ds W hm h
  rcases hk : depsOk ds with _ | _
  · have HN : Hid (cHas vs ds = false) := has_deps hk
    rw [hk] at hD
    clear h hc hk
    go_enter Try.func44, Try.ntmps44
    go_wp2_with fail
    refine hC.mono ?_
    rintro e w1 ⟨b, f, g, rfl, hbb, hM, hf, hgood, hb1⟩
    clear hC
    go_wp2_with fail
    refine (hD _ (hd.below hb1)).mono ?_
    rintro e w2 ⟨rfl, hb2⟩
    clear hD
    go_wp2_with fail
    go_ret
    exact ⟨by rw [HN.out]; rfl, hb1.trans (hb2.mono hb1.size)⟩
  have HY : Hid (cHas vs ds = allIn vs ds) := has_yes hc hk
  have HK : Hid (∀ d ∈ ds, okD d = true) := (ok_iff.1 hk).2
  obtain ⟨hl80, hP⟩ := chainB_iff.1 hc
  rw [hk] at hD
  clear hc hk
  go_enter Try.func44, Try.ntmps44
  go_wp2_with fail
  refine hC.mono ?_
  rintro e w1 ⟨b, f, g, rfl, hbb, hM, hf, hgood, hb1⟩
  clear hC
  go_wp2_with fail
  refine (hD _ (hd.below hb1)).mono ?_
  rintro e w2 ⟨rfl, hb2⟩
  have B2 : Below w.heap.size w w2 := hb1.trans (hb2.mono hb1.size)
  have M2 := hM.below hb2
  clear hD hb1 hb2 hM
  go_wp2_with fail
  go_loopw [25] (fun i wr => ∃ k : Nat, k ≤ ds.length ∧ i = .int .i64 k ∧ Hid (allIn vs (ds.take k) = true) ∧ Chm wr w.heap.size b vs.length f g ∧ Below w.heap.size w wr) (fun i _ => ds.length - (intOf i).toNat)
  case atStart => exact ⟨0, Nat.zero_le _, rfl, rfl, M2, B2⟩
  case round =>
    obtain ⟨k, hk, rfl, HI, hM, hB⟩ := hrel
    clear B2 M2
    by_cases hlt : k < ds.length
    · obtain ⟨bd, o, rfl, hbb2, e0, e1, e2⟩ := (hd.below hB).at hlt
      have hkey := okD_bounds (HK.out ds[k] (List.getElem_mem hlt))
      have HA : Hid ((cAt vs ds[k].k ds[k].t ds[k].s).isSome = thr (grp vs ds[k].k) ds[k].t ds[k].s) := by show _ = _; rw [at_grp]; rfl
      have HS1 := fun hs => allIn_step (vs := vs) hlt HI.out hs
      have HS0 := fun hs => allIn_bad (vs := vs) hlt hs
      rw [HA.out] at HS1 HS0
      clear HA HI
      generalize ds[k] = y at *
      have b1 : Below wr.heap.size wr (wr.alloc (.cells #[.int .i64 y.k, .int .i64 y.t, .int .i64 y.s] 51)) := (Below.refl _ wr).alloc (Nat.le_refl _) _
      have B1 := hB.alloc hB.size (.cells #[.int .i64 y.k, .int .i64 y.t, .int .i64 y.s] 51)
      have hPl := place_any (wr.alloc (.cells #[.int .i64 y.k, .int .i64 y.t, .int .i64 y.s] 51)) _ b vs.length f g y.k y.t y.s (grp vs y.k) (hM.below b1) (wf_key hkey.1 hkey.2.1) (hf y.k) (grp_asc hP.2 y.k) (by have := grp_le vs y.k; omega) (fun x hx => (hgood y.k x hx).below B1)
      have M1 := hM.below b1
      clear hkey b1 hM
      generalize plc (grp vs y.k) y.t y.s = p at *
      rcases hth : thr (grp vs y.k) y.t y.s with _ | _
      · have HN : Hid (allIn vs ds = false) := HS0 hth
        rw [hth] at hPl
        clear HS0 HS1 hth
        go_wp2_with fail
        refine hPl.mono ?_
        rintro e w3 ⟨rfl, hb3⟩
        clear hPl
        go_wp2_with fail
        go_ret
        exact ⟨by rw [HY.out, HN.out]; rfl, B1.trans (hb3.mono B1.size)⟩
      · have HO : Hid (allIn vs (ds.take (k + 1)) = true) := HS1 hth
        rw [hth] at hPl
        clear HS0 HS1 hth
        go_wp2_with fail
        refine hPl.mono ?_
        rintro e w3 ⟨rfl, hb3⟩
        have M3 := M1.below hb3
        have B3 : Below w.heap.size w w3 := B1.trans (hb3.mono B1.size)
        clear hPl M1 B1 hb3
        go_wp2_with fail
        go_roundw
        case rel => exact ⟨k + 1, by omega, by go_num, HO, M3, B3⟩
        case measure => simp [intOf]; omega
    · have hk2 : k = ds.length := by omega
      subst hk2
      rw [List.take_length] at HI
      go_wp2
      go_ret
      exact ⟨by rw [HY.out, HI.out]; rfl, hB⟩
end Go.Proofs.Ytgdkoangpinieaa
