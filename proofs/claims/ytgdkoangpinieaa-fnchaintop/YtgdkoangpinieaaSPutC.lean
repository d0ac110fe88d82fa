/- The specification's ChainPut. -/
import Derived.Test.YtgdkoangpinieaaSAtV
namespace Go.Proofs.Ytgdkoangpinieaa
open Go.ChangeShapes Go.WideShapes Go.ChangeAt Go.RowKit

theorem put_no {vs : List V} {v : V} (h : chainB vs = false) : cPut vs v = [] ∧ cDid vs v = false := by unfold cPut cDid; rw [h]; exact ⟨rfl, rfl⟩
theorem put_stay {vs : List V} {v : V} (h : chainB vs = true) (hp : putB vs v = false) : cPut vs v = vs ∧ cDid vs v = false := by unfold cPut cDid; rw [h, hp]; exact ⟨rfl, rfl⟩
theorem put_take {vs : List V} {v : V} (h : chainB vs = true) (hp : putB vs v = true) : cPut vs v = insV v vs ∧ cDid vs v = true := by unfold cPut cDid; rw [h, hp]; exact ⟨rfl, rfl⟩
theorem putB_ok {vs : List V} {v : V} (h : okV v = false) : putB vs v = false := by unfold putB; rw [h]; rfl
theorem putB_there {vs : List V} {v : V} (h : (cAt vs v.k v.t v.s).isSome = true) : putB vs v = false := by
  unfold putB
  rcases hc : cAt vs v.k v.t v.s with _ | x
  · rw [hc] at h; cases h
  · simp
theorem putB_full {vs : List V} {v : V} (h : 80 ≤ vs.length) : putB vs v = false := by unfold putB; simp; omega
theorem putB_yes {vs : List V} {v : V} (h : okV v = true) (hn : (cAt vs v.k v.t v.s).isSome = false) (hl : vs.length < 80) : putB vs v = true := by
  unfold putB
  rcases hc : cAt vs v.k v.t v.s with _ | x
  · rw [h]; simpa using hl
  · rw [hc] at hn; cases hn

set_option maxHeartbeats 4000000 in
set_option maxRecDepth 100000 in
theorem sPutV_any (a : Option Addr) (cap : Nat) (vs : List V) (v : V) (va : Option Addr) (vc : Nat) (w : World) (hn : vs.length ≤ 1099511627776) (h : Vers w a vs) (hvl : v.ds.length ≤ 1099511627776) (hvd0 : Deps w va v.ds) :
    Calls Try.prog 29 #[.slice a vs.length cap, verV v.k v.t v.s v.val v.cl v.ca va v.ds.length vc] w fun e w' => ∃ u ys, e = .returned (.tuple #[u, .bool (cDid vs v)]) ∧ OwnV w' w.heap.size u ys ∧ ys.map XV.v = cPut vs v ∧ Below w.heap.size w w' := by
  have V1 := Blk.new w #[.int .i64 v.k, .int .i64 v.t, .int .i64 v.s, .int .i64 v.val, .int .i64 v.cl, .int .i64 v.ca, .slice va v.ds.length vc] 28
  have b0 : Below w.heap.size w (w.alloc (.cells #[.int .i64 v.k, .int .i64 v.t, .int .i64 v.s, .int .i64 v.val, .int .i64 v.cl, .int .i64 v.ca, .slice va v.ds.length vc] 28)) := (Below.refl _ w).alloc (Nat.le_refl _) _
  have h1 := h.below b0
  have hvd := hvd0.below b0
  have hC := fun W h => sChainOk_any a cap vs W hn h
  have s1 : (w.alloc (.cells #[.int .i64 v.k, .int .i64 v.t, .int .i64 v.s, .int .i64 v.val, .int .i64 v.cl, .int .i64 v.ca, .slice va v.ds.length vc] 28)).heap.size = w.heap.size + 1 := by simp
  rcases hc : chainB vs with _ | _
  · have HP : Hid _ := put_no (v := v) hc
    rw [hc] at hC
    clear h hc hvd hvd0
    go_enter Try.func29, Try.ntmps29
    go_wp2_with fail
    generalize (w.alloc (.cells #[.int .i64 v.k, .int .i64 v.t, .int .i64 v.s, .int .i64 v.val, .int .i64 v.cl, .int .i64 v.ca, .slice va v.ds.length vc] 28)) = W1 at *
    refine (hC _ h1).mono ?_
    rintro e w2 ⟨rfl, hb2⟩
    clear hC
    have V2 := V1.below hb2 V1.lt
    obtain ⟨q1, g1⟩ := V2.rules
    have B2 : Below w.heap.size w w2 := b0.trans (hb2.mono b0.size)
    clear q1 g1 V2 V1 hb2
    have hown0 : (w2.alloc (.cells #[] 28)).ownsRow w.heap.size 28 7 (.slice (some ⟨w2.heap.size, 0, none⟩) 0 0) 0 [] := World.ownsRow_made w2 #[] 0 B2.size (by unfold maxLen; omega) rfl
    go_wp2_with fail
    go_ret2
    exact ⟨_, [], by rw [HP.out.2]; rfl, ⟨hown0, fun _ h => (by cases h), List.Pairwise.nil⟩, by rw [HP.out.1]; rfl, B2.alloc B2.size _⟩
  have hl80 := (chainB_iff.1 hc).1
  have HA : (atA vs v.k v.t v.s).isSome = (cAt vs v.k v.t v.s).isSome := by rw [atA_yes hc]
  rcases hv : okV v with _ | _
  · have HP : Hid _ := put_stay hc (putB_ok (vs := vs) hv)
    rw [hc] at hC
    generalize (cAt vs v.k v.t v.s).isSome = there at *
    clear h hc hvd0
    go_enter Try.func29, Try.ntmps29
    go_wp2_with fail
    generalize (w.alloc (.cells #[.int .i64 v.k, .int .i64 v.t, .int .i64 v.s, .int .i64 v.val, .int .i64 v.cl, .int .i64 v.ca, .slice va v.ds.length vc] 28)) = W1 at *
    refine (hC _ h1).mono ?_
    rintro e w2 ⟨rfl, hb2⟩
    clear hC
    have V2 := V1.below hb2 V1.lt
    obtain ⟨q1, g1⟩ := V2.rules
    go_wp2_with fail
    refine (sAtV_any a cap vs v.k v.t v.s _ hn (h1.below hb2)).mono ?_
    rintro e w3 ⟨u, pa, pc, Hu, rfl, hrow, hb3⟩
    rw [HA]
    clear q1 g1 Hu hrow
    have b3 : Below W1.heap.size W1 w3 := hb2.trans (hb3.mono hb2.size)
    have V3 := (V1.below b3 V1.lt).alloc (.cells #[.int .i64 u.k, .int .i64 u.t, .int .i64 u.s, .int .i64 u.val, .int .i64 u.cl, .int .i64 u.ca, .slice pa u.ds.length pc] 28)
    have b4 := b3.alloc b3.size (.cells #[.int .i64 u.k, .int .i64 u.t, .int .i64 u.s, .int .i64 u.val, .int .i64 u.cl, .int .i64 u.ca, .slice pa u.ds.length pc] 28)
    obtain ⟨q1, g1⟩ := V3.rules
    clear hb2 hb3 b3 V2
    go_wp2_with fail
    generalize w3.alloc (.cells #[.int .i64 u.k, .int .i64 u.t, .int .i64 u.s, .int .i64 u.val, .int .i64 u.cl, .int .i64 u.ca, .slice pa u.ds.length pc] 28) = W4 at *
    refine (sVer_is hv hvl (hvd.below b4)).mono ?_
    rintro e w5 ⟨rfl, hb5⟩
    have b5 : Below W1.heap.size W1 w5 := b4.trans (hb5.mono b4.size)
    have V5 := V1.below b5 V1.lt
    clear q1 g1 V3 hb5 b4
    obtain ⟨q1, g1⟩ := V5.rules
    go_wp2_with fail
    refine (sVers_any a cap vs _ hn (h1.below b5)).mono ?_
    rintro e w6 ⟨u6, ys, rfl, hO, hys, hb6⟩
    go_wp2_with fail
    go_ret2
    exact ⟨_, ys, by rw [HP.out.2]; rfl, hO.mono (by have := b0.size; have := b5.size; omega), by rw [hys, HP.out.1], (b0.trans (b5.mono b0.size)).trans (hb6.mono (by have := b0.size; have := b5.size; omega))⟩
  rcases hth : (cAt vs v.k v.t v.s).isSome with _ | _
  · rw [hth] at HA
    by_cases hl : 80 ≤ (vs.length : Int)
    · have HP : Hid _ := put_stay hc (putB_full (v := v) (by omega : 80 ≤ vs.length))
      rw [hc] at hC
      clear h hc hvd0
      go_enter Try.func29, Try.ntmps29
      go_wp2_with fail
      generalize (w.alloc (.cells #[.int .i64 v.k, .int .i64 v.t, .int .i64 v.s, .int .i64 v.val, .int .i64 v.cl, .int .i64 v.ca, .slice va v.ds.length vc] 28)) = W1 at *
      refine (hC _ h1).mono ?_
      rintro e w2 ⟨rfl, hb2⟩
      clear hC
      have V2 := V1.below hb2 V1.lt
      obtain ⟨q1, g1⟩ := V2.rules
      go_wp2_with fail
      refine (sAtV_any a cap vs v.k v.t v.s _ hn (h1.below hb2)).mono ?_
      rintro e w3 ⟨u, pa, pc, Hu, rfl, hrow, hb3⟩
      rw [HA]
      clear q1 g1 Hu hrow
      have b3 : Below W1.heap.size W1 w3 := hb2.trans (hb3.mono hb2.size)
      have V3 := (V1.below b3 V1.lt).alloc (.cells #[.int .i64 u.k, .int .i64 u.t, .int .i64 u.s, .int .i64 u.val, .int .i64 u.cl, .int .i64 u.ca, .slice pa u.ds.length pc] 28)
      have b4 := b3.alloc b3.size (.cells #[.int .i64 u.k, .int .i64 u.t, .int .i64 u.s, .int .i64 u.val, .int .i64 u.cl, .int .i64 u.ca, .slice pa u.ds.length pc] 28)
      obtain ⟨q1, g1⟩ := V3.rules
      clear hb2 hb3 b3 V2
      go_wp2_with fail
      generalize w3.alloc (.cells #[.int .i64 u.k, .int .i64 u.t, .int .i64 u.s, .int .i64 u.val, .int .i64 u.cl, .int .i64 u.ca, .slice pa u.ds.length pc] 28) = W4 at *
      refine (sVer_is hv hvl (hvd.below b4)).mono ?_
      rintro e w5 ⟨rfl, hb5⟩
      have b5 : Below W1.heap.size W1 w5 := b4.trans (hb5.mono b4.size)
      have V5 := V1.below b5 V1.lt
      clear q1 g1 V3 hb5 b4
      obtain ⟨q1, g1⟩ := V5.rules
      go_wp2_with fail
      refine (sVers_any a cap vs _ hn (h1.below b5)).mono ?_
      rintro e w6 ⟨u6, ys, rfl, hO, hys, hb6⟩
      go_wp2_with fail
      go_ret2
      exact ⟨_, ys, by rw [HP.out.2]; rfl, hO.mono (by have := b0.size; have := b5.size; omega), by rw [hys, HP.out.1], (b0.trans (b5.mono b0.size)).trans (hb6.mono (by have := b0.size; have := b5.size; omega))⟩
    · have HP : Hid _ := put_take hc (putB_yes (vs := vs) hv hth (by omega))
      rw [hc] at hC
      have hl2 : (vs.length : Int) < 80 := by omega
      clear h hc hvd0 hth hl
      go_enter Try.func29, Try.ntmps29
      go_wp2_with fail
      generalize (w.alloc (.cells #[.int .i64 v.k, .int .i64 v.t, .int .i64 v.s, .int .i64 v.val, .int .i64 v.cl, .int .i64 v.ca, .slice va v.ds.length vc] 28)) = W1 at *
      refine (hC _ h1).mono ?_
      rintro e w2 ⟨rfl, hb2⟩
      clear hC
      have V2 := V1.below hb2 V1.lt
      obtain ⟨q1, g1⟩ := V2.rules
      go_wp2_with fail
      refine (sAtV_any a cap vs v.k v.t v.s _ hn (h1.below hb2)).mono ?_
      rintro e w3 ⟨u, pa, pc, Hu, rfl, hrow, hb3⟩
      rw [HA]
      clear q1 g1 Hu hrow
      have b3 : Below W1.heap.size W1 w3 := hb2.trans (hb3.mono hb2.size)
      have V3 := (V1.below b3 V1.lt).alloc (.cells #[.int .i64 u.k, .int .i64 u.t, .int .i64 u.s, .int .i64 u.val, .int .i64 u.cl, .int .i64 u.ca, .slice pa u.ds.length pc] 28)
      have b4 := b3.alloc b3.size (.cells #[.int .i64 u.k, .int .i64 u.t, .int .i64 u.s, .int .i64 u.val, .int .i64 u.cl, .int .i64 u.ca, .slice pa u.ds.length pc] 28)
      obtain ⟨q1, g1⟩ := V3.rules
      clear hb2 hb3 b3 V2
      go_wp2_with fail
      generalize w3.alloc (.cells #[.int .i64 u.k, .int .i64 u.t, .int .i64 u.s, .int .i64 u.val, .int .i64 u.cl, .int .i64 u.ca, .slice pa u.ds.length pc] 28) = W4 at *
      refine (sVer_is hv hvl (hvd.below b4)).mono ?_
      rintro e w5 ⟨rfl, hb5⟩
      have b5 : Below W1.heap.size W1 w5 := b4.trans (hb5.mono b4.size)
      have V5 := V1.below b5 V1.lt
      clear q1 g1 V3 hb5 b4
      obtain ⟨q1, g1⟩ := V5.rules
      go_wp2_with fail
      refine (l3Put_any a cap vs v va vc _ (by omega) (h1.below b5) hvl (hvd.below b5)).mono ?_
      rintro e w6 ⟨u6, ys, rfl, hO, hys, hb6⟩
      go_wp2_with fail
      go_ret2
      exact ⟨_, ys, by rw [HP.out.2]; rfl, hO.mono (by have := b0.size; have := b5.size; omega), by rw [hys, HP.out.1], (b0.trans (b5.mono b0.size)).trans (hb6.mono (by have := b0.size; have := b5.size; omega))⟩
  · rw [hth] at HA
    have HP : Hid _ := put_stay hc (putB_there (vs := vs) hth)
    rw [hc] at hC
    clear h hc hvd0 hth
    go_enter Try.func29, Try.ntmps29
    go_wp2_with fail
    generalize (w.alloc (.cells #[.int .i64 v.k, .int .i64 v.t, .int .i64 v.s, .int .i64 v.val, .int .i64 v.cl, .int .i64 v.ca, .slice va v.ds.length vc] 28)) = W1 at *
    refine (hC _ h1).mono ?_
    rintro e w2 ⟨rfl, hb2⟩
    clear hC
    have V2 := V1.below hb2 V1.lt
    obtain ⟨q1, g1⟩ := V2.rules
    go_wp2_with fail
    refine (sAtV_any a cap vs v.k v.t v.s _ hn (h1.below hb2)).mono ?_
    rintro e w3 ⟨u, pa, pc, Hu, rfl, hrow, hb3⟩
    rw [HA]
    clear q1 g1 Hu hrow
    have b3 : Below W1.heap.size W1 w3 := hb2.trans (hb3.mono hb2.size)
    have V3 := (V1.below b3 V1.lt).alloc (.cells #[.int .i64 u.k, .int .i64 u.t, .int .i64 u.s, .int .i64 u.val, .int .i64 u.cl, .int .i64 u.ca, .slice pa u.ds.length pc] 28)
    have b4 := b3.alloc b3.size (.cells #[.int .i64 u.k, .int .i64 u.t, .int .i64 u.s, .int .i64 u.val, .int .i64 u.cl, .int .i64 u.ca, .slice pa u.ds.length pc] 28)
    obtain ⟨q1, g1⟩ := V3.rules
    clear hb2 hb3 b3 V2
    go_wp2_with fail
    generalize w3.alloc (.cells #[.int .i64 u.k, .int .i64 u.t, .int .i64 u.s, .int .i64 u.val, .int .i64 u.cl, .int .i64 u.ca, .slice pa u.ds.length pc] 28) = W4 at *
    refine (sVer_is hv hvl (hvd.below b4)).mono ?_
    rintro e w5 ⟨rfl, hb5⟩
    have b5 : Below W1.heap.size W1 w5 := b4.trans (hb5.mono b4.size)
    have V5 := V1.below b5 V1.lt
    clear q1 g1 V3 hb5 b4
    obtain ⟨q1, g1⟩ := V5.rules
    go_wp2_with fail
    refine (sVers_any a cap vs _ hn (h1.below b5)).mono ?_
    rintro e w6 ⟨u6, ys, rfl, hO, hys, hb6⟩
    go_wp2_with fail
    go_ret2
    exact ⟨_, ys, by rw [HP.out.2]; rfl, hO.mono (by have := b0.size; have := b5.size; omega), by rw [hys, HP.out.1], (b0.trans (b5.mono b0.size)).trans (hb6.mono (by have := b0.size; have := b5.size; omega))⟩
end Go.Proofs.Ytgdkoangpinieaa
