/- The law: a key without versions has none that is the newest. -/
import Derived.Test.YtgdkoangpinieaaGAA
import Derived.Test.YtgdkoangpinieaaSTopV
import Derived.Test.YtgdkoangpinieaaITopV
namespace Go.Proofs.Ytgdkoangpinieaa
open Go.ChangeShapes Go.WideShapes Go.ChangeAt Go.RowKit

theorem cTop_is {vs : List V} {k : Int} {i : Nat} (hi : i < vs.length) (h : vs[i].k = k) : (cTop vs k).isSome = true := by
  unfold cTop
  rw [List.find?_isSome]
  exact ⟨vs[i], by simp, by simp [h]⟩
theorem cTop_not {vs : List V} {k : Int} (h : ∀ i, (hi : i < vs.length) → vs[i].k ≠ k) : (cTop vs k).isSome = false := by
  unfold cTop
  have : vs.reverse.find? (fun v => decide (v.k = k)) = none := by
    rw [List.find?_eq_none]
    intro x hx
    obtain ⟨i, hi, rfl⟩ := List.mem_iff_getElem.1 (List.mem_reverse.1 hx)
    simpa using h i hi
  rw [this]; rfl

set_option maxHeartbeats 4000000 in
set_option maxRecDepth 20000 in
theorem lawNone (w : World) (a : Option Addr) (len cap : Nat) (h : Code w a len cap) :
    Calls Try.prog 13 #[.slice a len cap] w fun e w' => e = .returned (.bool true) ∧ Below w.heap.size w w' := by
  have hm := h.2.1
  have hl := h.1
  unfold maxLen at hm
  by_cases hc : 1048576 < (len : Int)
  · go_enter Try.func13, Try.ntmps13
    go_wp2
    go_ret
    exact ⟨rfl, Below.refl _ _⟩
  go_enter Try.func13, Try.ntmps13
  go_wp2_with fail
  refine (drawCTop w a len cap h).mono ?_
  rintro e w1 ⟨v1, ys, vs, key, rfl, O1, hy, hF, k0, k1, B1⟩
  obtain ⟨va, vc, rfl, V1⟩ := O1.asD hy
  have hwf : (Lit.int .i64 key).wf = true := by
    have : key = -1 ∨ key = 0 ∨ key = 1 ∨ key = 2 ∨ key = 3 ∨ key = 4 ∨ key = 5 ∨ key = 6 := by omega
    rcases this with rfl | rfl | rfl | rfl | rfl | rfl | rfl | rfl <;> rfl
  have hvl : vs.length ≤ 81 := hF.1
  have hI := fun W h => iTopV_any va vc vs key W (by omega) h hwf
  have hS := fun W h => sTopV_any va vc vs key W (by omega) h
  have hC := fun W h => sChainOk_any va vc vs W (by omega) h
  obtain ⟨r, hr⟩ : ∃ r, r = (topA vs key).isSome := ⟨_, rfl⟩
  rw [← hr] at hI hS
  have HT : Hid (chainB vs = true → r = (cTop vs key).isSome) := fun hb => by rw [hr, topA_yes hb]
  generalize (topA vs key).getD zeroV = u at *
  clear h hm hl O1 hy hF hc hr
  go_wp2_with fail
  refine (hI _ V1).mono ?_
  rintro e w2 ⟨u2, pa2, pc2, hu2, rfl, R2, hb2⟩
  have e2 : u2 = u := hu2.out
  subst u2
  have b2 := (Below.refl _ w2).alloc (Nat.le_refl _) (.cells #[.int .i64 u.k, .int .i64 u.t, .int .i64 u.s, .int .i64 u.val, .int .i64 u.cl, .int .i64 u.ca, .slice pa2 u.ds.length pc2] 28)
  have V2 := (V1.below hb2).below b2
  have B2 : Below w.heap.size w w2 := B1.trans (hb2.mono B1.size)
  have B2' := B2.trans (b2.mono B2.size)
  clear V1 hb2 B1 R2 b2 B2 hI
  go_wp2_with fail
  generalize w2.alloc (.cells #[.int .i64 u.k, .int .i64 u.t, .int .i64 u.s, .int .i64 u.val, .int .i64 u.cl, .int .i64 u.ca, .slice pa2 u.ds.length pc2] 28) = w2' at *
  refine (hS _ V2).mono ?_
  rintro e w3 ⟨u3, pa3, pc3, hu3, rfl, R3, hb3⟩
  have e3 : u3 = u := hu3.out
  subst u3
  have b3 := (Below.refl _ w3).alloc (Nat.le_refl _) (.cells #[.int .i64 u.k, .int .i64 u.t, .int .i64 u.s, .int .i64 u.val, .int .i64 u.cl, .int .i64 u.ca, .slice pa3 u.ds.length pc3] 28)
  have V3 := (V2.below hb3).below b3
  have B3 : Below w.heap.size w w3 := B2'.trans (hb3.mono B2'.size)
  have B3' := B3.trans (b3.mono B3.size)
  clear V2 hb3 B2' R3 b3 B3 hS
  go_wp2_with fail
  generalize w3.alloc (.cells #[.int .i64 u.k, .int .i64 u.t, .int .i64 u.s, .int .i64 u.val, .int .i64 u.cl, .int .i64 u.ca, .slice pa3 u.ds.length pc3] 28) = w3' at *
  refine (hC _ V3).mono ?_
  rintro e w4 ⟨rfl, hb4⟩
  have V4 := V3.below hb4
  have B4 : Below w.heap.size w w4 := B3'.trans (hb4.mono B3'.size)
  clear V3 hb4 B3' hC
  rcases hcb : chainB vs with _ | _
  · clear V4 HT
    go_wp2_with fail
    go_ret
    exact ⟨by simp, B4⟩
  · have HR : Hid (r = (cTop vs key).isSome) := HT.out hcb
    clear HT hcb
    go_wp2_with fail
    go_loop [9] (fun i => ∃ k : Nat, k ≤ vs.length ∧ i = .int .i64 k ∧ ∀ j, (hj : j < vs.length) → j < k → vs[j].k ≠ key) (fun i => vs.length - (intOf i).toNat)
    case atStart => exact ⟨0, Nat.zero_le _, rfl, fun j _ hj => by omega⟩
    case round =>
      obtain ⟨k, hk, rfl, hno⟩ := hrel
      by_cases hlt : k < vs.length
      · obtain ⟨b, o, da, dc, rfl, hbb, hv⟩ := V4.at hlt
        have e0 := hv.c0
        by_cases he : vs[k].k = key
        · have hrt : r = true := by rw [HR.out]; exact cTop_is hlt he
          rw [he] at e0
          clear hv V4 hno HR
          subst hrt
          go_wp2_with fail
          go_ret
          exact ⟨rfl, B4⟩
        · have hno2 : Hid (∀ j, (hj : j < vs.length) → j < k + 1 → vs[j].k ≠ key) := fun j hj hjk => by
            by_cases hjk2 : j = k
            · subst hjk2; exact he
            · exact hno j hj (by omega)
          clear hv V4 hno HR
          generalize vs[k].k = z at *
          go_wp2_with fail
          go_round
          case rel => exact ⟨k + 1, by omega, by go_num, hno2.out⟩
          case measure => simp [intOf]; omega
      · have hrf : r = false := by rw [HR.out]; exact cTop_not fun j hj => hno j hj (by omega)
        subst hrf
        clear hno V4 HR
        go_wp2_with fail
        go_ret
        exact ⟨rfl, B4⟩
end Go.Proofs.Ytgdkoangpinieaa
