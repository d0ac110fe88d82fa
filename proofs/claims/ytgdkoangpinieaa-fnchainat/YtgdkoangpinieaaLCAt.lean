/- The law: a version that is found by its stamp has it, and is the only one. -/
import Derived.Test.YtgdkoangpinieaaDrawCA
import Derived.Test.YtgdkoangpinieaaLMath
import Derived.Test.YtgdkoangpinieaaSAtV
import Derived.Test.YtgdkoangpinieaaIAtV
namespace Go.Proofs.Ytgdkoangpinieaa
open Go.ChangeShapes Go.WideShapes Go.ChangeAt Go.RowKit

theorem key_wf {vs : List V} {k : Int} (hc : chainB vs = true) (h : 0 ≤ k ∧ k ≤ 5 ∨ ∃ v ∈ vs, v.k = k) : (Lit.int .i64 k).wf = true := by
  have h5 : 0 ≤ k ∧ k ≤ 5 := by
    rcases h with h | ⟨v, hv, rfl⟩
    · exact h
    · have := okV_key ((chainB_iff.1 hc).2.1 v hv)
      omega
  have : k = 0 ∨ k = 1 ∨ k = 2 ∨ k = 3 ∨ k = 4 ∨ k = 5 := by omega
  rcases this with rfl | rfl | rfl | rfl | rfl | rfl <;> rfl
theorem atA_few {vs : List V} {k x y : Int} (h : ∀ v ∈ vs, v.ds.length ≤ 6) : ((atA vs k x y).getD zeroV).ds.length ≤ 6 := by
  unfold atA
  split
  · cases hc : cAt vs k x y with
    | none => simp [zeroV]
    | some v => exact h v (cAt_mem hc).1
  · simp [zeroV]
theorem Vers.draws {w : World} {a : Option Addr} {vs : List V} (h : Vers w a vs) (m : Nat) : Vers (w.drewN m) a vs := h.below (below_draws (Below.refl _ _) m)

set_option maxHeartbeats 4000000 in
set_option maxRecDepth 20000 in
theorem lawCAt (w : World) (a : Option Addr) (len cap : Nat) (h : Code w a len cap) :
    Calls Try.prog 6 #[.slice a len cap] w fun e w' => e = .returned (.bool true) ∧ Below w.heap.size w w' := by
  have hm := h.2.1
  have hl := h.1
  unfold maxLen at hm
  by_cases hc : 1048576 < (len : Int)
  · go_enter Try.func6, Try.ntmps6
    go_wp2
    go_ret
    exact ⟨rfl, Below.refl _ _⟩
  go_enter Try.func6, Try.ntmps6
  go_wp2_with fail
  refine (drawCAt w a len cap h).mono ?_
  rintro e w1 ⟨v1, ys, vs, key, x, y, rfl, O1, hy, hF, hkey, B1⟩
  obtain ⟨va, vc, rfl, V1⟩ := O1.asD hy
  have hvl : vs.length ≤ 81 := hF.1
  have hI := fun W h => iAtV_if va vc vs key x y W (by omega) h (fun hb => key_wf hb hkey)
  have hS := fun W h => sAtV_any va vc vs key x y W (by omega) h
  have hC := fun W h => sChainOk_any va vc vs W (by omega) h
  have hul := atA_few (k := key) (x := x) (y := y) hF.2
  obtain ⟨r, hr⟩ : ∃ r, r = (atA vs key x y).isSome := ⟨_, rfl⟩
  have HT : Hid (chainB vs = true → cnt vs key x y ≤ 1 ∧ r = (((cnt vs key x y : Nat) : Int) == 1) ∧ (r = true → ((atA vs key x y).getD zeroV).k = key ∧ ((atA vs key x y).getD zeroV).t = x ∧ ((atA vs key x y).getD zeroV).s = y)) := fun hb => by
    have hA := (chainB_iff.1 hb).2.2
    rw [atA_yes hb] at hr ⊢
    exact ⟨cnt_one hA key x y, by rw [hr]; exact cnt_is hA key x y, fun h => found (by rw [← hr]; exact h)⟩
  rw [← hr] at hI hS
  generalize (atA vs key x y).getD zeroV = u at *
  have b1 := (Below.refl _ w1).alloc (Nat.le_refl _) (.cells #[.int .i64 x, .int .i64 y] 25)
  have S1 := Blk.new w1 #[.int .i64 x, .int .i64 y] 25
  have V1' := V1.below b1
  have B1' := B1.trans (b1.mono B1.size)
  clear h hm hl O1 hy hF hc hr hkey V1 B1 b1
  obtain ⟨q1, g1⟩ := S1.rules
  go_wp2_with fail
  clear q1 g1
  generalize w1.alloc (.cells #[.int .i64 x, .int .i64 y] 25) = w1' at *
  refine (hS _ V1').mono ?_
  rintro e w2 ⟨u2, pa2, pc2, hu2, rfl, R2, hb2⟩
  have e2 : u2 = u := hu2.out
  subst u2
  have b2 := (Below.refl _ w2).alloc (Nat.le_refl _) (.cells #[.int .i64 u.k, .int .i64 u.t, .int .i64 u.s, .int .i64 u.val, .int .i64 u.cl, .int .i64 u.ca, .slice pa2 u.ds.length pc2] 28)
  have bb2 := hb2.trans (b2.mono hb2.size)
  have K2 := (row_deps' R2).below b2
  have U2 := Blk.new w2 #[.int .i64 u.k, .int .i64 u.t, .int .i64 u.s, .int .i64 u.val, .int .i64 u.cl, .int .i64 u.ca, .slice pa2 u.ds.length pc2] 28
  have S2 := S1.below bb2 S1.lt
  have V2 := V1'.below bb2
  have B2 := B1'.trans (bb2.mono B1'.size)
  clear V1' S1 B1' hb2 bb2 b2 R2 hS
  obtain ⟨q1, g1⟩ := S2.rules
  go_wp2_with fail
  clear q1 g1
  generalize w2.alloc (.cells #[.int .i64 u.k, .int .i64 u.t, .int .i64 u.s, .int .i64 u.val, .int .i64 u.cl, .int .i64 u.ca, .slice pa2 u.ds.length pc2] 28) = w2' at *
  refine (hI _ V2).mono ?_
  rintro e w3 ⟨u3, pa3, pc3, hu3, rfl, R3, hb3⟩
  have e3 : u3 = u := hu3.out
  subst u3
  have b3 := (Below.refl _ w3).alloc (Nat.le_refl _) (.cells #[.int .i64 u.k, .int .i64 u.t, .int .i64 u.s, .int .i64 u.val, .int .i64 u.cl, .int .i64 u.ca, .slice pa3 u.ds.length pc3] 28)
  have bb3 := hb3.trans (b3.mono hb3.size)
  have K3 := (row_deps' R3).below b3
  have U3 := Blk.new w3 #[.int .i64 u.k, .int .i64 u.t, .int .i64 u.s, .int .i64 u.val, .int .i64 u.cl, .int .i64 u.ca, .slice pa3 u.ds.length pc3] 28
  have S3 := S2.below bb3 S2.lt
  have U23 := U2.below bb3 U2.lt
  have K23 := K2.below bb3
  have V3 := V2.below bb3
  have B3 := B2.trans (bb3.mono B2.size)
  clear V2 S2 B2 hb3 bb3 b3 R3 hI U2 K2
  obtain ⟨q1, g1⟩ := U3.rules
  obtain ⟨q2, g2⟩ := U23.rules
  go_wp2_with fail
  clear q1 g1 q2 g2
  generalize w3.alloc (.cells #[.int .i64 u.k, .int .i64 u.t, .int .i64 u.s, .int .i64 u.val, .int .i64 u.cl, .int .i64 u.ca, .slice pa3 u.ds.length pc3] 28) = w3' at *
  refine (liVer_any u pa3 pa2 pc3 pc2 _ (by omega) K3 K23).mono ?_
  rintro e w4 ⟨rfl, hb4⟩
  have V4 := V3.below hb4
  have S4 := S3.below hb4 S3.lt
  have U4 := U3.below hb4 U3.lt
  have U24 := U23.below hb4 U23.lt
  have K4 := K3.below hb4
  have K24 := K23.below hb4
  have B4 := B3.trans (hb4.mono B3.size)
  clear V3 S3 U3 U23 K3 K23 B3 hb4
  go_wp2_with fail
  refine (hC _ V4).mono ?_
  rintro e w5 ⟨rfl, hb5⟩
  have V5 := V4.below hb5
  have S5 := S4.below hb5 S4.lt
  have U5 := U4.below hb5 U4.lt
  have U25 := U24.below hb5 U24.lt
  have K5 := K4.below hb5
  have K25 := K24.below hb5
  have B5 := B4.trans (hb5.mono B4.size)
  clear V4 S4 U4 U24 K4 K24 B4 hb5 hC
  rcases hcb : chainB vs with _ | _
  · clear V5 HT S5
    obtain ⟨q1, g1⟩ := U5.rules
    obtain ⟨q2, g2⟩ := U25.rules
    go_wp2_with fail
    clear q1 g1 q2 g2
    refine (liVer_any u pa3 pa2 pc3 pc2 _ (by omega) K5 K25).mono ?_
    rintro e w6 ⟨rfl, hb6⟩
    have B6 := B5.trans (hb6.mono B5.size)
    clear U5 U25 K5 K25 B5 hb6
    go_wp2_with fail
    go_ret
    exact ⟨by simp, B6⟩
  · have HR : Hid (cnt vs key x y ≤ 1 ∧ r = (((cnt vs key x y : Nat) : Int) == 1) ∧ (r = true → u.k = key ∧ u.t = x ∧ u.s = y)) := HT.out hcb
    clear HT hcb U25 K5 K25
    go_wp2_with fail
    go_loopw [10, 11] (fun n i wr => ∃ k m : Nat, k ≤ vs.length ∧ i = .int .i64 k ∧ n = .int .i64 m ∧ Hid (m = cnt (vs.take k) key x y) ∧ Vers wr va vs ∧ Blk wr w1.heap.size #[.int .i64 x, .int .i64 y] 25 ∧ Blk wr w3.heap.size #[.int .i64 u.k, .int .i64 u.t, .int .i64 u.s, .int .i64 u.val, .int .i64 u.cl, .int .i64 u.ca, .slice pa3 u.ds.length pc3] 28 ∧ Below w.heap.size w wr) (fun _ i _ => vs.length - (intOf i).toNat)
    case atStart => exact ⟨0, 0, Nat.zero_le _, rfl, rfl, rfl, V5, S5, U5, B5⟩
    case round =>
      clear V5 S5 U5 B5
      obtain ⟨k, m, hk, rfl, rfl, HM, V5, SQ, UQ, BQ⟩ := hrel
      have VQ := V5
      by_cases hlt : k < vs.length
      · have hmk : m ≤ 81 := by have := cnt_take (vs := vs) k (k := key) (x := x) (y := y); rw [HM.out]; omega
        have hstep := cnt_step (k := key) (x := x) (y := y) hlt
        rw [← HM.out] at hstep
        clear HM HR
        obtain ⟨b, o, da, dc, rfl, hbb, hv⟩ := V5.at hlt
        have c0 := hv.c0
        have c1 := hv.c1
        have c2 := hv.c2
        obtain ⟨q1, g1⟩ := SQ.rules
        by_cases hkey : vs[k].k = key
        · by_cases ht : vs[k].t = x
          · by_cases hs : vs[k].s = y
            · have HO : Hid (m + 1 = cnt (vs.take (k + 1)) key x y) := by
                show _ = _
                rw [hstep, if_pos (sameB_iff.2 ⟨hkey, ht, hs⟩)]
              clear hstep hv V5
              generalize vs[k] = v at *
              subst hkey ht hs
              go_wp2_with fail
              go_quiet (fail)
              clear c0 c1 c2 q1 g1
              go_wp2
              go_roundw
              case rel => exact ⟨k + 1, m + 1, by omega, by go_num, by go_num, HO, VQ.draws _, hdraws SQ _, hdraws UQ _, below_draws BQ _⟩
              case measure => simp [intOf]; omega
            · have HO : Hid (m = cnt (vs.take (k + 1)) key x y) := by
                show _ = _
                rw [hstep, if_neg (by rw [same_site hs]; exact Bool.false_ne_true)]; rfl
              have hk0 : (vs[k].s == y) = false := by simpa using hs
              clear hstep hv V5
              generalize vs[k] = v at *
              subst hkey ht
              go_wp2_with fail
              go_quiet (fail)
              clear c0 c1 c2 q1 g1
              go_wp2
              go_roundw
              case rel => exact ⟨k + 1, m, by omega, by go_num, rfl, HO, VQ.draws _, hdraws SQ _, hdraws UQ _, below_draws BQ _⟩
              case measure => simp [intOf]; omega
          · have HO : Hid (m = cnt (vs.take (k + 1)) key x y) := by
              show _ = _
              rw [hstep, if_neg (by rw [same_time ht]; exact Bool.false_ne_true)]; rfl
            have hk0 : (vs[k].t == x) = false := by simpa using ht
            clear hstep hv V5
            generalize vs[k] = v at *
            subst hkey
            go_wp2_with fail
            go_quiet (fail)
            clear c0 c1 c2 q1 g1
            go_wp2
            go_roundw
            case rel => exact ⟨k + 1, m, by omega, by go_num, rfl, HO, VQ.draws _, hdraws SQ _, hdraws UQ _, below_draws BQ _⟩
            case measure => simp [intOf]; omega
        · have HO : Hid (m = cnt (vs.take (k + 1)) key x y) := by
            show _ = _
            rw [hstep, if_neg (by rw [same_key hkey]; exact Bool.false_ne_true)]; rfl
          have hk0 : (vs[k].k == key) = false := by simpa using hkey
          clear hstep hv V5
          generalize vs[k] = v at *
          go_wp2_with fail
          go_quiet (fail)
          clear c0 c1 c2 q1 g1
          go_wp2
          go_roundw
          case rel => exact ⟨k + 1, m, by omega, by go_num, rfl, HO, VQ.draws _, hdraws SQ _, hdraws UQ _, below_draws BQ _⟩
          case measure => simp [intOf]; omega
      · have hk2 : k = vs.length := by omega
        subst hk2
        rw [List.take_length] at HM
        obtain ⟨h1, h2, h3⟩ := HR.out
        rw [← HM.out] at h1 h2
        clear HM HR VQ V5
        obtain ⟨q1, g1⟩ := SQ.rules
        obtain ⟨q2, g2⟩ := UQ.rules
        have h4 : m = 0 ∨ m = 1 := by omega
        rcases h4 with rfl | rfl
        · have h5 : r = false := h2
          subst h5
          clear h1 h2 h3
          go_wp2_with fail
          go_ret
          exact ⟨rfl, BQ⟩
        · have h5 : r = true := h2
          subst h5
          obtain ⟨e1, e2, e3⟩ := h3 rfl
          subst e1 e2 e3
          clear h1 h2 h3
          go_wp2_with fail
          go_ret
          exact ⟨rfl, BQ⟩
end Go.Proofs.Ytgdkoangpinieaa
