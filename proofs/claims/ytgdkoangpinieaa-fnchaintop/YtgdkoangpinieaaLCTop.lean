/- The law: the newest version of a key is there, and none of it is newer. -/
import Derived.Test.YtgdkoangpinieaaLMath
import Derived.Test.YtgdkoangpinieaaLiHas
import Derived.Test.YtgdkoangpinieaaSTopV
import Derived.Test.YtgdkoangpinieaaITopV
namespace Go.Proofs.Ytgdkoangpinieaa
open Go.ChangeShapes Go.WideShapes Go.ChangeAt Go.RowKit

/-- Whether one of them is of a key. -/
def anyK (vs : List V) (k : Int) : Bool := vs.any fun v => decide (v.k = k)
theorem anyK_step {vs : List V} {i : Nat} {k : Int} (hi : i < vs.length) : anyK (vs.take (i + 1)) k = (anyK (vs.take i) k || decide (vs[i].k = k)) := by
  unfold anyK; rw [takeV vs i hi, List.any_append]; simp
theorem top_any {vs : List V} {k : Int} : (cTop vs k).isSome = anyK vs k := by
  unfold cTop anyK
  rw [Bool.eq_iff_iff, List.find?_isSome, List.any_eq_true]
  simp
theorem topA_few {vs : List V} {k : Int} (h : ∀ v ∈ vs, v.ds.length ≤ 6) : ((topA vs k).getD zeroV).ds.length ≤ 6 := by
  unfold topA
  split
  · cases hc : cTop vs k with
    | none => simp [zeroV]
    | some v => exact h v (by have := List.mem_of_find?_eq_some hc; simpa using this)
  · simp [zeroV]
/-- One version in a block of its own. -/
theorem vers_one {w : World} {B : Nat} {u : V} {pa : Option Addr} {pc : Nat} {T : TypeId} (h : Blk w B #[.int .i64 u.k, .int .i64 u.t, .int .i64 u.s, .int .i64 u.val, .int .i64 u.cl, .int .i64 u.ca, .slice pa u.ds.length pc] T) (hd : Deps w pa u.ds) (hl : u.ds.length ≤ 6) : Vers w (some ⟨B, 0, none⟩) [u] := by
  refine .inr ⟨B, 0, rfl, h.lt, fun i hi => ⟨pa, pc, ?_⟩⟩
  have : i = 0 := by simp at hi; omega
  subst this
  exact ⟨h.cell 0, h.cell 1, h.cell 2, h.cell 3, h.cell 4, h.cell 5, h.cell 6, hd, by simp; omega⟩

set_option maxHeartbeats 4000000 in
set_option maxRecDepth 20000 in
theorem lawCTop (w : World) (a : Option Addr) (len cap : Nat) (h : Code w a len cap) :
    Calls Try.prog 5 #[.slice a len cap] w fun e w' => e = .returned (.bool true) ∧ Below w.heap.size w w' := by
  have hm := h.2.1
  have hl := h.1
  unfold maxLen at hm
  by_cases hc : 1048576 < (len : Int)
  · go_enter Try.func5, Try.ntmps5
    go_wp2
    go_ret
    exact ⟨rfl, Below.refl _ _⟩
  go_enter Try.func5, Try.ntmps5
  go_wp2_with fail
  refine (drawCTop w a len cap h).mono ?_
  rintro e w1 ⟨v1, ys, vs, key, rfl, O1, hy, hF, k0, k1, B1⟩
  obtain ⟨va, vc, rfl, V1⟩ := O1.asD hy
  have hwf : (Lit.int .i64 key).wf = true := by
    have : key = -1 ∨ key = 0 ∨ key = 1 ∨ key = 2 ∨ key = 3 ∨ key = 4 ∨ key = 5 ∨ key = 6 := by omega
    rcases this with rfl | rfl | rfl | rfl | rfl | rfl | rfl | rfl <;> rfl
  have hvl : vs.length ≤ 81 := hF.1
  have hI := fun W h => iTopV_any va vc vs key W (by omega) h hwf
  have hS := fun W h => sTopV_any va vc vs key W (by omega) h
  have hC := fun W h => sChainOk_any va vc vs W (by omega) h
  have hul := topA_few (k := key) hF.2
  obtain ⟨r, hr⟩ : ∃ r, r = (topA vs key).isSome := ⟨_, rfl⟩
  have HT : Hid (chainB vs = true → r = anyK vs key ∧ (∀ z ∈ vs, z.k = key → lessB ((topA vs key).getD zeroV).t ((topA vs key).getD zeroV).s z.t z.s = false) ∧ (r = true → ((topA vs key).getD zeroV).k = key ∧ cAt vs ((topA vs key).getD zeroV).k ((topA vs key).getD zeroV).t ((topA vs key).getD zeroV).s = some ((topA vs key).getD zeroV))) := fun hb => by
    have hA := (chainB_iff.1 hb).2.2
    rw [topA_yes hb] at hr ⊢
    refine ⟨by rw [hr, top_any], fun z hz hzk => ?_, fun h => ?_⟩
    · refine (top_all hA ?_).2.1 z hz hzk
      obtain ⟨i, hi, rfl⟩ := List.getElem_of_mem hz
      rw [top_any]
      unfold anyK
      rw [List.any_eq_true]
      exact ⟨_, hz, by simpa using hzk⟩
    · obtain ⟨h1, _, h3⟩ := top_all hA (k := key) (by rw [← hr]; exact h)
      exact ⟨h1, h3⟩
  rw [← hr] at hI hS
  generalize (topA vs key).getD zeroV = u at *
  clear h hm hl O1 hy hF hc hr k0 k1 hwf
  go_wp2_with fail
  refine (hS _ V1).mono ?_
  rintro e w2 ⟨u2, pa2, pc2, hu2, rfl, R2, hb2⟩
  have e2 : u2 = u := hu2.out
  subst u2
  have b2 := (Below.refl _ w2).alloc (Nat.le_refl _) (.cells #[.int .i64 u.k, .int .i64 u.t, .int .i64 u.s, .int .i64 u.val, .int .i64 u.cl, .int .i64 u.ca, .slice pa2 u.ds.length pc2] 28)
  have bb2 := hb2.trans (b2.mono hb2.size)
  have K2 := (row_deps' R2).below b2
  have U2 := Blk.new w2 #[.int .i64 u.k, .int .i64 u.t, .int .i64 u.s, .int .i64 u.val, .int .i64 u.cl, .int .i64 u.ca, .slice pa2 u.ds.length pc2] 28
  have V2 := V1.below bb2
  have B2 := B1.trans (bb2.mono B1.size)
  clear V1 B1 hb2 bb2 b2 R2 hS
  go_wp2_with fail
  generalize w2.alloc (.cells #[.int .i64 u.k, .int .i64 u.t, .int .i64 u.s, .int .i64 u.val, .int .i64 u.cl, .int .i64 u.ca, .slice pa2 u.ds.length pc2] 28) = w2' at *
  refine (hI _ V2).mono ?_
  rintro e w3 ⟨u3, pa3, pc3, hu3, rfl, R3, hb3⟩
  have e3 : u3 = u := hu3.out
  subst u3
  have b3 := (Below.refl _ w3).alloc (Nat.le_refl _) (.cells #[.int .i64 u.k, .int .i64 u.t, .int .i64 u.s, .int .i64 u.val, .int .i64 u.cl, .int .i64 u.ca, .slice pa3 u.ds.length pc3] 28)
  have bb3 := hb3.trans (b3.mono hb3.size)
  have K3 := (row_deps' R3).below b3
  have U3 := Blk.new w3 #[.int .i64 u.k, .int .i64 u.t, .int .i64 u.s, .int .i64 u.val, .int .i64 u.cl, .int .i64 u.ca, .slice pa3 u.ds.length pc3] 28
  have U23 := U2.below bb3 U2.lt
  have K23 := K2.below bb3
  have V3 := V2.below bb3
  have B3 := B2.trans (bb3.mono B2.size)
  clear V2 B2 hb3 bb3 b3 R3 hI U2 K2
  obtain ⟨q1, g1⟩ := U3.rules
  obtain ⟨q2, g2⟩ := U23.rules
  go_wp2_with fail
  clear q1 g1 q2 g2
  generalize w3.alloc (.cells #[.int .i64 u.k, .int .i64 u.t, .int .i64 u.s, .int .i64 u.val, .int .i64 u.cl, .int .i64 u.ca, .slice pa3 u.ds.length pc3] 28) = w3' at *
  refine (liVer_any u pa3 pa2 pc3 pc2 _ (by omega) K3 K23).mono ?_
  rintro e w4 ⟨rfl, hb4⟩
  have V4 := V3.below hb4
  have U4 := U3.below hb4 U3.lt
  have U24 := U23.below hb4 U23.lt
  have K4 := K3.below hb4
  have K24 := K23.below hb4
  have B4 := B3.trans (hb4.mono B3.size)
  clear V3 U3 U23 K3 K23 B3 hb4
  go_wp2_with fail
  refine (hC _ V4).mono ?_
  rintro e w5 ⟨rfl, hb5⟩
  have V5 := V4.below hb5
  have U5 := U4.below hb5 U4.lt
  have U25 := U24.below hb5 U24.lt
  have K5 := K4.below hb5
  have K25 := K24.below hb5
  have B5 := B4.trans (hb5.mono B4.size)
  clear V4 U4 U24 K4 K24 B4 hb5 hC
  rcases hcb : chainB vs with _ | _
  · clear V5 HT
    obtain ⟨q1, g1⟩ := U5.rules
    obtain ⟨q2, g2⟩ := U25.rules
    go_wp2_with fail
    clear q1 g1 q2 g2
    refine (liVer_any u pa3 pa2 pc3 pc2 _ (by omega) K5 K25).mono ?_
    rintro e w6 ⟨rfl, hb6⟩
    have B6 := B5.trans (hb6.mono B5.size)
    clear U5 U25 K5 K25 B5 hb6
    go_wp2_with fail
    go_ret
    exact ⟨by simp, B6⟩
  · have HR : Hid (r = anyK vs key ∧ (∀ z ∈ vs, z.k = key → lessB u.t u.s z.t z.s = false) ∧ (r = true → u.k = key ∧ cAt vs u.k u.t u.s = some u)) := HT.out hcb
    clear HT hcb U25 K25
    go_wp2_with fail
    go_loopw [9, 10] (fun n i wr => ∃ (k : Nat) (m : Bool), k ≤ vs.length ∧ i = .int .i64 k ∧ n = .bool m ∧ Hid (m = anyK (vs.take k) key) ∧ Vers wr va vs ∧ Deps wr pa3 u.ds ∧ Blk wr w3.heap.size #[.int .i64 u.k, .int .i64 u.t, .int .i64 u.s, .int .i64 u.val, .int .i64 u.cl, .int .i64 u.ca, .slice pa3 u.ds.length pc3] 28 ∧ Below w.heap.size w wr) (fun _ i _ => vs.length - (intOf i).toNat)
    case atStart => exact ⟨0, false, Nat.zero_le _, rfl, rfl, rfl, V5, K5, U5, B5⟩
    case round =>
      clear V5 U5 B5 K5
      obtain ⟨k, m, hk, rfl, rfl, HM, V5, KQ, UQ, BQ⟩ := hrel
      have VQ := V5
      by_cases hlt : k < vs.length
      · have hstep := anyK_step (k := key) hlt
        rw [← HM.out] at hstep
        obtain ⟨b, o, da, dc, rfl, hbb, hv⟩ := V5.at hlt
        by_cases hkey : vs[k].k = key
        · have HO : Hid (true = anyK (vs.take (k + 1)) key) := by
            show _ = _
            rw [hstep]; simp [hkey]
          have hls := HR.out.2.1 vs[k] (List.getElem_mem hlt) hkey
          obtain ⟨r0, r1, r2, r3, r4, r5, r6⟩ := hv.rules
          have c0 := hv.c0
          have hL := fun W => iLess_any u.t u.s vs[k].t vs[k].s W
          rw [hls] at hL
          have rz : ∀ (n : Wof (Since wr)) (j : Nat), n.W.cell? ⟨w3.heap.size, j, none⟩ = #[.int .i64 u.k, .int .i64 u.t, .int .i64 u.s, .int .i64 u.val, .int .i64 u.cl, .int .i64 u.ca, .slice pa3 u.ds.length pc3][j]? := fun n j => (UQ.below n.h UQ.lt).cell j
          have ne := since_ne wr
          clear hstep hv V5 HM HR hls
          generalize vs[k] = v at *
          subst hkey
          go_wp2_with fail
          refine wp_region_class (S := Since wr) (by kernel_rfl) (by kernel_rfl) (Below.refl _ _).drew ?_
          repeat (go_big_quiet_step ((rename_i n; first | (go_at_call 39; exact Calls.inClass (hL _) Since.keep))))
          refine wpQuiet_nil ?_
          rintro W ⟨n, hnW⟩
          have R2 := n.h
          rw [← hnW] at R2
          have V6 := VQ.below R2
          have K6 := KQ.below R2
          have U6 := UQ.below R2 UQ.lt
          have B6 : Below w.heap.size w W := BQ.trans (R2.mono BQ.size)
          clear R2 r0 r1 r2 r3 r4 r5 r6 c0 rz ne hnW n VQ KQ UQ BQ hL
          go_wp2
          go_roundw
          case rel => exact ⟨k + 1, true, by omega, by go_num, rfl, HO, V6, K6, U6, B6⟩
          case measure => simp [intOf]; omega
        · have HO : Hid (m = anyK (vs.take (k + 1)) key) := by
            show _ = _
            rw [hstep]; simp [hkey]
          have hk0 : (vs[k].k == key) = false := by simpa using hkey
          have c0 := hv.c0
          clear hstep hv V5 HM HR
          generalize vs[k] = v at *
          go_wp2_with fail
          clear c0
          go_roundw
          case rel => exact ⟨k + 1, m, by omega, by go_num, rfl, HO, VQ, KQ, UQ, BQ⟩
          case measure => simp [intOf]; omega
      · have hk2 : k = vs.length := by omega
        subst hk2
        rw [List.take_length] at HM
        obtain ⟨h1, _, h3⟩ := HR.out
        rw [← HM.out] at h1
        subst h1
        clear HM HR V5
        obtain ⟨q2, g2⟩ := UQ.rules
        rcases r with _ | _
        · clear h3 VQ KQ UQ
          go_wp2_with fail
          go_ret
          exact ⟨rfl, BQ⟩
        · obtain ⟨e1, e2⟩ := h3 rfl
          have H2 : Hid (∀ v ∈ [u], cAt vs v.k v.t v.s = some v) := fun v hv => by simp at hv; subst hv; exact e2
          have hL1 : ∀ v ∈ [u], v.ds.length ≤ 1048576 := fun v hv => by simp at hv; subst hv; omega
          have b6 := (Below.refl _ wr).alloc (Nat.le_refl _) (.cells #[.int .i64 u.k, .int .i64 u.t, .int .i64 u.s, .int .i64 u.val, .int .i64 u.cl, .int .i64 u.ca, .slice pa3 u.ds.length pc3] 28)
          have V6 := VQ.below b6
          have O6 := vers_one (Blk.new wr #[.int .i64 u.k, .int .i64 u.t, .int .i64 u.s, .int .i64 u.val, .int .i64 u.cl, .int .i64 u.ca, .slice pa3 u.ds.length pc3] 28) (KQ.below b6) hul
          have U6 := UQ.below b6 UQ.lt
          have B6 := BQ.trans (b6.mono BQ.size)
          subst e1
          clear h3 e2 KQ VQ
          go_wp2_with fail
          refine (liHas_any va (some ⟨wr.heap.size, 0, none⟩) vs [u] vc 1 _ (by omega) (by simp) hL1 V6 O6 H2.out).mono ?_
          rintro e w7 ⟨rfl, hb7⟩
          have U7 := U6.below hb7 U6.lt
          have B7 := B6.trans (hb7.mono B6.size)
          clear q2 g2 UQ BQ b6 V6 O6 U6 B6 hb7 H2
          obtain ⟨q2, g2⟩ := U7.rules
          go_wp2_with fail
          go_ret
          exact ⟨rfl, B7⟩
end Go.Proofs.Ytgdkoangpinieaa
