/- A word is drawn. -/
import Derived.Test.YtgdkoangpinieaaWLs
import Derived.Deep.DeepCutAuto
import Derived.Deep.CutBlock
namespace Go.Proofs.Ytgdkoangpinieaa
open Go.ChangeShapes Go.WideShapes Go.ChangeAt Go.RowKit
theorem WLs.low {W : World} {base base' : Nat} {x : Wd} {a : Wa} (h : WLs W base x a) (hb : base' ≤ base) : WLs W base' x a := by
  obtain ⟨ys, h1, h2⟩ := h.v
  obtain ⟨zs, h3, h4⟩ := h.w
  exact ⟨row_mono h.d hb, ⟨ys, h1.mono hb, h2⟩, ⟨zs, h3.mono hb, h4⟩, row_mono h.o hb, h.dl, h.vl, h.wl, h.ol⟩
theorem uncons {α : Type} {l : List α} {n : Nat} (h : l.length = n + 1) : ∃ x t, l = x :: t ∧ t.length = n := by
  cases l with
  | nil => simp at h
  | cons x t => exact ⟨x, t, rfl, by simpa using h⟩
set_option maxHeartbeats 8000000 in
set_option maxRecDepth 20000 in
theorem drawWord (B : Nat) (p : Int) (w : World) (h : Rd w B p) (hp : p ≤ 400000) :
    Calls Try.prog 124 #[.pointer (some ⟨B, 0, none⟩)] w fun e w' => ∃ (x : Wd) (a : Wa) (p' : Int), e = .returned (wordV x a) ∧ WLs w' (w.heap.size + 2) x a ∧ p' ≤ p + 5000 ∧ Rd w' B p' ∧ Stp B w w' := by
  have hBw := h.1
  go_enter Try.func124, Try.ntmps124
  go_upto_region 1 with fail
  go_cut [3] (fun s3 wx => ∃ D z1 z2 z3 z4 z5 z6 z7 z8 z9, s3 = .pointer (some ⟨D, 0, none⟩) ∧ w.heap.size + 1 ≤ D ∧ Blk wx D (wz z1 z2 z3 z4 z5 z6 z7 z8 z9) 56 ∧ Stp B (w.alloc (.cells (wz 0 0 0 0 0 0 false 0 0) 56)).drew wx ∧ ∃ q, Rd wx B q ∧ q ≤ p + 29)
  case first =>
    refine wp_region_any (by kernel_rfl) ?_
    refine wpAny_inv (InvW B p (w.alloc (.cells (wz 0 0 0 0 0 0 false 0 0) 56)).drew _) ?_ ?_ _ _ _ _ (by simp) ⟨by simp, by simp, rfl, fun _ _ => rfl, fun j hj hl => ?_, Stp.refl _ _, ⟨p, (h.alloc _).drw, by simp⟩⟩
    · generalize hw0 : (w.alloc (.cells (wz 0 0 0 0 0 0 false 0 0) 56)).drew = w0
      have hB : B < w0.heap.size := by rw [← hw0]; simp [World.drew]; omega
      intro l a w i hI hi
      obtain ⟨hun, o, ho, hdep⟩ := mem_ready.1 hi
      have t0 : a.tmps[0]? = some (.pointer (some ⟨B, 0, none⟩)) := hI.fr 0 (by omega)
      obtain ⟨q, hr, hq⟩ := hI.rd
      have hcl : l.toList.count true ≤ 29 := by have := List.count_le_length (a := true) (l := l.toList); have := hI.ls; simp at *; omega
      have hi29 : i < 29 := by
        rcases Nat.lt_or_ge i 29 with h | h
        · exact h
        · rw [Array.getElem?_eq_none (by simpa using h)] at ho; cases ho
      match i, hi29 with
      | 0, _ =>
        simp only [List.getElem?_toArray, List.getElem?_cons_zero, Option.some.injEq] at ho
        subst ho
        have hu := getF hun
        refine wpOp_of rfl rfl ?_
        unfold Oper.wp
        simp [execOp, go_sem, t0]
        exact hI.step hB (by omega) hu rfl (by simp [KW]) (Stp.refl B w) ⟨q, hr, by omega⟩
      | 1, _ =>
        simp only [List.getElem?_toArray, List.getElem?_cons_succ, List.getElem?_cons_zero, Option.some.injEq] at ho
        subst ho
        have hu := getF hun
        have d0 := getT (hdep ⟨0, .data⟩ (by simp) rfl)
        obtain ⟨u0, t0, k0⟩ := hI.kv 0 (by omega) d0
        simp only [dstW] at t0
        simp [KW] at k0 t0
        refine wpOp_of rfl rfl ?_
        unfold Oper.wp
        subst k0
        simp [execOp, go_sem, t0]
        refine (pick_any _ q 10 _ hr (by omega) (by omega)).mono ?_
        rintro e w1 ⟨n, rfl, n0, n1, hr1, hs1, _⟩
        exact hI.step hB (by omega) hu rfl (by simp [KW]) hs1 ⟨q + 1, hr1, by omega⟩
      | 2, _ =>
        simp only [List.getElem?_toArray, List.getElem?_cons_succ, List.getElem?_cons_zero, Option.some.injEq] at ho
        subst ho
        have hu := getF hun
        have d1 := getT (hdep ⟨1, .data⟩ (by simp) rfl)
        obtain ⟨u1, t1, k1⟩ := hI.kv 1 (by omega) d1
        simp only [dstW] at t1
        simp [KW] at k1 t1
        refine wpOp_of rfl rfl ?_
        unfold Oper.wp
        obtain ⟨n, rfl⟩ := k1
        simp [execOp, go_sem, t1]
        exact hI.step hB (by omega) hu rfl (by simp [KW]) (Stp.refl B w) ⟨q, hr, by omega⟩
      | 3, _ =>
        simp only [List.getElem?_toArray, List.getElem?_cons_succ, List.getElem?_cons_zero, Option.some.injEq] at ho
        subst ho
        have hu := getF hun
        refine wpOp_of rfl rfl ?_
        unfold Oper.wp
        simp [execOp, go_sem]
        exact hI.step hB (by omega) hu rfl (by simp [KW]; exact ⟨by have := hI.st.size; omega, Blk.new _ _ _⟩) ((Stp.refl B w).alloc _) ⟨q, hr.alloc _, by omega⟩
      | 4, _ =>
        simp only [List.getElem?_toArray, List.getElem?_cons_succ, List.getElem?_cons_zero, Option.some.injEq] at ho
        subst ho
        have hu := getF hun
        refine wpOp_of rfl rfl ?_
        unfold Oper.wp
        simp [execOp, go_sem, t0]
        exact hI.step hB (by omega) hu rfl (by simp [KW]) (Stp.refl B w) ⟨q, hr, by omega⟩
      | 5, _ =>
        simp only [List.getElem?_toArray, List.getElem?_cons_succ, List.getElem?_cons_zero, Option.some.injEq] at ho
        subst ho
        have hu := getF hun
        have d4 := getT (hdep ⟨4, .data⟩ (by simp) rfl)
        obtain ⟨u4, t4, k4⟩ := hI.kv 4 (by omega) d4
        simp only [dstW] at t4
        simp [KW] at k4 t4
        refine wpOp_of rfl rfl ?_
        unfold Oper.wp
        subst k4
        simp [execOp, go_sem, t4]
        refine (pick_any _ q 6 _ hr (by omega) (by omega)).mono ?_
        rintro e w1 ⟨n, rfl, n0, n1, hr1, hs1, _⟩
        exact hI.step hB (by omega) hu rfl (by simp [KW]; exact ⟨n.toNat, by omega, by omega⟩) hs1 ⟨q + 1, hr1, by omega⟩
      | 6, _ =>
        simp only [List.getElem?_toArray, List.getElem?_cons_succ, List.getElem?_cons_zero, Option.some.injEq] at ho
        subst ho
        have hu := getF hun
        have d3 := getT (hdep ⟨3, .data⟩ (by simp) rfl)
        obtain ⟨u3, t3, k3⟩ := hI.kv 3 (by omega) d3
        simp [dstW] at t3
        rw [KW3] at k3
        have d5 := getT (hdep ⟨5, .data⟩ (by simp) rfl)
        obtain ⟨u5, t5, k5⟩ := hI.kv 5 (by omega) d5
        simp only [dstW] at t5
        simp [KW] at k5 t5
        refine wpOp_of rfl rfl ?_
        unfold Oper.wp
        obtain ⟨g, rfl, hg⟩ := k3
        obtain ⟨n, rfl, hn⟩ := k5
        have hn0 : (0 : Int) ≤ n := by omega
        have hn6 : (n : Int) < 6 := by omega
        simp [execOp, go_sem, t3, t5, hn6]
        exact hI.step hB (by omega) hu rfl (by rw [KW6]; exact ⟨g, n, rfl, hn, hg⟩) (Stp.refl B w) ⟨q, hr, by omega⟩
      | 7, _ =>
        simp only [List.getElem?_toArray, List.getElem?_cons_succ, List.getElem?_cons_zero, Option.some.injEq] at ho
        subst ho
        have hu := getF hun
        have d6 := getT (hdep ⟨6, .data⟩ (by simp) rfl)
        obtain ⟨u6, t6, k6⟩ := hI.kv 6 (by omega) d6
        simp [dstW] at t6
        rw [KW6] at k6
        refine wpOp_of rfl rfl ?_
        unfold Oper.wp
        obtain ⟨g, j, rfl, hj, hg⟩ := k6
        obtain ⟨m, hm⟩ := hg.cell hj
        simp [execOp, go_sem, t6, hm]
        exact hI.step hB (by omega) hu rfl (by simp [KW]) (Stp.refl B w) ⟨q, hr, by omega⟩
      | 8, _ =>
        simp only [List.getElem?_toArray, List.getElem?_cons_succ, List.getElem?_cons_zero, Option.some.injEq] at ho
        subst ho
        have hu := getF hun
        refine wpOp_of rfl rfl ?_
        unfold Oper.wp
        simp [execOp, go_sem]
        exact hI.step hB (by omega) hu rfl (by simp [KW]; exact ⟨by have := hI.st.size; omega, Blk.new _ _ _⟩) ((Stp.refl B w).alloc _) ⟨q, hr.alloc _, by omega⟩
      | 9, _ =>
        simp only [List.getElem?_toArray, List.getElem?_cons_succ, List.getElem?_cons_zero, Option.some.injEq] at ho
        subst ho
        have hu := getF hun
        refine wpOp_of rfl rfl ?_
        unfold Oper.wp
        simp [execOp, go_sem, t0]
        exact hI.step hB (by omega) hu rfl (by simp [KW]) (Stp.refl B w) ⟨q, hr, by omega⟩
      | 10, _ =>
        simp only [List.getElem?_toArray, List.getElem?_cons_succ, List.getElem?_cons_zero, Option.some.injEq] at ho
        subst ho
        have hu := getF hun
        have d9 := getT (hdep ⟨9, .data⟩ (by simp) rfl)
        obtain ⟨u9, t9, k9⟩ := hI.kv 9 (by omega) d9
        simp only [dstW] at t9
        simp [KW] at k9 t9
        refine wpOp_of rfl rfl ?_
        unfold Oper.wp
        subst k9
        simp [execOp, go_sem, t9]
        refine (pick_any _ q 6 _ hr (by omega) (by omega)).mono ?_
        rintro e w1 ⟨n, rfl, n0, n1, hr1, hs1, _⟩
        exact hI.step hB (by omega) hu rfl (by simp [KW]; exact ⟨n.toNat, by omega, by omega⟩) hs1 ⟨q + 1, hr1, by omega⟩
      | 11, _ =>
        simp only [List.getElem?_toArray, List.getElem?_cons_succ, List.getElem?_cons_zero, Option.some.injEq] at ho
        subst ho
        have hu := getF hun
        have d8 := getT (hdep ⟨8, .data⟩ (by simp) rfl)
        obtain ⟨u8, t8, k8⟩ := hI.kv 8 (by omega) d8
        simp [dstW] at t8
        rw [KW8] at k8
        have d10 := getT (hdep ⟨10, .data⟩ (by simp) rfl)
        obtain ⟨u10, t10, k10⟩ := hI.kv 10 (by omega) d10
        simp only [dstW] at t10
        simp [KW] at k10 t10
        refine wpOp_of rfl rfl ?_
        unfold Oper.wp
        obtain ⟨g, rfl, hg⟩ := k8
        obtain ⟨n, rfl, hn⟩ := k10
        have hn0 : (0 : Int) ≤ n := by omega
        have hn6 : (n : Int) < 6 := by omega
        simp [execOp, go_sem, t8, t10, hn6]
        exact hI.step hB (by omega) hu rfl (by rw [KW11]; exact ⟨g, n, rfl, hn, hg⟩) (Stp.refl B w) ⟨q, hr, by omega⟩
      | 12, _ =>
        simp only [List.getElem?_toArray, List.getElem?_cons_succ, List.getElem?_cons_zero, Option.some.injEq] at ho
        subst ho
        have hu := getF hun
        have d11 := getT (hdep ⟨11, .data⟩ (by simp) rfl)
        obtain ⟨u11, t11, k11⟩ := hI.kv 11 (by omega) d11
        simp [dstW] at t11
        rw [KW11] at k11
        refine wpOp_of rfl rfl ?_
        unfold Oper.wp
        obtain ⟨g, j, rfl, hj, hg⟩ := k11
        obtain ⟨m, hm⟩ := hg.cell hj
        simp [execOp, go_sem, t11, hm]
        exact hI.step hB (by omega) hu rfl (by simp [KW]) (Stp.refl B w) ⟨q, hr, by omega⟩
      | 13, _ =>
        simp only [List.getElem?_toArray, List.getElem?_cons_succ, List.getElem?_cons_zero, Option.some.injEq] at ho
        subst ho
        have hu := getF hun
        refine wpOp_of rfl rfl ?_
        unfold Oper.wp
        simp [execOp, go_sem, t0]
        exact hI.step hB (by omega) hu rfl (by simp [KW]) (Stp.refl B w) ⟨q, hr, by omega⟩
      | 14, _ =>
        simp only [List.getElem?_toArray, List.getElem?_cons_succ, List.getElem?_cons_zero, Option.some.injEq] at ho
        subst ho
        have hu := getF hun
        have d13 := getT (hdep ⟨13, .data⟩ (by simp) rfl)
        obtain ⟨u13, t13, k13⟩ := hI.kv 13 (by omega) d13
        simp only [dstW] at t13
        simp [KW] at k13 t13
        refine wpOp_of rfl rfl ?_
        unfold Oper.wp
        subst k13
        simp [execOp, go_sem, t13]
        refine (pick_any _ q 6 _ hr (by omega) (by omega)).mono ?_
        rintro e w1 ⟨n, rfl, n0, n1, hr1, hs1, _⟩
        exact hI.step hB (by omega) hu rfl (by simp [KW]) hs1 ⟨q + 1, hr1, by omega⟩
      | 15, _ =>
        simp only [List.getElem?_toArray, List.getElem?_cons_succ, List.getElem?_cons_zero, Option.some.injEq] at ho
        subst ho
        have hu := getF hun
        refine wpOp_of rfl rfl ?_
        unfold Oper.wp
        simp [execOp, go_sem, t0]
        exact hI.step hB (by omega) hu rfl (by simp [KW]) (Stp.refl B w) ⟨q, hr, by omega⟩
      | 16, _ =>
        simp only [List.getElem?_toArray, List.getElem?_cons_succ, List.getElem?_cons_zero, Option.some.injEq] at ho
        subst ho
        have hu := getF hun
        have d15 := getT (hdep ⟨15, .data⟩ (by simp) rfl)
        obtain ⟨u15, t15, k15⟩ := hI.kv 15 (by omega) d15
        simp only [dstW] at t15
        simp [KW] at k15 t15
        refine wpOp_of rfl rfl ?_
        unfold Oper.wp
        subst k15
        simp [execOp, go_sem, t15]
        refine (pick_any _ q 6 _ hr (by omega) (by omega)).mono ?_
        rintro e w1 ⟨n, rfl, n0, n1, hr1, hs1, _⟩
        exact hI.step hB (by omega) hu rfl (by simp [KW]) hs1 ⟨q + 1, hr1, by omega⟩
      | 17, _ =>
        simp only [List.getElem?_toArray, List.getElem?_cons_succ, List.getElem?_cons_zero, Option.some.injEq] at ho
        subst ho
        have hu := getF hun
        refine wpOp_of rfl rfl ?_
        unfold Oper.wp
        simp [execOp, go_sem, t0]
        exact hI.step hB (by omega) hu rfl (by simp [KW]) (Stp.refl B w) ⟨q, hr, by omega⟩
      | 18, _ =>
        simp only [List.getElem?_toArray, List.getElem?_cons_succ, List.getElem?_cons_zero, Option.some.injEq] at ho
        subst ho
        have hu := getF hun
        have d17 := getT (hdep ⟨17, .data⟩ (by simp) rfl)
        obtain ⟨u17, t17, k17⟩ := hI.kv 17 (by omega) d17
        simp only [dstW] at t17
        simp [KW] at k17 t17
        refine wpOp_of rfl rfl ?_
        unfold Oper.wp
        subst k17
        simp [execOp, go_sem, t17]
        refine (pick_any _ q 90 _ hr (by omega) (by omega)).mono ?_
        rintro e w1 ⟨n, rfl, n0, n1, hr1, hs1, _⟩
        exact hI.step hB (by omega) hu rfl (by simp [KW]) hs1 ⟨q + 1, hr1, by omega⟩
      | 19, _ =>
        simp only [List.getElem?_toArray, List.getElem?_cons_succ, List.getElem?_cons_zero, Option.some.injEq] at ho
        subst ho
        have hu := getF hun
        refine wpOp_of rfl rfl ?_
        unfold Oper.wp
        simp [execOp, go_sem, t0]
        exact hI.step hB (by omega) hu rfl (by simp [KW]) (Stp.refl B w) ⟨q, hr, by omega⟩
      | 20, _ =>
        simp only [List.getElem?_toArray, List.getElem?_cons_succ, List.getElem?_cons_zero, Option.some.injEq] at ho
        subst ho
        have hu := getF hun
        have d19 := getT (hdep ⟨19, .data⟩ (by simp) rfl)
        obtain ⟨u19, t19, k19⟩ := hI.kv 19 (by omega) d19
        simp only [dstW] at t19
        simp [KW] at k19 t19
        refine wpOp_of rfl rfl ?_
        unfold Oper.wp
        subst k19
        simp [execOp, go_sem, t19]
        refine (pick_any _ q 2 _ hr (by omega) (by omega)).mono ?_
        rintro e w1 ⟨n, rfl, n0, n1, hr1, hs1, _⟩
        exact hI.step hB (by omega) hu rfl (by simp [KW]) hs1 ⟨q + 1, hr1, by omega⟩
      | 21, _ =>
        simp only [List.getElem?_toArray, List.getElem?_cons_succ, List.getElem?_cons_zero, Option.some.injEq] at ho
        subst ho
        have hu := getF hun
        have d20 := getT (hdep ⟨20, .data⟩ (by simp) rfl)
        obtain ⟨u20, t20, k20⟩ := hI.kv 20 (by omega) d20
        simp only [dstW] at t20
        simp [KW] at k20 t20
        refine wpOp_of rfl rfl ?_
        unfold Oper.wp
        obtain ⟨n, rfl⟩ := k20
        simp [execOp, go_sem, t20]
        exact hI.step hB (by omega) hu rfl (by simp [KW]) (Stp.refl B w) ⟨q, hr, by omega⟩
      | 22, _ =>
        simp only [List.getElem?_toArray, List.getElem?_cons_succ, List.getElem?_cons_zero, Option.some.injEq] at ho
        subst ho
        have hu := getF hun
        refine wpOp_of rfl rfl ?_
        unfold Oper.wp
        simp [execOp, go_sem, t0]
        exact hI.step hB (by omega) hu rfl (by simp [KW]) (Stp.refl B w) ⟨q, hr, by omega⟩
      | 23, _ =>
        simp only [List.getElem?_toArray, List.getElem?_cons_succ, List.getElem?_cons_zero, Option.some.injEq] at ho
        subst ho
        have hu := getF hun
        have d22 := getT (hdep ⟨22, .data⟩ (by simp) rfl)
        obtain ⟨u22, t22, k22⟩ := hI.kv 22 (by omega) d22
        simp only [dstW] at t22
        simp [KW] at k22 t22
        refine wpOp_of rfl rfl ?_
        unfold Oper.wp
        subst k22
        simp [execOp, go_sem, t22]
        refine (pick_any _ q 3 _ hr (by omega) (by omega)).mono ?_
        rintro e w1 ⟨n, rfl, n0, n1, hr1, hs1, _⟩
        exact hI.step hB (by omega) hu rfl (by simp [KW]) hs1 ⟨q + 1, hr1, by omega⟩
      | 24, _ =>
        simp only [List.getElem?_toArray, List.getElem?_cons_succ, List.getElem?_cons_zero, Option.some.injEq] at ho
        subst ho
        have hu := getF hun
        refine wpOp_of rfl rfl ?_
        unfold Oper.wp
        simp [execOp, go_sem, t0]
        exact hI.step hB (by omega) hu rfl (by simp [KW]) (Stp.refl B w) ⟨q, hr, by omega⟩
      | 25, _ =>
        simp only [List.getElem?_toArray, List.getElem?_cons_succ, List.getElem?_cons_zero, Option.some.injEq] at ho
        subst ho
        have hu := getF hun
        have d24 := getT (hdep ⟨24, .data⟩ (by simp) rfl)
        obtain ⟨u24, t24, k24⟩ := hI.kv 24 (by omega) d24
        simp only [dstW] at t24
        simp [KW] at k24 t24
        refine wpOp_of rfl rfl ?_
        unfold Oper.wp
        subst k24
        simp [execOp, go_sem, t24]
        refine (pick_any _ q 5 _ hr (by omega) (by omega)).mono ?_
        rintro e w1 ⟨n, rfl, n0, n1, hr1, hs1, _⟩
        exact hI.step hB (by omega) hu rfl (by simp [KW]) hs1 ⟨q + 1, hr1, by omega⟩
      | 26, _ =>
        simp only [List.getElem?_toArray, List.getElem?_cons_succ, List.getElem?_cons_zero, Option.some.injEq] at ho
        subst ho
        have hu := getF hun
        have d2 := getT (hdep ⟨2, .data⟩ (by simp) rfl)
        obtain ⟨u2, t2, k2⟩ := hI.kv 2 (by omega) d2
        simp only [dstW] at t2
        simp [KW] at k2 t2
        have d7 := getT (hdep ⟨7, .data⟩ (by simp) rfl)
        obtain ⟨u7, t7, k7⟩ := hI.kv 7 (by omega) d7
        simp only [dstW] at t7
        simp [KW] at k7 t7
        have d12 := getT (hdep ⟨12, .data⟩ (by simp) rfl)
        obtain ⟨u12, t12, k12⟩ := hI.kv 12 (by omega) d12
        simp only [dstW] at t12
        simp [KW] at k12 t12
        have d14 := getT (hdep ⟨14, .data⟩ (by simp) rfl)
        obtain ⟨u14, t14, k14⟩ := hI.kv 14 (by omega) d14
        simp only [dstW] at t14
        simp [KW] at k14 t14
        have d16 := getT (hdep ⟨16, .data⟩ (by simp) rfl)
        obtain ⟨u16, t16, k16⟩ := hI.kv 16 (by omega) d16
        simp only [dstW] at t16
        simp [KW] at k16 t16
        have d18 := getT (hdep ⟨18, .data⟩ (by simp) rfl)
        obtain ⟨u18, t18, k18⟩ := hI.kv 18 (by omega) d18
        simp only [dstW] at t18
        simp [KW] at k18 t18
        have d21 := getT (hdep ⟨21, .data⟩ (by simp) rfl)
        obtain ⟨u21, t21, k21⟩ := hI.kv 21 (by omega) d21
        simp [dstW] at t21
        rw [KW21] at k21
        have d23 := getT (hdep ⟨23, .data⟩ (by simp) rfl)
        obtain ⟨u23, t23, k23⟩ := hI.kv 23 (by omega) d23
        simp only [dstW] at t23
        simp [KW] at k23 t23
        have d25 := getT (hdep ⟨25, .data⟩ (by simp) rfl)
        obtain ⟨u25, t25, k25⟩ := hI.kv 25 (by omega) d25
        simp only [dstW] at t25
        simp [KW] at k25 t25
        refine wpOp_of rfl rfl ?_
        unfold Oper.wp
        obtain ⟨m2, rfl⟩ := k2
        obtain ⟨m7, rfl⟩ := k7
        obtain ⟨m12, rfl⟩ := k12
        obtain ⟨m14, rfl⟩ := k14
        obtain ⟨m16, rfl⟩ := k16
        obtain ⟨m18, rfl⟩ := k18
        obtain ⟨m21, rfl⟩ := k21
        obtain ⟨m23, rfl⟩ := k23
        obtain ⟨m25, rfl⟩ := k25
        simp [execOp, go_sem, t2, t7, t12, t14, t16, t18, t21, t23, t25]
        exact hI.step hB (by omega) hu rfl (by rw [KW26]; exact ⟨_, _, _, _, _, _, _, _, _, rfl⟩) (Stp.refl B w) ⟨q, hr, by omega⟩
      | 27, _ =>
        simp only [List.getElem?_toArray, List.getElem?_cons_succ, List.getElem?_cons_zero, Option.some.injEq] at ho
        subst ho
        have hu := getF hun
        refine wpOp_of rfl rfl ?_
        unfold Oper.wp
        simp [execOp, go_sem]
        exact hI.step hB (by omega) hu rfl (by rw [KW27]; exact ⟨_, 0, 0, 0, 0, 0, 0, false, 0, 0, rfl, by have := hI.st.size; omega, Blk.new _ _ _⟩) ((Stp.refl B w).alloc _) ⟨q, hr.alloc _, by omega⟩
      | 28, _ =>
        simp only [List.getElem?_toArray, List.getElem?_cons_succ, List.getElem?_cons_zero, Option.some.injEq] at ho
        subst ho
        have hu := getF hun
        have d27 := getT (hdep ⟨27, .data⟩ (by simp) rfl)
        obtain ⟨u27, t27, k27⟩ := hI.kv 27 (by omega) d27
        simp [dstW] at t27
        rw [KW27] at k27
        have d26 := getT (hdep ⟨26, .data⟩ (by simp) rfl)
        obtain ⟨u26, t26, k26⟩ := hI.kv 26 (by omega) d26
        simp [dstW] at t26
        rw [KW26] at k26
        refine wpOp_of rfl rfl ?_
        unfold Oper.wp
        obtain ⟨D, z1, z2, z3, z4, z5, z6, z7, z8, z9, rfl, hD, bD⟩ := k27
        obtain ⟨y1, y2, y3, y4, y5, y6, y7, y8, y9, rfl⟩ := k26
        obtain ⟨qz, gz⟩ := bD.rules
        simp [execOp, go_sem, t27, t26, qz, gz]
        exact hI.store hB hu hD bD
    · intro l a w2 hI hr
      have h27 : l[27]? = some true := by
        rcases e : l[27]? with _ | b
        · rw [Array.getElem?_eq_none_iff] at e; have := hI.ls; omega
        · cases b
          · have hm : 27 ∈ ([] : List Nat) := by
              rw [← hr]
              exact mem_ready.2 ⟨by rw [Array.getD_eq_getD_getElem?, e]; rfl, _, rfl, by simp⟩
            cases hm
          · rfl
      obtain ⟨v, t27, k27⟩ := hI.kv 27 (by omega) h27
      rw [KW27] at k27
      obtain ⟨D, z1, z2, z3, z4, z5, z6, z7, z8, z9, rfl, hD, bD⟩ := k27
      obtain ⟨q, hq, hq2⟩ := hI.rd
      have hcl : l.toList.count true ≤ 29 := by have := List.count_le_length (a := true) (l := l.toList); have := hI.ls; simp at *; omega
      have hst := hI.st
      have hts := hI.ts
      have hdf := hI.df
      have hfr := hI.fr
      have hsz : w.heap.size + 1 ≤ D := by simpa [World.drew] using hD
      clear hI hr h27
      obtain ⟨tms, df⟩ := a
      simp only at hdf hts hfr t27
      obtain ⟨tm, rfl⟩ : ∃ tm : List Value, tms = tm.toArray := ⟨tms.toList, by simp⟩
      subst hdf
      simp [dstW] at t27 hts
      have L91 := hts
      clear hts
      obtain ⟨x0, tm0, rfl, L90⟩ := uncons (n := 90) L91
      obtain ⟨x1, tm1, rfl, L89⟩ := uncons (n := 89) L90
      obtain ⟨x2, tm2, rfl, L88⟩ := uncons (n := 88) L89
      obtain ⟨x3, tm3, rfl, L87⟩ := uncons (n := 87) L88
      obtain ⟨x4, tm4, rfl, L86⟩ := uncons (n := 86) L87
      obtain ⟨x5, tm5, rfl, L85⟩ := uncons (n := 85) L86
      obtain ⟨x6, tm6, rfl, L84⟩ := uncons (n := 84) L85
      obtain ⟨x7, tm7, rfl, L83⟩ := uncons (n := 83) L84
      obtain ⟨x8, tm8, rfl, L82⟩ := uncons (n := 82) L83
      obtain ⟨x9, tm9, rfl, L81⟩ := uncons (n := 81) L82
      obtain ⟨x10, tm10, rfl, L80⟩ := uncons (n := 80) L81
      obtain ⟨x11, tm11, rfl, L79⟩ := uncons (n := 79) L80
      obtain ⟨x12, tm12, rfl, L78⟩ := uncons (n := 78) L79
      obtain ⟨x13, tm13, rfl, L77⟩ := uncons (n := 77) L78
      obtain ⟨x14, tm14, rfl, L76⟩ := uncons (n := 76) L77
      obtain ⟨x15, tm15, rfl, L75⟩ := uncons (n := 75) L76
      obtain ⟨x16, tm16, rfl, L74⟩ := uncons (n := 74) L75
      obtain ⟨x17, tm17, rfl, L73⟩ := uncons (n := 73) L74
      obtain ⟨x18, tm18, rfl, L72⟩ := uncons (n := 72) L73
      obtain ⟨x19, tm19, rfl, L71⟩ := uncons (n := 71) L72
      obtain ⟨x20, tm20, rfl, L70⟩ := uncons (n := 70) L71
      obtain ⟨x21, tm21, rfl, L69⟩ := uncons (n := 69) L70
      obtain ⟨x22, tm22, rfl, L68⟩ := uncons (n := 68) L69
      obtain ⟨x23, tm23, rfl, L67⟩ := uncons (n := 67) L68
      obtain ⟨x24, tm24, rfl, L66⟩ := uncons (n := 66) L67
      obtain ⟨x25, tm25, rfl, L65⟩ := uncons (n := 65) L66
      obtain ⟨x26, tm26, rfl, L64⟩ := uncons (n := 64) L65
      obtain ⟨x27, tm27, rfl, L63⟩ := uncons (n := 63) L64
      obtain ⟨x28, tm28, rfl, L62⟩ := uncons (n := 62) L63
      obtain ⟨x29, tm29, rfl, L61⟩ := uncons (n := 61) L62
      obtain ⟨x30, tm30, rfl, L60⟩ := uncons (n := 60) L61
      obtain ⟨x31, tm31, rfl, L59⟩ := uncons (n := 59) L60
      obtain ⟨x32, tm32, rfl, L58⟩ := uncons (n := 58) L59
      obtain ⟨x33, tm33, rfl, L57⟩ := uncons (n := 57) L58
      obtain ⟨x34, tm34, rfl, L56⟩ := uncons (n := 56) L57
      obtain ⟨x35, tm35, rfl, L55⟩ := uncons (n := 55) L56
      obtain ⟨x36, tm36, rfl, L54⟩ := uncons (n := 54) L55
      obtain ⟨x37, tm37, rfl, L53⟩ := uncons (n := 53) L54
      obtain ⟨x38, tm38, rfl, L52⟩ := uncons (n := 52) L53
      obtain ⟨x39, tm39, rfl, L51⟩ := uncons (n := 51) L52
      obtain ⟨x40, tm40, rfl, L50⟩ := uncons (n := 50) L51
      obtain ⟨x41, tm41, rfl, L49⟩ := uncons (n := 49) L50
      obtain ⟨x42, tm42, rfl, L48⟩ := uncons (n := 48) L49
      obtain ⟨x43, tm43, rfl, L47⟩ := uncons (n := 47) L48
      obtain ⟨x44, tm44, rfl, L46⟩ := uncons (n := 46) L47
      obtain ⟨x45, tm45, rfl, L45⟩ := uncons (n := 45) L46
      obtain ⟨x46, tm46, rfl, L44⟩ := uncons (n := 44) L45
      obtain ⟨x47, tm47, rfl, L43⟩ := uncons (n := 43) L44
      obtain ⟨x48, tm48, rfl, L42⟩ := uncons (n := 42) L43
      obtain ⟨x49, tm49, rfl, L41⟩ := uncons (n := 41) L42
      obtain ⟨x50, tm50, rfl, L40⟩ := uncons (n := 40) L41
      obtain ⟨x51, tm51, rfl, L39⟩ := uncons (n := 39) L40
      obtain ⟨x52, tm52, rfl, L38⟩ := uncons (n := 38) L39
      obtain ⟨x53, tm53, rfl, L37⟩ := uncons (n := 37) L38
      obtain ⟨x54, tm54, rfl, L36⟩ := uncons (n := 36) L37
      obtain ⟨x55, tm55, rfl, L35⟩ := uncons (n := 35) L36
      obtain ⟨x56, tm56, rfl, L34⟩ := uncons (n := 34) L35
      obtain ⟨x57, tm57, rfl, L33⟩ := uncons (n := 33) L34
      obtain ⟨x58, tm58, rfl, L32⟩ := uncons (n := 32) L33
      obtain ⟨x59, tm59, rfl, L31⟩ := uncons (n := 31) L32
      obtain ⟨x60, tm60, rfl, L30⟩ := uncons (n := 30) L31
      obtain ⟨x61, tm61, rfl, L29⟩ := uncons (n := 29) L30
      obtain ⟨x62, tm62, rfl, L28⟩ := uncons (n := 28) L29
      obtain ⟨x63, tm63, rfl, L27⟩ := uncons (n := 27) L28
      obtain ⟨x64, tm64, rfl, L26⟩ := uncons (n := 26) L27
      obtain ⟨x65, tm65, rfl, L25⟩ := uncons (n := 25) L26
      obtain ⟨x66, tm66, rfl, L24⟩ := uncons (n := 24) L25
      obtain ⟨x67, tm67, rfl, L23⟩ := uncons (n := 23) L24
      obtain ⟨x68, tm68, rfl, L22⟩ := uncons (n := 22) L23
      obtain ⟨x69, tm69, rfl, L21⟩ := uncons (n := 21) L22
      obtain ⟨x70, tm70, rfl, L20⟩ := uncons (n := 20) L21
      obtain ⟨x71, tm71, rfl, L19⟩ := uncons (n := 19) L20
      obtain ⟨x72, tm72, rfl, L18⟩ := uncons (n := 18) L19
      obtain ⟨x73, tm73, rfl, L17⟩ := uncons (n := 17) L18
      obtain ⟨x74, tm74, rfl, L16⟩ := uncons (n := 16) L17
      obtain ⟨x75, tm75, rfl, L15⟩ := uncons (n := 15) L16
      obtain ⟨x76, tm76, rfl, L14⟩ := uncons (n := 14) L15
      obtain ⟨x77, tm77, rfl, L13⟩ := uncons (n := 13) L14
      obtain ⟨x78, tm78, rfl, L12⟩ := uncons (n := 12) L13
      obtain ⟨x79, tm79, rfl, L11⟩ := uncons (n := 11) L12
      obtain ⟨x80, tm80, rfl, L10⟩ := uncons (n := 10) L11
      obtain ⟨x81, tm81, rfl, L9⟩ := uncons (n := 9) L10
      obtain ⟨x82, tm82, rfl, L8⟩ := uncons (n := 8) L9
      obtain ⟨x83, tm83, rfl, L7⟩ := uncons (n := 7) L8
      obtain ⟨x84, tm84, rfl, L6⟩ := uncons (n := 6) L7
      obtain ⟨x85, tm85, rfl, L5⟩ := uncons (n := 5) L6
      obtain ⟨x86, tm86, rfl, L4⟩ := uncons (n := 4) L5
      obtain ⟨x87, tm87, rfl, L3⟩ := uncons (n := 3) L4
      obtain ⟨x88, tm88, rfl, L2⟩ := uncons (n := 2) L3
      obtain ⟨x89, tm89, rfl, L1⟩ := uncons (n := 1) L2
      obtain ⟨x90, tm90, rfl, L0⟩ := uncons (n := 0) L1
      obtain rfl := List.length_eq_zero_iff.1 L0
      simp at t27
      subst t27
      have f0 := hfr 0 (by omega)
      simp at f0
      subst f0
      have f1 := hfr 1 (by omega)
      simp at f1
      subst f1
      have f2 := hfr 2 (by omega)
      simp at f2
      subst f2
      have f31 := hfr 31 (by omega)
      simp at f31
      subst f31
      have f32 := hfr 32 (by omega)
      simp at f32
      subst f32
      have f33 := hfr 33 (by omega)
      simp at f33
      subst f33
      have f34 := hfr 34 (by omega)
      simp at f34
      subst f34
      have f35 := hfr 35 (by omega)
      simp at f35
      subst f35
      have f36 := hfr 36 (by omega)
      simp at f36
      subst f36
      have f37 := hfr 37 (by omega)
      simp at f37
      subst f37
      have f38 := hfr 38 (by omega)
      simp at f38
      subst f38
      have f39 := hfr 39 (by omega)
      simp at f39
      subst f39
      have f40 := hfr 40 (by omega)
      simp at f40
      subst f40
      have f41 := hfr 41 (by omega)
      simp at f41
      subst f41
      have f42 := hfr 42 (by omega)
      simp at f42
      subst f42
      have f43 := hfr 43 (by omega)
      simp at f43
      subst f43
      have f44 := hfr 44 (by omega)
      simp at f44
      subst f44
      have f45 := hfr 45 (by omega)
      simp at f45
      subst f45
      have f46 := hfr 46 (by omega)
      simp at f46
      subst f46
      have f47 := hfr 47 (by omega)
      simp at f47
      subst f47
      have f48 := hfr 48 (by omega)
      simp at f48
      subst f48
      have f49 := hfr 49 (by omega)
      simp at f49
      subst f49
      have f50 := hfr 50 (by omega)
      simp at f50
      subst f50
      have f51 := hfr 51 (by omega)
      simp at f51
      subst f51
      have f52 := hfr 52 (by omega)
      simp at f52
      subst f52
      have f53 := hfr 53 (by omega)
      simp at f53
      subst f53
      have f54 := hfr 54 (by omega)
      simp at f54
      subst f54
      have f55 := hfr 55 (by omega)
      simp at f55
      subst f55
      have f56 := hfr 56 (by omega)
      simp at f56
      subst f56
      have f57 := hfr 57 (by omega)
      simp at f57
      subst f57
      have f58 := hfr 58 (by omega)
      simp at f58
      subst f58
      have f59 := hfr 59 (by omega)
      simp at f59
      subst f59
      have f60 := hfr 60 (by omega)
      simp at f60
      subst f60
      have f61 := hfr 61 (by omega)
      simp at f61
      subst f61
      have f62 := hfr 62 (by omega)
      simp at f62
      subst f62
      have f63 := hfr 63 (by omega)
      simp at f63
      subst f63
      have f64 := hfr 64 (by omega)
      simp at f64
      subst f64
      have f65 := hfr 65 (by omega)
      simp at f65
      subst f65
      have f66 := hfr 66 (by omega)
      simp at f66
      subst f66
      have f67 := hfr 67 (by omega)
      simp at f67
      subst f67
      have f68 := hfr 68 (by omega)
      simp at f68
      subst f68
      have f69 := hfr 69 (by omega)
      simp at f69
      subst f69
      have f70 := hfr 70 (by omega)
      simp at f70
      subst f70
      have f71 := hfr 71 (by omega)
      simp at f71
      subst f71
      have f72 := hfr 72 (by omega)
      simp at f72
      subst f72
      have f73 := hfr 73 (by omega)
      simp at f73
      subst f73
      have f74 := hfr 74 (by omega)
      simp at f74
      subst f74
      have f75 := hfr 75 (by omega)
      simp at f75
      subst f75
      have f76 := hfr 76 (by omega)
      simp at f76
      subst f76
      have f77 := hfr 77 (by omega)
      simp at f77
      subst f77
      have f78 := hfr 78 (by omega)
      simp at f78
      subst f78
      have f79 := hfr 79 (by omega)
      simp at f79
      subst f79
      have f80 := hfr 80 (by omega)
      simp at f80
      subst f80
      have f81 := hfr 81 (by omega)
      simp at f81
      subst f81
      have f82 := hfr 82 (by omega)
      simp at f82
      subst f82
      have f83 := hfr 83 (by omega)
      simp at f83
      subst f83
      have f84 := hfr 84 (by omega)
      simp at f84
      subst f84
      have f85 := hfr 85 (by omega)
      simp at f85
      subst f85
      have f86 := hfr 86 (by omega)
      simp at f86
      subst f86
      have f87 := hfr 87 (by omega)
      simp at f87
      subst f87
      have f88 := hfr 88 (by omega)
      simp at f88
      subst f88
      have f89 := hfr 89 (by omega)
      simp at f89
      subst f89
      have f90 := hfr 90 (by omega)
      simp at f90
      subst f90
      go_wp2_with fail
      go_meet
      case rel => exact ⟨D, z1, z2, z3, z4, z5, z6, z7, z8, z9, rfl, hsz, bD, hst, q, hq, by omega⟩
    · rw [Array.getElem?_replicate] at hl
      split at hl <;> simp at hl
  case rest =>
    obtain ⟨D, z1, z2, z3, z4, z5, z6, z7, z8, z9, rfl, hD, bD, hS, q, r1, hq⟩ := hcut
    generalize wc = w1 at *
    have nD : D ≠ B := by omega
    have nZ : w.heap.size ≠ B := by omega
    have Z0 : Blk (w.alloc (.cells (wz 0 0 0 0 0 0 false 0 0) 56)).drew w.heap.size (wz 0 0 0 0 0 0 false 0 0) 56 := Blk.new w _ _
    have Z1 := Z0.stp hS nZ
    have S1 : Stp B w w1 := (((Stp.refl B w).alloc _).trans (Stp.ofBelow (Below.refl _ _).drew)).trans hS
    obtain ⟨x, a, X1, L1⟩ : ∃ (x : Wd) (a : Wa), Blk w1 D (wordC x a) 56 ∧ WLs w1 (D + 1) x a := ⟨⟨z1, z2, z3, z4, z5, 0, 0, z6, z7, [], z8, z9, [], [], []⟩, ⟨none, 0, none, 0, none, 0, none, 0⟩, bD, WLs.nil⟩
    clear bD hS Z0
    go_wp2_with fail
    refine (pick_any _ q 5 _ r1 (by omega) (by omega)).mono ?_
    rintro e w2 ⟨c, rfl, c0, c1, r2, hs2, hzz⟩
    clear hzz
    have X2 := X1.stp hs2 nD
    have L2 := L1.stp hs2 (by omega)
    have Z2 := Z1.stp hs2 nZ
    have S2 := S1.trans hs2
    have hz2 := X2.lt
    clear hs2 X1 L1 Z1 S1 r1
    go_upto_block 0 with fail
    go_cut [3] (fun s3 wx => ∃ (x : Wd) (a : Wa) (q : Int), s3 = .pointer (some ⟨D, 0, none⟩) ∧ Blk wx D (wordC x a) 56 ∧ WLs wx (D + 1) x a ∧ Blk wx w.heap.size (wz 0 0 0 0 0 0 false 0 0) 56 ∧ Rd wx B q ∧ q ≤ p + 4500 ∧ Stp B w wx)
    case first =>
      by_cases e0 : c = 0
      · subst e0
        go_wp2_with fail
        refine (drawStamp _ _ _ r2 (by omega)).mono ?_
        rintro e w3 ⟨t, s, q3, rfl, _, _, _, _, _, hq3, r3, hs3⟩
        have X3 := X2.stp hs3 nD
        have L3 := L2.stp hs3 (by omega)
        have Z3 := Z2.stp hs3 nZ
        have S3 := S2.trans hs3
        clear hs3 X2 L2 Z2 S2 r2
        obtain ⟨q1, g1⟩ := X3.rules
        have XN : Blk ((w3.setCell ⟨D, 5, none⟩ (.int .i64 t)).setCell ⟨D, 6, none⟩ (.int .i64 s)) D (wordC ⟨x.kind, x.fr, x.to, x.call, x.key, t, s, x.val, x.yes, x.ds, x.slot, x.ep, x.vs, x.ws, x.os⟩ ⟨a.da, a.dc, a.va, a.vc, a.wa, a.wc, a.oa, a.oc⟩) 56 := by
          have := ((X3.set 5 (.int .i64 t)).set 6 (.int .i64 s))
          simpa using this
        have LN := ((L3.setB (Z := D) (j := 5) (u := .int .i64 t) (by omega)).setB (Z := D) (j := 6) (u := .int .i64 s) (by omega)).nums x.kind x.fr x.to x.call x.key t s x.val x.yes x.slot x.ep
        have ZN := ((Z3.other (a := ⟨D, 5, none⟩) (by simp; omega) (.int .i64 t)).other (a := ⟨D, 6, none⟩) (by simp; omega) (.int .i64 s))
        have rN := ((r3.setNew (a := ⟨D, 5, none⟩) (by simp; omega) (.int .i64 t)).setNew (a := ⟨D, 6, none⟩) (by simp; omega) (.int .i64 s))
        have SN := ((S3.setNew (p := ⟨D, 5, none⟩) (by simp; omega) (.int .i64 t)).setNew (p := ⟨D, 6, none⟩) (by simp; omega) (.int .i64 s))
        clear X3 Z3 r3 S3
        go_wp2_with fail
        go_meet
        case rel => exact ⟨⟨x.kind, x.fr, x.to, x.call, x.key, t, s, x.val, x.yes, x.ds, x.slot, x.ep, x.vs, x.ws, x.os⟩, ⟨a.da, a.dc, a.va, a.vc, a.wa, a.wc, a.oa, a.oc⟩, _, rfl, XN, LN, ZN, rN, by omega, SN⟩
      have f0 : (c == 0) = false := by simpa using e0
      by_cases e1 : c = 1
      · subst e1
        go_wp2_with fail
        refine (drawDeps _ _ _ r2 (by omega)).mono ?_
        rintro e w3 ⟨v, xs, q3, rfl, hxl, hrow, hq3, r3, hs3⟩
        obtain ⟨va, vc, rfl, _⟩ := deps_of_row hrow
        have R3 := row_mono hrow (base' := D + 1) (by omega)
        have X3 := X2.stp hs3 nD
        have L3 := L2.stp hs3 (by omega)
        have Z3 := Z2.stp hs3 nZ
        have S3 := S2.trans hs3
        clear hs3 X2 L2 Z2 S2 r2 hrow
        obtain ⟨q1, g1⟩ := X3.rules
        have XN : Blk (w3.setCell ⟨D, 9, none⟩ (.slice va xs.length vc)) D (wordC ⟨x.kind, x.fr, x.to, x.call, x.key, x.t, x.s, x.val, x.yes, xs, x.slot, x.ep, x.vs, x.ws, x.os⟩ ⟨va, vc, a.va, a.vc, a.wa, a.wc, a.oa, a.oc⟩) 56 := by
          have := (X3.set 9 (.slice va xs.length vc))
          simpa using this
        have LN := (show WLs _ (D + 1) ⟨x.kind, x.fr, x.to, x.call, x.key, x.t, x.s, x.val, x.yes, xs, x.slot, x.ep, x.vs, x.ws, x.os⟩ ⟨va, vc, a.va, a.vc, a.wa, a.wc, a.oa, a.oc⟩ from ⟨rowSetB R3 (Z := D) (j := 9) (u := .slice va xs.length vc) (by omega), (L3.setB (Z := D) (j := 9) (u := .slice va xs.length vc) (by omega)).v, (L3.setB (Z := D) (j := 9) (u := .slice va xs.length vc) (by omega)).w, (L3.setB (Z := D) (j := 9) (u := .slice va xs.length vc) (by omega)).o, hxl, L3.vl, L3.wl, L3.ol⟩)
        have ZN := (Z3.other (a := ⟨D, 9, none⟩) (by simp; omega) (.slice va xs.length vc))
        have rN := (r3.setNew (a := ⟨D, 9, none⟩) (by simp; omega) (.slice va xs.length vc))
        have SN := (S3.setNew (p := ⟨D, 9, none⟩) (by simp; omega) (.slice va xs.length vc))
        clear X3 Z3 r3 S3
        go_wp2_with fail
        go_meet
        case rel => exact ⟨⟨x.kind, x.fr, x.to, x.call, x.key, x.t, x.s, x.val, x.yes, xs, x.slot, x.ep, x.vs, x.ws, x.os⟩, ⟨va, vc, a.va, a.vc, a.wa, a.wc, a.oa, a.oc⟩, _, rfl, XN, LN, ZN, rN, by omega, SN⟩
      have f1 : (c == 1) = false := by simpa using e1
      by_cases e2 : c = 2
      · subst e2
        go_wp2_with fail
        refine (drawChain _ _ 5 _ r2 (by omega) (by omega) (by omega)).mono ?_
        rintro e w3 ⟨v, ys, us, q3, rfl, hO, hy, hF, hq3, r3, hs3⟩
        obtain ⟨va, vc, rfl, _⟩ := hO.asD hy
        have O3 := hO.mono (base' := D + 1) (by omega)
        have X3 := X2.stp hs3 nD
        have L3 := L2.stp hs3 (by omega)
        have Z3 := Z2.stp hs3 nZ
        have S3 := S2.trans hs3
        clear hs3 X2 L2 Z2 S2 r2 hO
        obtain ⟨q1, g1⟩ := X3.rules
        have XN : Blk (w3.setCell ⟨D, 12, none⟩ (.slice va us.length vc)) D (wordC ⟨x.kind, x.fr, x.to, x.call, x.key, x.t, x.s, x.val, x.yes, x.ds, x.slot, x.ep, us, x.ws, x.os⟩ ⟨a.da, a.dc, va, vc, a.wa, a.wc, a.oa, a.oc⟩) 56 := by
          have := (X3.set 12 (.slice va us.length vc))
          simpa using this
        have LN := (show WLs _ (D + 1) ⟨x.kind, x.fr, x.to, x.call, x.key, x.t, x.s, x.val, x.yes, x.ds, x.slot, x.ep, us, x.ws, x.os⟩ ⟨a.da, a.dc, va, vc, a.wa, a.wc, a.oa, a.oc⟩ from ⟨(L3.setB (Z := D) (j := 12) (u := .slice va us.length vc) (by omega)).d, ⟨ys, O3.setB (Z := D) (j := 12) (u := .slice va us.length vc) (by omega), hy⟩, (L3.setB (Z := D) (j := 12) (u := .slice va us.length vc) (by omega)).w, (L3.setB (Z := D) (j := 12) (u := .slice va us.length vc) (by omega)).o, L3.dl, hF, L3.wl, L3.ol⟩)
        have ZN := (Z3.other (a := ⟨D, 12, none⟩) (by simp; omega) (.slice va us.length vc))
        have rN := (r3.setNew (a := ⟨D, 12, none⟩) (by simp; omega) (.slice va us.length vc))
        have SN := (S3.setNew (p := ⟨D, 12, none⟩) (by simp; omega) (.slice va us.length vc))
        clear X3 Z3 r3 S3
        go_wp2_with fail
        go_meet
        case rel => exact ⟨⟨x.kind, x.fr, x.to, x.call, x.key, x.t, x.s, x.val, x.yes, x.ds, x.slot, x.ep, us, x.ws, x.os⟩, ⟨a.da, a.dc, va, vc, a.wa, a.wc, a.oa, a.oc⟩, _, rfl, XN, LN, ZN, rN, by omega, SN⟩
      have f2 : (c == 2) = false := by simpa using e2
      by_cases e3 : c = 3
      · subst e3
        go_wp2_with fail
        refine (drawChain _ _ 4 _ r2 (by omega) (by omega) (by omega)).mono ?_
        rintro e w3 ⟨v, ys, us, q3, rfl, hO, hy, hF, hq3, r3, hs3⟩
        obtain ⟨va, vc, rfl, _⟩ := hO.asD hy
        have O3 := hO.mono (base' := D + 1) (by omega)
        have X3 := X2.stp hs3 nD
        have L3 := L2.stp hs3 (by omega)
        have Z3 := Z2.stp hs3 nZ
        have S3 := S2.trans hs3
        clear hs3 X2 L2 Z2 S2 r2 hO
        obtain ⟨q1, g1⟩ := X3.rules
        have X4 : Blk (w3.setCell ⟨D, 13, none⟩ (.slice va us.length vc)) D (wordC ⟨x.kind, x.fr, x.to, x.call, x.key, x.t, x.s, x.val, x.yes, x.ds, x.slot, x.ep, x.vs, us, x.os⟩ ⟨a.da, a.dc, a.va, a.vc, va, vc, a.oa, a.oc⟩) 56 := by
          have := (X3.set 13 (.slice va us.length vc))
          simpa using this
        have L4 : WLs (w3.setCell ⟨D, 13, none⟩ (.slice va us.length vc)) (D + 1) ⟨x.kind, x.fr, x.to, x.call, x.key, x.t, x.s, x.val, x.yes, x.ds, x.slot, x.ep, x.vs, us, x.os⟩ ⟨a.da, a.dc, a.va, a.vc, va, vc, a.oa, a.oc⟩ := ⟨(L3.setB (Z := D) (j := 13) (u := .slice va us.length vc) (by omega)).d, (L3.setB (Z := D) (j := 13) (u := .slice va us.length vc) (by omega)).v, ⟨ys, O3.setB (Z := D) (j := 13) (u := .slice va us.length vc) (by omega), hy⟩, (L3.setB (Z := D) (j := 13) (u := .slice va us.length vc) (by omega)).o, L3.dl, L3.vl, hF, L3.ol⟩
        have Z4 := (Z3.other (a := ⟨D, 13, none⟩) (by simp; omega) (.slice va us.length vc))
        have r4 := (r3.setNew (a := ⟨D, 13, none⟩) (by simp; omega) (.slice va us.length vc))
        have S4 := (S3.setNew (p := ⟨D, 13, none⟩) (by simp; omega) (.slice va us.length vc))
        have hz4 := X4.lt
        clear X3 L3 Z3 S3 r3 O3
        go_wp2_with fail
        clear q1 g1
        generalize (w3.setCell ⟨D, 13, none⟩ (.slice va us.length vc)) = w4 at *
        refine (drawDeps _ _ _ r4 (by omega)).mono ?_
        rintro e w5 ⟨v, xs, q5, rfl, hxl, hrow, hq5, r5, hs5⟩
        obtain ⟨oa, oc, rfl, _⟩ := deps_of_row hrow
        have R5 := row_mono hrow (base' := D + 1) (by omega)
        have X5 := X4.stp hs5 nD
        have L5 := L4.stp hs5 (by omega)
        have Z5 := Z4.stp hs5 nZ
        have S5 := S4.trans hs5
        clear hs5 X4 L4 Z4 S4 r4 hrow
        obtain ⟨q1, g1⟩ := X5.rules
        have XN : Blk (w5.setCell ⟨D, 14, none⟩ (.slice oa xs.length oc)) D (wordC ⟨x.kind, x.fr, x.to, x.call, x.key, x.t, x.s, x.val, x.yes, x.ds, x.slot, x.ep, x.vs, us, xs⟩ ⟨a.da, a.dc, a.va, a.vc, va, vc, oa, oc⟩) 56 := by
          have := (X5.set 14 (.slice oa xs.length oc))
          simpa using this
        have LN := (show WLs _ (D + 1) ⟨x.kind, x.fr, x.to, x.call, x.key, x.t, x.s, x.val, x.yes, x.ds, x.slot, x.ep, x.vs, us, xs⟩ ⟨a.da, a.dc, a.va, a.vc, va, vc, oa, oc⟩ from ⟨(L5.setB (Z := D) (j := 14) (u := .slice oa xs.length oc) (by omega)).d, (L5.setB (Z := D) (j := 14) (u := .slice oa xs.length oc) (by omega)).v, (L5.setB (Z := D) (j := 14) (u := .slice oa xs.length oc) (by omega)).w, rowSetB R5 (Z := D) (j := 14) (u := .slice oa xs.length oc) (by omega), L5.dl, L5.vl, L5.wl, hxl⟩)
        have ZN := (Z5.other (a := ⟨D, 14, none⟩) (by simp; omega) (.slice oa xs.length oc))
        have rN := (r5.setNew (a := ⟨D, 14, none⟩) (by simp; omega) (.slice oa xs.length oc))
        have SN := (S5.setNew (p := ⟨D, 14, none⟩) (by simp; omega) (.slice oa xs.length oc))
        clear X5 Z5 r5 S5
        go_wp2_with fail
        go_meet
        case rel => exact ⟨⟨x.kind, x.fr, x.to, x.call, x.key, x.t, x.s, x.val, x.yes, x.ds, x.slot, x.ep, x.vs, us, xs⟩, ⟨a.da, a.dc, a.va, a.vc, va, vc, oa, oc⟩, _, rfl, XN, LN, ZN, rN, by omega, SN⟩
      have f3 : (c == 3) = false := by simpa using e3
      go_wp2_with fail
      go_meet
      case rel => exact ⟨x, a, _, rfl, X2, L2, Z2, r2, by omega, S2⟩
    case rest =>
      obtain ⟨y, b, q, rfl, X3, L3, Z3, r3, hq3, S3⟩ := hcut
      clear X2 L2 Z2 r2 S2 x a hz2
      generalize wc = w3 at *
      generalize y = x at *
      generalize b = a at *
      go_wp2_with fail
      refine (pick_any _ q 20 _ r3 (by omega) (by omega)).mono ?_
      rintro e w4 ⟨d, rfl, d0, d1, r4, hs4, hzz⟩
      clear hzz
      have X4 := X3.stp hs4 nD
      have L4 := L3.stp hs4 (by omega)
      have Z4 := Z3.stp hs4 nZ
      have S4 := S3.trans hs4
      have hz4 := X4.lt
      clear hs4 X3 L3 Z3 S3 r3
      go_upto_block 1 with fail
      go_cut [3] (fun s3 wx => ∃ (x : Wd) (a : Wa) (q : Int), s3 = .pointer (some ⟨D, 0, none⟩) ∧ Blk wx D (wordC x a) 56 ∧ WLs wx (D + 1) x a ∧ Blk wx w.heap.size (wz 0 0 0 0 0 0 false 0 0) 56 ∧ Rd wx B q ∧ q ≤ p + 4600 ∧ Stp B w wx)
      case first =>
        by_cases e0 : d = 0
        · subst e0
          have G4 := Blk.new w4 #[.int .i64 0, .int .i64 11] 3
          have X4' := X4.alloc (.cells #[.int .i64 0, .int .i64 11] 3)
          have L4' := L4.stp ((Stp.refl B w4).alloc (.cells #[.int .i64 0, .int .i64 11] 3)) (by omega)
          have Z4' := Z4.alloc (.cells #[.int .i64 0, .int .i64 11] 3)
          have S4' := S4.alloc (.cells #[.int .i64 0, .int .i64 11] 3)
          have r4' := r4.alloc (.cells #[.int .i64 0, .int .i64 11] 3)
          have nG : w4.heap.size ≠ B := by omega
          have nGD : w4.heap.size ≠ D := by omega
          clear X4 L4 Z4 S4 r4
          go_wp2_with fail
          generalize (w4.alloc (.cells #[.int .i64 0, .int .i64 11] 3)) = w4' at *
          refine (pick_any _ _ 2 _ r4' (by omega) (by omega)).mono ?_
          rintro e w5 ⟨n, rfl, n0, n1, r5, hs5, hzz⟩
          clear hzz
          have X5 := X4'.stp hs5 nD
          have L5 := L4'.stp hs5 (by omega)
          have Z5 := Z4'.stp hs5 nZ
          have S5 := S4'.trans hs5
          have G5 := G4.stp hs5 nG
          clear hs5 X4' L4' Z4' S4' r4' G4
          have hn : n = 0 ∨ n = 1 := by omega
          rcases hn with rfl | rfl
          · have cc : w5.cell? ⟨w4.heap.size, 0, none⟩ = some (.int .i64 0) := G5.cell 0
            clear G5
            obtain ⟨q1, g1⟩ := X5.rules
            have XN : Blk (w5.setCell ⟨D, 0, none⟩ (.int .i64 0)) D (wordC ⟨0, x.fr, x.to, x.call, x.key, x.t, x.s, x.val, x.yes, x.ds, x.slot, x.ep, x.vs, x.ws, x.os⟩ ⟨a.da, a.dc, a.va, a.vc, a.wa, a.wc, a.oa, a.oc⟩) 56 := by
              have := (X5.set 0 (.int .i64 0))
              simpa using this
            have LN := (L5.setB (Z := D) (j := 0) (u := .int .i64 0) (by omega)).nums 0 x.fr x.to x.call x.key x.t x.s x.val x.yes x.slot x.ep
            have ZN := (Z5.other (a := ⟨D, 0, none⟩) (by simp; omega) (.int .i64 0))
            have rN := (r5.setNew (a := ⟨D, 0, none⟩) (by simp; omega) (.int .i64 0))
            have SN := (S5.setNew (p := ⟨D, 0, none⟩) (by simp; omega) (.int .i64 0))
            clear X5 Z5 r5 S5
            go_wp2_with fail
            go_meet
            case rel => exact ⟨⟨0, x.fr, x.to, x.call, x.key, x.t, x.s, x.val, x.yes, x.ds, x.slot, x.ep, x.vs, x.ws, x.os⟩, ⟨a.da, a.dc, a.va, a.vc, a.wa, a.wc, a.oa, a.oc⟩, _, rfl, XN, LN, ZN, rN, by omega, SN⟩
          · have cc : w5.cell? ⟨w4.heap.size, 1, none⟩ = some (.int .i64 11) := G5.cell 1
            clear G5
            obtain ⟨q1, g1⟩ := X5.rules
            have XN : Blk (w5.setCell ⟨D, 0, none⟩ (.int .i64 11)) D (wordC ⟨11, x.fr, x.to, x.call, x.key, x.t, x.s, x.val, x.yes, x.ds, x.slot, x.ep, x.vs, x.ws, x.os⟩ ⟨a.da, a.dc, a.va, a.vc, a.wa, a.wc, a.oa, a.oc⟩) 56 := by
              have := (X5.set 0 (.int .i64 11))
              simpa using this
            have LN := (L5.setB (Z := D) (j := 0) (u := .int .i64 11) (by omega)).nums 11 x.fr x.to x.call x.key x.t x.s x.val x.yes x.slot x.ep
            have ZN := (Z5.other (a := ⟨D, 0, none⟩) (by simp; omega) (.int .i64 11))
            have rN := (r5.setNew (a := ⟨D, 0, none⟩) (by simp; omega) (.int .i64 11))
            have SN := (S5.setNew (p := ⟨D, 0, none⟩) (by simp; omega) (.int .i64 11))
            clear X5 Z5 r5 S5
            go_wp2_with fail
            go_meet
            case rel => exact ⟨⟨11, x.fr, x.to, x.call, x.key, x.t, x.s, x.val, x.yes, x.ds, x.slot, x.ep, x.vs, x.ws, x.os⟩, ⟨a.da, a.dc, a.va, a.vc, a.wa, a.wc, a.oa, a.oc⟩, _, rfl, XN, LN, ZN, rN, by omega, SN⟩
        have f0 : (d == 0) = false := by simpa using e0
        by_cases e1 : d = 1
        · subst e1
          have G4 := Blk.new w4 #[.int .i64 (-1), .int .i64 4, .int .i64 12] 3
          have X4' := X4.alloc (.cells #[.int .i64 (-1), .int .i64 4, .int .i64 12] 3)
          have L4' := L4.stp ((Stp.refl B w4).alloc (.cells #[.int .i64 (-1), .int .i64 4, .int .i64 12] 3)) (by omega)
          have Z4' := Z4.alloc (.cells #[.int .i64 (-1), .int .i64 4, .int .i64 12] 3)
          have S4' := S4.alloc (.cells #[.int .i64 (-1), .int .i64 4, .int .i64 12] 3)
          have r4' := r4.alloc (.cells #[.int .i64 (-1), .int .i64 4, .int .i64 12] 3)
          have nG : w4.heap.size ≠ B := by omega
          have nGD : w4.heap.size ≠ D := by omega
          clear X4 L4 Z4 S4 r4
          go_wp2_with fail
          generalize (w4.alloc (.cells #[.int .i64 (-1), .int .i64 4, .int .i64 12] 3)) = w4' at *
          refine (pick_any _ _ 3 _ r4' (by omega) (by omega)).mono ?_
          rintro e w5 ⟨n, rfl, n0, n1, r5, hs5, hzz⟩
          clear hzz
          have X5 := X4'.stp hs5 nD
          have L5 := L4'.stp hs5 (by omega)
          have Z5 := Z4'.stp hs5 nZ
          have S5 := S4'.trans hs5
          have G5 := G4.stp hs5 nG
          clear hs5 X4' L4' Z4' S4' r4' G4
          have hn : n = 0 ∨ n = 1 ∨ n = 2 := by omega
          rcases hn with rfl | rfl | rfl
          · have cc : w5.cell? ⟨w4.heap.size, 0, none⟩ = some (.int .i64 (-1)) := G5.cell 0
            clear G5
            obtain ⟨q1, g1⟩ := X5.rules
            have XN : Blk (w5.setCell ⟨D, 2, none⟩ (.int .i64 (-1))) D (wordC ⟨x.kind, x.fr, (-1), x.call, x.key, x.t, x.s, x.val, x.yes, x.ds, x.slot, x.ep, x.vs, x.ws, x.os⟩ ⟨a.da, a.dc, a.va, a.vc, a.wa, a.wc, a.oa, a.oc⟩) 56 := by
              have := (X5.set 2 (.int .i64 (-1)))
              simpa using this
            have LN := (L5.setB (Z := D) (j := 2) (u := .int .i64 (-1)) (by omega)).nums x.kind x.fr (-1) x.call x.key x.t x.s x.val x.yes x.slot x.ep
            have ZN := (Z5.other (a := ⟨D, 2, none⟩) (by simp; omega) (.int .i64 (-1)))
            have rN := (r5.setNew (a := ⟨D, 2, none⟩) (by simp; omega) (.int .i64 (-1)))
            have SN := (S5.setNew (p := ⟨D, 2, none⟩) (by simp; omega) (.int .i64 (-1)))
            clear X5 Z5 r5 S5
            go_wp2_with fail
            go_meet
            case rel => exact ⟨⟨x.kind, x.fr, (-1), x.call, x.key, x.t, x.s, x.val, x.yes, x.ds, x.slot, x.ep, x.vs, x.ws, x.os⟩, ⟨a.da, a.dc, a.va, a.vc, a.wa, a.wc, a.oa, a.oc⟩, _, rfl, XN, LN, ZN, rN, by omega, SN⟩
          · have cc : w5.cell? ⟨w4.heap.size, 1, none⟩ = some (.int .i64 4) := G5.cell 1
            clear G5
            obtain ⟨q1, g1⟩ := X5.rules
            have XN : Blk (w5.setCell ⟨D, 2, none⟩ (.int .i64 4)) D (wordC ⟨x.kind, x.fr, 4, x.call, x.key, x.t, x.s, x.val, x.yes, x.ds, x.slot, x.ep, x.vs, x.ws, x.os⟩ ⟨a.da, a.dc, a.va, a.vc, a.wa, a.wc, a.oa, a.oc⟩) 56 := by
              have := (X5.set 2 (.int .i64 4))
              simpa using this
            have LN := (L5.setB (Z := D) (j := 2) (u := .int .i64 4) (by omega)).nums x.kind x.fr 4 x.call x.key x.t x.s x.val x.yes x.slot x.ep
            have ZN := (Z5.other (a := ⟨D, 2, none⟩) (by simp; omega) (.int .i64 4))
            have rN := (r5.setNew (a := ⟨D, 2, none⟩) (by simp; omega) (.int .i64 4))
            have SN := (S5.setNew (p := ⟨D, 2, none⟩) (by simp; omega) (.int .i64 4))
            clear X5 Z5 r5 S5
            go_wp2_with fail
            go_meet
            case rel => exact ⟨⟨x.kind, x.fr, 4, x.call, x.key, x.t, x.s, x.val, x.yes, x.ds, x.slot, x.ep, x.vs, x.ws, x.os⟩, ⟨a.da, a.dc, a.va, a.vc, a.wa, a.wc, a.oa, a.oc⟩, _, rfl, XN, LN, ZN, rN, by omega, SN⟩
          · have cc : w5.cell? ⟨w4.heap.size, 2, none⟩ = some (.int .i64 12) := G5.cell 2
            clear G5
            obtain ⟨q1, g1⟩ := X5.rules
            have XN : Blk (w5.setCell ⟨D, 2, none⟩ (.int .i64 12)) D (wordC ⟨x.kind, x.fr, 12, x.call, x.key, x.t, x.s, x.val, x.yes, x.ds, x.slot, x.ep, x.vs, x.ws, x.os⟩ ⟨a.da, a.dc, a.va, a.vc, a.wa, a.wc, a.oa, a.oc⟩) 56 := by
              have := (X5.set 2 (.int .i64 12))
              simpa using this
            have LN := (L5.setB (Z := D) (j := 2) (u := .int .i64 12) (by omega)).nums x.kind x.fr 12 x.call x.key x.t x.s x.val x.yes x.slot x.ep
            have ZN := (Z5.other (a := ⟨D, 2, none⟩) (by simp; omega) (.int .i64 12))
            have rN := (r5.setNew (a := ⟨D, 2, none⟩) (by simp; omega) (.int .i64 12))
            have SN := (S5.setNew (p := ⟨D, 2, none⟩) (by simp; omega) (.int .i64 12))
            clear X5 Z5 r5 S5
            go_wp2_with fail
            go_meet
            case rel => exact ⟨⟨x.kind, x.fr, 12, x.call, x.key, x.t, x.s, x.val, x.yes, x.ds, x.slot, x.ep, x.vs, x.ws, x.os⟩, ⟨a.da, a.dc, a.va, a.vc, a.wa, a.wc, a.oa, a.oc⟩, _, rfl, XN, LN, ZN, rN, by omega, SN⟩
        have f1 : (d == 1) = false := by simpa using e1
        by_cases e2 : d = 2
        · subst e2
          have G4 := Blk.new w4 #[.int .i64 (-1), .int .i64 3] 3
          have X4' := X4.alloc (.cells #[.int .i64 (-1), .int .i64 3] 3)
          have L4' := L4.stp ((Stp.refl B w4).alloc (.cells #[.int .i64 (-1), .int .i64 3] 3)) (by omega)
          have Z4' := Z4.alloc (.cells #[.int .i64 (-1), .int .i64 3] 3)
          have S4' := S4.alloc (.cells #[.int .i64 (-1), .int .i64 3] 3)
          have r4' := r4.alloc (.cells #[.int .i64 (-1), .int .i64 3] 3)
          have nG : w4.heap.size ≠ B := by omega
          have nGD : w4.heap.size ≠ D := by omega
          clear X4 L4 Z4 S4 r4
          go_wp2_with fail
          generalize (w4.alloc (.cells #[.int .i64 (-1), .int .i64 3] 3)) = w4' at *
          refine (pick_any _ _ 2 _ r4' (by omega) (by omega)).mono ?_
          rintro e w5 ⟨n, rfl, n0, n1, r5, hs5, hzz⟩
          clear hzz
          have X5 := X4'.stp hs5 nD
          have L5 := L4'.stp hs5 (by omega)
          have Z5 := Z4'.stp hs5 nZ
          have S5 := S4'.trans hs5
          have G5 := G4.stp hs5 nG
          clear hs5 X4' L4' Z4' S4' r4' G4
          have hn : n = 0 ∨ n = 1 := by omega
          rcases hn with rfl | rfl
          · have cc : w5.cell? ⟨w4.heap.size, 0, none⟩ = some (.int .i64 (-1)) := G5.cell 0
            clear G5
            obtain ⟨q1, g1⟩ := X5.rules
            have XN : Blk (w5.setCell ⟨D, 10, none⟩ (.int .i64 (-1))) D (wordC ⟨x.kind, x.fr, x.to, x.call, x.key, x.t, x.s, x.val, x.yes, x.ds, (-1), x.ep, x.vs, x.ws, x.os⟩ ⟨a.da, a.dc, a.va, a.vc, a.wa, a.wc, a.oa, a.oc⟩) 56 := by
              have := (X5.set 10 (.int .i64 (-1)))
              simpa using this
            have LN := (L5.setB (Z := D) (j := 10) (u := .int .i64 (-1)) (by omega)).nums x.kind x.fr x.to x.call x.key x.t x.s x.val x.yes (-1) x.ep
            have ZN := (Z5.other (a := ⟨D, 10, none⟩) (by simp; omega) (.int .i64 (-1)))
            have rN := (r5.setNew (a := ⟨D, 10, none⟩) (by simp; omega) (.int .i64 (-1)))
            have SN := (S5.setNew (p := ⟨D, 10, none⟩) (by simp; omega) (.int .i64 (-1)))
            clear X5 Z5 r5 S5
            go_wp2_with fail
            go_meet
            case rel => exact ⟨⟨x.kind, x.fr, x.to, x.call, x.key, x.t, x.s, x.val, x.yes, x.ds, (-1), x.ep, x.vs, x.ws, x.os⟩, ⟨a.da, a.dc, a.va, a.vc, a.wa, a.wc, a.oa, a.oc⟩, _, rfl, XN, LN, ZN, rN, by omega, SN⟩
          · have cc : w5.cell? ⟨w4.heap.size, 1, none⟩ = some (.int .i64 3) := G5.cell 1
            clear G5
            obtain ⟨q1, g1⟩ := X5.rules
            have XN : Blk (w5.setCell ⟨D, 10, none⟩ (.int .i64 3)) D (wordC ⟨x.kind, x.fr, x.to, x.call, x.key, x.t, x.s, x.val, x.yes, x.ds, 3, x.ep, x.vs, x.ws, x.os⟩ ⟨a.da, a.dc, a.va, a.vc, a.wa, a.wc, a.oa, a.oc⟩) 56 := by
              have := (X5.set 10 (.int .i64 3))
              simpa using this
            have LN := (L5.setB (Z := D) (j := 10) (u := .int .i64 3) (by omega)).nums x.kind x.fr x.to x.call x.key x.t x.s x.val x.yes 3 x.ep
            have ZN := (Z5.other (a := ⟨D, 10, none⟩) (by simp; omega) (.int .i64 3))
            have rN := (r5.setNew (a := ⟨D, 10, none⟩) (by simp; omega) (.int .i64 3))
            have SN := (S5.setNew (p := ⟨D, 10, none⟩) (by simp; omega) (.int .i64 3))
            clear X5 Z5 r5 S5
            go_wp2_with fail
            go_meet
            case rel => exact ⟨⟨x.kind, x.fr, x.to, x.call, x.key, x.t, x.s, x.val, x.yes, x.ds, 3, x.ep, x.vs, x.ws, x.os⟩, ⟨a.da, a.dc, a.va, a.vc, a.wa, a.wc, a.oa, a.oc⟩, _, rfl, XN, LN, ZN, rN, by omega, SN⟩
        have f2 : (d == 2) = false := by simpa using e2
        by_cases e3 : d = 3
        · subst e3
          have G4 := Blk.new w4 #[.int .i64 (-1), .int .i64 10000] 3
          have X4' := X4.alloc (.cells #[.int .i64 (-1), .int .i64 10000] 3)
          have L4' := L4.stp ((Stp.refl B w4).alloc (.cells #[.int .i64 (-1), .int .i64 10000] 3)) (by omega)
          have Z4' := Z4.alloc (.cells #[.int .i64 (-1), .int .i64 10000] 3)
          have S4' := S4.alloc (.cells #[.int .i64 (-1), .int .i64 10000] 3)
          have r4' := r4.alloc (.cells #[.int .i64 (-1), .int .i64 10000] 3)
          have nG : w4.heap.size ≠ B := by omega
          have nGD : w4.heap.size ≠ D := by omega
          clear X4 L4 Z4 S4 r4
          go_wp2_with fail
          generalize (w4.alloc (.cells #[.int .i64 (-1), .int .i64 10000] 3)) = w4' at *
          refine (pick_any _ _ 2 _ r4' (by omega) (by omega)).mono ?_
          rintro e w5 ⟨n, rfl, n0, n1, r5, hs5, hzz⟩
          clear hzz
          have X5 := X4'.stp hs5 nD
          have L5 := L4'.stp hs5 (by omega)
          have Z5 := Z4'.stp hs5 nZ
          have S5 := S4'.trans hs5
          have G5 := G4.stp hs5 nG
          clear hs5 X4' L4' Z4' S4' r4' G4
          have hn : n = 0 ∨ n = 1 := by omega
          rcases hn with rfl | rfl
          · have cc : w5.cell? ⟨w4.heap.size, 0, none⟩ = some (.int .i64 (-1)) := G5.cell 0
            clear G5
            obtain ⟨q1, g1⟩ := X5.rules
            have XN : Blk (w5.setCell ⟨D, 11, none⟩ (.int .i64 (-1))) D (wordC ⟨x.kind, x.fr, x.to, x.call, x.key, x.t, x.s, x.val, x.yes, x.ds, x.slot, (-1), x.vs, x.ws, x.os⟩ ⟨a.da, a.dc, a.va, a.vc, a.wa, a.wc, a.oa, a.oc⟩) 56 := by
              have := (X5.set 11 (.int .i64 (-1)))
              simpa using this
            have LN := (L5.setB (Z := D) (j := 11) (u := .int .i64 (-1)) (by omega)).nums x.kind x.fr x.to x.call x.key x.t x.s x.val x.yes x.slot (-1)
            have ZN := (Z5.other (a := ⟨D, 11, none⟩) (by simp; omega) (.int .i64 (-1)))
            have rN := (r5.setNew (a := ⟨D, 11, none⟩) (by simp; omega) (.int .i64 (-1)))
            have SN := (S5.setNew (p := ⟨D, 11, none⟩) (by simp; omega) (.int .i64 (-1)))
            clear X5 Z5 r5 S5
            go_wp2_with fail
            go_meet
            case rel => exact ⟨⟨x.kind, x.fr, x.to, x.call, x.key, x.t, x.s, x.val, x.yes, x.ds, x.slot, (-1), x.vs, x.ws, x.os⟩, ⟨a.da, a.dc, a.va, a.vc, a.wa, a.wc, a.oa, a.oc⟩, _, rfl, XN, LN, ZN, rN, by omega, SN⟩
          · have cc : w5.cell? ⟨w4.heap.size, 1, none⟩ = some (.int .i64 10000) := G5.cell 1
            clear G5
            obtain ⟨q1, g1⟩ := X5.rules
            have XN : Blk (w5.setCell ⟨D, 11, none⟩ (.int .i64 10000)) D (wordC ⟨x.kind, x.fr, x.to, x.call, x.key, x.t, x.s, x.val, x.yes, x.ds, x.slot, 10000, x.vs, x.ws, x.os⟩ ⟨a.da, a.dc, a.va, a.vc, a.wa, a.wc, a.oa, a.oc⟩) 56 := by
              have := (X5.set 11 (.int .i64 10000))
              simpa using this
            have LN := (L5.setB (Z := D) (j := 11) (u := .int .i64 10000) (by omega)).nums x.kind x.fr x.to x.call x.key x.t x.s x.val x.yes x.slot 10000
            have ZN := (Z5.other (a := ⟨D, 11, none⟩) (by simp; omega) (.int .i64 10000))
            have rN := (r5.setNew (a := ⟨D, 11, none⟩) (by simp; omega) (.int .i64 10000))
            have SN := (S5.setNew (p := ⟨D, 11, none⟩) (by simp; omega) (.int .i64 10000))
            clear X5 Z5 r5 S5
            go_wp2_with fail
            go_meet
            case rel => exact ⟨⟨x.kind, x.fr, x.to, x.call, x.key, x.t, x.s, x.val, x.yes, x.ds, x.slot, 10000, x.vs, x.ws, x.os⟩, ⟨a.da, a.dc, a.va, a.vc, a.wa, a.wc, a.oa, a.oc⟩, _, rfl, XN, LN, ZN, rN, by omega, SN⟩
        have f3 : (d == 3) = false := by simpa using e3
        go_wp2_with fail
        go_meet
        case rel => exact ⟨x, a, _, rfl, X4, L4, Z4, r4, by omega, S4⟩
      case rest =>
        obtain ⟨y, b, q, rfl, X5, L5, Z5, r5, hq5, S5⟩ := hcut
        clear X4 L4 Z4 r4 S4 x a hz4
        generalize wc = w5 at *
        generalize y = x at *
        generalize b = a at *
        obtain ⟨q1, g1⟩ := X5.rules
        obtain ⟨q2, g2⟩ := Z5.rules
        go_wp2_with fail
        refine bodyPost_ret (v := wordV x a) ?_ rfl ⟨x, a, _, rfl, (L5.fill15 (by omega)).low (by omega), by omega, (((((((((((((((r5.setNew (a := ⟨w.heap.size, 0, none⟩) (by simp; omega) _).setNew (a := ⟨w.heap.size, 1, none⟩) (by simp; omega) _).setNew (a := ⟨w.heap.size, 2, none⟩) (by simp; omega) _).setNew (a := ⟨w.heap.size, 3, none⟩) (by simp; omega) _).setNew (a := ⟨w.heap.size, 4, none⟩) (by simp; omega) _).setNew (a := ⟨w.heap.size, 5, none⟩) (by simp; omega) _).setNew (a := ⟨w.heap.size, 6, none⟩) (by simp; omega) _).setNew (a := ⟨w.heap.size, 7, none⟩) (by simp; omega) _).setNew (a := ⟨w.heap.size, 8, none⟩) (by simp; omega) _).setNew (a := ⟨w.heap.size, 9, none⟩) (by simp; omega) _).setNew (a := ⟨w.heap.size, 10, none⟩) (by simp; omega) _).setNew (a := ⟨w.heap.size, 11, none⟩) (by simp; omega) _).setNew (a := ⟨w.heap.size, 12, none⟩) (by simp; omega) _).setNew (a := ⟨w.heap.size, 13, none⟩) (by simp; omega) _).setNew (a := ⟨w.heap.size, 14, none⟩) (by simp; omega) _), (((((((((((((((S5.setNew (p := ⟨w.heap.size, 0, none⟩) (by simp) _).setNew (p := ⟨w.heap.size, 1, none⟩) (by simp) _).setNew (p := ⟨w.heap.size, 2, none⟩) (by simp) _).setNew (p := ⟨w.heap.size, 3, none⟩) (by simp) _).setNew (p := ⟨w.heap.size, 4, none⟩) (by simp) _).setNew (p := ⟨w.heap.size, 5, none⟩) (by simp) _).setNew (p := ⟨w.heap.size, 6, none⟩) (by simp) _).setNew (p := ⟨w.heap.size, 7, none⟩) (by simp) _).setNew (p := ⟨w.heap.size, 8, none⟩) (by simp) _).setNew (p := ⟨w.heap.size, 9, none⟩) (by simp) _).setNew (p := ⟨w.heap.size, 10, none⟩) (by simp) _).setNew (p := ⟨w.heap.size, 11, none⟩) (by simp) _).setNew (p := ⟨w.heap.size, 12, none⟩) (by simp) _).setNew (p := ⟨w.heap.size, 13, none⟩) (by simp) _).setNew (p := ⟨w.heap.size, 14, none⟩) (by simp) _)⟩
        refine Blk.gen (B := w.heap.size) (vs := wordC x a) (T := 56) ?_ (P := fun W => (results Try.f124 _).run Try.prog W = .ok _ W) ?_
        · exact Blk.fill15 Z5
        intro W hW
        obtain ⟨k, f⟩ := hW.rules
        simp [results, Try.results124, go_sem, k]
end Go.Proofs.Ytgdkoangpinieaa
