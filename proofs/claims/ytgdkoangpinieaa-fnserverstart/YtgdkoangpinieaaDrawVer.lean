/- A version is drawn. -/
import Derived.Test.YtgdkoangpinieaaGAB
import Derived.Test.YtgdkoangpinieaaXVer
namespace Go.Proofs.Ytgdkoangpinieaa
open Go.ChangeShapes Go.WideShapes Go.ChangeAt Go.RowKit

theorem Rd.fill7 {w : World} {B Z : Nat} {p : Int} {v0 v1 v2 v3 v4 v5 v6 : Value} (h : Rd w B p) (hZ : B < Z) : Rd (((((((w.setCell ⟨Z, 0, none⟩ v0).setCell ⟨Z, 1, none⟩ v1).setCell ⟨Z, 2, none⟩ v2).setCell ⟨Z, 3, none⟩ v3).setCell ⟨Z, 4, none⟩ v4).setCell ⟨Z, 5, none⟩ v5).setCell ⟨Z, 6, none⟩ v6) B p :=
  ((((((h.setNew (by simpa using hZ) _).setNew (by simpa using hZ) _).setNew (by simpa using hZ) _).setNew (by simpa using hZ) _).setNew (by simpa using hZ) _).setNew (by simpa using hZ) _).setNew (by simpa using hZ) _
theorem Stp.fill7 {a w : World} {B Z : Nat} {v0 v1 v2 v3 v4 v5 v6 : Value} (h : Stp B a w) (hZ : a.heap.size ≤ Z) : Stp B a (((((((w.setCell ⟨Z, 0, none⟩ v0).setCell ⟨Z, 1, none⟩ v1).setCell ⟨Z, 2, none⟩ v2).setCell ⟨Z, 3, none⟩ v3).setCell ⟨Z, 4, none⟩ v4).setCell ⟨Z, 5, none⟩ v5).setCell ⟨Z, 6, none⟩ v6) :=
  ((((((h.setNew (by simpa using hZ) _).setNew (by simpa using hZ) _).setNew (by simpa using hZ) _).setNew (by simpa using hZ) _).setNew (by simpa using hZ) _).setNew (by simpa using hZ) _).setNew (by simpa using hZ) _

set_option maxHeartbeats 8000000 in
set_option maxRecDepth 100000 in
theorem drawVer (B : Nat) (p : Int) (w : World) (h : Rd w B p) (hp : p ≤ 700000) :
    Calls Try.prog 93 #[.pointer (some ⟨B, 0, none⟩)] w fun e w' => ∃ (k t s val cl ca : Int) (a : Option Addr) (cap : Nat) (xs : List D) (p' : Int), e = .returned (verV k t s val cl ca a xs.length cap) ∧ xs.length ≤ 6 ∧ w'.ownsRow (w.heap.size + 1 + 1) 51 3 (.slice a xs.length cap) xs.length (flat3 xs) ∧ p' ≤ p + 40 ∧ Rd w' B p' ∧ Stp B w w' := by
  have hB := h.1
  have n0 : w.heap.size ≠ B := by omega
  have n1 : w.heap.size + 1 ≠ B := by omega
  go_enter Try.func93, Try.ntmps93
  go_wp2_with fail
  refine (pick_any _ p 6 _ (h.alloc _) (by omega) (by omega)).mono ?_
  rintro e w1 ⟨k, rfl, k0, k1, hr1, hs1, hz1⟩
  go_wp2_with fail
  refine (pick_any _ _ 9 _ hr1 (by omega) (by omega)).mono ?_
  rintro e w2 ⟨t, rfl, t0, t1, hr2, hs2, hz2⟩
  go_wp2_with fail
  refine (pick_any _ _ 4 _ hr2 (by omega) (by omega)).mono ?_
  rintro e w3 ⟨s, rfl, s0, s1, hr3, hs3, hz3⟩
  go_wp2_with fail
  refine (pick_any _ _ 90 _ hr3 (by omega) (by omega)).mono ?_
  rintro e w4 ⟨val, rfl, val0, val1, hr4, hs4, hz4⟩
  go_wp2_with fail
  refine (pick_any _ _ 2 _ hr4 (by omega) (by omega)).mono ?_
  rintro e w5 ⟨cl, rfl, cl0, cl1, hr5, hs5, hz5⟩
  go_wp2_with fail
  refine (pick_any _ _ 6 _ hr5 (by omega) (by omega)).mono ?_
  rintro e w6 ⟨ca, rfl, ca0, ca1, hr6, hs6, hz6⟩
  have S6 : Stp B w w6 := (((((((Stp.refl B w).alloc _).trans hs1).trans hs2).trans hs3).trans hs4).trans hs5).trans hs6
  have Z6 := ((((((Blk.new w _ _).stp hs1 n0).stp hs2 n0).stp hs3 n0).stp hs4 n0).stp hs5 n0).stp hs6 n0
  have hsz : w6.heap.size = w.heap.size + 1 := by simp only [World.size_alloc] at hz1; omega
  clear hs1 hs2 hs3 hs4 hs5 hs6 hr1 hr2 hr3 hr4 hr5 hz1 hz2 hz3 hz4 hz5 hz6
  go_wp2_with fail
  refine (pick_any _ _ 4 _ (hr6.alloc _) (by omega) (by omega)).mono ?_
  rintro e w7 ⟨m, rfl, m0, m1, hr7, hs7, hz7⟩
  have S7 : Stp B w w7 := (S6.alloc _).trans hs7
  have Z7 := (Z6.alloc _).stp hs7 n0
  have V7 := (Blk.new w6 _ _).stp hs7 (by rw [hsz]; exact n1)
  rw [hsz] at V7
  have hsz7 : w7.heap.size = w.heap.size + 1 + 1 := by simp only [World.size_alloc] at hz7; omega
  clear hs7 hz7 Z6 S6 hr6
  obtain ⟨n, rfl⟩ := Int.eq_ofNat_of_zero_le m0
  have hn3 : n ≤ 3 := by omega
  clear m0 m1
  try rw [hsz]
  clear hsz
  generalize 1 + t = t at *
  generalize 1 + ca = ca at *
  go_wp2_with fail
  go_loopw [4] (fun i wr => ∃ (j : Nat) (xs : List D) (u : Value) (q : Int), j ≤ 3 ∧ i = .int .i64 j ∧ xs.length ≤ 6 ∧ q ≤ p + 7 + 4 * (3 - j) ∧ wr.ownsRow (w.heap.size + 1 + 1) 51 3 u xs.length (flat3 xs) ∧ Blk wr w.heap.size #[.int .i64 0, .int .i64 0, .int .i64 0, .int .i64 0, .int .i64 0, .int .i64 0, .slice none 0 0] 28 ∧ Blk wr (w.heap.size + 1) #[.int .i64 k, .int .i64 t, .int .i64 s, .int .i64 val, .int .i64 cl, .int .i64 ca, u] 28 ∧ Rd wr B q ∧ Stp B w wr) (fun i _ => (intOf i).toNat)
  case atStart => exact ⟨n, [], _, _, hn3, rfl, by simp, by omega, World.ownsRow_nil _ _ _ _, Z7, V7, hr7, S7⟩
  case round =>
    obtain ⟨j, xs, u, q, hj, rfl, hxl, hq, hrow, Z, V, hR, hS⟩ := hrel
    clear Z7 V7 hr7 S7 hn3 hsz7
    have hzz := V.lt
    obtain ⟨ua, uc, rfl, hub⟩ := row_slice hrow
    by_cases hj0 : (0 : Int) < j
    · go_wp2_with fail
      refine (drawDep _ q _ hR (by omega)).mono ?_
      rintro e w8 ⟨d, rfl, _, hr8, hs8⟩
      have Z8 := (Z.stp hs8 n0).alloc (.cells #[.int .i64 d.k, .int .i64 d.t, .int .i64 d.s] 51)
      have V8 := (V.stp hs8 n1).alloc (.cells #[.int .i64 d.k, .int .i64 d.t, .int .i64 d.s] 51)
      have R8 := (row_step hrow hs8 (by omega)).alloc (.cells #[.int .i64 d.k, .int .i64 d.t, .int .i64 d.s] 51)
      have E8 := Blk.new w8 #[.int .i64 d.k, .int .i64 d.t, .int .i64 d.s] 51
      have S8 : Stp B w (w8.alloc (.cells #[.int .i64 d.k, .int .i64 d.t, .int .i64 d.s] 51)) := (hS.trans hs8).alloc _
      have hr9 := hr8.alloc (.cells #[.int .i64 d.k, .int .i64 d.t, .int .i64 d.s] 51)
      have l8 : w.heap.size + 1 < w8.heap.size := (V.stp hs8 n1).lt
      have nE : w8.heap.size ≠ B := by have := hr8.1; omega
      clear hrow Z V hR hS hs8 hr8 hzz
      obtain ⟨q1, g1⟩ := V8.rules
      obtain ⟨q2, g2⟩ := E8.rules
      by_cases hlt : d.t < t
      · have dlt : decide (d.t < t) = true := by simpa using hlt
        go_wp2_with fail
        refine (sPut_any ua uc xs d _ (by omega) (row_deps' R8)).mono ?_
        rintro e wp ⟨u2, rfl, N, hbp⟩
        have Rp := row_mono N (base' := w.heap.size + 1 + 1) (by have := V8.lt; first | omega | (simp; omega))
        have Zp := Z8.below hbp Z8.lt
        have Vp := V8.below hbp V8.lt
        have hrp := hr9.below hbp
        have Sp := S8.trans (Stp.ofBelow hbp)
        have hlp := putL_len xs d
        generalize putL xs d = ys at *
        obtain ⟨ub, ud, rfl, _⟩ := row_slice Rp
        clear q1 g1 q2 g2 N hbp Z8 V8 S8 hr9 R8
        obtain ⟨q1, g1⟩ := Vp.rules
        have Vq : Blk (wp.setCell ⟨w.heap.size + 1, 6, none⟩ (.slice ub ys.length ud)) (w.heap.size + 1) #[.int .i64 k, .int .i64 t, .int .i64 s, .int .i64 val, .int .i64 cl, .int .i64 ca, .slice ub ys.length ud] 28 := by have := Vp.set 6 (.slice ub ys.length ud); simpa using this
        have Zq := Zp.other (a := ⟨w.heap.size + 1, 6, none⟩) (by simp) (.slice ub ys.length ud)
        have Rq := row_set Rp (A := w.heap.size + 1) (i := 6) (fun j hj => by have := (Rp.lt j hj).1; omega) (.slice ub ys.length ud)
        have hrq := hrp.setNew (a := ⟨w.heap.size + 1, 6, none⟩) (by simp; omega) (.slice ub ys.length ud)
        have Sq := Sp.setNew (p := ⟨w.heap.size + 1, 6, none⟩) (by simp) (.slice ub ys.length ud)
        clear Vp Zp Rp hrp Sp
        go_wp2_with fail
        go_roundw
        case rel => exact ⟨j - 1, ys, _, _, by omega, by go_num, hlp, by omega, Rq, Zq, Vq, hrq, Sq⟩
        case measure => simp [intOf]; omega
      · have dlt : decide (d.t < t) = false := by simpa using hlt
        go_wp2_with fail
        refine (pick_any _ _ 20 _ hr9 (by omega) (by omega)).mono ?_
        rintro e w9 ⟨y, rfl, y0, y1, hr10, hs9, hz9⟩
        have Z9 := Z8.stp hs9 n0
        have V9 := V8.stp hs9 n1
        have R9 := row_step R8 hs9 (by omega)
        have E9 := E8.stp hs9 nE
        have S9 : Stp B w w9 := S8.trans hs9
        clear q1 g1 q2 g2 Z8 V8 R8 E8 S8 hr9 hs9 hz9
        obtain ⟨q1, g1⟩ := V9.rules
        obtain ⟨q2, g2⟩ := E9.rules
        by_cases hy : y = 0
        · subst hy
          go_wp2_with fail
          refine (sPut_any ua uc xs d _ (by omega) (row_deps' R9)).mono ?_
          rintro e wp ⟨u2, rfl, N, hbp⟩
          have Rp := row_mono N (base' := w.heap.size + 1 + 1) (by have := V9.lt; first | omega | (simp; omega))
          have Zp := Z9.below hbp Z9.lt
          have Vp := V9.below hbp V9.lt
          have hrp := hr10.below hbp
          have Sp := S9.trans (Stp.ofBelow hbp)
          have hlp := putL_len xs d
          generalize putL xs d = ys at *
          obtain ⟨ub, ud, rfl, _⟩ := row_slice Rp
          clear q1 g1 q2 g2 N hbp Z9 V9 S9 hr10 R9
          obtain ⟨q1, g1⟩ := Vp.rules
          have Vq : Blk (wp.setCell ⟨w.heap.size + 1, 6, none⟩ (.slice ub ys.length ud)) (w.heap.size + 1) #[.int .i64 k, .int .i64 t, .int .i64 s, .int .i64 val, .int .i64 cl, .int .i64 ca, .slice ub ys.length ud] 28 := by have := Vp.set 6 (.slice ub ys.length ud); simpa using this
          have Zq := Zp.other (a := ⟨w.heap.size + 1, 6, none⟩) (by simp) (.slice ub ys.length ud)
          have Rq := row_set Rp (A := w.heap.size + 1) (i := 6) (fun j hj => by have := (Rp.lt j hj).1; omega) (.slice ub ys.length ud)
          have hrq := hrp.setNew (a := ⟨w.heap.size + 1, 6, none⟩) (by simp; omega) (.slice ub ys.length ud)
          have Sq := Sp.setNew (p := ⟨w.heap.size + 1, 6, none⟩) (by simp) (.slice ub ys.length ud)
          clear Vp Zp Rp hrp Sp
          go_wp2_with fail
          go_roundw
          case rel => exact ⟨j - 1, ys, _, _, by omega, by go_num, hlp, by omega, Rq, Zq, Vq, hrq, Sq⟩
          case measure => simp [intOf]; omega
        · have hy' : (y == 0) = false := by simpa using hy
          go_wp2_with fail
          go_roundw
          case rel => exact ⟨j - 1, xs, _, _, by omega, by go_num, hxl, by omega, R9, Z9, V9, hr10, S9⟩
          case measure => simp [intOf]; omega
    · have hj1 : j = 0 := by omega
      subst hj1
      go_wp2_with fail
      refine (pick_any _ q 24 _ hR (by omega) (by omega)).mono ?_
      rintro e w8 ⟨c, rfl, c0, c1, hr8, hs8, hz8⟩
      have Z8 := Z.stp hs8 n0
      have V8 := V.stp hs8 n1
      have R8 := row_step hrow hs8 (by omega)
      have S8 : Stp B w w8 := hS.trans hs8
      have l8 := V8.lt
      clear hrow Z V hR hS hs8 hz8 hzz
      by_cases h0 : c = 0
      · subst h0
        have Z8' := Z8.alloc (.cells #[.int .i64 (-1), .int .i64 6] 3)
        have V8' := V8.alloc (.cells #[.int .i64 (-1), .int .i64 6] 3)
        have R8' := R8.alloc (.cells #[.int .i64 (-1), .int .i64 6] 3)
        have S8' := S8.alloc (.cells #[.int .i64 (-1), .int .i64 6] 3)
        have L8 := Blk.new w8 #[.int .i64 (-1), .int .i64 6] 3
        have nL : w8.heap.size ≠ B := by have := hr8.1; omega
        have nL2 : w8.heap.size ≠ w.heap.size + 1 := by omega
        have nL3 : w8.heap.size ≠ w.heap.size := by omega
        clear Z8 V8 R8 S8
        go_wp2_with fail
        refine (pick_any _ _ 2 _ (hr8.alloc _) (by omega) (by omega)).mono ?_
        rintro e w9 ⟨y, rfl, y0, y1, hr9, hs9, hz9⟩
        have Z9 := Z8'.stp hs9 n0
        have V9 := V8'.stp hs9 n1
        have R9 := row_step R8' hs9 (by omega)
        have L9 := L8.stp hs9 nL
        have S9 : Stp B w w9 := S8'.trans hs9
        clear Z8' V8' R8' S8' L8 hr8 hs9 hz9
        obtain ⟨q1, g1⟩ := V9.rules
        obtain ⟨q2, g2⟩ := Z9.rules
        obtain ⟨q3, g3⟩ := L9.rules
        have hy : y = 0 ∨ y = 1 := by omega
        rcases hy with rfl | rfl
        · have V10 : Blk (w9.setCell ⟨w.heap.size + 1, 0, none⟩ (.int .i64 (-1))) (w.heap.size + 1) #[.int .i64 (-1), .int .i64 t, .int .i64 s, .int .i64 val, .int .i64 cl, .int .i64 ca, .slice ua xs.length uc] 28 := by have := V9.set 0 (.int .i64 (-1)); simpa using this
          have Z10 := Z9.other (a := ⟨w.heap.size + 1, 0, none⟩) (by simp) (.int .i64 (-1))
          have R10 := row_set R9 (A := w.heap.size + 1) (i := 0) (fun j hj => by have := (R9.lt j hj).1; omega) (.int .i64 (-1))
          have hr10 := hr9.setNew (a := ⟨w.heap.size + 1, 0, none⟩) (by simp; omega) (.int .i64 (-1))
          have S10 := S9.setNew (p := ⟨w.heap.size + 1, 0, none⟩) (by simp) (.int .i64 (-1))
          clear hr9 S9
          go_wp2_with fail
          refine bodyPost_ret (v := verV (-1) (t) (s) (val) (cl) (ca) ua xs.length uc) ?_ rfl ⟨_, _, _, _, _, _, ua, uc, xs, _, rfl, hxl, row_fill7 R10 (fun j hj => by have := (R10.lt j hj).1; omega), ?_, hr10.fill7 (by omega), S10.fill7 (Nat.le_refl _)⟩
          · refine Blk.gen (B := w.heap.size) (vs := #[.int .i64 (-1), .int .i64 (t), .int .i64 (s), .int .i64 (val), .int .i64 (cl), .int .i64 (ca), .slice ua xs.length uc]) (T := 28) ?_ (P := fun W => (results Try.f93 _).run Try.prog W = .ok _ W) ?_
            · exact Blk.fill7 Z10
            intro W hW
            obtain ⟨k, f⟩ := hW.rules
            simp [results, Try.results93, go_sem, k]
          · omega
        · have V10 : Blk (w9.setCell ⟨w.heap.size + 1, 0, none⟩ (.int .i64 6)) (w.heap.size + 1) #[.int .i64 6, .int .i64 t, .int .i64 s, .int .i64 val, .int .i64 cl, .int .i64 ca, .slice ua xs.length uc] 28 := by have := V9.set 0 (.int .i64 6); simpa using this
          have Z10 := Z9.other (a := ⟨w.heap.size + 1, 0, none⟩) (by simp) (.int .i64 6)
          have R10 := row_set R9 (A := w.heap.size + 1) (i := 0) (fun j hj => by have := (R9.lt j hj).1; omega) (.int .i64 6)
          have hr10 := hr9.setNew (a := ⟨w.heap.size + 1, 0, none⟩) (by simp; omega) (.int .i64 6)
          have S10 := S9.setNew (p := ⟨w.heap.size + 1, 0, none⟩) (by simp) (.int .i64 6)
          clear hr9 S9
          go_wp2_with fail
          refine bodyPost_ret (v := verV (6) (t) (s) (val) (cl) (ca) ua xs.length uc) ?_ rfl ⟨_, _, _, _, _, _, ua, uc, xs, _, rfl, hxl, row_fill7 R10 (fun j hj => by have := (R10.lt j hj).1; omega), ?_, hr10.fill7 (by omega), S10.fill7 (Nat.le_refl _)⟩
          · refine Blk.gen (B := w.heap.size) (vs := #[.int .i64 (6), .int .i64 (t), .int .i64 (s), .int .i64 (val), .int .i64 (cl), .int .i64 (ca), .slice ua xs.length uc]) (T := 28) ?_ (P := fun W => (results Try.f93 _).run Try.prog W = .ok _ W) ?_
            · exact Blk.fill7 Z10
            intro W hW
            obtain ⟨k, f⟩ := hW.rules
            simp [results, Try.results93, go_sem, k]
          · omega
      · have e0 : (c == 0) = false := by simpa using h0
        by_cases h1 : c = 1
        · subst h1
          go_wp2_with fail
          refine (drawStamp _ _ _ hr8 (by omega)).mono ?_
          rintro e w9 ⟨t2, s2, q9, rfl, _, _, _, _, z1, z2, hr9, hs9⟩
          have Z9 := Z8.stp hs9 n0
          have V9 := V8.stp hs9 n1
          have R9 := row_step R8 hs9 (by omega)
          have S9 : Stp B w w9 := S8.trans hs9
          clear Z8 V8 R8 S8 hr8 hs9
          have V10 : Blk ((w9.setCell ⟨w.heap.size + 1, 1, none⟩ (.int .i64 t2)).setCell ⟨w.heap.size + 1, 2, none⟩ (.int .i64 s2)) (w.heap.size + 1) #[.int .i64 k, .int .i64 t2, .int .i64 s2, .int .i64 val, .int .i64 cl, .int .i64 ca, .slice ua xs.length uc] 28 := by have := (V9.set 1 (.int .i64 t2)).set 2 (.int .i64 s2); simpa using this
          have Z10 := (Z9.other (a := ⟨w.heap.size + 1, 1, none⟩) (by simp) (.int .i64 t2)).other (a := ⟨w.heap.size + 1, 2, none⟩) (by simp) (.int .i64 s2)
          have R10 := row_set (row_set R9 (A := w.heap.size + 1) (i := 1) (fun j hj => by have := (R9.lt j hj).1; omega) (.int .i64 t2)) (A := w.heap.size + 1) (i := 2) (fun j hj => by have := (R9.lt j hj).1; omega) (.int .i64 s2)
          have hr10 := (hr9.setNew (a := ⟨w.heap.size + 1, 1, none⟩) (by simp; omega) (.int .i64 t2)).setNew (a := ⟨w.heap.size + 1, 2, none⟩) (by simp; omega) (.int .i64 s2)
          have S10 := (S9.setNew (p := ⟨w.heap.size + 1, 1, none⟩) (by simp) (.int .i64 t2)).setNew (p := ⟨w.heap.size + 1, 2, none⟩) (by simp) (.int .i64 s2)
          obtain ⟨q1, g1⟩ := V9.rules
          obtain ⟨q2, g2⟩ := Z9.rules
          clear hr9 S9
          go_wp2_with fail
          refine bodyPost_ret (v := verV (k) (t2) (s2) (val) (cl) (ca) ua xs.length uc) ?_ rfl ⟨_, _, _, _, _, _, ua, uc, xs, _, rfl, hxl, row_fill7 R10 (fun j hj => by have := (R10.lt j hj).1; omega), ?_, hr10.fill7 (by omega), S10.fill7 (Nat.le_refl _)⟩
          · refine Blk.gen (B := w.heap.size) (vs := #[.int .i64 (k), .int .i64 (t2), .int .i64 (s2), .int .i64 (val), .int .i64 (cl), .int .i64 (ca), .slice ua xs.length uc]) (T := 28) ?_ (P := fun W => (results Try.f93 _).run Try.prog W = .ok _ W) ?_
            · exact Blk.fill7 Z10
            intro W hW
            obtain ⟨k, f⟩ := hW.rules
            simp [results, Try.results93, go_sem, k]
          · omega
        · have e1 : (c == 1) = false := by simpa using h1
          by_cases h2 : c = 2
          · subst h2
            have Z8' := Z8.alloc (.cells #[.int .i64 (-1), .int .i64 9999, .int .i64 10000] 3)
            have V8' := V8.alloc (.cells #[.int .i64 (-1), .int .i64 9999, .int .i64 10000] 3)
            have R8' := R8.alloc (.cells #[.int .i64 (-1), .int .i64 9999, .int .i64 10000] 3)
            have S8' := S8.alloc (.cells #[.int .i64 (-1), .int .i64 9999, .int .i64 10000] 3)
            have L8 := Blk.new w8 #[.int .i64 (-1), .int .i64 9999, .int .i64 10000] 3
            have nL : w8.heap.size ≠ B := by have := hr8.1; omega
            have nL2 : w8.heap.size ≠ w.heap.size + 1 := by omega
            have nL3 : w8.heap.size ≠ w.heap.size := by omega
            clear Z8 V8 R8 S8
            go_wp2_with fail
            refine (pick_any _ _ 3 _ (hr8.alloc _) (by omega) (by omega)).mono ?_
            rintro e w9 ⟨y, rfl, y0, y1, hr9, hs9, hz9⟩
            have Z9 := Z8'.stp hs9 n0
            have V9 := V8'.stp hs9 n1
            have R9 := row_step R8' hs9 (by omega)
            have L9 := L8.stp hs9 nL
            have S9 : Stp B w w9 := S8'.trans hs9
            clear Z8' V8' R8' S8' L8 hr8 hs9 hz9
            obtain ⟨q1, g1⟩ := V9.rules
            obtain ⟨q2, g2⟩ := Z9.rules
            obtain ⟨q3, g3⟩ := L9.rules
            have hy : y = 0 ∨ y = 1 ∨ y = 2 := by omega
            rcases hy with rfl | rfl | rfl
            · have V10 : Blk (w9.setCell ⟨w.heap.size + 1, 3, none⟩ (.int .i64 (-1))) (w.heap.size + 1) #[.int .i64 k, .int .i64 t, .int .i64 s, .int .i64 (-1), .int .i64 cl, .int .i64 ca, .slice ua xs.length uc] 28 := by have := V9.set 3 (.int .i64 (-1)); simpa using this
              have Z10 := Z9.other (a := ⟨w.heap.size + 1, 3, none⟩) (by simp) (.int .i64 (-1))
              have R10 := row_set R9 (A := w.heap.size + 1) (i := 3) (fun j hj => by have := (R9.lt j hj).1; omega) (.int .i64 (-1))
              have hr10 := hr9.setNew (a := ⟨w.heap.size + 1, 3, none⟩) (by simp; omega) (.int .i64 (-1))
              have S10 := S9.setNew (p := ⟨w.heap.size + 1, 3, none⟩) (by simp) (.int .i64 (-1))
              clear hr9 S9
              go_wp2_with fail
              refine bodyPost_ret (v := verV (k) (t) (s) (-1) (cl) (ca) ua xs.length uc) ?_ rfl ⟨_, _, _, _, _, _, ua, uc, xs, _, rfl, hxl, row_fill7 R10 (fun j hj => by have := (R10.lt j hj).1; omega), ?_, hr10.fill7 (by omega), S10.fill7 (Nat.le_refl _)⟩
              · refine Blk.gen (B := w.heap.size) (vs := #[.int .i64 (k), .int .i64 (t), .int .i64 (s), .int .i64 (-1), .int .i64 (cl), .int .i64 (ca), .slice ua xs.length uc]) (T := 28) ?_ (P := fun W => (results Try.f93 _).run Try.prog W = .ok _ W) ?_
                · exact Blk.fill7 Z10
                intro W hW
                obtain ⟨k, f⟩ := hW.rules
                simp [results, Try.results93, go_sem, k]
              · omega
            · have V10 : Blk (w9.setCell ⟨w.heap.size + 1, 3, none⟩ (.int .i64 9999)) (w.heap.size + 1) #[.int .i64 k, .int .i64 t, .int .i64 s, .int .i64 9999, .int .i64 cl, .int .i64 ca, .slice ua xs.length uc] 28 := by have := V9.set 3 (.int .i64 9999); simpa using this
              have Z10 := Z9.other (a := ⟨w.heap.size + 1, 3, none⟩) (by simp) (.int .i64 9999)
              have R10 := row_set R9 (A := w.heap.size + 1) (i := 3) (fun j hj => by have := (R9.lt j hj).1; omega) (.int .i64 9999)
              have hr10 := hr9.setNew (a := ⟨w.heap.size + 1, 3, none⟩) (by simp; omega) (.int .i64 9999)
              have S10 := S9.setNew (p := ⟨w.heap.size + 1, 3, none⟩) (by simp) (.int .i64 9999)
              clear hr9 S9
              go_wp2_with fail
              refine bodyPost_ret (v := verV (k) (t) (s) (9999) (cl) (ca) ua xs.length uc) ?_ rfl ⟨_, _, _, _, _, _, ua, uc, xs, _, rfl, hxl, row_fill7 R10 (fun j hj => by have := (R10.lt j hj).1; omega), ?_, hr10.fill7 (by omega), S10.fill7 (Nat.le_refl _)⟩
              · refine Blk.gen (B := w.heap.size) (vs := #[.int .i64 (k), .int .i64 (t), .int .i64 (s), .int .i64 (9999), .int .i64 (cl), .int .i64 (ca), .slice ua xs.length uc]) (T := 28) ?_ (P := fun W => (results Try.f93 _).run Try.prog W = .ok _ W) ?_
                · exact Blk.fill7 Z10
                intro W hW
                obtain ⟨k, f⟩ := hW.rules
                simp [results, Try.results93, go_sem, k]
              · omega
            · have V10 : Blk (w9.setCell ⟨w.heap.size + 1, 3, none⟩ (.int .i64 10000)) (w.heap.size + 1) #[.int .i64 k, .int .i64 t, .int .i64 s, .int .i64 10000, .int .i64 cl, .int .i64 ca, .slice ua xs.length uc] 28 := by have := V9.set 3 (.int .i64 10000); simpa using this
              have Z10 := Z9.other (a := ⟨w.heap.size + 1, 3, none⟩) (by simp) (.int .i64 10000)
              have R10 := row_set R9 (A := w.heap.size + 1) (i := 3) (fun j hj => by have := (R9.lt j hj).1; omega) (.int .i64 10000)
              have hr10 := hr9.setNew (a := ⟨w.heap.size + 1, 3, none⟩) (by simp; omega) (.int .i64 10000)
              have S10 := S9.setNew (p := ⟨w.heap.size + 1, 3, none⟩) (by simp) (.int .i64 10000)
              clear hr9 S9
              go_wp2_with fail
              refine bodyPost_ret (v := verV (k) (t) (s) (10000) (cl) (ca) ua xs.length uc) ?_ rfl ⟨_, _, _, _, _, _, ua, uc, xs, _, rfl, hxl, row_fill7 R10 (fun j hj => by have := (R10.lt j hj).1; omega), ?_, hr10.fill7 (by omega), S10.fill7 (Nat.le_refl _)⟩
              · refine Blk.gen (B := w.heap.size) (vs := #[.int .i64 (k), .int .i64 (t), .int .i64 (s), .int .i64 (10000), .int .i64 (cl), .int .i64 (ca), .slice ua xs.length uc]) (T := 28) ?_ (P := fun W => (results Try.f93 _).run Try.prog W = .ok _ W) ?_
                · exact Blk.fill7 Z10
                intro W hW
                obtain ⟨k, f⟩ := hW.rules
                simp [results, Try.results93, go_sem, k]
              · omega
          · have e2 : (c == 2) = false := by simpa using h2
            by_cases h3 : c = 3
            · subst h3
              have Z8' := Z8.alloc (.cells #[.int .i64 0, .int .i64 99, .int .i64 100] 3)
              have V8' := V8.alloc (.cells #[.int .i64 0, .int .i64 99, .int .i64 100] 3)
              have R8' := R8.alloc (.cells #[.int .i64 0, .int .i64 99, .int .i64 100] 3)
              have S8' := S8.alloc (.cells #[.int .i64 0, .int .i64 99, .int .i64 100] 3)
              have L8 := Blk.new w8 #[.int .i64 0, .int .i64 99, .int .i64 100] 3
              have nL : w8.heap.size ≠ B := by have := hr8.1; omega
              have nL2 : w8.heap.size ≠ w.heap.size + 1 := by omega
              have nL3 : w8.heap.size ≠ w.heap.size := by omega
              clear Z8 V8 R8 S8
              go_wp2_with fail
              refine (pick_any _ _ 3 _ (hr8.alloc _) (by omega) (by omega)).mono ?_
              rintro e w9 ⟨y, rfl, y0, y1, hr9, hs9, hz9⟩
              have Z9 := Z8'.stp hs9 n0
              have V9 := V8'.stp hs9 n1
              have R9 := row_step R8' hs9 (by omega)
              have L9 := L8.stp hs9 nL
              have S9 : Stp B w w9 := S8'.trans hs9
              clear Z8' V8' R8' S8' L8 hr8 hs9 hz9
              obtain ⟨q1, g1⟩ := V9.rules
              obtain ⟨q2, g2⟩ := Z9.rules
              obtain ⟨q3, g3⟩ := L9.rules
              have hy : y = 0 ∨ y = 1 ∨ y = 2 := by omega
              rcases hy with rfl | rfl | rfl
              · have V10 : Blk (w9.setCell ⟨w.heap.size + 1, 5, none⟩ (.int .i64 0)) (w.heap.size + 1) #[.int .i64 k, .int .i64 t, .int .i64 s, .int .i64 val, .int .i64 cl, .int .i64 0, .slice ua xs.length uc] 28 := by have := V9.set 5 (.int .i64 0); simpa using this
                have Z10 := Z9.other (a := ⟨w.heap.size + 1, 5, none⟩) (by simp) (.int .i64 0)
                have R10 := row_set R9 (A := w.heap.size + 1) (i := 5) (fun j hj => by have := (R9.lt j hj).1; omega) (.int .i64 0)
                have hr10 := hr9.setNew (a := ⟨w.heap.size + 1, 5, none⟩) (by simp; omega) (.int .i64 0)
                have S10 := S9.setNew (p := ⟨w.heap.size + 1, 5, none⟩) (by simp) (.int .i64 0)
                clear hr9 S9
                go_wp2_with fail
                refine bodyPost_ret (v := verV (k) (t) (s) (val) (cl) (0) ua xs.length uc) ?_ rfl ⟨_, _, _, _, _, _, ua, uc, xs, _, rfl, hxl, row_fill7 R10 (fun j hj => by have := (R10.lt j hj).1; omega), ?_, hr10.fill7 (by omega), S10.fill7 (Nat.le_refl _)⟩
                · refine Blk.gen (B := w.heap.size) (vs := #[.int .i64 (k), .int .i64 (t), .int .i64 (s), .int .i64 (val), .int .i64 (cl), .int .i64 (0), .slice ua xs.length uc]) (T := 28) ?_ (P := fun W => (results Try.f93 _).run Try.prog W = .ok _ W) ?_
                  · exact Blk.fill7 Z10
                  intro W hW
                  obtain ⟨k, f⟩ := hW.rules
                  simp [results, Try.results93, go_sem, k]
                · omega
              · have V10 : Blk (w9.setCell ⟨w.heap.size + 1, 5, none⟩ (.int .i64 99)) (w.heap.size + 1) #[.int .i64 k, .int .i64 t, .int .i64 s, .int .i64 val, .int .i64 cl, .int .i64 99, .slice ua xs.length uc] 28 := by have := V9.set 5 (.int .i64 99); simpa using this
                have Z10 := Z9.other (a := ⟨w.heap.size + 1, 5, none⟩) (by simp) (.int .i64 99)
                have R10 := row_set R9 (A := w.heap.size + 1) (i := 5) (fun j hj => by have := (R9.lt j hj).1; omega) (.int .i64 99)
                have hr10 := hr9.setNew (a := ⟨w.heap.size + 1, 5, none⟩) (by simp; omega) (.int .i64 99)
                have S10 := S9.setNew (p := ⟨w.heap.size + 1, 5, none⟩) (by simp) (.int .i64 99)
                clear hr9 S9
                go_wp2_with fail
                refine bodyPost_ret (v := verV (k) (t) (s) (val) (cl) (99) ua xs.length uc) ?_ rfl ⟨_, _, _, _, _, _, ua, uc, xs, _, rfl, hxl, row_fill7 R10 (fun j hj => by have := (R10.lt j hj).1; omega), ?_, hr10.fill7 (by omega), S10.fill7 (Nat.le_refl _)⟩
                · refine Blk.gen (B := w.heap.size) (vs := #[.int .i64 (k), .int .i64 (t), .int .i64 (s), .int .i64 (val), .int .i64 (cl), .int .i64 (99), .slice ua xs.length uc]) (T := 28) ?_ (P := fun W => (results Try.f93 _).run Try.prog W = .ok _ W) ?_
                  · exact Blk.fill7 Z10
                  intro W hW
                  obtain ⟨k, f⟩ := hW.rules
                  simp [results, Try.results93, go_sem, k]
                · omega
              · have V10 : Blk (w9.setCell ⟨w.heap.size + 1, 5, none⟩ (.int .i64 100)) (w.heap.size + 1) #[.int .i64 k, .int .i64 t, .int .i64 s, .int .i64 val, .int .i64 cl, .int .i64 100, .slice ua xs.length uc] 28 := by have := V9.set 5 (.int .i64 100); simpa using this
                have Z10 := Z9.other (a := ⟨w.heap.size + 1, 5, none⟩) (by simp) (.int .i64 100)
                have R10 := row_set R9 (A := w.heap.size + 1) (i := 5) (fun j hj => by have := (R9.lt j hj).1; omega) (.int .i64 100)
                have hr10 := hr9.setNew (a := ⟨w.heap.size + 1, 5, none⟩) (by simp; omega) (.int .i64 100)
                have S10 := S9.setNew (p := ⟨w.heap.size + 1, 5, none⟩) (by simp) (.int .i64 100)
                clear hr9 S9
                go_wp2_with fail
                refine bodyPost_ret (v := verV (k) (t) (s) (val) (cl) (100) ua xs.length uc) ?_ rfl ⟨_, _, _, _, _, _, ua, uc, xs, _, rfl, hxl, row_fill7 R10 (fun j hj => by have := (R10.lt j hj).1; omega), ?_, hr10.fill7 (by omega), S10.fill7 (Nat.le_refl _)⟩
                · refine Blk.gen (B := w.heap.size) (vs := #[.int .i64 (k), .int .i64 (t), .int .i64 (s), .int .i64 (val), .int .i64 (cl), .int .i64 (100), .slice ua xs.length uc]) (T := 28) ?_ (P := fun W => (results Try.f93 _).run Try.prog W = .ok _ W) ?_
                  · exact Blk.fill7 Z10
                  intro W hW
                  obtain ⟨k, f⟩ := hW.rules
                  simp [results, Try.results93, go_sem, k]
                · omega
            · have e3 : (c == 3) = false := by simpa using h3
              by_cases h4 : c = 4
              · subst h4
                have Z8' := Z8.alloc (.cells #[.int .i64 (-1), .int .i64 2] 3)
                have V8' := V8.alloc (.cells #[.int .i64 (-1), .int .i64 2] 3)
                have R8' := R8.alloc (.cells #[.int .i64 (-1), .int .i64 2] 3)
                have S8' := S8.alloc (.cells #[.int .i64 (-1), .int .i64 2] 3)
                have L8 := Blk.new w8 #[.int .i64 (-1), .int .i64 2] 3
                have nL : w8.heap.size ≠ B := by have := hr8.1; omega
                have nL2 : w8.heap.size ≠ w.heap.size + 1 := by omega
                have nL3 : w8.heap.size ≠ w.heap.size := by omega
                clear Z8 V8 R8 S8
                go_wp2_with fail
                refine (pick_any _ _ 2 _ (hr8.alloc _) (by omega) (by omega)).mono ?_
                rintro e w9 ⟨y, rfl, y0, y1, hr9, hs9, hz9⟩
                have Z9 := Z8'.stp hs9 n0
                have V9 := V8'.stp hs9 n1
                have R9 := row_step R8' hs9 (by omega)
                have L9 := L8.stp hs9 nL
                have S9 : Stp B w w9 := S8'.trans hs9
                clear Z8' V8' R8' S8' L8 hr8 hs9 hz9
                obtain ⟨q1, g1⟩ := V9.rules
                obtain ⟨q2, g2⟩ := Z9.rules
                obtain ⟨q3, g3⟩ := L9.rules
                have hy : y = 0 ∨ y = 1 := by omega
                rcases hy with rfl | rfl
                · have V10 : Blk (w9.setCell ⟨w.heap.size + 1, 4, none⟩ (.int .i64 (-1))) (w.heap.size + 1) #[.int .i64 k, .int .i64 t, .int .i64 s, .int .i64 val, .int .i64 (-1), .int .i64 ca, .slice ua xs.length uc] 28 := by have := V9.set 4 (.int .i64 (-1)); simpa using this
                  have Z10 := Z9.other (a := ⟨w.heap.size + 1, 4, none⟩) (by simp) (.int .i64 (-1))
                  have R10 := row_set R9 (A := w.heap.size + 1) (i := 4) (fun j hj => by have := (R9.lt j hj).1; omega) (.int .i64 (-1))
                  have hr10 := hr9.setNew (a := ⟨w.heap.size + 1, 4, none⟩) (by simp; omega) (.int .i64 (-1))
                  have S10 := S9.setNew (p := ⟨w.heap.size + 1, 4, none⟩) (by simp) (.int .i64 (-1))
                  clear hr9 S9
                  go_wp2_with fail
                  refine bodyPost_ret (v := verV (k) (t) (s) (val) (-1) (ca) ua xs.length uc) ?_ rfl ⟨_, _, _, _, _, _, ua, uc, xs, _, rfl, hxl, row_fill7 R10 (fun j hj => by have := (R10.lt j hj).1; omega), ?_, hr10.fill7 (by omega), S10.fill7 (Nat.le_refl _)⟩
                  · refine Blk.gen (B := w.heap.size) (vs := #[.int .i64 (k), .int .i64 (t), .int .i64 (s), .int .i64 (val), .int .i64 (-1), .int .i64 (ca), .slice ua xs.length uc]) (T := 28) ?_ (P := fun W => (results Try.f93 _).run Try.prog W = .ok _ W) ?_
                    · exact Blk.fill7 Z10
                    intro W hW
                    obtain ⟨k, f⟩ := hW.rules
                    simp [results, Try.results93, go_sem, k]
                  · omega
                · have V10 : Blk (w9.setCell ⟨w.heap.size + 1, 4, none⟩ (.int .i64 2)) (w.heap.size + 1) #[.int .i64 k, .int .i64 t, .int .i64 s, .int .i64 val, .int .i64 2, .int .i64 ca, .slice ua xs.length uc] 28 := by have := V9.set 4 (.int .i64 2); simpa using this
                  have Z10 := Z9.other (a := ⟨w.heap.size + 1, 4, none⟩) (by simp) (.int .i64 2)
                  have R10 := row_set R9 (A := w.heap.size + 1) (i := 4) (fun j hj => by have := (R9.lt j hj).1; omega) (.int .i64 2)
                  have hr10 := hr9.setNew (a := ⟨w.heap.size + 1, 4, none⟩) (by simp; omega) (.int .i64 2)
                  have S10 := S9.setNew (p := ⟨w.heap.size + 1, 4, none⟩) (by simp) (.int .i64 2)
                  clear hr9 S9
                  go_wp2_with fail
                  refine bodyPost_ret (v := verV (k) (t) (s) (val) (2) (ca) ua xs.length uc) ?_ rfl ⟨_, _, _, _, _, _, ua, uc, xs, _, rfl, hxl, row_fill7 R10 (fun j hj => by have := (R10.lt j hj).1; omega), ?_, hr10.fill7 (by omega), S10.fill7 (Nat.le_refl _)⟩
                  · refine Blk.gen (B := w.heap.size) (vs := #[.int .i64 (k), .int .i64 (t), .int .i64 (s), .int .i64 (val), .int .i64 (2), .int .i64 (ca), .slice ua xs.length uc]) (T := 28) ?_ (P := fun W => (results Try.f93 _).run Try.prog W = .ok _ W) ?_
                    · exact Blk.fill7 Z10
                    intro W hW
                    obtain ⟨k, f⟩ := hW.rules
                    simp [results, Try.results93, go_sem, k]
                  · omega
              · have e4 : (c == 4) = false := by simpa using h4
                obtain ⟨q1, g1⟩ := V8.rules
                obtain ⟨q2, g2⟩ := Z8.rules
                go_wp2_with fail
                refine bodyPost_ret (v := verV (k) (t) (s) (val) (cl) (ca) ua xs.length uc) ?_ rfl ⟨_, _, _, _, _, _, ua, uc, xs, _, rfl, hxl, row_fill7 R8 (fun j hj => by have := (R8.lt j hj).1; omega), ?_, hr8.fill7 (by omega), S8.fill7 (Nat.le_refl _)⟩
                · refine Blk.gen (B := w.heap.size) (vs := #[.int .i64 (k), .int .i64 (t), .int .i64 (s), .int .i64 (val), .int .i64 (cl), .int .i64 (ca), .slice ua xs.length uc]) (T := 28) ?_ (P := fun W => (results Try.f93 _).run Try.prog W = .ok _ W) ?_
                  · exact Blk.fill7 Z8
                  intro W hW
                  obtain ⟨k, f⟩ := hW.rules
                  simp [results, Try.results93, go_sem, k]
                · omega
end Go.Proofs.Ytgdkoangpinieaa
