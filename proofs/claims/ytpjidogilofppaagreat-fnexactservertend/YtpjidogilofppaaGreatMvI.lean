/- The program's ServerMove. -/
import Derived.Test.YtpjidogilofppaaGreatMvE
import Derived.Test.YtpjidogilofppaaGreatZF
namespace Go.Proofs.YtpjidogilofppaaGreat
open Go.ChangeShapes Go.WideShapes Go.ChangeAt Go.RowKit

theorem leave_no (x : Sv) (t1 t2 t3 : Sl) (hs : x.sl = [t1, t2, t3]) (n : Int) (hg : goB x n = false) (B : Nat) (v wv o kk : Value) (w : World) (hB : Blk w B (hostC x.site x.up v wv o kk t1 t2 t3) 88) :
    Calls Tryz.prog 62 #[.pointer (some ⟨B, 0, none⟩), .int .i64 n] w fun e w' => e = .returned (.bool false) ∧ Below w.heap.size w w' := by
  rcases hu : x.up with _ | _
  · rw [hu] at hB; exact leave_down B x.site v wv o kk t1 t2 t3 n w hB
  rw [hu] at hB
  rcases ho : ownsB [t1, t2, t3] n with _ | _
  · exact leave_not B x.site v wv o kk t1 t2 t3 n w hB ho
  have hn : n = 0 ∨ n = 1 ∨ n = 2 := by
    by_cases hn : n < 0 ∨ 3 ≤ n
    · rw [owns_out hn] at ho; cases ho
    · omega
  unfold goB at hg
  rw [hu, hs, ho] at hg
  simp at hg
  rcases hn with rfl | rfl | rfl
  · exact leave_full0 B x.site v wv o kk t1 t2 t3 w hB ho (by have : epAt [t1, t2, t3] 0 = t1.ep := rfl; omega)
  · exact leave_full1 B x.site v wv o kk t1 t2 t3 w hB ho (by have : epAt [t1, t2, t3] 1 = t2.ep := rfl; omega)
  · exact leave_full2 B x.site v wv o kk t1 t2 t3 w hB ho (by have : epAt [t1, t2, t3] 2 = t3.ep := rfl; omega)
theorem notV (b n c : Nat) : ¬ inV (.slice none n c) [] b := fun h => by
  rcases h with h | ⟨y, hy, _⟩
  · simp [Value.ownBlock] at h
  · exact absurd hy (by simp)
theorem notB (b n c : Nat) : (Value.slice none n c).ownBlock ≠ some b := by simp [Value.ownBlock]
theorem zeroW_own (w : World) (base : Nat) : OwnW w base zeroWd ⟨none, 0, none, 0, none, 0, none, 0⟩ [] [] :=
  ⟨World.ownsRow_nil _ _ _ _, OwnV.nil _ _, OwnV.nil _ _, World.ownsRow_nil _ _ _ _, rfl, rfl, fun _ hb => absurd hb (notB _ _ _), fun _ hb => absurd hb (notB _ _ _), fun _ hb => absurd hb (notB _ _ _), fun _ hb => absurd hb (notV _ _ _), fun _ hb => absurd hb (notV _ _ _), fun _ hb => absurd hb (notV _ _ _)⟩
theorem zeroW_in (j : Nat) : ¬ inWd zeroWd ⟨none, 0, none, 0, none, 0, none, 0⟩ [] [] j := fun h => by
  rcases h with hb | hb | hb | hb
  · exact notB _ _ _ hb
  · exact notV _ _ _ hb
  · exact notV _ _ _ hb
  · exact notB _ _ _ hb

theorem fill7_only {w : World} {Z : Nat} {v0 v1 v2 v3 v4 v5 v6 : Value} : Only w (((((((w.setCell ⟨Z, 0, none⟩ v0).setCell ⟨Z, 1, none⟩ v1).setCell ⟨Z, 2, none⟩ v2).setCell ⟨Z, 3, none⟩ v3).setCell ⟨Z, 4, none⟩ v4).setCell ⟨Z, 5, none⟩ v5).setCell ⟨Z, 6, none⟩ v6) (fun b => b = Z) := (((((((Only.refl w (fun b => b = Z)).set (A := Z) rfl _).set (A := Z) rfl _).set (A := Z) rfl _).set (A := Z) rfl _).set (A := Z) rfl _).set (A := Z) rfl _).set (A := Z) rfl _
theorem fill22 {w : World} {A B : Nat} {T T' : TypeId} {a0 a1 a2 a3 a4 a5 a6 b0 b1 b2 b3 b4 b5 b6 b7 b8 b9 b10 b11 b12 b13 b14 v0 v1 v2 v3 v4 v5 v6 u0 u1 u2 u3 u4 u5 u6 u7 u8 u9 u10 u11 u12 u13 u14 : Value} (hA : Blk w A #[a0, a1, a2, a3, a4, a5, a6] T) (hB : Blk w B #[b0, b1, b2, b3, b4, b5, b6, b7, b8, b9, b10, b11, b12, b13, b14] T') (hne : A ≠ B) : Blk ((((((((((((((((((((((w.setCell ⟨A, 0, none⟩ v0).setCell ⟨A, 1, none⟩ v1).setCell ⟨A, 2, none⟩ v2).setCell ⟨A, 3, none⟩ v3).setCell ⟨A, 4, none⟩ v4).setCell ⟨A, 5, none⟩ v5).setCell ⟨A, 6, none⟩ v6).setCell ⟨B, 0, none⟩ u0).setCell ⟨B, 1, none⟩ u1).setCell ⟨B, 2, none⟩ u2).setCell ⟨B, 3, none⟩ u3).setCell ⟨B, 4, none⟩ u4).setCell ⟨B, 5, none⟩ u5).setCell ⟨B, 6, none⟩ u6).setCell ⟨B, 7, none⟩ u7).setCell ⟨B, 8, none⟩ u8).setCell ⟨B, 9, none⟩ u9).setCell ⟨B, 10, none⟩ u10).setCell ⟨B, 11, none⟩ u11).setCell ⟨B, 12, none⟩ u12).setCell ⟨B, 13, none⟩ u13).setCell ⟨B, 14, none⟩ u14) A #[v0, v1, v2, v3, v4, v5, v6] T ∧ Blk ((((((((((((((((((((((w.setCell ⟨A, 0, none⟩ v0).setCell ⟨A, 1, none⟩ v1).setCell ⟨A, 2, none⟩ v2).setCell ⟨A, 3, none⟩ v3).setCell ⟨A, 4, none⟩ v4).setCell ⟨A, 5, none⟩ v5).setCell ⟨A, 6, none⟩ v6).setCell ⟨B, 0, none⟩ u0).setCell ⟨B, 1, none⟩ u1).setCell ⟨B, 2, none⟩ u2).setCell ⟨B, 3, none⟩ u3).setCell ⟨B, 4, none⟩ u4).setCell ⟨B, 5, none⟩ u5).setCell ⟨B, 6, none⟩ u6).setCell ⟨B, 7, none⟩ u7).setCell ⟨B, 8, none⟩ u8).setCell ⟨B, 9, none⟩ u9).setCell ⟨B, 10, none⟩ u10).setCell ⟨B, 11, none⟩ u11).setCell ⟨B, 12, none⟩ u12).setCell ⟨B, 13, none⟩ u13).setCell ⟨B, 14, none⟩ u14) B #[u0, u1, u2, u3, u4, u5, u6, u7, u8, u9, u10, u11, u12, u13, u14] T' :=
  ⟨(fill15_only (Z := B) (v0 := u0) (v1 := u1) (v2 := u2) (v3 := u3) (v4 := u4) (v5 := u5) (v6 := u6) (v7 := u7) (v8 := u8) (v9 := u9) (v10 := u10) (v11 := u11) (v12 := u12) (v13 := u13) (v14 := u14)).blk (Blk.fill7 (v0 := v0) (v1 := v1) (v2 := v2) (v3 := v3) (v4 := v4) (v5 := v5) (v6 := v6) hA) hne, Blk.fill15 (v0 := u0) (v1 := u1) (v2 := u2) (v3 := u3) (v4 := u4) (v5 := u5) (v6 := u6) (v7 := u7) (v8 := u8) (v9 := u9) (v10 := u10) (v11 := u11) (v12 := u12) (v13 := u13) (v14 := u14) ((fill7_only (Z := A) (v0 := v0) (v1 := v1) (v2 := v2) (v3 := v3) (v4 := v4) (v5 := v5) (v6 := v6)).blk hB hne.symm)⟩
theorem fill22_below {n : Nat} {a w : World} {A B : Nat} {v0 v1 v2 v3 v4 v5 v6 u0 u1 u2 u3 u4 u5 u6 u7 u8 u9 u10 u11 u12 u13 u14 : Value} (h : Below n a w) (hA : n ≤ A) (hB : n ≤ B) : Below n a ((((((((((((((((((((((w.setCell ⟨A, 0, none⟩ v0).setCell ⟨A, 1, none⟩ v1).setCell ⟨A, 2, none⟩ v2).setCell ⟨A, 3, none⟩ v3).setCell ⟨A, 4, none⟩ v4).setCell ⟨A, 5, none⟩ v5).setCell ⟨A, 6, none⟩ v6).setCell ⟨B, 0, none⟩ u0).setCell ⟨B, 1, none⟩ u1).setCell ⟨B, 2, none⟩ u2).setCell ⟨B, 3, none⟩ u3).setCell ⟨B, 4, none⟩ u4).setCell ⟨B, 5, none⟩ u5).setCell ⟨B, 6, none⟩ u6).setCell ⟨B, 7, none⟩ u7).setCell ⟨B, 8, none⟩ u8).setCell ⟨B, 9, none⟩ u9).setCell ⟨B, 10, none⟩ u10).setCell ⟨B, 11, none⟩ u11).setCell ⟨B, 12, none⟩ u12).setCell ⟨B, 13, none⟩ u13).setCell ⟨B, 14, none⟩ u14) := fill15_below (fill7_below h hA) hB
theorem fill22_only {w : World} {A B : Nat} {v0 v1 v2 v3 v4 v5 v6 u0 u1 u2 u3 u4 u5 u6 u7 u8 u9 u10 u11 u12 u13 u14 : Value} : Only w ((((((((((((((((((((((w.setCell ⟨A, 0, none⟩ v0).setCell ⟨A, 1, none⟩ v1).setCell ⟨A, 2, none⟩ v2).setCell ⟨A, 3, none⟩ v3).setCell ⟨A, 4, none⟩ v4).setCell ⟨A, 5, none⟩ v5).setCell ⟨A, 6, none⟩ v6).setCell ⟨B, 0, none⟩ u0).setCell ⟨B, 1, none⟩ u1).setCell ⟨B, 2, none⟩ u2).setCell ⟨B, 3, none⟩ u3).setCell ⟨B, 4, none⟩ u4).setCell ⟨B, 5, none⟩ u5).setCell ⟨B, 6, none⟩ u6).setCell ⟨B, 7, none⟩ u7).setCell ⟨B, 8, none⟩ u8).setCell ⟨B, 9, none⟩ u9).setCell ⟨B, 10, none⟩ u10).setCell ⟨B, 11, none⟩ u11).setCell ⟨B, 12, none⟩ u12).setCell ⟨B, 13, none⟩ u13).setCell ⟨B, 14, none⟩ u14) (fun b => b = A ∨ b = B) := (fill7_only.wide fun _ h => .inl h).trans (fill15_only.wide fun _ h => .inr h)

set_option maxHeartbeats 4000000 in
set_option maxRecDepth 20000 in
theorem iMove_no (x : Sv) (a : Sa) (n : Int) (w : World) (hl : LenS x) (h : InS w x a) (hs : servB x = false) : Calls Tryz.prog 17 #[servV x a, .int .i64 n] w fun e w' => ∃ b ys zs c us ts, e = .returned (.tuple #[servV (moveS x n) b, wordV (moveW x n) c, .bool (moveB x n)]) ∧ OwnS w' w.heap.size (moveS x n) b ys zs ∧ OwnW w' w.heap.size (moveW x n) c us ts ∧ (∀ j, inSv (moveS x n) b ys zs j → ¬ inWd (moveW x n) c us ts j) ∧ Below w.heap.size w w' := by
  have b0 : Below w.heap.size w (((w.alloc (.cells #[.int .i64 x.site, .bool x.up, .slice a.la x.sl.length a.lc, .slice a.va x.vs.length a.vc, .slice a.wa x.ws.length a.wc, .slice a.oa x.os.length a.oc, .slice a.ka x.kn.length a.kc] 32)).alloc (.cells #[.int .i64 0, .bool false, .slice none 0 0, .slice none 0 0, .slice none 0 0, .slice none 0 0, .slice none 0 0] 32)).alloc (.cells #[.int .i64 0, .int .i64 0, .int .i64 0, .int .i64 0, .int .i64 0, .int .i64 0, .int .i64 0, .int .i64 0, .bool false, .slice none 0 0, .int .i64 0, .int .i64 0, .slice none 0 0, .slice none 0 0, .slice none 0 0] 41)) := (((Below.refl _ _).alloc (Nat.le_refl _) _).alloc (by simp) _).alloc (by simp; omega) _
  have S0 : Blk (((w.alloc (.cells #[.int .i64 x.site, .bool x.up, .slice a.la x.sl.length a.lc, .slice a.va x.vs.length a.vc, .slice a.wa x.ws.length a.wc, .slice a.oa x.os.length a.oc, .slice a.ka x.kn.length a.kc] 32)).alloc (.cells #[.int .i64 0, .bool false, .slice none 0 0, .slice none 0 0, .slice none 0 0, .slice none 0 0, .slice none 0 0] 32)).alloc (.cells #[.int .i64 0, .int .i64 0, .int .i64 0, .int .i64 0, .int .i64 0, .int .i64 0, .int .i64 0, .int .i64 0, .bool false, .slice none 0 0, .int .i64 0, .int .i64 0, .slice none 0 0, .slice none 0 0, .slice none 0 0] 41)) (w.heap.size + 1) #[.int .i64 0, .bool false, .slice none 0 0, .slice none 0 0, .slice none 0 0, .slice none 0 0, .slice none 0 0] 32 := by have := (Blk.new (w.alloc (.cells #[.int .i64 x.site, .bool x.up, .slice a.la x.sl.length a.lc, .slice a.va x.vs.length a.vc, .slice a.wa x.ws.length a.wc, .slice a.oa x.os.length a.oc, .slice a.ka x.kn.length a.kc] 32)) #[.int .i64 0, .bool false, .slice none 0 0, .slice none 0 0, .slice none 0 0, .slice none 0 0, .slice none 0 0] 32).alloc (.cells #[.int .i64 0, .int .i64 0, .int .i64 0, .int .i64 0, .int .i64 0, .int .i64 0, .int .i64 0, .int .i64 0, .bool false, .slice none 0 0, .int .i64 0, .int .i64 0, .slice none 0 0, .slice none 0 0, .slice none 0 0] 41); simpa using this
  have W0 : Blk (((w.alloc (.cells #[.int .i64 x.site, .bool x.up, .slice a.la x.sl.length a.lc, .slice a.va x.vs.length a.vc, .slice a.wa x.ws.length a.wc, .slice a.oa x.os.length a.oc, .slice a.ka x.kn.length a.kc] 32)).alloc (.cells #[.int .i64 0, .bool false, .slice none 0 0, .slice none 0 0, .slice none 0 0, .slice none 0 0, .slice none 0 0] 32)).alloc (.cells #[.int .i64 0, .int .i64 0, .int .i64 0, .int .i64 0, .int .i64 0, .int .i64 0, .int .i64 0, .int .i64 0, .bool false, .slice none 0 0, .int .i64 0, .int .i64 0, .slice none 0 0, .slice none 0 0, .slice none 0 0] 41)) (w.heap.size + 1 + 1) #[.int .i64 0, .int .i64 0, .int .i64 0, .int .i64 0, .int .i64 0, .int .i64 0, .int .i64 0, .int .i64 0, .bool false, .slice none 0 0, .int .i64 0, .int .i64 0, .slice none 0 0, .slice none 0 0, .slice none 0 0] 41 := by have := Blk.new ((w.alloc (.cells #[.int .i64 x.site, .bool x.up, .slice a.la x.sl.length a.lc, .slice a.va x.vs.length a.vc, .slice a.wa x.ws.length a.wc, .slice a.oa x.os.length a.oc, .slice a.ka x.kn.length a.kc] 32)).alloc (.cells #[.int .i64 0, .bool false, .slice none 0 0, .slice none 0 0, .slice none 0 0, .slice none 0 0, .slice none 0 0] 32)) #[.int .i64 0, .int .i64 0, .int .i64 0, .int .i64 0, .int .i64 0, .int .i64 0, .int .i64 0, .int .i64 0, .bool false, .slice none 0 0, .int .i64 0, .int .i64 0, .slice none 0 0, .slice none 0 0, .slice none 0 0] 41; simpa using this
  have L0 := h.below b0
  clear h
  obtain ⟨m1, m2, m3⟩ := move_no hs n
  rw [m1, m2, m3]
  clear m1 m2 m3
  go_enter Tryz.func17, Tryz.ntmps17
  go_wp2_with fail
  generalize (((w.alloc (.cells #[.int .i64 x.site, .bool x.up, .slice a.la x.sl.length a.lc, .slice a.va x.vs.length a.vc, .slice a.wa x.ws.length a.wc, .slice a.oa x.os.length a.oc, .slice a.ka x.kn.length a.kc] 32)).alloc (.cells #[.int .i64 0, .bool false, .slice none 0 0, .slice none 0 0, .slice none 0 0, .slice none 0 0, .slice none 0 0] 32)).alloc (.cells #[.int .i64 0, .int .i64 0, .int .i64 0, .int .i64 0, .int .i64 0, .int .i64 0, .int .i64 0, .int .i64 0, .bool false, .slice none 0 0, .int .i64 0, .int .i64 0, .slice none 0 0, .slice none 0 0, .slice none 0 0] 41)) = v0 at *
  refine (hostOf_no x a _ hl L0 hs).mono ?_
  rintro e w1 ⟨rfl, hb⟩
  have S1 := S0.below hb S0.lt
  have W1 := W0.below hb W0.lt
  have B1 : Below w.heap.size w w1 := b0.trans (hb.mono b0.size)
  have n1 := hb.size
  have z0 := W0.lt
  have zS := S1.lt
  have zW := W1.lt
  obtain ⟨q1, g1⟩ := S1.rules
  obtain ⟨q2, g2⟩ := W1.rules
  clear S0 W0 b0 hb L0 hs
  go_wp2_with fail
  refine bodyPost_ret (v := .tuple #[.agg #[.int .i64 0, .bool false, .slice none 0 0, .slice none 0 0, .slice none 0 0, .slice none 0 0, .slice none 0 0], .agg #[.int .i64 0, .int .i64 0, .int .i64 0, .int .i64 0, .int .i64 0, .int .i64 0, .int .i64 0, .int .i64 0, .bool false, .slice none 0 0, .int .i64 0, .int .i64 0, .slice none 0 0, .slice none 0 0, .slice none 0 0], .bool false]) ?_ rfl ⟨noA, [], [], ⟨none, 0, none, 0, none, 0, none, 0⟩, [], [], rfl, start_own (World.ownsRow_nil _ _ _ _), zeroW_own _ _, fun j _ => zeroW_in j, ?_⟩
  · refine Blk.gen2 (A := w.heap.size + 1) (B := w.heap.size + 1 + 1) (vs := #[.int .i64 0, .bool false, .slice none 0 0, .slice none 0 0, .slice none 0 0, .slice none 0 0, .slice none 0 0]) (us := #[.int .i64 0, .int .i64 0, .int .i64 0, .int .i64 0, .int .i64 0, .int .i64 0, .int .i64 0, .int .i64 0, .bool false, .slice none 0 0, .int .i64 0, .int .i64 0, .slice none 0 0, .slice none 0 0, .slice none 0 0]) (T := 32) (T' := 41) (P := fun W => (results Tryz.f17 _).run Tryz.prog W = .ok _ W) ((fill22 S1 W1 (by omega)).1.alloc _) ((fill22 S1 W1 (by omega)).2.alloc _) ?_
    intro W hA hB
    obtain ⟨k1, f1⟩ := hA.rules
    obtain ⟨k2, f2⟩ := hB.rules
    simp [results, Tryz.results17, go_sem, k1, k2]
  · exact (fill22_below B1 (by omega) (by omega)).alloc (by have := B1.size; simp; omega) _

set_option maxHeartbeats 4000000 in
set_option maxRecDepth 20000 in
theorem iMove_stays (x : Sv) (a : Sa) (n : Int) (w : World) (hl : LenS x) (h : InS w x a) (hs : servB x = true) (hg : goB x n = false) : Calls Tryz.prog 17 #[servV x a, .int .i64 n] w fun e w' => ∃ b ys zs c us ts, e = .returned (.tuple #[servV (moveS x n) b, wordV (moveW x n) c, .bool (moveB x n)]) ∧ OwnS w' w.heap.size (moveS x n) b ys zs ∧ OwnW w' w.heap.size (moveW x n) c us ts ∧ (∀ j, inSv (moveS x n) b ys zs j → ¬ inWd (moveW x n) c us ts j) ∧ Below w.heap.size w w' := by
  have b0 : Below w.heap.size w (((w.alloc (.cells #[.int .i64 x.site, .bool x.up, .slice a.la x.sl.length a.lc, .slice a.va x.vs.length a.vc, .slice a.wa x.ws.length a.wc, .slice a.oa x.os.length a.oc, .slice a.ka x.kn.length a.kc] 32)).alloc (.cells #[.int .i64 0, .bool false, .slice none 0 0, .slice none 0 0, .slice none 0 0, .slice none 0 0, .slice none 0 0] 32)).alloc (.cells #[.int .i64 0, .int .i64 0, .int .i64 0, .int .i64 0, .int .i64 0, .int .i64 0, .int .i64 0, .int .i64 0, .bool false, .slice none 0 0, .int .i64 0, .int .i64 0, .slice none 0 0, .slice none 0 0, .slice none 0 0] 41)) := (((Below.refl _ _).alloc (Nat.le_refl _) _).alloc (by simp) _).alloc (by simp; omega) _
  have S0 : Blk (((w.alloc (.cells #[.int .i64 x.site, .bool x.up, .slice a.la x.sl.length a.lc, .slice a.va x.vs.length a.vc, .slice a.wa x.ws.length a.wc, .slice a.oa x.os.length a.oc, .slice a.ka x.kn.length a.kc] 32)).alloc (.cells #[.int .i64 0, .bool false, .slice none 0 0, .slice none 0 0, .slice none 0 0, .slice none 0 0, .slice none 0 0] 32)).alloc (.cells #[.int .i64 0, .int .i64 0, .int .i64 0, .int .i64 0, .int .i64 0, .int .i64 0, .int .i64 0, .int .i64 0, .bool false, .slice none 0 0, .int .i64 0, .int .i64 0, .slice none 0 0, .slice none 0 0, .slice none 0 0] 41)) (w.heap.size + 1) #[.int .i64 0, .bool false, .slice none 0 0, .slice none 0 0, .slice none 0 0, .slice none 0 0, .slice none 0 0] 32 := by have := (Blk.new (w.alloc (.cells #[.int .i64 x.site, .bool x.up, .slice a.la x.sl.length a.lc, .slice a.va x.vs.length a.vc, .slice a.wa x.ws.length a.wc, .slice a.oa x.os.length a.oc, .slice a.ka x.kn.length a.kc] 32)) #[.int .i64 0, .bool false, .slice none 0 0, .slice none 0 0, .slice none 0 0, .slice none 0 0, .slice none 0 0] 32).alloc (.cells #[.int .i64 0, .int .i64 0, .int .i64 0, .int .i64 0, .int .i64 0, .int .i64 0, .int .i64 0, .int .i64 0, .bool false, .slice none 0 0, .int .i64 0, .int .i64 0, .slice none 0 0, .slice none 0 0, .slice none 0 0] 41); simpa using this
  have W0 : Blk (((w.alloc (.cells #[.int .i64 x.site, .bool x.up, .slice a.la x.sl.length a.lc, .slice a.va x.vs.length a.vc, .slice a.wa x.ws.length a.wc, .slice a.oa x.os.length a.oc, .slice a.ka x.kn.length a.kc] 32)).alloc (.cells #[.int .i64 0, .bool false, .slice none 0 0, .slice none 0 0, .slice none 0 0, .slice none 0 0, .slice none 0 0] 32)).alloc (.cells #[.int .i64 0, .int .i64 0, .int .i64 0, .int .i64 0, .int .i64 0, .int .i64 0, .int .i64 0, .int .i64 0, .bool false, .slice none 0 0, .int .i64 0, .int .i64 0, .slice none 0 0, .slice none 0 0, .slice none 0 0] 41)) (w.heap.size + 1 + 1) #[.int .i64 0, .int .i64 0, .int .i64 0, .int .i64 0, .int .i64 0, .int .i64 0, .int .i64 0, .int .i64 0, .bool false, .slice none 0 0, .int .i64 0, .int .i64 0, .slice none 0 0, .slice none 0 0, .slice none 0 0] 41 := by have := Blk.new ((w.alloc (.cells #[.int .i64 x.site, .bool x.up, .slice a.la x.sl.length a.lc, .slice a.va x.vs.length a.vc, .slice a.wa x.ws.length a.wc, .slice a.oa x.os.length a.oc, .slice a.ka x.kn.length a.kc] 32)).alloc (.cells #[.int .i64 0, .bool false, .slice none 0 0, .slice none 0 0, .slice none 0 0, .slice none 0 0, .slice none 0 0] 32)) #[.int .i64 0, .int .i64 0, .int .i64 0, .int .i64 0, .int .i64 0, .int .i64 0, .int .i64 0, .int .i64 0, .bool false, .slice none 0 0, .int .i64 0, .int .i64 0, .slice none 0 0, .slice none 0 0, .slice none 0 0] 41; simpa using this
  have L0 := h.below b0
  clear h
  obtain ⟨m1, m2, m3⟩ := move_stays hs hg
  rw [m1, m2, m3]
  clear m1 m2 m3
  obtain ⟨t1, t2, t3, he⟩ := slotsB_three (xs := x.sl) (by unfold servB at hs; simp at hs; exact hs.1.1.1.1.1.1.1)
  have HSL : Hid (x.sl = [t1, t2, t3]) := he
  have hL := fun B v wv o kk W h => leave_no x t1 t2 t3 he n hg B v wv o kk W h
  clear he hg
  go_enter Tryz.func17, Tryz.ntmps17
  go_wp2_with fail
  generalize (((w.alloc (.cells #[.int .i64 x.site, .bool x.up, .slice a.la x.sl.length a.lc, .slice a.va x.vs.length a.vc, .slice a.wa x.ws.length a.wc, .slice a.oa x.os.length a.oc, .slice a.ka x.kn.length a.kc] 32)).alloc (.cells #[.int .i64 0, .bool false, .slice none 0 0, .slice none 0 0, .slice none 0 0, .slice none 0 0, .slice none 0 0] 32)).alloc (.cells #[.int .i64 0, .int .i64 0, .int .i64 0, .int .i64 0, .int .i64 0, .int .i64 0, .int .i64 0, .int .i64 0, .bool false, .slice none 0 0, .int .i64 0, .int .i64 0, .slice none 0 0, .slice none 0 0, .slice none 0 0] 41)) = v0 at *
  refine (hostOf_yes x a t1 t2 t3 _ hl L0 hs HSL.out).mono ?_
  rintro e w1 ⟨va, vc, wa, wc, oa, oc, ka, kc, ys, zs, rfl, K1, hb⟩
  have bt : Below w1.heap.size w1 (w1.alloc (.cells #[.slice va x.vs.length vc, .slice wa x.ws.length wc, .slice oa x.os.length oc, .int .i64 x.site, .bool x.up, .int .i64 t1.ep, .int .i64 t1.st, .int .i64 t2.ep, .int .i64 t2.st, .int .i64 t3.ep, .int .i64 t3.st, .slice ka x.kn.length kc] 88)) := (Below.refl _ _).alloc (Nat.le_refl _) _
  have H1 := Blk.new w1 #[.slice va x.vs.length vc, .slice wa x.ws.length wc, .slice oa x.os.length oc, .int .i64 x.site, .bool x.up, .int .i64 t1.ep, .int .i64 t1.st, .int .i64 t2.ep, .int .i64 t2.st, .int .i64 t3.ep, .int .i64 t3.st, .slice ka x.kn.length kc] 88
  have S1 := (S0.below hb S0.lt).below bt (S0.below hb S0.lt).lt
  have W1 := (W0.below hb W0.lt).below bt (W0.below hb W0.lt).lt
  have K2 := K1.below bt (Nat.le_refl _)
  have B1 : Below w.heap.size w (w1.alloc (.cells #[.slice va x.vs.length vc, .slice wa x.ws.length wc, .slice oa x.os.length oc, .int .i64 x.site, .bool x.up, .int .i64 t1.ep, .int .i64 t1.st, .int .i64 t2.ep, .int .i64 t2.st, .int .i64 t3.ep, .int .i64 t3.st, .slice ka x.kn.length kc] 88)) := (b0.trans (hb.mono b0.size)).trans (bt.mono (by have := b0.size; have := hb.size; omega))
  have n0 := b0.size
  have n1 := hb.size
  have z0 := W0.lt
  have zS := S1.lt
  have zW := W1.lt
  have zu : w1.heap.size < (w1.alloc (.cells #[.slice va x.vs.length vc, .slice wa x.ws.length wc, .slice oa x.os.length oc, .int .i64 x.site, .bool x.up, .int .i64 t1.ep, .int .i64 t1.st, .int .i64 t2.ep, .int .i64 t2.st, .int .i64 t3.ep, .int .i64 t3.st, .slice ka x.kn.length kc] 88)).heap.size := H1.lt
  clear S0 W0 b0 hb L0 hs K1 bt
  go_wp2_with fail
  generalize (w1.alloc (.cells #[.slice va x.vs.length vc, .slice wa x.ws.length wc, .slice oa x.os.length oc, .int .i64 x.site, .bool x.up, .int .i64 t1.ep, .int .i64 t1.st, .int .i64 t2.ep, .int .i64 t2.st, .int .i64 t3.ep, .int .i64 t3.st, .slice ka x.kn.length kc] 88)) = u1 at *
  refine (hL _ _ _ _ _ _ H1).mono ?_
  rintro e w2 ⟨rfl, hb2⟩
  have H2 := H1.below hb2 H1.lt
  have S2 := S1.below hb2 S1.lt
  have W2 := W1.below hb2 W1.lt
  have K3 := K2.below hb2 (Nat.le_refl _)
  have B2 : Below w.heap.size w w2 := B1.trans (hb2.mono B1.size)
  have n2 := hb2.size
  clear hL H1 S1 W1 K2 B1 hb2
  obtain ⟨q1, g1⟩ := H2.rules
  go_wp2_with fail
  clear q1 g1
  refine (server_any x.site x.up va wa oa ka x.vs.length vc x.ws.length wc x.os.length oc x.kn.length kc t1 t2 t3 _).mono ?_
  rintro e w3 ⟨pa, pc, rfl, RS, hb3⟩
  have S3 := S2.below hb3 S2.lt
  have W3 := W2.below hb3 W2.lt
  have K4 := K3.below hb3 (Nat.le_refl _)
  have B3 : Below w.heap.size w w3 := B2.trans (hb3.mono B2.size)
  have RS2 : Hid (RowS w3 w2.heap.size (.slice pa 3 pc) [t1, t2, t3]) := RS
  have n3 := hb3.size
  clear S2 W2 K3 B2 hb3 RS H2
  obtain ⟨q1, g1⟩ := S3.rules
  obtain ⟨q2, g2⟩ := W3.rules
  go_wp2_with fail
  clear q1 g1 q2 g2
  have l : RowS w3 v0.heap.size (.slice pa x.sl.length pc) x.sl := by rw [HSL.out]; exact row_mono RS2.out (by omega)
  have OS := (K4.ups x.up pa pc).withS l
  have OSl : ∀ j, inSv x ⟨pa, pc, va, vc, wa, wc, oa, oc, ka, kc⟩ ys zs j → v0.heap.size ≤ j := fun j hj => (OS.lt hj).1
  refine bodyPost_ret (v := .tuple #[.agg #[.int .i64 x.site, .bool x.up, .slice pa 3 pc, .slice va x.vs.length vc, .slice wa x.ws.length wc, .slice oa x.os.length oc, .slice ka x.kn.length kc], .agg #[.int .i64 0, .int .i64 0, .int .i64 0, .int .i64 0, .int .i64 0, .int .i64 0, .int .i64 0, .int .i64 0, .bool false, .slice none 0 0, .int .i64 0, .int .i64 0, .slice none 0 0, .slice none 0 0, .slice none 0 0], .bool false]) ?_ rfl ⟨⟨pa, pc, va, vc, wa, wc, oa, oc, ka, kc⟩, ys, zs, ⟨none, 0, none, 0, none, 0, none, 0⟩, [], [], by show Ending.returned _ = Ending.returned (Value.tuple #[Value.agg #[.int .i64 x.site, .bool x.up, .slice pa x.sl.length pc, .slice va x.vs.length vc, .slice wa x.ws.length wc, .slice oa x.os.length oc, .slice ka x.kn.length kc], _, _]); rw [HSL.out]; rfl, ?_, zeroW_own _ _, fun j _ => zeroW_in j, fill22_below B3 (by omega) (by omega)⟩
  · refine Blk.gen2 (A := w.heap.size + 1) (B := w.heap.size + 1 + 1) (vs := #[.int .i64 x.site, .bool x.up, .slice pa 3 pc, .slice va x.vs.length vc, .slice wa x.ws.length wc, .slice oa x.os.length oc, .slice ka x.kn.length kc]) (us := #[.int .i64 0, .int .i64 0, .int .i64 0, .int .i64 0, .int .i64 0, .int .i64 0, .int .i64 0, .int .i64 0, .bool false, .slice none 0 0, .int .i64 0, .int .i64 0, .slice none 0 0, .slice none 0 0, .slice none 0 0]) (T := 32) (T' := 41) (P := fun W => (results Tryz.f17 _).run Tryz.prog W = .ok _ W) ((fill22 S3 W3 (by omega)).1) ((fill22 S3 W3 (by omega)).2) ?_
    intro W hA hB
    obtain ⟨k1, f1⟩ := hA.rules
    obtain ⟨k2, f2⟩ := hB.rules
    simp [results, Tryz.results17, go_sem, k1, k2]
  · exact (fill22_only.ownS OS (fun j hj hS => by have := OSl j hj; rcases hS with hS | hS <;> omega)).mono (by omega)
end Go.Proofs.YtpjidogilofppaaGreat
