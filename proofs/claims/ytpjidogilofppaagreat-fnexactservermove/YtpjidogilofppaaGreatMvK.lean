/- The specification's ServerMove. -/
import Derived.Test.YtpjidogilofppaaGreatMvJ
import Derived.Test.YtpjidogilofppaaGreatZF
import Derived.Test.YtpjidogilofppaaGreatSvOkS
namespace Go.Proofs.YtpjidogilofppaaGreat
open Go.ChangeShapes Go.WideShapes Go.ChangeAt Go.RowKit

theorem zeroW_in' (w : World) : InL w zeroWd ⟨none, 0, none, 0, none, 0, none, 0⟩ := ⟨.inl rfl, .inl rfl, .inl rfl, .inl rfl⟩
set_option maxHeartbeats 4000000 in
set_option maxRecDepth 20000 in
theorem sMove_no (x : Sv) (a : Sa) (n : Int) (w : World) (hl : LenS x) (h : InS w x a) (hs : servB x = false) : Calls Tryz.prog 16 #[servV x a, .int .i64 n] w fun e w' => ∃ b c, e = .returned (.tuple #[servV (moveS x n) b, wordV (moveW x n) c, .bool (moveB x n)]) ∧ InS w' (moveS x n) b ∧ InL w' (moveW x n) c ∧ Below w.heap.size w w' := by
  have b0 : Below w.heap.size w (((w.alloc (.cells #[.int .i64 x.site, .bool x.up, .slice a.la x.sl.length a.lc, .slice a.va x.vs.length a.vc, .slice a.wa x.ws.length a.wc, .slice a.oa x.os.length a.oc, .slice a.ka x.kn.length a.kc] 32)).alloc (.cells #[.int .i64 0, .bool false, .slice none 0 0, .slice none 0 0, .slice none 0 0, .slice none 0 0, .slice none 0 0] 32)).alloc (.cells #[.int .i64 0, .int .i64 0, .int .i64 0, .int .i64 0, .int .i64 0, .int .i64 0, .int .i64 0, .int .i64 0, .bool false, .slice none 0 0, .int .i64 0, .int .i64 0, .slice none 0 0, .slice none 0 0, .slice none 0 0] 41)) := (((Below.refl _ _).alloc (Nat.le_refl _) _).alloc (by simp) _).alloc (by simp; omega) _
  have A0 : Blk (((w.alloc (.cells #[.int .i64 x.site, .bool x.up, .slice a.la x.sl.length a.lc, .slice a.va x.vs.length a.vc, .slice a.wa x.ws.length a.wc, .slice a.oa x.os.length a.oc, .slice a.ka x.kn.length a.kc] 32)).alloc (.cells #[.int .i64 0, .bool false, .slice none 0 0, .slice none 0 0, .slice none 0 0, .slice none 0 0, .slice none 0 0] 32)).alloc (.cells #[.int .i64 0, .int .i64 0, .int .i64 0, .int .i64 0, .int .i64 0, .int .i64 0, .int .i64 0, .int .i64 0, .bool false, .slice none 0 0, .int .i64 0, .int .i64 0, .slice none 0 0, .slice none 0 0, .slice none 0 0] 41)) w.heap.size #[.int .i64 x.site, .bool x.up, .slice a.la x.sl.length a.lc, .slice a.va x.vs.length a.vc, .slice a.wa x.ws.length a.wc, .slice a.oa x.os.length a.oc, .slice a.ka x.kn.length a.kc] 32 := ((Blk.new w _ _).alloc _).alloc _
  have S0 : Blk (((w.alloc (.cells #[.int .i64 x.site, .bool x.up, .slice a.la x.sl.length a.lc, .slice a.va x.vs.length a.vc, .slice a.wa x.ws.length a.wc, .slice a.oa x.os.length a.oc, .slice a.ka x.kn.length a.kc] 32)).alloc (.cells #[.int .i64 0, .bool false, .slice none 0 0, .slice none 0 0, .slice none 0 0, .slice none 0 0, .slice none 0 0] 32)).alloc (.cells #[.int .i64 0, .int .i64 0, .int .i64 0, .int .i64 0, .int .i64 0, .int .i64 0, .int .i64 0, .int .i64 0, .bool false, .slice none 0 0, .int .i64 0, .int .i64 0, .slice none 0 0, .slice none 0 0, .slice none 0 0] 41)) (w.heap.size + 1) #[.int .i64 0, .bool false, .slice none 0 0, .slice none 0 0, .slice none 0 0, .slice none 0 0, .slice none 0 0] 32 := by have := (Blk.new (w.alloc (.cells #[.int .i64 x.site, .bool x.up, .slice a.la x.sl.length a.lc, .slice a.va x.vs.length a.vc, .slice a.wa x.ws.length a.wc, .slice a.oa x.os.length a.oc, .slice a.ka x.kn.length a.kc] 32)) #[.int .i64 0, .bool false, .slice none 0 0, .slice none 0 0, .slice none 0 0, .slice none 0 0, .slice none 0 0] 32).alloc (.cells #[.int .i64 0, .int .i64 0, .int .i64 0, .int .i64 0, .int .i64 0, .int .i64 0, .int .i64 0, .int .i64 0, .bool false, .slice none 0 0, .int .i64 0, .int .i64 0, .slice none 0 0, .slice none 0 0, .slice none 0 0] 41); simpa using this
  have W0 : Blk (((w.alloc (.cells #[.int .i64 x.site, .bool x.up, .slice a.la x.sl.length a.lc, .slice a.va x.vs.length a.vc, .slice a.wa x.ws.length a.wc, .slice a.oa x.os.length a.oc, .slice a.ka x.kn.length a.kc] 32)).alloc (.cells #[.int .i64 0, .bool false, .slice none 0 0, .slice none 0 0, .slice none 0 0, .slice none 0 0, .slice none 0 0] 32)).alloc (.cells #[.int .i64 0, .int .i64 0, .int .i64 0, .int .i64 0, .int .i64 0, .int .i64 0, .int .i64 0, .int .i64 0, .bool false, .slice none 0 0, .int .i64 0, .int .i64 0, .slice none 0 0, .slice none 0 0, .slice none 0 0] 41)) (w.heap.size + 1 + 1) #[.int .i64 0, .int .i64 0, .int .i64 0, .int .i64 0, .int .i64 0, .int .i64 0, .int .i64 0, .int .i64 0, .bool false, .slice none 0 0, .int .i64 0, .int .i64 0, .slice none 0 0, .slice none 0 0, .slice none 0 0] 41 := by have := Blk.new ((w.alloc (.cells #[.int .i64 x.site, .bool x.up, .slice a.la x.sl.length a.lc, .slice a.va x.vs.length a.vc, .slice a.wa x.ws.length a.wc, .slice a.oa x.os.length a.oc, .slice a.ka x.kn.length a.kc] 32)).alloc (.cells #[.int .i64 0, .bool false, .slice none 0 0, .slice none 0 0, .slice none 0 0, .slice none 0 0, .slice none 0 0] 32)) #[.int .i64 0, .int .i64 0, .int .i64 0, .int .i64 0, .int .i64 0, .int .i64 0, .int .i64 0, .int .i64 0, .bool false, .slice none 0 0, .int .i64 0, .int .i64 0, .slice none 0 0, .slice none 0 0, .slice none 0 0] 41; simpa using this
  have L0 := h.below b0
  have hO := fun W h => sServerOk_any x a W hl h
  rw [hs] at hO
  obtain ⟨m1, m2, m3⟩ := move_no hs n
  rw [m1, m2, m3]
  clear m1 m2 m3
  go_enter Tryz.func16, Tryz.ntmps16
  go_wp2_with fail
  generalize (((w.alloc (.cells #[.int .i64 x.site, .bool x.up, .slice a.la x.sl.length a.lc, .slice a.va x.vs.length a.vc, .slice a.wa x.ws.length a.wc, .slice a.oa x.os.length a.oc, .slice a.ka x.kn.length a.kc] 32)).alloc (.cells #[.int .i64 0, .bool false, .slice none 0 0, .slice none 0 0, .slice none 0 0, .slice none 0 0, .slice none 0 0] 32)).alloc (.cells #[.int .i64 0, .int .i64 0, .int .i64 0, .int .i64 0, .int .i64 0, .int .i64 0, .int .i64 0, .int .i64 0, .bool false, .slice none 0 0, .int .i64 0, .int .i64 0, .slice none 0 0, .slice none 0 0, .slice none 0 0] 41)) = v0 at *
  refine (hO _ L0).mono ?_
  rintro e w1 ⟨rfl, hb⟩
  have A1 := A0.below hb A0.lt
  have S1 := S0.below hb S0.lt
  have W1 := W0.below hb W0.lt
  have B1 : Below w.heap.size w w1 := b0.trans (hb.mono b0.size)
  have n1 := hb.size
  have n0 := b0.size
  have z0 := W0.lt
  clear S0 W0 A0 b0 hb L0 hs hO
  obtain ⟨q1, g1⟩ := S1.rules
  obtain ⟨q2, g2⟩ := W1.rules
  go_wp2_with fail
  refine bodyPost_ret (v := .tuple #[.agg #[.int .i64 0, .bool false, .slice none 0 0, .slice none 0 0, .slice none 0 0, .slice none 0 0, .slice none 0 0], .agg #[.int .i64 0, .int .i64 0, .int .i64 0, .int .i64 0, .int .i64 0, .int .i64 0, .int .i64 0, .int .i64 0, .bool false, .slice none 0 0, .int .i64 0, .int .i64 0, .slice none 0 0, .slice none 0 0, .slice none 0 0], .bool false]) ?_ rfl ⟨noA, ⟨none, 0, none, 0, none, 0, none, 0⟩, rfl, ⟨.inl rfl, .inl rfl, .inl rfl, .inl rfl, .inl rfl⟩, zeroW_in' _, fill22_below B1 (by omega) (by omega)⟩
  · refine Blk.gen2 (A := w.heap.size + 1) (B := w.heap.size + 1 + 1) (vs := #[.int .i64 0, .bool false, .slice none 0 0, .slice none 0 0, .slice none 0 0, .slice none 0 0, .slice none 0 0]) (us := #[.int .i64 0, .int .i64 0, .int .i64 0, .int .i64 0, .int .i64 0, .int .i64 0, .int .i64 0, .int .i64 0, .bool false, .slice none 0 0, .int .i64 0, .int .i64 0, .slice none 0 0, .slice none 0 0, .slice none 0 0]) (T := 32) (T' := 41) (P := fun W => (results Tryz.f16 _).run Tryz.prog W = .ok _ W) ((fill22 S1 W1 (by omega)).1) ((fill22 S1 W1 (by omega)).2) ?_
    intro W hA hB
    obtain ⟨k1, f1⟩ := hA.rules
    obtain ⟨k2, f2⟩ := hB.rules
    simp [results, Tryz.results16, go_sem, k1, k2]


set_option maxHeartbeats 4000000 in
set_option maxRecDepth 20000 in
theorem sMove_down (x : Sv) (a : Sa) (n : Int) (w : World) (hl : LenS x) (h : InS w x a) (hs : servB x = true) (hg : goB x n = false) (hu : x.up = false) : Calls Tryz.prog 16 #[servV x a, .int .i64 n] w fun e w' => ∃ b c, e = .returned (.tuple #[servV (moveS x n) b, wordV (moveW x n) c, .bool (moveB x n)]) ∧ InS w' (moveS x n) b ∧ InL w' (moveW x n) c ∧ Below w.heap.size w w' := by
  have HU : Hid (x.up = false) := hu
  clear hu
  have b0 : Below w.heap.size w (((w.alloc (.cells #[.int .i64 x.site, .bool x.up, .slice a.la x.sl.length a.lc, .slice a.va x.vs.length a.vc, .slice a.wa x.ws.length a.wc, .slice a.oa x.os.length a.oc, .slice a.ka x.kn.length a.kc] 32)).alloc (.cells #[.int .i64 0, .bool false, .slice none 0 0, .slice none 0 0, .slice none 0 0, .slice none 0 0, .slice none 0 0] 32)).alloc (.cells #[.int .i64 0, .int .i64 0, .int .i64 0, .int .i64 0, .int .i64 0, .int .i64 0, .int .i64 0, .int .i64 0, .bool false, .slice none 0 0, .int .i64 0, .int .i64 0, .slice none 0 0, .slice none 0 0, .slice none 0 0] 41)) := (((Below.refl _ _).alloc (Nat.le_refl _) _).alloc (by simp) _).alloc (by simp; omega) _
  have A0 : Blk (((w.alloc (.cells #[.int .i64 x.site, .bool x.up, .slice a.la x.sl.length a.lc, .slice a.va x.vs.length a.vc, .slice a.wa x.ws.length a.wc, .slice a.oa x.os.length a.oc, .slice a.ka x.kn.length a.kc] 32)).alloc (.cells #[.int .i64 0, .bool false, .slice none 0 0, .slice none 0 0, .slice none 0 0, .slice none 0 0, .slice none 0 0] 32)).alloc (.cells #[.int .i64 0, .int .i64 0, .int .i64 0, .int .i64 0, .int .i64 0, .int .i64 0, .int .i64 0, .int .i64 0, .bool false, .slice none 0 0, .int .i64 0, .int .i64 0, .slice none 0 0, .slice none 0 0, .slice none 0 0] 41)) w.heap.size #[.int .i64 x.site, .bool x.up, .slice a.la x.sl.length a.lc, .slice a.va x.vs.length a.vc, .slice a.wa x.ws.length a.wc, .slice a.oa x.os.length a.oc, .slice a.ka x.kn.length a.kc] 32 := ((Blk.new w _ _).alloc _).alloc _
  have S0 : Blk (((w.alloc (.cells #[.int .i64 x.site, .bool x.up, .slice a.la x.sl.length a.lc, .slice a.va x.vs.length a.vc, .slice a.wa x.ws.length a.wc, .slice a.oa x.os.length a.oc, .slice a.ka x.kn.length a.kc] 32)).alloc (.cells #[.int .i64 0, .bool false, .slice none 0 0, .slice none 0 0, .slice none 0 0, .slice none 0 0, .slice none 0 0] 32)).alloc (.cells #[.int .i64 0, .int .i64 0, .int .i64 0, .int .i64 0, .int .i64 0, .int .i64 0, .int .i64 0, .int .i64 0, .bool false, .slice none 0 0, .int .i64 0, .int .i64 0, .slice none 0 0, .slice none 0 0, .slice none 0 0] 41)) (w.heap.size + 1) #[.int .i64 0, .bool false, .slice none 0 0, .slice none 0 0, .slice none 0 0, .slice none 0 0, .slice none 0 0] 32 := by have := (Blk.new (w.alloc (.cells #[.int .i64 x.site, .bool x.up, .slice a.la x.sl.length a.lc, .slice a.va x.vs.length a.vc, .slice a.wa x.ws.length a.wc, .slice a.oa x.os.length a.oc, .slice a.ka x.kn.length a.kc] 32)) #[.int .i64 0, .bool false, .slice none 0 0, .slice none 0 0, .slice none 0 0, .slice none 0 0, .slice none 0 0] 32).alloc (.cells #[.int .i64 0, .int .i64 0, .int .i64 0, .int .i64 0, .int .i64 0, .int .i64 0, .int .i64 0, .int .i64 0, .bool false, .slice none 0 0, .int .i64 0, .int .i64 0, .slice none 0 0, .slice none 0 0, .slice none 0 0] 41); simpa using this
  have W0 : Blk (((w.alloc (.cells #[.int .i64 x.site, .bool x.up, .slice a.la x.sl.length a.lc, .slice a.va x.vs.length a.vc, .slice a.wa x.ws.length a.wc, .slice a.oa x.os.length a.oc, .slice a.ka x.kn.length a.kc] 32)).alloc (.cells #[.int .i64 0, .bool false, .slice none 0 0, .slice none 0 0, .slice none 0 0, .slice none 0 0, .slice none 0 0] 32)).alloc (.cells #[.int .i64 0, .int .i64 0, .int .i64 0, .int .i64 0, .int .i64 0, .int .i64 0, .int .i64 0, .int .i64 0, .bool false, .slice none 0 0, .int .i64 0, .int .i64 0, .slice none 0 0, .slice none 0 0, .slice none 0 0] 41)) (w.heap.size + 1 + 1) #[.int .i64 0, .int .i64 0, .int .i64 0, .int .i64 0, .int .i64 0, .int .i64 0, .int .i64 0, .int .i64 0, .bool false, .slice none 0 0, .int .i64 0, .int .i64 0, .slice none 0 0, .slice none 0 0, .slice none 0 0] 41 := by have := Blk.new ((w.alloc (.cells #[.int .i64 x.site, .bool x.up, .slice a.la x.sl.length a.lc, .slice a.va x.vs.length a.vc, .slice a.wa x.ws.length a.wc, .slice a.oa x.os.length a.oc, .slice a.ka x.kn.length a.kc] 32)).alloc (.cells #[.int .i64 0, .bool false, .slice none 0 0, .slice none 0 0, .slice none 0 0, .slice none 0 0, .slice none 0 0] 32)) #[.int .i64 0, .int .i64 0, .int .i64 0, .int .i64 0, .int .i64 0, .int .i64 0, .int .i64 0, .int .i64 0, .bool false, .slice none 0 0, .int .i64 0, .int .i64 0, .slice none 0 0, .slice none 0 0, .slice none 0 0] 41; simpa using this
  have L0 := h.below b0
  have hO := fun W h => sServerOk_any x a W hl h
  rw [hs] at hO
  obtain ⟨m1, m2, m3⟩ := move_stays hs hg
  rw [m1, m2, m3]
  clear m1 m2 m3 hg
  go_enter Tryz.func16, Tryz.ntmps16
  go_wp2_with fail
  generalize (((w.alloc (.cells #[.int .i64 x.site, .bool x.up, .slice a.la x.sl.length a.lc, .slice a.va x.vs.length a.vc, .slice a.wa x.ws.length a.wc, .slice a.oa x.os.length a.oc, .slice a.ka x.kn.length a.kc] 32)).alloc (.cells #[.int .i64 0, .bool false, .slice none 0 0, .slice none 0 0, .slice none 0 0, .slice none 0 0, .slice none 0 0] 32)).alloc (.cells #[.int .i64 0, .int .i64 0, .int .i64 0, .int .i64 0, .int .i64 0, .int .i64 0, .int .i64 0, .int .i64 0, .bool false, .slice none 0 0, .int .i64 0, .int .i64 0, .slice none 0 0, .slice none 0 0, .slice none 0 0] 41)) = v0 at *
  refine (hO _ L0).mono ?_
  rintro e w1 ⟨rfl, hb⟩
  have A1 := A0.below hb A0.lt
  have S1 := S0.below hb S0.lt
  have W1 := W0.below hb W0.lt
  have B1 : Below w.heap.size w w1 := b0.trans (hb.mono b0.size)
  have n1 := hb.size
  have n0 := b0.size
  have z0 := W0.lt
  clear S0 W0 A0 b0 hb L0 hs hO
  obtain ⟨q1, g1⟩ := A1.rules
  go_wp2_with fail
  clear q1 g1
  refine (sCopySv_any x a _ hl (h.below B1)).mono ?_
  rintro e w2 ⟨b, ys, zs, rfl, P2, hb⟩
  have bt : Below w2.heap.size w2 (w2.alloc (.cells #[.int .i64 x.site, .bool x.up, .slice b.la x.sl.length b.lc, .slice b.va x.vs.length b.vc, .slice b.wa x.ws.length b.wc, .slice b.oa x.os.length b.oc, .slice b.ka x.kn.length b.kc] 32)) := (Below.refl _ _).alloc (Nat.le_refl _) _
  have kk := hb.trans (bt.mono hb.size)
  have A2 := A1.below kk A1.lt
  have S2 := S1.below kk S1.lt
  have W2 := W1.below kk W1.lt
  have D2 := Blk.new w2 #[.int .i64 x.site, .bool x.up, .slice b.la x.sl.length b.lc, .slice b.va x.vs.length b.vc, .slice b.wa x.ws.length b.wc, .slice b.oa x.os.length b.oc, .slice b.ka x.kn.length b.kc] 32
  have B2 : Below w.heap.size w (w2.alloc (.cells #[.int .i64 x.site, .bool x.up, .slice b.la x.sl.length b.lc, .slice b.va x.vs.length b.vc, .slice b.wa x.ws.length b.wc, .slice b.oa x.os.length b.oc, .slice b.ka x.kn.length b.kc] 32)) := B1.trans (kk.mono B1.size)
  have P3 := P2.below bt (Nat.le_refl _)
  have n2 := hb.size
  clear A1 S1 W1 B1 kk bt hb P2
  have g1 := A2.rules.2
  have q1 : ∀ j, (w2.alloc (.cells #[.int .i64 x.site, .bool x.up, .slice b.la x.sl.length b.lc, .slice b.va x.vs.length b.vc, .slice b.wa x.ws.length b.wc, .slice b.oa x.os.length b.oc, .slice b.ka x.kn.length b.kc] 32)).cell? ⟨w.heap.size, j, none⟩ = #[.int .i64 x.site, .bool false, .slice a.la x.sl.length a.lc, .slice a.va x.vs.length a.vc, .slice a.wa x.ws.length a.wc, .slice a.oa x.os.length a.oc, .slice a.ka x.kn.length a.kc][j]? := fun j => by
    have e1 : (#[.int .i64 x.site, .bool x.up, .slice a.la x.sl.length a.lc, .slice a.va x.vs.length a.vc, .slice a.wa x.ws.length a.wc, .slice a.oa x.os.length a.oc, .slice a.ka x.kn.length a.kc] : Array Value) = #[.int .i64 x.site, .bool false, .slice a.la x.sl.length a.lc, .slice a.va x.vs.length a.vc, .slice a.wa x.ws.length a.wc, .slice a.oa x.os.length a.oc, .slice a.ka x.kn.length a.kc] := by rw [HU.out]
    rw [← e1]
    exact A2.cell j
  obtain ⟨q2, g2⟩ := S2.rules
  obtain ⟨q3, g3⟩ := W2.rules
  obtain ⟨q4, g4⟩ := D2.rules
  go_wp2_with fail
  refine bodyPost_ret (v := .tuple #[.agg #[.int .i64 x.site, .bool x.up, .slice b.la x.sl.length b.lc, .slice b.va x.vs.length b.vc, .slice b.wa x.ws.length b.wc, .slice b.oa x.os.length b.oc, .slice b.ka x.kn.length b.kc], .agg #[.int .i64 0, .int .i64 0, .int .i64 0, .int .i64 0, .int .i64 0, .int .i64 0, .int .i64 0, .int .i64 0, .bool false, .slice none 0 0, .int .i64 0, .int .i64 0, .slice none 0 0, .slice none 0 0, .slice none 0 0], .bool false]) ?_ rfl ⟨b, ⟨none, 0, none, 0, none, 0, none, 0⟩, rfl, ?_, zeroW_in' _, fill22_below B2 (by omega) (by omega)⟩
  · refine Blk.gen2 (A := w.heap.size + 1) (B := w.heap.size + 1 + 1) (vs := #[.int .i64 x.site, .bool x.up, .slice b.la x.sl.length b.lc, .slice b.va x.vs.length b.vc, .slice b.wa x.ws.length b.wc, .slice b.oa x.os.length b.oc, .slice b.ka x.kn.length b.kc]) (us := #[.int .i64 0, .int .i64 0, .int .i64 0, .int .i64 0, .int .i64 0, .int .i64 0, .int .i64 0, .int .i64 0, .bool false, .slice none 0 0, .int .i64 0, .int .i64 0, .slice none 0 0, .slice none 0 0, .slice none 0 0]) (T := 32) (T' := 41) (P := fun W => (results Tryz.f16 _).run Tryz.prog W = .ok _ W) ((fill22 S2 W2 (by omega)).1) ((fill22 S2 W2 (by omega)).2) ?_
    intro W hA hB
    obtain ⟨k1, f1⟩ := hA.rules
    obtain ⟨k2, f2⟩ := hB.rules
    simp [results, Tryz.results16, go_sem, k1, k2]
  · exact (fill22_only.ownS P3 (fun j hj hS => by have := P3.lt hj; rcases hS with hS | hS <;> omega)).inS

set_option maxHeartbeats 4000000 in
set_option maxRecDepth 20000 in
theorem sMove_out (x : Sv) (a : Sa) (n : Int) (w : World) (hl : LenS x) (h : InS w x a) (hs : servB x = true) (hg : goB x n = false) (hu : x.up = true) (hn : n < 0 ∨ 3 ≤ n) : Calls Tryz.prog 16 #[servV x a, .int .i64 n] w fun e w' => ∃ b c, e = .returned (.tuple #[servV (moveS x n) b, wordV (moveW x n) c, .bool (moveB x n)]) ∧ InS w' (moveS x n) b ∧ InL w' (moveW x n) c ∧ Below w.heap.size w w' := by
  have HU : Hid (x.up = true) := hu
  have hI := fun W => in_any n 0 2 W
  have hin : inB n 0 2 = false := by unfold inB; simp; omega
  rw [hin] at hI
  clear hu hn hin
  have b0 : Below w.heap.size w (((w.alloc (.cells #[.int .i64 x.site, .bool x.up, .slice a.la x.sl.length a.lc, .slice a.va x.vs.length a.vc, .slice a.wa x.ws.length a.wc, .slice a.oa x.os.length a.oc, .slice a.ka x.kn.length a.kc] 32)).alloc (.cells #[.int .i64 0, .bool false, .slice none 0 0, .slice none 0 0, .slice none 0 0, .slice none 0 0, .slice none 0 0] 32)).alloc (.cells #[.int .i64 0, .int .i64 0, .int .i64 0, .int .i64 0, .int .i64 0, .int .i64 0, .int .i64 0, .int .i64 0, .bool false, .slice none 0 0, .int .i64 0, .int .i64 0, .slice none 0 0, .slice none 0 0, .slice none 0 0] 41)) := (((Below.refl _ _).alloc (Nat.le_refl _) _).alloc (by simp) _).alloc (by simp; omega) _
  have A0 : Blk (((w.alloc (.cells #[.int .i64 x.site, .bool x.up, .slice a.la x.sl.length a.lc, .slice a.va x.vs.length a.vc, .slice a.wa x.ws.length a.wc, .slice a.oa x.os.length a.oc, .slice a.ka x.kn.length a.kc] 32)).alloc (.cells #[.int .i64 0, .bool false, .slice none 0 0, .slice none 0 0, .slice none 0 0, .slice none 0 0, .slice none 0 0] 32)).alloc (.cells #[.int .i64 0, .int .i64 0, .int .i64 0, .int .i64 0, .int .i64 0, .int .i64 0, .int .i64 0, .int .i64 0, .bool false, .slice none 0 0, .int .i64 0, .int .i64 0, .slice none 0 0, .slice none 0 0, .slice none 0 0] 41)) w.heap.size #[.int .i64 x.site, .bool x.up, .slice a.la x.sl.length a.lc, .slice a.va x.vs.length a.vc, .slice a.wa x.ws.length a.wc, .slice a.oa x.os.length a.oc, .slice a.ka x.kn.length a.kc] 32 := ((Blk.new w _ _).alloc _).alloc _
  have S0 : Blk (((w.alloc (.cells #[.int .i64 x.site, .bool x.up, .slice a.la x.sl.length a.lc, .slice a.va x.vs.length a.vc, .slice a.wa x.ws.length a.wc, .slice a.oa x.os.length a.oc, .slice a.ka x.kn.length a.kc] 32)).alloc (.cells #[.int .i64 0, .bool false, .slice none 0 0, .slice none 0 0, .slice none 0 0, .slice none 0 0, .slice none 0 0] 32)).alloc (.cells #[.int .i64 0, .int .i64 0, .int .i64 0, .int .i64 0, .int .i64 0, .int .i64 0, .int .i64 0, .int .i64 0, .bool false, .slice none 0 0, .int .i64 0, .int .i64 0, .slice none 0 0, .slice none 0 0, .slice none 0 0] 41)) (w.heap.size + 1) #[.int .i64 0, .bool false, .slice none 0 0, .slice none 0 0, .slice none 0 0, .slice none 0 0, .slice none 0 0] 32 := by have := (Blk.new (w.alloc (.cells #[.int .i64 x.site, .bool x.up, .slice a.la x.sl.length a.lc, .slice a.va x.vs.length a.vc, .slice a.wa x.ws.length a.wc, .slice a.oa x.os.length a.oc, .slice a.ka x.kn.length a.kc] 32)) #[.int .i64 0, .bool false, .slice none 0 0, .slice none 0 0, .slice none 0 0, .slice none 0 0, .slice none 0 0] 32).alloc (.cells #[.int .i64 0, .int .i64 0, .int .i64 0, .int .i64 0, .int .i64 0, .int .i64 0, .int .i64 0, .int .i64 0, .bool false, .slice none 0 0, .int .i64 0, .int .i64 0, .slice none 0 0, .slice none 0 0, .slice none 0 0] 41); simpa using this
  have W0 : Blk (((w.alloc (.cells #[.int .i64 x.site, .bool x.up, .slice a.la x.sl.length a.lc, .slice a.va x.vs.length a.vc, .slice a.wa x.ws.length a.wc, .slice a.oa x.os.length a.oc, .slice a.ka x.kn.length a.kc] 32)).alloc (.cells #[.int .i64 0, .bool false, .slice none 0 0, .slice none 0 0, .slice none 0 0, .slice none 0 0, .slice none 0 0] 32)).alloc (.cells #[.int .i64 0, .int .i64 0, .int .i64 0, .int .i64 0, .int .i64 0, .int .i64 0, .int .i64 0, .int .i64 0, .bool false, .slice none 0 0, .int .i64 0, .int .i64 0, .slice none 0 0, .slice none 0 0, .slice none 0 0] 41)) (w.heap.size + 1 + 1) #[.int .i64 0, .int .i64 0, .int .i64 0, .int .i64 0, .int .i64 0, .int .i64 0, .int .i64 0, .int .i64 0, .bool false, .slice none 0 0, .int .i64 0, .int .i64 0, .slice none 0 0, .slice none 0 0, .slice none 0 0] 41 := by have := Blk.new ((w.alloc (.cells #[.int .i64 x.site, .bool x.up, .slice a.la x.sl.length a.lc, .slice a.va x.vs.length a.vc, .slice a.wa x.ws.length a.wc, .slice a.oa x.os.length a.oc, .slice a.ka x.kn.length a.kc] 32)).alloc (.cells #[.int .i64 0, .bool false, .slice none 0 0, .slice none 0 0, .slice none 0 0, .slice none 0 0, .slice none 0 0] 32)) #[.int .i64 0, .int .i64 0, .int .i64 0, .int .i64 0, .int .i64 0, .int .i64 0, .int .i64 0, .int .i64 0, .bool false, .slice none 0 0, .int .i64 0, .int .i64 0, .slice none 0 0, .slice none 0 0, .slice none 0 0] 41; simpa using this
  have L0 := h.below b0
  have hO := fun W h => sServerOk_any x a W hl h
  rw [hs] at hO
  obtain ⟨m1, m2, m3⟩ := move_stays hs hg
  rw [m1, m2, m3]
  clear m1 m2 m3 hg
  go_enter Tryz.func16, Tryz.ntmps16
  go_wp2_with fail
  generalize (((w.alloc (.cells #[.int .i64 x.site, .bool x.up, .slice a.la x.sl.length a.lc, .slice a.va x.vs.length a.vc, .slice a.wa x.ws.length a.wc, .slice a.oa x.os.length a.oc, .slice a.ka x.kn.length a.kc] 32)).alloc (.cells #[.int .i64 0, .bool false, .slice none 0 0, .slice none 0 0, .slice none 0 0, .slice none 0 0, .slice none 0 0] 32)).alloc (.cells #[.int .i64 0, .int .i64 0, .int .i64 0, .int .i64 0, .int .i64 0, .int .i64 0, .int .i64 0, .int .i64 0, .bool false, .slice none 0 0, .int .i64 0, .int .i64 0, .slice none 0 0, .slice none 0 0, .slice none 0 0] 41)) = v0 at *
  refine (hO _ L0).mono ?_
  rintro e w1 ⟨rfl, hb⟩
  have A1 := A0.below hb A0.lt
  have S1 := S0.below hb S0.lt
  have W1 := W0.below hb W0.lt
  have B1 : Below w.heap.size w w1 := b0.trans (hb.mono b0.size)
  have n1 := hb.size
  have n0 := b0.size
  have z0 := W0.lt
  clear S0 W0 A0 b0 hb L0 hs hO
  obtain ⟨q1, g1⟩ := A1.rules
  go_wp2_with fail
  clear q1 g1
  refine (sCopySv_any x a _ hl (h.below B1)).mono ?_
  rintro e w2 ⟨b, ys, zs, rfl, P2, hb⟩
  have bt : Below w2.heap.size w2 (w2.alloc (.cells #[.int .i64 x.site, .bool x.up, .slice b.la x.sl.length b.lc, .slice b.va x.vs.length b.vc, .slice b.wa x.ws.length b.wc, .slice b.oa x.os.length b.oc, .slice b.ka x.kn.length b.kc] 32)) := (Below.refl _ _).alloc (Nat.le_refl _) _
  have kk := hb.trans (bt.mono hb.size)
  have A2 := A1.below kk A1.lt
  have S2 := S1.below kk S1.lt
  have W2 := W1.below kk W1.lt
  have D2 := Blk.new w2 #[.int .i64 x.site, .bool x.up, .slice b.la x.sl.length b.lc, .slice b.va x.vs.length b.vc, .slice b.wa x.ws.length b.wc, .slice b.oa x.os.length b.oc, .slice b.ka x.kn.length b.kc] 32
  have B2 : Below w.heap.size w (w2.alloc (.cells #[.int .i64 x.site, .bool x.up, .slice b.la x.sl.length b.lc, .slice b.va x.vs.length b.vc, .slice b.wa x.ws.length b.wc, .slice b.oa x.os.length b.oc, .slice b.ka x.kn.length b.kc] 32)) := B1.trans (kk.mono B1.size)
  have P3 := P2.below bt (Nat.le_refl _)
  have n2 := hb.size
  clear A1 S1 W1 B1 kk bt hb P2
  have g1 := A2.rules.2
  have q1 : ∀ j, (w2.alloc (.cells #[.int .i64 x.site, .bool x.up, .slice b.la x.sl.length b.lc, .slice b.va x.vs.length b.vc, .slice b.wa x.ws.length b.wc, .slice b.oa x.os.length b.oc, .slice b.ka x.kn.length b.kc] 32)).cell? ⟨w.heap.size, j, none⟩ = #[.int .i64 x.site, .bool true, .slice a.la x.sl.length a.lc, .slice a.va x.vs.length a.vc, .slice a.wa x.ws.length a.wc, .slice a.oa x.os.length a.oc, .slice a.ka x.kn.length a.kc][j]? := fun j => by
    have e1 : (#[.int .i64 x.site, .bool x.up, .slice a.la x.sl.length a.lc, .slice a.va x.vs.length a.vc, .slice a.wa x.ws.length a.wc, .slice a.oa x.os.length a.oc, .slice a.ka x.kn.length a.kc] : Array Value) = #[.int .i64 x.site, .bool true, .slice a.la x.sl.length a.lc, .slice a.va x.vs.length a.vc, .slice a.wa x.ws.length a.wc, .slice a.oa x.os.length a.oc, .slice a.ka x.kn.length a.kc] := by rw [HU.out]
    rw [← e1]
    exact A2.cell j
  obtain ⟨q2, g2⟩ := S2.rules
  obtain ⟨q3, g3⟩ := W2.rules
  obtain ⟨q4, g4⟩ := D2.rules
  go_wp2_with (first | (go_at_call 60; refine (hI _).mono ?_; rintro e wy ⟨rfl, rfl⟩))
  refine bodyPost_ret (v := .tuple #[.agg #[.int .i64 x.site, .bool x.up, .slice b.la x.sl.length b.lc, .slice b.va x.vs.length b.vc, .slice b.wa x.ws.length b.wc, .slice b.oa x.os.length b.oc, .slice b.ka x.kn.length b.kc], .agg #[.int .i64 0, .int .i64 0, .int .i64 0, .int .i64 0, .int .i64 0, .int .i64 0, .int .i64 0, .int .i64 0, .bool false, .slice none 0 0, .int .i64 0, .int .i64 0, .slice none 0 0, .slice none 0 0, .slice none 0 0], .bool false]) ?_ rfl ⟨b, ⟨none, 0, none, 0, none, 0, none, 0⟩, rfl, ?_, zeroW_in' _, fill22_below B2 (by omega) (by omega)⟩
  · refine Blk.gen2 (A := w.heap.size + 1) (B := w.heap.size + 1 + 1) (vs := #[.int .i64 x.site, .bool x.up, .slice b.la x.sl.length b.lc, .slice b.va x.vs.length b.vc, .slice b.wa x.ws.length b.wc, .slice b.oa x.os.length b.oc, .slice b.ka x.kn.length b.kc]) (us := #[.int .i64 0, .int .i64 0, .int .i64 0, .int .i64 0, .int .i64 0, .int .i64 0, .int .i64 0, .int .i64 0, .bool false, .slice none 0 0, .int .i64 0, .int .i64 0, .slice none 0 0, .slice none 0 0, .slice none 0 0]) (T := 32) (T' := 41) (P := fun W => (results Tryz.f16 _).run Tryz.prog W = .ok _ W) ((fill22 S2 W2 (by omega)).1) ((fill22 S2 W2 (by omega)).2) ?_
    intro W hA hB
    obtain ⟨k1, f1⟩ := hA.rules
    obtain ⟨k2, f2⟩ := hB.rules
    simp [results, Tryz.results16, go_sem, k1, k2]
  · exact (fill22_only.ownS P3 (fun j hj hS => by have := P3.lt hj; rcases hS with hS | hS <;> omega)).inS

set_option maxHeartbeats 4000000 in
set_option maxRecDepth 20000 in
theorem sMove_not0 (x : Sv) (a : Sa) (w : World) (hl : LenS x) (h : InS w x a) (hs : servB x = true) (hg : goB x 0 = false) (hu : x.up = true) (t1 t2 t3 : Sl) (he : x.sl = [t1, t2, t3]) (ht : ¬ t1.st = 1) : Calls Tryz.prog 16 #[servV x a, .int .i64 0] w fun e w' => ∃ b c, e = .returned (.tuple #[servV (moveS x 0) b, wordV (moveW x 0) c, .bool (moveB x 0)]) ∧ InS w' (moveS x 0) b ∧ InL w' (moveW x 0) c ∧ Below w.heap.size w w' := by
  have HU : Hid (x.up = true) := hu
  have lsl : x.sl.length = 3 := by rw [he]; rfl
  have HLS : Hid (x.sl.length = 3) := lsl
  obtain ⟨sb, so, hla, hsb, c0, c1⟩ := h.l.at (k := 0) (by omega)
  have HLA : Hid (a.la = some ⟨sb, so, none⟩) := hla
  have e9 : x.sl[0]'(by omega) = t1 := by simp [he]
  rw [e9] at c0 c1
  have d0 : w.cell? ⟨sb, so, none⟩ = some (.int .i64 t1.ep) := by simpa using c0
  have d1 : w.cell? ⟨sb, so + 1, none⟩ = some (.int .i64 t1.st) := by simpa using c1
  have hI := fun W => in_any 0 0 2 W
  have hin : inB 0 0 2 = true := by decide
  rw [hin] at hI
  clear c0 c1 hu hla he
  clear e9
  clear lsl hin
  have dn : (t1.st == 1) = false := by simpa using ht
  have b0 : Below w.heap.size w (((w.alloc (.cells #[.int .i64 x.site, .bool x.up, .slice a.la x.sl.length a.lc, .slice a.va x.vs.length a.vc, .slice a.wa x.ws.length a.wc, .slice a.oa x.os.length a.oc, .slice a.ka x.kn.length a.kc] 32)).alloc (.cells #[.int .i64 0, .bool false, .slice none 0 0, .slice none 0 0, .slice none 0 0, .slice none 0 0, .slice none 0 0] 32)).alloc (.cells #[.int .i64 0, .int .i64 0, .int .i64 0, .int .i64 0, .int .i64 0, .int .i64 0, .int .i64 0, .int .i64 0, .bool false, .slice none 0 0, .int .i64 0, .int .i64 0, .slice none 0 0, .slice none 0 0, .slice none 0 0] 41)) := (((Below.refl _ _).alloc (Nat.le_refl _) _).alloc (by simp) _).alloc (by simp; omega) _
  have A0 : Blk (((w.alloc (.cells #[.int .i64 x.site, .bool x.up, .slice a.la x.sl.length a.lc, .slice a.va x.vs.length a.vc, .slice a.wa x.ws.length a.wc, .slice a.oa x.os.length a.oc, .slice a.ka x.kn.length a.kc] 32)).alloc (.cells #[.int .i64 0, .bool false, .slice none 0 0, .slice none 0 0, .slice none 0 0, .slice none 0 0, .slice none 0 0] 32)).alloc (.cells #[.int .i64 0, .int .i64 0, .int .i64 0, .int .i64 0, .int .i64 0, .int .i64 0, .int .i64 0, .int .i64 0, .bool false, .slice none 0 0, .int .i64 0, .int .i64 0, .slice none 0 0, .slice none 0 0, .slice none 0 0] 41)) w.heap.size #[.int .i64 x.site, .bool x.up, .slice a.la x.sl.length a.lc, .slice a.va x.vs.length a.vc, .slice a.wa x.ws.length a.wc, .slice a.oa x.os.length a.oc, .slice a.ka x.kn.length a.kc] 32 := ((Blk.new w _ _).alloc _).alloc _
  have S0 : Blk (((w.alloc (.cells #[.int .i64 x.site, .bool x.up, .slice a.la x.sl.length a.lc, .slice a.va x.vs.length a.vc, .slice a.wa x.ws.length a.wc, .slice a.oa x.os.length a.oc, .slice a.ka x.kn.length a.kc] 32)).alloc (.cells #[.int .i64 0, .bool false, .slice none 0 0, .slice none 0 0, .slice none 0 0, .slice none 0 0, .slice none 0 0] 32)).alloc (.cells #[.int .i64 0, .int .i64 0, .int .i64 0, .int .i64 0, .int .i64 0, .int .i64 0, .int .i64 0, .int .i64 0, .bool false, .slice none 0 0, .int .i64 0, .int .i64 0, .slice none 0 0, .slice none 0 0, .slice none 0 0] 41)) (w.heap.size + 1) #[.int .i64 0, .bool false, .slice none 0 0, .slice none 0 0, .slice none 0 0, .slice none 0 0, .slice none 0 0] 32 := by have := (Blk.new (w.alloc (.cells #[.int .i64 x.site, .bool x.up, .slice a.la x.sl.length a.lc, .slice a.va x.vs.length a.vc, .slice a.wa x.ws.length a.wc, .slice a.oa x.os.length a.oc, .slice a.ka x.kn.length a.kc] 32)) #[.int .i64 0, .bool false, .slice none 0 0, .slice none 0 0, .slice none 0 0, .slice none 0 0, .slice none 0 0] 32).alloc (.cells #[.int .i64 0, .int .i64 0, .int .i64 0, .int .i64 0, .int .i64 0, .int .i64 0, .int .i64 0, .int .i64 0, .bool false, .slice none 0 0, .int .i64 0, .int .i64 0, .slice none 0 0, .slice none 0 0, .slice none 0 0] 41); simpa using this
  have W0 : Blk (((w.alloc (.cells #[.int .i64 x.site, .bool x.up, .slice a.la x.sl.length a.lc, .slice a.va x.vs.length a.vc, .slice a.wa x.ws.length a.wc, .slice a.oa x.os.length a.oc, .slice a.ka x.kn.length a.kc] 32)).alloc (.cells #[.int .i64 0, .bool false, .slice none 0 0, .slice none 0 0, .slice none 0 0, .slice none 0 0, .slice none 0 0] 32)).alloc (.cells #[.int .i64 0, .int .i64 0, .int .i64 0, .int .i64 0, .int .i64 0, .int .i64 0, .int .i64 0, .int .i64 0, .bool false, .slice none 0 0, .int .i64 0, .int .i64 0, .slice none 0 0, .slice none 0 0, .slice none 0 0] 41)) (w.heap.size + 1 + 1) #[.int .i64 0, .int .i64 0, .int .i64 0, .int .i64 0, .int .i64 0, .int .i64 0, .int .i64 0, .int .i64 0, .bool false, .slice none 0 0, .int .i64 0, .int .i64 0, .slice none 0 0, .slice none 0 0, .slice none 0 0] 41 := by have := Blk.new ((w.alloc (.cells #[.int .i64 x.site, .bool x.up, .slice a.la x.sl.length a.lc, .slice a.va x.vs.length a.vc, .slice a.wa x.ws.length a.wc, .slice a.oa x.os.length a.oc, .slice a.ka x.kn.length a.kc] 32)).alloc (.cells #[.int .i64 0, .bool false, .slice none 0 0, .slice none 0 0, .slice none 0 0, .slice none 0 0, .slice none 0 0] 32)) #[.int .i64 0, .int .i64 0, .int .i64 0, .int .i64 0, .int .i64 0, .int .i64 0, .int .i64 0, .int .i64 0, .bool false, .slice none 0 0, .int .i64 0, .int .i64 0, .slice none 0 0, .slice none 0 0, .slice none 0 0] 41; simpa using this
  have L0 := h.below b0
  have hO := fun W h => sServerOk_any x a W hl h
  rw [hs] at hO
  obtain ⟨m1, m2, m3⟩ := move_stays hs hg
  rw [m1, m2, m3]
  clear m1 m2 m3 hg
  go_enter Tryz.func16, Tryz.ntmps16
  go_wp2_with fail
  generalize (((w.alloc (.cells #[.int .i64 x.site, .bool x.up, .slice a.la x.sl.length a.lc, .slice a.va x.vs.length a.vc, .slice a.wa x.ws.length a.wc, .slice a.oa x.os.length a.oc, .slice a.ka x.kn.length a.kc] 32)).alloc (.cells #[.int .i64 0, .bool false, .slice none 0 0, .slice none 0 0, .slice none 0 0, .slice none 0 0, .slice none 0 0] 32)).alloc (.cells #[.int .i64 0, .int .i64 0, .int .i64 0, .int .i64 0, .int .i64 0, .int .i64 0, .int .i64 0, .int .i64 0, .bool false, .slice none 0 0, .int .i64 0, .int .i64 0, .slice none 0 0, .slice none 0 0, .slice none 0 0] 41)) = v0 at *
  refine (hO _ L0).mono ?_
  rintro e w1 ⟨rfl, hb⟩
  have A1 := A0.below hb A0.lt
  have S1 := S0.below hb S0.lt
  have W1 := W0.below hb W0.lt
  have B1 : Below w.heap.size w w1 := b0.trans (hb.mono b0.size)
  have n1 := hb.size
  have n0 := b0.size
  have z0 := W0.lt
  clear S0 W0 A0 b0 hb L0 hs hO
  obtain ⟨q1, g1⟩ := A1.rules
  go_wp2_with fail
  clear q1 g1
  refine (sCopySv_any x a _ hl (h.below B1)).mono ?_
  rintro e w2 ⟨b, ys, zs, rfl, P2, hb⟩
  have bt : Below w2.heap.size w2 (w2.alloc (.cells #[.int .i64 x.site, .bool x.up, .slice b.la x.sl.length b.lc, .slice b.va x.vs.length b.vc, .slice b.wa x.ws.length b.wc, .slice b.oa x.os.length b.oc, .slice b.ka x.kn.length b.kc] 32)) := (Below.refl _ _).alloc (Nat.le_refl _) _
  have kk := hb.trans (bt.mono hb.size)
  have A2 := A1.below kk A1.lt
  have S2 := S1.below kk S1.lt
  have W2 := W1.below kk W1.lt
  have D2 := Blk.new w2 #[.int .i64 x.site, .bool x.up, .slice b.la x.sl.length b.lc, .slice b.va x.vs.length b.vc, .slice b.wa x.ws.length b.wc, .slice b.oa x.os.length b.oc, .slice b.ka x.kn.length b.kc] 32
  have B2 : Below w.heap.size w (w2.alloc (.cells #[.int .i64 x.site, .bool x.up, .slice b.la x.sl.length b.lc, .slice b.va x.vs.length b.vc, .slice b.wa x.ws.length b.wc, .slice b.oa x.os.length b.oc, .slice b.ka x.kn.length b.kc] 32)) := B1.trans (kk.mono B1.size)
  have P3 := P2.below bt (Nat.le_refl _)
  have n2 := hb.size
  clear A1 S1 W1 B1 kk bt hb P2
  have g1 := A2.rules.2
  have q1 : ∀ j, (w2.alloc (.cells #[.int .i64 x.site, .bool x.up, .slice b.la x.sl.length b.lc, .slice b.va x.vs.length b.vc, .slice b.wa x.ws.length b.wc, .slice b.oa x.os.length b.oc, .slice b.ka x.kn.length b.kc] 32)).cell? ⟨w.heap.size, j, none⟩ = #[.int .i64 x.site, .bool true, .slice (some ⟨sb, so, none⟩) 3 a.lc, .slice a.va x.vs.length a.vc, .slice a.wa x.ws.length a.wc, .slice a.oa x.os.length a.oc, .slice a.ka x.kn.length a.kc][j]? := fun j => by
    have e1 : (#[.int .i64 x.site, .bool x.up, .slice a.la x.sl.length a.lc, .slice a.va x.vs.length a.vc, .slice a.wa x.ws.length a.wc, .slice a.oa x.os.length a.oc, .slice a.ka x.kn.length a.kc] : Array Value) = #[.int .i64 x.site, .bool true, .slice (some ⟨sb, so, none⟩) 3 a.lc, .slice a.va x.vs.length a.vc, .slice a.wa x.ws.length a.wc, .slice a.oa x.os.length a.oc, .slice a.ka x.kn.length a.kc] := by rw [HU.out, HLA.out, HLS.out]
    rw [← e1]
    exact A2.cell j
  obtain ⟨q2, g2⟩ := S2.rules
  obtain ⟨q3, g3⟩ := W2.rules
  obtain ⟨q4, g4⟩ := D2.rules
  have d0' := (B2.cell (p := ⟨sb, so, none⟩) hsb).trans d0
  have d1' := (B2.cell (p := ⟨sb, so + 1, none⟩) hsb).trans d1
  go_wp2_with (first | (go_at_call 60; refine (hI _).mono ?_; rintro e wy ⟨rfl, rfl⟩))
  refine bodyPost_ret (v := .tuple #[.agg #[.int .i64 x.site, .bool x.up, .slice b.la x.sl.length b.lc, .slice b.va x.vs.length b.vc, .slice b.wa x.ws.length b.wc, .slice b.oa x.os.length b.oc, .slice b.ka x.kn.length b.kc], .agg #[.int .i64 0, .int .i64 0, .int .i64 0, .int .i64 0, .int .i64 0, .int .i64 0, .int .i64 0, .int .i64 0, .bool false, .slice none 0 0, .int .i64 0, .int .i64 0, .slice none 0 0, .slice none 0 0, .slice none 0 0], .bool false]) ?_ rfl ⟨b, ⟨none, 0, none, 0, none, 0, none, 0⟩, rfl, ?_, zeroW_in' _, fill22_below B2 (by omega) (by omega)⟩
  · refine Blk.gen2 (A := w.heap.size + 1) (B := w.heap.size + 1 + 1) (vs := #[.int .i64 x.site, .bool x.up, .slice b.la x.sl.length b.lc, .slice b.va x.vs.length b.vc, .slice b.wa x.ws.length b.wc, .slice b.oa x.os.length b.oc, .slice b.ka x.kn.length b.kc]) (us := #[.int .i64 0, .int .i64 0, .int .i64 0, .int .i64 0, .int .i64 0, .int .i64 0, .int .i64 0, .int .i64 0, .bool false, .slice none 0 0, .int .i64 0, .int .i64 0, .slice none 0 0, .slice none 0 0, .slice none 0 0]) (T := 32) (T' := 41) (P := fun W => (results Tryz.f16 _).run Tryz.prog W = .ok _ W) ((fill22 S2 W2 (by omega)).1) ((fill22 S2 W2 (by omega)).2) ?_
    intro W hA hB
    obtain ⟨k1, f1⟩ := hA.rules
    obtain ⟨k2, f2⟩ := hB.rules
    simp [results, Tryz.results16, go_sem, k1, k2]
  · exact (fill22_only.ownS P3 (fun j hj hS => by have := P3.lt hj; rcases hS with hS | hS <;> omega)).inS

set_option maxHeartbeats 4000000 in
set_option maxRecDepth 20000 in
theorem sMove_full0 (x : Sv) (a : Sa) (w : World) (hl : LenS x) (h : InS w x a) (hs : servB x = true) (hg : goB x 0 = false) (hu : x.up = true) (t1 t2 t3 : Sl) (he : x.sl = [t1, t2, t3]) (ht : t1.st = 1) (hf : ¬ t1.ep < 9999) : Calls Tryz.prog 16 #[servV x a, .int .i64 0] w fun e w' => ∃ b c, e = .returned (.tuple #[servV (moveS x 0) b, wordV (moveW x 0) c, .bool (moveB x 0)]) ∧ InS w' (moveS x 0) b ∧ InL w' (moveW x 0) c ∧ Below w.heap.size w w' := by
  have HU : Hid (x.up = true) := hu
  have lsl : x.sl.length = 3 := by rw [he]; rfl
  have HLS : Hid (x.sl.length = 3) := lsl
  obtain ⟨sb, so, hla, hsb, c0, c1⟩ := h.l.at (k := 0) (by omega)
  have HLA : Hid (a.la = some ⟨sb, so, none⟩) := hla
  have e9 : x.sl[0]'(by omega) = t1 := by simp [he]
  rw [e9] at c0 c1
  rw [ht] at c1
  clear ht
  have d0 : w.cell? ⟨sb, so, none⟩ = some (.int .i64 t1.ep) := by simpa using c0
  have d1 : w.cell? ⟨sb, so + 1, none⟩ = some (.int .i64 1) := by simpa using c1
  have hI := fun W => in_any 0 0 2 W
  have hin : inB 0 0 2 = true := by decide
  rw [hin] at hI
  clear c0 c1 hu hla he
  clear e9
  clear lsl hin
  have dn : decide (9999 ≤ t1.ep) = true := by simp; omega
  clear hf
  have b0 : Below w.heap.size w (((w.alloc (.cells #[.int .i64 x.site, .bool x.up, .slice a.la x.sl.length a.lc, .slice a.va x.vs.length a.vc, .slice a.wa x.ws.length a.wc, .slice a.oa x.os.length a.oc, .slice a.ka x.kn.length a.kc] 32)).alloc (.cells #[.int .i64 0, .bool false, .slice none 0 0, .slice none 0 0, .slice none 0 0, .slice none 0 0, .slice none 0 0] 32)).alloc (.cells #[.int .i64 0, .int .i64 0, .int .i64 0, .int .i64 0, .int .i64 0, .int .i64 0, .int .i64 0, .int .i64 0, .bool false, .slice none 0 0, .int .i64 0, .int .i64 0, .slice none 0 0, .slice none 0 0, .slice none 0 0] 41)) := (((Below.refl _ _).alloc (Nat.le_refl _) _).alloc (by simp) _).alloc (by simp; omega) _
  have A0 : Blk (((w.alloc (.cells #[.int .i64 x.site, .bool x.up, .slice a.la x.sl.length a.lc, .slice a.va x.vs.length a.vc, .slice a.wa x.ws.length a.wc, .slice a.oa x.os.length a.oc, .slice a.ka x.kn.length a.kc] 32)).alloc (.cells #[.int .i64 0, .bool false, .slice none 0 0, .slice none 0 0, .slice none 0 0, .slice none 0 0, .slice none 0 0] 32)).alloc (.cells #[.int .i64 0, .int .i64 0, .int .i64 0, .int .i64 0, .int .i64 0, .int .i64 0, .int .i64 0, .int .i64 0, .bool false, .slice none 0 0, .int .i64 0, .int .i64 0, .slice none 0 0, .slice none 0 0, .slice none 0 0] 41)) w.heap.size #[.int .i64 x.site, .bool x.up, .slice a.la x.sl.length a.lc, .slice a.va x.vs.length a.vc, .slice a.wa x.ws.length a.wc, .slice a.oa x.os.length a.oc, .slice a.ka x.kn.length a.kc] 32 := ((Blk.new w _ _).alloc _).alloc _
  have S0 : Blk (((w.alloc (.cells #[.int .i64 x.site, .bool x.up, .slice a.la x.sl.length a.lc, .slice a.va x.vs.length a.vc, .slice a.wa x.ws.length a.wc, .slice a.oa x.os.length a.oc, .slice a.ka x.kn.length a.kc] 32)).alloc (.cells #[.int .i64 0, .bool false, .slice none 0 0, .slice none 0 0, .slice none 0 0, .slice none 0 0, .slice none 0 0] 32)).alloc (.cells #[.int .i64 0, .int .i64 0, .int .i64 0, .int .i64 0, .int .i64 0, .int .i64 0, .int .i64 0, .int .i64 0, .bool false, .slice none 0 0, .int .i64 0, .int .i64 0, .slice none 0 0, .slice none 0 0, .slice none 0 0] 41)) (w.heap.size + 1) #[.int .i64 0, .bool false, .slice none 0 0, .slice none 0 0, .slice none 0 0, .slice none 0 0, .slice none 0 0] 32 := by have := (Blk.new (w.alloc (.cells #[.int .i64 x.site, .bool x.up, .slice a.la x.sl.length a.lc, .slice a.va x.vs.length a.vc, .slice a.wa x.ws.length a.wc, .slice a.oa x.os.length a.oc, .slice a.ka x.kn.length a.kc] 32)) #[.int .i64 0, .bool false, .slice none 0 0, .slice none 0 0, .slice none 0 0, .slice none 0 0, .slice none 0 0] 32).alloc (.cells #[.int .i64 0, .int .i64 0, .int .i64 0, .int .i64 0, .int .i64 0, .int .i64 0, .int .i64 0, .int .i64 0, .bool false, .slice none 0 0, .int .i64 0, .int .i64 0, .slice none 0 0, .slice none 0 0, .slice none 0 0] 41); simpa using this
  have W0 : Blk (((w.alloc (.cells #[.int .i64 x.site, .bool x.up, .slice a.la x.sl.length a.lc, .slice a.va x.vs.length a.vc, .slice a.wa x.ws.length a.wc, .slice a.oa x.os.length a.oc, .slice a.ka x.kn.length a.kc] 32)).alloc (.cells #[.int .i64 0, .bool false, .slice none 0 0, .slice none 0 0, .slice none 0 0, .slice none 0 0, .slice none 0 0] 32)).alloc (.cells #[.int .i64 0, .int .i64 0, .int .i64 0, .int .i64 0, .int .i64 0, .int .i64 0, .int .i64 0, .int .i64 0, .bool false, .slice none 0 0, .int .i64 0, .int .i64 0, .slice none 0 0, .slice none 0 0, .slice none 0 0] 41)) (w.heap.size + 1 + 1) #[.int .i64 0, .int .i64 0, .int .i64 0, .int .i64 0, .int .i64 0, .int .i64 0, .int .i64 0, .int .i64 0, .bool false, .slice none 0 0, .int .i64 0, .int .i64 0, .slice none 0 0, .slice none 0 0, .slice none 0 0] 41 := by have := Blk.new ((w.alloc (.cells #[.int .i64 x.site, .bool x.up, .slice a.la x.sl.length a.lc, .slice a.va x.vs.length a.vc, .slice a.wa x.ws.length a.wc, .slice a.oa x.os.length a.oc, .slice a.ka x.kn.length a.kc] 32)).alloc (.cells #[.int .i64 0, .bool false, .slice none 0 0, .slice none 0 0, .slice none 0 0, .slice none 0 0, .slice none 0 0] 32)) #[.int .i64 0, .int .i64 0, .int .i64 0, .int .i64 0, .int .i64 0, .int .i64 0, .int .i64 0, .int .i64 0, .bool false, .slice none 0 0, .int .i64 0, .int .i64 0, .slice none 0 0, .slice none 0 0, .slice none 0 0] 41; simpa using this
  have L0 := h.below b0
  have hO := fun W h => sServerOk_any x a W hl h
  rw [hs] at hO
  obtain ⟨m1, m2, m3⟩ := move_stays hs hg
  rw [m1, m2, m3]
  clear m1 m2 m3 hg
  go_enter Tryz.func16, Tryz.ntmps16
  go_wp2_with fail
  generalize (((w.alloc (.cells #[.int .i64 x.site, .bool x.up, .slice a.la x.sl.length a.lc, .slice a.va x.vs.length a.vc, .slice a.wa x.ws.length a.wc, .slice a.oa x.os.length a.oc, .slice a.ka x.kn.length a.kc] 32)).alloc (.cells #[.int .i64 0, .bool false, .slice none 0 0, .slice none 0 0, .slice none 0 0, .slice none 0 0, .slice none 0 0] 32)).alloc (.cells #[.int .i64 0, .int .i64 0, .int .i64 0, .int .i64 0, .int .i64 0, .int .i64 0, .int .i64 0, .int .i64 0, .bool false, .slice none 0 0, .int .i64 0, .int .i64 0, .slice none 0 0, .slice none 0 0, .slice none 0 0] 41)) = v0 at *
  refine (hO _ L0).mono ?_
  rintro e w1 ⟨rfl, hb⟩
  have A1 := A0.below hb A0.lt
  have S1 := S0.below hb S0.lt
  have W1 := W0.below hb W0.lt
  have B1 : Below w.heap.size w w1 := b0.trans (hb.mono b0.size)
  have n1 := hb.size
  have n0 := b0.size
  have z0 := W0.lt
  clear S0 W0 A0 b0 hb L0 hs hO
  obtain ⟨q1, g1⟩ := A1.rules
  go_wp2_with fail
  clear q1 g1
  refine (sCopySv_any x a _ hl (h.below B1)).mono ?_
  rintro e w2 ⟨b, ys, zs, rfl, P2, hb⟩
  have bt : Below w2.heap.size w2 (w2.alloc (.cells #[.int .i64 x.site, .bool x.up, .slice b.la x.sl.length b.lc, .slice b.va x.vs.length b.vc, .slice b.wa x.ws.length b.wc, .slice b.oa x.os.length b.oc, .slice b.ka x.kn.length b.kc] 32)) := (Below.refl _ _).alloc (Nat.le_refl _) _
  have kk := hb.trans (bt.mono hb.size)
  have A2 := A1.below kk A1.lt
  have S2 := S1.below kk S1.lt
  have W2 := W1.below kk W1.lt
  have D2 := Blk.new w2 #[.int .i64 x.site, .bool x.up, .slice b.la x.sl.length b.lc, .slice b.va x.vs.length b.vc, .slice b.wa x.ws.length b.wc, .slice b.oa x.os.length b.oc, .slice b.ka x.kn.length b.kc] 32
  have B2 : Below w.heap.size w (w2.alloc (.cells #[.int .i64 x.site, .bool x.up, .slice b.la x.sl.length b.lc, .slice b.va x.vs.length b.vc, .slice b.wa x.ws.length b.wc, .slice b.oa x.os.length b.oc, .slice b.ka x.kn.length b.kc] 32)) := B1.trans (kk.mono B1.size)
  have P3 := P2.below bt (Nat.le_refl _)
  have n2 := hb.size
  clear A1 S1 W1 B1 kk bt hb P2
  have g1 := A2.rules.2
  have q1 : ∀ j, (w2.alloc (.cells #[.int .i64 x.site, .bool x.up, .slice b.la x.sl.length b.lc, .slice b.va x.vs.length b.vc, .slice b.wa x.ws.length b.wc, .slice b.oa x.os.length b.oc, .slice b.ka x.kn.length b.kc] 32)).cell? ⟨w.heap.size, j, none⟩ = #[.int .i64 x.site, .bool true, .slice (some ⟨sb, so, none⟩) 3 a.lc, .slice a.va x.vs.length a.vc, .slice a.wa x.ws.length a.wc, .slice a.oa x.os.length a.oc, .slice a.ka x.kn.length a.kc][j]? := fun j => by
    have e1 : (#[.int .i64 x.site, .bool x.up, .slice a.la x.sl.length a.lc, .slice a.va x.vs.length a.vc, .slice a.wa x.ws.length a.wc, .slice a.oa x.os.length a.oc, .slice a.ka x.kn.length a.kc] : Array Value) = #[.int .i64 x.site, .bool true, .slice (some ⟨sb, so, none⟩) 3 a.lc, .slice a.va x.vs.length a.vc, .slice a.wa x.ws.length a.wc, .slice a.oa x.os.length a.oc, .slice a.ka x.kn.length a.kc] := by rw [HU.out, HLA.out, HLS.out]
    rw [← e1]
    exact A2.cell j
  obtain ⟨q2, g2⟩ := S2.rules
  obtain ⟨q3, g3⟩ := W2.rules
  obtain ⟨q4, g4⟩ := D2.rules
  have d0' := (B2.cell (p := ⟨sb, so, none⟩) hsb).trans d0
  have d1' := (B2.cell (p := ⟨sb, so + 1, none⟩) hsb).trans d1
  go_wp2_with (first | (go_at_call 60; refine (hI _).mono ?_; rintro e wy ⟨rfl, rfl⟩))
  refine bodyPost_ret (v := .tuple #[.agg #[.int .i64 x.site, .bool x.up, .slice b.la x.sl.length b.lc, .slice b.va x.vs.length b.vc, .slice b.wa x.ws.length b.wc, .slice b.oa x.os.length b.oc, .slice b.ka x.kn.length b.kc], .agg #[.int .i64 0, .int .i64 0, .int .i64 0, .int .i64 0, .int .i64 0, .int .i64 0, .int .i64 0, .int .i64 0, .bool false, .slice none 0 0, .int .i64 0, .int .i64 0, .slice none 0 0, .slice none 0 0, .slice none 0 0], .bool false]) ?_ rfl ⟨b, ⟨none, 0, none, 0, none, 0, none, 0⟩, rfl, ?_, zeroW_in' _, fill22_below B2 (by omega) (by omega)⟩
  · refine Blk.gen2 (A := w.heap.size + 1) (B := w.heap.size + 1 + 1) (vs := #[.int .i64 x.site, .bool x.up, .slice b.la x.sl.length b.lc, .slice b.va x.vs.length b.vc, .slice b.wa x.ws.length b.wc, .slice b.oa x.os.length b.oc, .slice b.ka x.kn.length b.kc]) (us := #[.int .i64 0, .int .i64 0, .int .i64 0, .int .i64 0, .int .i64 0, .int .i64 0, .int .i64 0, .int .i64 0, .bool false, .slice none 0 0, .int .i64 0, .int .i64 0, .slice none 0 0, .slice none 0 0, .slice none 0 0]) (T := 32) (T' := 41) (P := fun W => (results Tryz.f16 _).run Tryz.prog W = .ok _ W) ((fill22 S2 W2 (by omega)).1) ((fill22 S2 W2 (by omega)).2) ?_
    intro W hA hB
    obtain ⟨k1, f1⟩ := hA.rules
    obtain ⟨k2, f2⟩ := hB.rules
    simp [results, Tryz.results16, go_sem, k1, k2]
  · exact (fill22_only.ownS P3 (fun j hj hS => by have := P3.lt hj; rcases hS with hS | hS <;> omega)).inS

set_option maxHeartbeats 4000000 in
set_option maxRecDepth 20000 in
theorem sMove_not1 (x : Sv) (a : Sa) (w : World) (hl : LenS x) (h : InS w x a) (hs : servB x = true) (hg : goB x 1 = false) (hu : x.up = true) (t1 t2 t3 : Sl) (he : x.sl = [t1, t2, t3]) (ht : ¬ t2.st = 1) : Calls Tryz.prog 16 #[servV x a, .int .i64 1] w fun e w' => ∃ b c, e = .returned (.tuple #[servV (moveS x 1) b, wordV (moveW x 1) c, .bool (moveB x 1)]) ∧ InS w' (moveS x 1) b ∧ InL w' (moveW x 1) c ∧ Below w.heap.size w w' := by
  have HU : Hid (x.up = true) := hu
  have lsl : x.sl.length = 3 := by rw [he]; rfl
  have HLS : Hid (x.sl.length = 3) := lsl
  obtain ⟨sb, so, hla, hsb, c0, c1⟩ := h.l.at (k := 1) (by omega)
  have HLA : Hid (a.la = some ⟨sb, so, none⟩) := hla
  have e9 : x.sl[1]'(by omega) = t2 := by simp [he]
  rw [e9] at c0 c1
  have d0 : w.cell? ⟨sb, so + 2, none⟩ = some (.int .i64 t2.ep) := by simpa using c0
  have d1 : w.cell? ⟨sb, so + 2 + 1, none⟩ = some (.int .i64 t2.st) := by simpa using c1
  have hI := fun W => in_any 1 0 2 W
  have hin : inB 1 0 2 = true := by decide
  rw [hin] at hI
  clear c0 c1 hu hla he
  clear e9
  clear lsl hin
  have dn : (t2.st == 1) = false := by simpa using ht
  have b0 : Below w.heap.size w (((w.alloc (.cells #[.int .i64 x.site, .bool x.up, .slice a.la x.sl.length a.lc, .slice a.va x.vs.length a.vc, .slice a.wa x.ws.length a.wc, .slice a.oa x.os.length a.oc, .slice a.ka x.kn.length a.kc] 32)).alloc (.cells #[.int .i64 0, .bool false, .slice none 0 0, .slice none 0 0, .slice none 0 0, .slice none 0 0, .slice none 0 0] 32)).alloc (.cells #[.int .i64 0, .int .i64 0, .int .i64 0, .int .i64 0, .int .i64 0, .int .i64 0, .int .i64 0, .int .i64 0, .bool false, .slice none 0 0, .int .i64 0, .int .i64 0, .slice none 0 0, .slice none 0 0, .slice none 0 0] 41)) := (((Below.refl _ _).alloc (Nat.le_refl _) _).alloc (by simp) _).alloc (by simp; omega) _
  have A0 : Blk (((w.alloc (.cells #[.int .i64 x.site, .bool x.up, .slice a.la x.sl.length a.lc, .slice a.va x.vs.length a.vc, .slice a.wa x.ws.length a.wc, .slice a.oa x.os.length a.oc, .slice a.ka x.kn.length a.kc] 32)).alloc (.cells #[.int .i64 0, .bool false, .slice none 0 0, .slice none 0 0, .slice none 0 0, .slice none 0 0, .slice none 0 0] 32)).alloc (.cells #[.int .i64 0, .int .i64 0, .int .i64 0, .int .i64 0, .int .i64 0, .int .i64 0, .int .i64 0, .int .i64 0, .bool false, .slice none 0 0, .int .i64 0, .int .i64 0, .slice none 0 0, .slice none 0 0, .slice none 0 0] 41)) w.heap.size #[.int .i64 x.site, .bool x.up, .slice a.la x.sl.length a.lc, .slice a.va x.vs.length a.vc, .slice a.wa x.ws.length a.wc, .slice a.oa x.os.length a.oc, .slice a.ka x.kn.length a.kc] 32 := ((Blk.new w _ _).alloc _).alloc _
  have S0 : Blk (((w.alloc (.cells #[.int .i64 x.site, .bool x.up, .slice a.la x.sl.length a.lc, .slice a.va x.vs.length a.vc, .slice a.wa x.ws.length a.wc, .slice a.oa x.os.length a.oc, .slice a.ka x.kn.length a.kc] 32)).alloc (.cells #[.int .i64 0, .bool false, .slice none 0 0, .slice none 0 0, .slice none 0 0, .slice none 0 0, .slice none 0 0] 32)).alloc (.cells #[.int .i64 0, .int .i64 0, .int .i64 0, .int .i64 0, .int .i64 0, .int .i64 0, .int .i64 0, .int .i64 0, .bool false, .slice none 0 0, .int .i64 0, .int .i64 0, .slice none 0 0, .slice none 0 0, .slice none 0 0] 41)) (w.heap.size + 1) #[.int .i64 0, .bool false, .slice none 0 0, .slice none 0 0, .slice none 0 0, .slice none 0 0, .slice none 0 0] 32 := by have := (Blk.new (w.alloc (.cells #[.int .i64 x.site, .bool x.up, .slice a.la x.sl.length a.lc, .slice a.va x.vs.length a.vc, .slice a.wa x.ws.length a.wc, .slice a.oa x.os.length a.oc, .slice a.ka x.kn.length a.kc] 32)) #[.int .i64 0, .bool false, .slice none 0 0, .slice none 0 0, .slice none 0 0, .slice none 0 0, .slice none 0 0] 32).alloc (.cells #[.int .i64 0, .int .i64 0, .int .i64 0, .int .i64 0, .int .i64 0, .int .i64 0, .int .i64 0, .int .i64 0, .bool false, .slice none 0 0, .int .i64 0, .int .i64 0, .slice none 0 0, .slice none 0 0, .slice none 0 0] 41); simpa using this
  have W0 : Blk (((w.alloc (.cells #[.int .i64 x.site, .bool x.up, .slice a.la x.sl.length a.lc, .slice a.va x.vs.length a.vc, .slice a.wa x.ws.length a.wc, .slice a.oa x.os.length a.oc, .slice a.ka x.kn.length a.kc] 32)).alloc (.cells #[.int .i64 0, .bool false, .slice none 0 0, .slice none 0 0, .slice none 0 0, .slice none 0 0, .slice none 0 0] 32)).alloc (.cells #[.int .i64 0, .int .i64 0, .int .i64 0, .int .i64 0, .int .i64 0, .int .i64 0, .int .i64 0, .int .i64 0, .bool false, .slice none 0 0, .int .i64 0, .int .i64 0, .slice none 0 0, .slice none 0 0, .slice none 0 0] 41)) (w.heap.size + 1 + 1) #[.int .i64 0, .int .i64 0, .int .i64 0, .int .i64 0, .int .i64 0, .int .i64 0, .int .i64 0, .int .i64 0, .bool false, .slice none 0 0, .int .i64 0, .int .i64 0, .slice none 0 0, .slice none 0 0, .slice none 0 0] 41 := by have := Blk.new ((w.alloc (.cells #[.int .i64 x.site, .bool x.up, .slice a.la x.sl.length a.lc, .slice a.va x.vs.length a.vc, .slice a.wa x.ws.length a.wc, .slice a.oa x.os.length a.oc, .slice a.ka x.kn.length a.kc] 32)).alloc (.cells #[.int .i64 0, .bool false, .slice none 0 0, .slice none 0 0, .slice none 0 0, .slice none 0 0, .slice none 0 0] 32)) #[.int .i64 0, .int .i64 0, .int .i64 0, .int .i64 0, .int .i64 0, .int .i64 0, .int .i64 0, .int .i64 0, .bool false, .slice none 0 0, .int .i64 0, .int .i64 0, .slice none 0 0, .slice none 0 0, .slice none 0 0] 41; simpa using this
  have L0 := h.below b0
  have hO := fun W h => sServerOk_any x a W hl h
  rw [hs] at hO
  obtain ⟨m1, m2, m3⟩ := move_stays hs hg
  rw [m1, m2, m3]
  clear m1 m2 m3 hg
  go_enter Tryz.func16, Tryz.ntmps16
  go_wp2_with fail
  generalize (((w.alloc (.cells #[.int .i64 x.site, .bool x.up, .slice a.la x.sl.length a.lc, .slice a.va x.vs.length a.vc, .slice a.wa x.ws.length a.wc, .slice a.oa x.os.length a.oc, .slice a.ka x.kn.length a.kc] 32)).alloc (.cells #[.int .i64 0, .bool false, .slice none 0 0, .slice none 0 0, .slice none 0 0, .slice none 0 0, .slice none 0 0] 32)).alloc (.cells #[.int .i64 0, .int .i64 0, .int .i64 0, .int .i64 0, .int .i64 0, .int .i64 0, .int .i64 0, .int .i64 0, .bool false, .slice none 0 0, .int .i64 0, .int .i64 0, .slice none 0 0, .slice none 0 0, .slice none 0 0] 41)) = v0 at *
  refine (hO _ L0).mono ?_
  rintro e w1 ⟨rfl, hb⟩
  have A1 := A0.below hb A0.lt
  have S1 := S0.below hb S0.lt
  have W1 := W0.below hb W0.lt
  have B1 : Below w.heap.size w w1 := b0.trans (hb.mono b0.size)
  have n1 := hb.size
  have n0 := b0.size
  have z0 := W0.lt
  clear S0 W0 A0 b0 hb L0 hs hO
  obtain ⟨q1, g1⟩ := A1.rules
  go_wp2_with fail
  clear q1 g1
  refine (sCopySv_any x a _ hl (h.below B1)).mono ?_
  rintro e w2 ⟨b, ys, zs, rfl, P2, hb⟩
  have bt : Below w2.heap.size w2 (w2.alloc (.cells #[.int .i64 x.site, .bool x.up, .slice b.la x.sl.length b.lc, .slice b.va x.vs.length b.vc, .slice b.wa x.ws.length b.wc, .slice b.oa x.os.length b.oc, .slice b.ka x.kn.length b.kc] 32)) := (Below.refl _ _).alloc (Nat.le_refl _) _
  have kk := hb.trans (bt.mono hb.size)
  have A2 := A1.below kk A1.lt
  have S2 := S1.below kk S1.lt
  have W2 := W1.below kk W1.lt
  have D2 := Blk.new w2 #[.int .i64 x.site, .bool x.up, .slice b.la x.sl.length b.lc, .slice b.va x.vs.length b.vc, .slice b.wa x.ws.length b.wc, .slice b.oa x.os.length b.oc, .slice b.ka x.kn.length b.kc] 32
  have B2 : Below w.heap.size w (w2.alloc (.cells #[.int .i64 x.site, .bool x.up, .slice b.la x.sl.length b.lc, .slice b.va x.vs.length b.vc, .slice b.wa x.ws.length b.wc, .slice b.oa x.os.length b.oc, .slice b.ka x.kn.length b.kc] 32)) := B1.trans (kk.mono B1.size)
  have P3 := P2.below bt (Nat.le_refl _)
  have n2 := hb.size
  clear A1 S1 W1 B1 kk bt hb P2
  have g1 := A2.rules.2
  have q1 : ∀ j, (w2.alloc (.cells #[.int .i64 x.site, .bool x.up, .slice b.la x.sl.length b.lc, .slice b.va x.vs.length b.vc, .slice b.wa x.ws.length b.wc, .slice b.oa x.os.length b.oc, .slice b.ka x.kn.length b.kc] 32)).cell? ⟨w.heap.size, j, none⟩ = #[.int .i64 x.site, .bool true, .slice (some ⟨sb, so, none⟩) 3 a.lc, .slice a.va x.vs.length a.vc, .slice a.wa x.ws.length a.wc, .slice a.oa x.os.length a.oc, .slice a.ka x.kn.length a.kc][j]? := fun j => by
    have e1 : (#[.int .i64 x.site, .bool x.up, .slice a.la x.sl.length a.lc, .slice a.va x.vs.length a.vc, .slice a.wa x.ws.length a.wc, .slice a.oa x.os.length a.oc, .slice a.ka x.kn.length a.kc] : Array Value) = #[.int .i64 x.site, .bool true, .slice (some ⟨sb, so, none⟩) 3 a.lc, .slice a.va x.vs.length a.vc, .slice a.wa x.ws.length a.wc, .slice a.oa x.os.length a.oc, .slice a.ka x.kn.length a.kc] := by rw [HU.out, HLA.out, HLS.out]
    rw [← e1]
    exact A2.cell j
  obtain ⟨q2, g2⟩ := S2.rules
  obtain ⟨q3, g3⟩ := W2.rules
  obtain ⟨q4, g4⟩ := D2.rules
  have d0' := (B2.cell (p := ⟨sb, so + 2, none⟩) hsb).trans d0
  have d1' := (B2.cell (p := ⟨sb, so + 2 + 1, none⟩) hsb).trans d1
  go_wp2_with (first | (go_at_call 60; refine (hI _).mono ?_; rintro e wy ⟨rfl, rfl⟩))
  refine bodyPost_ret (v := .tuple #[.agg #[.int .i64 x.site, .bool x.up, .slice b.la x.sl.length b.lc, .slice b.va x.vs.length b.vc, .slice b.wa x.ws.length b.wc, .slice b.oa x.os.length b.oc, .slice b.ka x.kn.length b.kc], .agg #[.int .i64 0, .int .i64 0, .int .i64 0, .int .i64 0, .int .i64 0, .int .i64 0, .int .i64 0, .int .i64 0, .bool false, .slice none 0 0, .int .i64 0, .int .i64 0, .slice none 0 0, .slice none 0 0, .slice none 0 0], .bool false]) ?_ rfl ⟨b, ⟨none, 0, none, 0, none, 0, none, 0⟩, rfl, ?_, zeroW_in' _, fill22_below B2 (by omega) (by omega)⟩
  · refine Blk.gen2 (A := w.heap.size + 1) (B := w.heap.size + 1 + 1) (vs := #[.int .i64 x.site, .bool x.up, .slice b.la x.sl.length b.lc, .slice b.va x.vs.length b.vc, .slice b.wa x.ws.length b.wc, .slice b.oa x.os.length b.oc, .slice b.ka x.kn.length b.kc]) (us := #[.int .i64 0, .int .i64 0, .int .i64 0, .int .i64 0, .int .i64 0, .int .i64 0, .int .i64 0, .int .i64 0, .bool false, .slice none 0 0, .int .i64 0, .int .i64 0, .slice none 0 0, .slice none 0 0, .slice none 0 0]) (T := 32) (T' := 41) (P := fun W => (results Tryz.f16 _).run Tryz.prog W = .ok _ W) ((fill22 S2 W2 (by omega)).1) ((fill22 S2 W2 (by omega)).2) ?_
    intro W hA hB
    obtain ⟨k1, f1⟩ := hA.rules
    obtain ⟨k2, f2⟩ := hB.rules
    simp [results, Tryz.results16, go_sem, k1, k2]
  · exact (fill22_only.ownS P3 (fun j hj hS => by have := P3.lt hj; rcases hS with hS | hS <;> omega)).inS

set_option maxHeartbeats 4000000 in
set_option maxRecDepth 20000 in
theorem sMove_full1 (x : Sv) (a : Sa) (w : World) (hl : LenS x) (h : InS w x a) (hs : servB x = true) (hg : goB x 1 = false) (hu : x.up = true) (t1 t2 t3 : Sl) (he : x.sl = [t1, t2, t3]) (ht : t2.st = 1) (hf : ¬ t2.ep < 9999) : Calls Tryz.prog 16 #[servV x a, .int .i64 1] w fun e w' => ∃ b c, e = .returned (.tuple #[servV (moveS x 1) b, wordV (moveW x 1) c, .bool (moveB x 1)]) ∧ InS w' (moveS x 1) b ∧ InL w' (moveW x 1) c ∧ Below w.heap.size w w' := by
  have HU : Hid (x.up = true) := hu
  have lsl : x.sl.length = 3 := by rw [he]; rfl
  have HLS : Hid (x.sl.length = 3) := lsl
  obtain ⟨sb, so, hla, hsb, c0, c1⟩ := h.l.at (k := 1) (by omega)
  have HLA : Hid (a.la = some ⟨sb, so, none⟩) := hla
  have e9 : x.sl[1]'(by omega) = t2 := by simp [he]
  rw [e9] at c0 c1
  rw [ht] at c1
  clear ht
  have d0 : w.cell? ⟨sb, so + 2, none⟩ = some (.int .i64 t2.ep) := by simpa using c0
  have d1 : w.cell? ⟨sb, so + 2 + 1, none⟩ = some (.int .i64 1) := by simpa using c1
  have hI := fun W => in_any 1 0 2 W
  have hin : inB 1 0 2 = true := by decide
  rw [hin] at hI
  clear c0 c1 hu hla he
  clear e9
  clear lsl hin
  have dn : decide (9999 ≤ t2.ep) = true := by simp; omega
  clear hf
  have b0 : Below w.heap.size w (((w.alloc (.cells #[.int .i64 x.site, .bool x.up, .slice a.la x.sl.length a.lc, .slice a.va x.vs.length a.vc, .slice a.wa x.ws.length a.wc, .slice a.oa x.os.length a.oc, .slice a.ka x.kn.length a.kc] 32)).alloc (.cells #[.int .i64 0, .bool false, .slice none 0 0, .slice none 0 0, .slice none 0 0, .slice none 0 0, .slice none 0 0] 32)).alloc (.cells #[.int .i64 0, .int .i64 0, .int .i64 0, .int .i64 0, .int .i64 0, .int .i64 0, .int .i64 0, .int .i64 0, .bool false, .slice none 0 0, .int .i64 0, .int .i64 0, .slice none 0 0, .slice none 0 0, .slice none 0 0] 41)) := (((Below.refl _ _).alloc (Nat.le_refl _) _).alloc (by simp) _).alloc (by simp; omega) _
  have A0 : Blk (((w.alloc (.cells #[.int .i64 x.site, .bool x.up, .slice a.la x.sl.length a.lc, .slice a.va x.vs.length a.vc, .slice a.wa x.ws.length a.wc, .slice a.oa x.os.length a.oc, .slice a.ka x.kn.length a.kc] 32)).alloc (.cells #[.int .i64 0, .bool false, .slice none 0 0, .slice none 0 0, .slice none 0 0, .slice none 0 0, .slice none 0 0] 32)).alloc (.cells #[.int .i64 0, .int .i64 0, .int .i64 0, .int .i64 0, .int .i64 0, .int .i64 0, .int .i64 0, .int .i64 0, .bool false, .slice none 0 0, .int .i64 0, .int .i64 0, .slice none 0 0, .slice none 0 0, .slice none 0 0] 41)) w.heap.size #[.int .i64 x.site, .bool x.up, .slice a.la x.sl.length a.lc, .slice a.va x.vs.length a.vc, .slice a.wa x.ws.length a.wc, .slice a.oa x.os.length a.oc, .slice a.ka x.kn.length a.kc] 32 := ((Blk.new w _ _).alloc _).alloc _
  have S0 : Blk (((w.alloc (.cells #[.int .i64 x.site, .bool x.up, .slice a.la x.sl.length a.lc, .slice a.va x.vs.length a.vc, .slice a.wa x.ws.length a.wc, .slice a.oa x.os.length a.oc, .slice a.ka x.kn.length a.kc] 32)).alloc (.cells #[.int .i64 0, .bool false, .slice none 0 0, .slice none 0 0, .slice none 0 0, .slice none 0 0, .slice none 0 0] 32)).alloc (.cells #[.int .i64 0, .int .i64 0, .int .i64 0, .int .i64 0, .int .i64 0, .int .i64 0, .int .i64 0, .int .i64 0, .bool false, .slice none 0 0, .int .i64 0, .int .i64 0, .slice none 0 0, .slice none 0 0, .slice none 0 0] 41)) (w.heap.size + 1) #[.int .i64 0, .bool false, .slice none 0 0, .slice none 0 0, .slice none 0 0, .slice none 0 0, .slice none 0 0] 32 := by have := (Blk.new (w.alloc (.cells #[.int .i64 x.site, .bool x.up, .slice a.la x.sl.length a.lc, .slice a.va x.vs.length a.vc, .slice a.wa x.ws.length a.wc, .slice a.oa x.os.length a.oc, .slice a.ka x.kn.length a.kc] 32)) #[.int .i64 0, .bool false, .slice none 0 0, .slice none 0 0, .slice none 0 0, .slice none 0 0, .slice none 0 0] 32).alloc (.cells #[.int .i64 0, .int .i64 0, .int .i64 0, .int .i64 0, .int .i64 0, .int .i64 0, .int .i64 0, .int .i64 0, .bool false, .slice none 0 0, .int .i64 0, .int .i64 0, .slice none 0 0, .slice none 0 0, .slice none 0 0] 41); simpa using this
  have W0 : Blk (((w.alloc (.cells #[.int .i64 x.site, .bool x.up, .slice a.la x.sl.length a.lc, .slice a.va x.vs.length a.vc, .slice a.wa x.ws.length a.wc, .slice a.oa x.os.length a.oc, .slice a.ka x.kn.length a.kc] 32)).alloc (.cells #[.int .i64 0, .bool false, .slice none 0 0, .slice none 0 0, .slice none 0 0, .slice none 0 0, .slice none 0 0] 32)).alloc (.cells #[.int .i64 0, .int .i64 0, .int .i64 0, .int .i64 0, .int .i64 0, .int .i64 0, .int .i64 0, .int .i64 0, .bool false, .slice none 0 0, .int .i64 0, .int .i64 0, .slice none 0 0, .slice none 0 0, .slice none 0 0] 41)) (w.heap.size + 1 + 1) #[.int .i64 0, .int .i64 0, .int .i64 0, .int .i64 0, .int .i64 0, .int .i64 0, .int .i64 0, .int .i64 0, .bool false, .slice none 0 0, .int .i64 0, .int .i64 0, .slice none 0 0, .slice none 0 0, .slice none 0 0] 41 := by have := Blk.new ((w.alloc (.cells #[.int .i64 x.site, .bool x.up, .slice a.la x.sl.length a.lc, .slice a.va x.vs.length a.vc, .slice a.wa x.ws.length a.wc, .slice a.oa x.os.length a.oc, .slice a.ka x.kn.length a.kc] 32)).alloc (.cells #[.int .i64 0, .bool false, .slice none 0 0, .slice none 0 0, .slice none 0 0, .slice none 0 0, .slice none 0 0] 32)) #[.int .i64 0, .int .i64 0, .int .i64 0, .int .i64 0, .int .i64 0, .int .i64 0, .int .i64 0, .int .i64 0, .bool false, .slice none 0 0, .int .i64 0, .int .i64 0, .slice none 0 0, .slice none 0 0, .slice none 0 0] 41; simpa using this
  have L0 := h.below b0
  have hO := fun W h => sServerOk_any x a W hl h
  rw [hs] at hO
  obtain ⟨m1, m2, m3⟩ := move_stays hs hg
  rw [m1, m2, m3]
  clear m1 m2 m3 hg
  go_enter Tryz.func16, Tryz.ntmps16
  go_wp2_with fail
  generalize (((w.alloc (.cells #[.int .i64 x.site, .bool x.up, .slice a.la x.sl.length a.lc, .slice a.va x.vs.length a.vc, .slice a.wa x.ws.length a.wc, .slice a.oa x.os.length a.oc, .slice a.ka x.kn.length a.kc] 32)).alloc (.cells #[.int .i64 0, .bool false, .slice none 0 0, .slice none 0 0, .slice none 0 0, .slice none 0 0, .slice none 0 0] 32)).alloc (.cells #[.int .i64 0, .int .i64 0, .int .i64 0, .int .i64 0, .int .i64 0, .int .i64 0, .int .i64 0, .int .i64 0, .bool false, .slice none 0 0, .int .i64 0, .int .i64 0, .slice none 0 0, .slice none 0 0, .slice none 0 0] 41)) = v0 at *
  refine (hO _ L0).mono ?_
  rintro e w1 ⟨rfl, hb⟩
  have A1 := A0.below hb A0.lt
  have S1 := S0.below hb S0.lt
  have W1 := W0.below hb W0.lt
  have B1 : Below w.heap.size w w1 := b0.trans (hb.mono b0.size)
  have n1 := hb.size
  have n0 := b0.size
  have z0 := W0.lt
  clear S0 W0 A0 b0 hb L0 hs hO
  obtain ⟨q1, g1⟩ := A1.rules
  go_wp2_with fail
  clear q1 g1
  refine (sCopySv_any x a _ hl (h.below B1)).mono ?_
  rintro e w2 ⟨b, ys, zs, rfl, P2, hb⟩
  have bt : Below w2.heap.size w2 (w2.alloc (.cells #[.int .i64 x.site, .bool x.up, .slice b.la x.sl.length b.lc, .slice b.va x.vs.length b.vc, .slice b.wa x.ws.length b.wc, .slice b.oa x.os.length b.oc, .slice b.ka x.kn.length b.kc] 32)) := (Below.refl _ _).alloc (Nat.le_refl _) _
  have kk := hb.trans (bt.mono hb.size)
  have A2 := A1.below kk A1.lt
  have S2 := S1.below kk S1.lt
  have W2 := W1.below kk W1.lt
  have D2 := Blk.new w2 #[.int .i64 x.site, .bool x.up, .slice b.la x.sl.length b.lc, .slice b.va x.vs.length b.vc, .slice b.wa x.ws.length b.wc, .slice b.oa x.os.length b.oc, .slice b.ka x.kn.length b.kc] 32
  have B2 : Below w.heap.size w (w2.alloc (.cells #[.int .i64 x.site, .bool x.up, .slice b.la x.sl.length b.lc, .slice b.va x.vs.length b.vc, .slice b.wa x.ws.length b.wc, .slice b.oa x.os.length b.oc, .slice b.ka x.kn.length b.kc] 32)) := B1.trans (kk.mono B1.size)
  have P3 := P2.below bt (Nat.le_refl _)
  have n2 := hb.size
  clear A1 S1 W1 B1 kk bt hb P2
  have g1 := A2.rules.2
  have q1 : ∀ j, (w2.alloc (.cells #[.int .i64 x.site, .bool x.up, .slice b.la x.sl.length b.lc, .slice b.va x.vs.length b.vc, .slice b.wa x.ws.length b.wc, .slice b.oa x.os.length b.oc, .slice b.ka x.kn.length b.kc] 32)).cell? ⟨w.heap.size, j, none⟩ = #[.int .i64 x.site, .bool true, .slice (some ⟨sb, so, none⟩) 3 a.lc, .slice a.va x.vs.length a.vc, .slice a.wa x.ws.length a.wc, .slice a.oa x.os.length a.oc, .slice a.ka x.kn.length a.kc][j]? := fun j => by
    have e1 : (#[.int .i64 x.site, .bool x.up, .slice a.la x.sl.length a.lc, .slice a.va x.vs.length a.vc, .slice a.wa x.ws.length a.wc, .slice a.oa x.os.length a.oc, .slice a.ka x.kn.length a.kc] : Array Value) = #[.int .i64 x.site, .bool true, .slice (some ⟨sb, so, none⟩) 3 a.lc, .slice a.va x.vs.length a.vc, .slice a.wa x.ws.length a.wc, .slice a.oa x.os.length a.oc, .slice a.ka x.kn.length a.kc] := by rw [HU.out, HLA.out, HLS.out]
    rw [← e1]
    exact A2.cell j
  obtain ⟨q2, g2⟩ := S2.rules
  obtain ⟨q3, g3⟩ := W2.rules
  obtain ⟨q4, g4⟩ := D2.rules
  have d0' := (B2.cell (p := ⟨sb, so + 2, none⟩) hsb).trans d0
  have d1' := (B2.cell (p := ⟨sb, so + 2 + 1, none⟩) hsb).trans d1
  go_wp2_with (first | (go_at_call 60; refine (hI _).mono ?_; rintro e wy ⟨rfl, rfl⟩))
  refine bodyPost_ret (v := .tuple #[.agg #[.int .i64 x.site, .bool x.up, .slice b.la x.sl.length b.lc, .slice b.va x.vs.length b.vc, .slice b.wa x.ws.length b.wc, .slice b.oa x.os.length b.oc, .slice b.ka x.kn.length b.kc], .agg #[.int .i64 0, .int .i64 0, .int .i64 0, .int .i64 0, .int .i64 0, .int .i64 0, .int .i64 0, .int .i64 0, .bool false, .slice none 0 0, .int .i64 0, .int .i64 0, .slice none 0 0, .slice none 0 0, .slice none 0 0], .bool false]) ?_ rfl ⟨b, ⟨none, 0, none, 0, none, 0, none, 0⟩, rfl, ?_, zeroW_in' _, fill22_below B2 (by omega) (by omega)⟩
  · refine Blk.gen2 (A := w.heap.size + 1) (B := w.heap.size + 1 + 1) (vs := #[.int .i64 x.site, .bool x.up, .slice b.la x.sl.length b.lc, .slice b.va x.vs.length b.vc, .slice b.wa x.ws.length b.wc, .slice b.oa x.os.length b.oc, .slice b.ka x.kn.length b.kc]) (us := #[.int .i64 0, .int .i64 0, .int .i64 0, .int .i64 0, .int .i64 0, .int .i64 0, .int .i64 0, .int .i64 0, .bool false, .slice none 0 0, .int .i64 0, .int .i64 0, .slice none 0 0, .slice none 0 0, .slice none 0 0]) (T := 32) (T' := 41) (P := fun W => (results Tryz.f16 _).run Tryz.prog W = .ok _ W) ((fill22 S2 W2 (by omega)).1) ((fill22 S2 W2 (by omega)).2) ?_
    intro W hA hB
    obtain ⟨k1, f1⟩ := hA.rules
    obtain ⟨k2, f2⟩ := hB.rules
    simp [results, Tryz.results16, go_sem, k1, k2]
  · exact (fill22_only.ownS P3 (fun j hj hS => by have := P3.lt hj; rcases hS with hS | hS <;> omega)).inS

set_option maxHeartbeats 4000000 in
set_option maxRecDepth 20000 in
theorem sMove_not2 (x : Sv) (a : Sa) (w : World) (hl : LenS x) (h : InS w x a) (hs : servB x = true) (hg : goB x 2 = false) (hu : x.up = true) (t1 t2 t3 : Sl) (he : x.sl = [t1, t2, t3]) (ht : ¬ t3.st = 1) : Calls Tryz.prog 16 #[servV x a, .int .i64 2] w fun e w' => ∃ b c, e = .returned (.tuple #[servV (moveS x 2) b, wordV (moveW x 2) c, .bool (moveB x 2)]) ∧ InS w' (moveS x 2) b ∧ InL w' (moveW x 2) c ∧ Below w.heap.size w w' := by
  have HU : Hid (x.up = true) := hu
  have lsl : x.sl.length = 3 := by rw [he]; rfl
  have HLS : Hid (x.sl.length = 3) := lsl
  obtain ⟨sb, so, hla, hsb, c0, c1⟩ := h.l.at (k := 2) (by omega)
  have HLA : Hid (a.la = some ⟨sb, so, none⟩) := hla
  have e9 : x.sl[2]'(by omega) = t3 := by simp [he]
  rw [e9] at c0 c1
  have d0 : w.cell? ⟨sb, so + 4, none⟩ = some (.int .i64 t3.ep) := by simpa using c0
  have d1 : w.cell? ⟨sb, so + 4 + 1, none⟩ = some (.int .i64 t3.st) := by simpa using c1
  have hI := fun W => in_any 2 0 2 W
  have hin : inB 2 0 2 = true := by decide
  rw [hin] at hI
  clear c0 c1 hu hla he
  clear e9
  clear lsl hin
  have dn : (t3.st == 1) = false := by simpa using ht
  have b0 : Below w.heap.size w (((w.alloc (.cells #[.int .i64 x.site, .bool x.up, .slice a.la x.sl.length a.lc, .slice a.va x.vs.length a.vc, .slice a.wa x.ws.length a.wc, .slice a.oa x.os.length a.oc, .slice a.ka x.kn.length a.kc] 32)).alloc (.cells #[.int .i64 0, .bool false, .slice none 0 0, .slice none 0 0, .slice none 0 0, .slice none 0 0, .slice none 0 0] 32)).alloc (.cells #[.int .i64 0, .int .i64 0, .int .i64 0, .int .i64 0, .int .i64 0, .int .i64 0, .int .i64 0, .int .i64 0, .bool false, .slice none 0 0, .int .i64 0, .int .i64 0, .slice none 0 0, .slice none 0 0, .slice none 0 0] 41)) := (((Below.refl _ _).alloc (Nat.le_refl _) _).alloc (by simp) _).alloc (by simp; omega) _
  have A0 : Blk (((w.alloc (.cells #[.int .i64 x.site, .bool x.up, .slice a.la x.sl.length a.lc, .slice a.va x.vs.length a.vc, .slice a.wa x.ws.length a.wc, .slice a.oa x.os.length a.oc, .slice a.ka x.kn.length a.kc] 32)).alloc (.cells #[.int .i64 0, .bool false, .slice none 0 0, .slice none 0 0, .slice none 0 0, .slice none 0 0, .slice none 0 0] 32)).alloc (.cells #[.int .i64 0, .int .i64 0, .int .i64 0, .int .i64 0, .int .i64 0, .int .i64 0, .int .i64 0, .int .i64 0, .bool false, .slice none 0 0, .int .i64 0, .int .i64 0, .slice none 0 0, .slice none 0 0, .slice none 0 0] 41)) w.heap.size #[.int .i64 x.site, .bool x.up, .slice a.la x.sl.length a.lc, .slice a.va x.vs.length a.vc, .slice a.wa x.ws.length a.wc, .slice a.oa x.os.length a.oc, .slice a.ka x.kn.length a.kc] 32 := ((Blk.new w _ _).alloc _).alloc _
  have S0 : Blk (((w.alloc (.cells #[.int .i64 x.site, .bool x.up, .slice a.la x.sl.length a.lc, .slice a.va x.vs.length a.vc, .slice a.wa x.ws.length a.wc, .slice a.oa x.os.length a.oc, .slice a.ka x.kn.length a.kc] 32)).alloc (.cells #[.int .i64 0, .bool false, .slice none 0 0, .slice none 0 0, .slice none 0 0, .slice none 0 0, .slice none 0 0] 32)).alloc (.cells #[.int .i64 0, .int .i64 0, .int .i64 0, .int .i64 0, .int .i64 0, .int .i64 0, .int .i64 0, .int .i64 0, .bool false, .slice none 0 0, .int .i64 0, .int .i64 0, .slice none 0 0, .slice none 0 0, .slice none 0 0] 41)) (w.heap.size + 1) #[.int .i64 0, .bool false, .slice none 0 0, .slice none 0 0, .slice none 0 0, .slice none 0 0, .slice none 0 0] 32 := by have := (Blk.new (w.alloc (.cells #[.int .i64 x.site, .bool x.up, .slice a.la x.sl.length a.lc, .slice a.va x.vs.length a.vc, .slice a.wa x.ws.length a.wc, .slice a.oa x.os.length a.oc, .slice a.ka x.kn.length a.kc] 32)) #[.int .i64 0, .bool false, .slice none 0 0, .slice none 0 0, .slice none 0 0, .slice none 0 0, .slice none 0 0] 32).alloc (.cells #[.int .i64 0, .int .i64 0, .int .i64 0, .int .i64 0, .int .i64 0, .int .i64 0, .int .i64 0, .int .i64 0, .bool false, .slice none 0 0, .int .i64 0, .int .i64 0, .slice none 0 0, .slice none 0 0, .slice none 0 0] 41); simpa using this
  have W0 : Blk (((w.alloc (.cells #[.int .i64 x.site, .bool x.up, .slice a.la x.sl.length a.lc, .slice a.va x.vs.length a.vc, .slice a.wa x.ws.length a.wc, .slice a.oa x.os.length a.oc, .slice a.ka x.kn.length a.kc] 32)).alloc (.cells #[.int .i64 0, .bool false, .slice none 0 0, .slice none 0 0, .slice none 0 0, .slice none 0 0, .slice none 0 0] 32)).alloc (.cells #[.int .i64 0, .int .i64 0, .int .i64 0, .int .i64 0, .int .i64 0, .int .i64 0, .int .i64 0, .int .i64 0, .bool false, .slice none 0 0, .int .i64 0, .int .i64 0, .slice none 0 0, .slice none 0 0, .slice none 0 0] 41)) (w.heap.size + 1 + 1) #[.int .i64 0, .int .i64 0, .int .i64 0, .int .i64 0, .int .i64 0, .int .i64 0, .int .i64 0, .int .i64 0, .bool false, .slice none 0 0, .int .i64 0, .int .i64 0, .slice none 0 0, .slice none 0 0, .slice none 0 0] 41 := by have := Blk.new ((w.alloc (.cells #[.int .i64 x.site, .bool x.up, .slice a.la x.sl.length a.lc, .slice a.va x.vs.length a.vc, .slice a.wa x.ws.length a.wc, .slice a.oa x.os.length a.oc, .slice a.ka x.kn.length a.kc] 32)).alloc (.cells #[.int .i64 0, .bool false, .slice none 0 0, .slice none 0 0, .slice none 0 0, .slice none 0 0, .slice none 0 0] 32)) #[.int .i64 0, .int .i64 0, .int .i64 0, .int .i64 0, .int .i64 0, .int .i64 0, .int .i64 0, .int .i64 0, .bool false, .slice none 0 0, .int .i64 0, .int .i64 0, .slice none 0 0, .slice none 0 0, .slice none 0 0] 41; simpa using this
  have L0 := h.below b0
  have hO := fun W h => sServerOk_any x a W hl h
  rw [hs] at hO
  obtain ⟨m1, m2, m3⟩ := move_stays hs hg
  rw [m1, m2, m3]
  clear m1 m2 m3 hg
  go_enter Tryz.func16, Tryz.ntmps16
  go_wp2_with fail
  generalize (((w.alloc (.cells #[.int .i64 x.site, .bool x.up, .slice a.la x.sl.length a.lc, .slice a.va x.vs.length a.vc, .slice a.wa x.ws.length a.wc, .slice a.oa x.os.length a.oc, .slice a.ka x.kn.length a.kc] 32)).alloc (.cells #[.int .i64 0, .bool false, .slice none 0 0, .slice none 0 0, .slice none 0 0, .slice none 0 0, .slice none 0 0] 32)).alloc (.cells #[.int .i64 0, .int .i64 0, .int .i64 0, .int .i64 0, .int .i64 0, .int .i64 0, .int .i64 0, .int .i64 0, .bool false, .slice none 0 0, .int .i64 0, .int .i64 0, .slice none 0 0, .slice none 0 0, .slice none 0 0] 41)) = v0 at *
  refine (hO _ L0).mono ?_
  rintro e w1 ⟨rfl, hb⟩
  have A1 := A0.below hb A0.lt
  have S1 := S0.below hb S0.lt
  have W1 := W0.below hb W0.lt
  have B1 : Below w.heap.size w w1 := b0.trans (hb.mono b0.size)
  have n1 := hb.size
  have n0 := b0.size
  have z0 := W0.lt
  clear S0 W0 A0 b0 hb L0 hs hO
  obtain ⟨q1, g1⟩ := A1.rules
  go_wp2_with fail
  clear q1 g1
  refine (sCopySv_any x a _ hl (h.below B1)).mono ?_
  rintro e w2 ⟨b, ys, zs, rfl, P2, hb⟩
  have bt : Below w2.heap.size w2 (w2.alloc (.cells #[.int .i64 x.site, .bool x.up, .slice b.la x.sl.length b.lc, .slice b.va x.vs.length b.vc, .slice b.wa x.ws.length b.wc, .slice b.oa x.os.length b.oc, .slice b.ka x.kn.length b.kc] 32)) := (Below.refl _ _).alloc (Nat.le_refl _) _
  have kk := hb.trans (bt.mono hb.size)
  have A2 := A1.below kk A1.lt
  have S2 := S1.below kk S1.lt
  have W2 := W1.below kk W1.lt
  have D2 := Blk.new w2 #[.int .i64 x.site, .bool x.up, .slice b.la x.sl.length b.lc, .slice b.va x.vs.length b.vc, .slice b.wa x.ws.length b.wc, .slice b.oa x.os.length b.oc, .slice b.ka x.kn.length b.kc] 32
  have B2 : Below w.heap.size w (w2.alloc (.cells #[.int .i64 x.site, .bool x.up, .slice b.la x.sl.length b.lc, .slice b.va x.vs.length b.vc, .slice b.wa x.ws.length b.wc, .slice b.oa x.os.length b.oc, .slice b.ka x.kn.length b.kc] 32)) := B1.trans (kk.mono B1.size)
  have P3 := P2.below bt (Nat.le_refl _)
  have n2 := hb.size
  clear A1 S1 W1 B1 kk bt hb P2
  have g1 := A2.rules.2
  have q1 : ∀ j, (w2.alloc (.cells #[.int .i64 x.site, .bool x.up, .slice b.la x.sl.length b.lc, .slice b.va x.vs.length b.vc, .slice b.wa x.ws.length b.wc, .slice b.oa x.os.length b.oc, .slice b.ka x.kn.length b.kc] 32)).cell? ⟨w.heap.size, j, none⟩ = #[.int .i64 x.site, .bool true, .slice (some ⟨sb, so, none⟩) 3 a.lc, .slice a.va x.vs.length a.vc, .slice a.wa x.ws.length a.wc, .slice a.oa x.os.length a.oc, .slice a.ka x.kn.length a.kc][j]? := fun j => by
    have e1 : (#[.int .i64 x.site, .bool x.up, .slice a.la x.sl.length a.lc, .slice a.va x.vs.length a.vc, .slice a.wa x.ws.length a.wc, .slice a.oa x.os.length a.oc, .slice a.ka x.kn.length a.kc] : Array Value) = #[.int .i64 x.site, .bool true, .slice (some ⟨sb, so, none⟩) 3 a.lc, .slice a.va x.vs.length a.vc, .slice a.wa x.ws.length a.wc, .slice a.oa x.os.length a.oc, .slice a.ka x.kn.length a.kc] := by rw [HU.out, HLA.out, HLS.out]
    rw [← e1]
    exact A2.cell j
  obtain ⟨q2, g2⟩ := S2.rules
  obtain ⟨q3, g3⟩ := W2.rules
  obtain ⟨q4, g4⟩ := D2.rules
  have d0' := (B2.cell (p := ⟨sb, so + 4, none⟩) hsb).trans d0
  have d1' := (B2.cell (p := ⟨sb, so + 4 + 1, none⟩) hsb).trans d1
  go_wp2_with (first | (go_at_call 60; refine (hI _).mono ?_; rintro e wy ⟨rfl, rfl⟩))
  refine bodyPost_ret (v := .tuple #[.agg #[.int .i64 x.site, .bool x.up, .slice b.la x.sl.length b.lc, .slice b.va x.vs.length b.vc, .slice b.wa x.ws.length b.wc, .slice b.oa x.os.length b.oc, .slice b.ka x.kn.length b.kc], .agg #[.int .i64 0, .int .i64 0, .int .i64 0, .int .i64 0, .int .i64 0, .int .i64 0, .int .i64 0, .int .i64 0, .bool false, .slice none 0 0, .int .i64 0, .int .i64 0, .slice none 0 0, .slice none 0 0, .slice none 0 0], .bool false]) ?_ rfl ⟨b, ⟨none, 0, none, 0, none, 0, none, 0⟩, rfl, ?_, zeroW_in' _, fill22_below B2 (by omega) (by omega)⟩
  · refine Blk.gen2 (A := w.heap.size + 1) (B := w.heap.size + 1 + 1) (vs := #[.int .i64 x.site, .bool x.up, .slice b.la x.sl.length b.lc, .slice b.va x.vs.length b.vc, .slice b.wa x.ws.length b.wc, .slice b.oa x.os.length b.oc, .slice b.ka x.kn.length b.kc]) (us := #[.int .i64 0, .int .i64 0, .int .i64 0, .int .i64 0, .int .i64 0, .int .i64 0, .int .i64 0, .int .i64 0, .bool false, .slice none 0 0, .int .i64 0, .int .i64 0, .slice none 0 0, .slice none 0 0, .slice none 0 0]) (T := 32) (T' := 41) (P := fun W => (results Tryz.f16 _).run Tryz.prog W = .ok _ W) ((fill22 S2 W2 (by omega)).1) ((fill22 S2 W2 (by omega)).2) ?_
    intro W hA hB
    obtain ⟨k1, f1⟩ := hA.rules
    obtain ⟨k2, f2⟩ := hB.rules
    simp [results, Tryz.results16, go_sem, k1, k2]
  · exact (fill22_only.ownS P3 (fun j hj hS => by have := P3.lt hj; rcases hS with hS | hS <;> omega)).inS

set_option maxHeartbeats 4000000 in
set_option maxRecDepth 20000 in
theorem sMove_full2 (x : Sv) (a : Sa) (w : World) (hl : LenS x) (h : InS w x a) (hs : servB x = true) (hg : goB x 2 = false) (hu : x.up = true) (t1 t2 t3 : Sl) (he : x.sl = [t1, t2, t3]) (ht : t3.st = 1) (hf : ¬ t3.ep < 9999) : Calls Tryz.prog 16 #[servV x a, .int .i64 2] w fun e w' => ∃ b c, e = .returned (.tuple #[servV (moveS x 2) b, wordV (moveW x 2) c, .bool (moveB x 2)]) ∧ InS w' (moveS x 2) b ∧ InL w' (moveW x 2) c ∧ Below w.heap.size w w' := by
  have HU : Hid (x.up = true) := hu
  have lsl : x.sl.length = 3 := by rw [he]; rfl
  have HLS : Hid (x.sl.length = 3) := lsl
  obtain ⟨sb, so, hla, hsb, c0, c1⟩ := h.l.at (k := 2) (by omega)
  have HLA : Hid (a.la = some ⟨sb, so, none⟩) := hla
  have e9 : x.sl[2]'(by omega) = t3 := by simp [he]
  rw [e9] at c0 c1
  rw [ht] at c1
  clear ht
  have d0 : w.cell? ⟨sb, so + 4, none⟩ = some (.int .i64 t3.ep) := by simpa using c0
  have d1 : w.cell? ⟨sb, so + 4 + 1, none⟩ = some (.int .i64 1) := by simpa using c1
  have hI := fun W => in_any 2 0 2 W
  have hin : inB 2 0 2 = true := by decide
  rw [hin] at hI
  clear c0 c1 hu hla he
  clear e9
  clear lsl hin
  have dn : decide (9999 ≤ t3.ep) = true := by simp; omega
  clear hf
  have b0 : Below w.heap.size w (((w.alloc (.cells #[.int .i64 x.site, .bool x.up, .slice a.la x.sl.length a.lc, .slice a.va x.vs.length a.vc, .slice a.wa x.ws.length a.wc, .slice a.oa x.os.length a.oc, .slice a.ka x.kn.length a.kc] 32)).alloc (.cells #[.int .i64 0, .bool false, .slice none 0 0, .slice none 0 0, .slice none 0 0, .slice none 0 0, .slice none 0 0] 32)).alloc (.cells #[.int .i64 0, .int .i64 0, .int .i64 0, .int .i64 0, .int .i64 0, .int .i64 0, .int .i64 0, .int .i64 0, .bool false, .slice none 0 0, .int .i64 0, .int .i64 0, .slice none 0 0, .slice none 0 0, .slice none 0 0] 41)) := (((Below.refl _ _).alloc (Nat.le_refl _) _).alloc (by simp) _).alloc (by simp; omega) _
  have A0 : Blk (((w.alloc (.cells #[.int .i64 x.site, .bool x.up, .slice a.la x.sl.length a.lc, .slice a.va x.vs.length a.vc, .slice a.wa x.ws.length a.wc, .slice a.oa x.os.length a.oc, .slice a.ka x.kn.length a.kc] 32)).alloc (.cells #[.int .i64 0, .bool false, .slice none 0 0, .slice none 0 0, .slice none 0 0, .slice none 0 0, .slice none 0 0] 32)).alloc (.cells #[.int .i64 0, .int .i64 0, .int .i64 0, .int .i64 0, .int .i64 0, .int .i64 0, .int .i64 0, .int .i64 0, .bool false, .slice none 0 0, .int .i64 0, .int .i64 0, .slice none 0 0, .slice none 0 0, .slice none 0 0] 41)) w.heap.size #[.int .i64 x.site, .bool x.up, .slice a.la x.sl.length a.lc, .slice a.va x.vs.length a.vc, .slice a.wa x.ws.length a.wc, .slice a.oa x.os.length a.oc, .slice a.ka x.kn.length a.kc] 32 := ((Blk.new w _ _).alloc _).alloc _
  have S0 : Blk (((w.alloc (.cells #[.int .i64 x.site, .bool x.up, .slice a.la x.sl.length a.lc, .slice a.va x.vs.length a.vc, .slice a.wa x.ws.length a.wc, .slice a.oa x.os.length a.oc, .slice a.ka x.kn.length a.kc] 32)).alloc (.cells #[.int .i64 0, .bool false, .slice none 0 0, .slice none 0 0, .slice none 0 0, .slice none 0 0, .slice none 0 0] 32)).alloc (.cells #[.int .i64 0, .int .i64 0, .int .i64 0, .int .i64 0, .int .i64 0, .int .i64 0, .int .i64 0, .int .i64 0, .bool false, .slice none 0 0, .int .i64 0, .int .i64 0, .slice none 0 0, .slice none 0 0, .slice none 0 0] 41)) (w.heap.size + 1) #[.int .i64 0, .bool false, .slice none 0 0, .slice none 0 0, .slice none 0 0, .slice none 0 0, .slice none 0 0] 32 := by have := (Blk.new (w.alloc (.cells #[.int .i64 x.site, .bool x.up, .slice a.la x.sl.length a.lc, .slice a.va x.vs.length a.vc, .slice a.wa x.ws.length a.wc, .slice a.oa x.os.length a.oc, .slice a.ka x.kn.length a.kc] 32)) #[.int .i64 0, .bool false, .slice none 0 0, .slice none 0 0, .slice none 0 0, .slice none 0 0, .slice none 0 0] 32).alloc (.cells #[.int .i64 0, .int .i64 0, .int .i64 0, .int .i64 0, .int .i64 0, .int .i64 0, .int .i64 0, .int .i64 0, .bool false, .slice none 0 0, .int .i64 0, .int .i64 0, .slice none 0 0, .slice none 0 0, .slice none 0 0] 41); simpa using this
  have W0 : Blk (((w.alloc (.cells #[.int .i64 x.site, .bool x.up, .slice a.la x.sl.length a.lc, .slice a.va x.vs.length a.vc, .slice a.wa x.ws.length a.wc, .slice a.oa x.os.length a.oc, .slice a.ka x.kn.length a.kc] 32)).alloc (.cells #[.int .i64 0, .bool false, .slice none 0 0, .slice none 0 0, .slice none 0 0, .slice none 0 0, .slice none 0 0] 32)).alloc (.cells #[.int .i64 0, .int .i64 0, .int .i64 0, .int .i64 0, .int .i64 0, .int .i64 0, .int .i64 0, .int .i64 0, .bool false, .slice none 0 0, .int .i64 0, .int .i64 0, .slice none 0 0, .slice none 0 0, .slice none 0 0] 41)) (w.heap.size + 1 + 1) #[.int .i64 0, .int .i64 0, .int .i64 0, .int .i64 0, .int .i64 0, .int .i64 0, .int .i64 0, .int .i64 0, .bool false, .slice none 0 0, .int .i64 0, .int .i64 0, .slice none 0 0, .slice none 0 0, .slice none 0 0] 41 := by have := Blk.new ((w.alloc (.cells #[.int .i64 x.site, .bool x.up, .slice a.la x.sl.length a.lc, .slice a.va x.vs.length a.vc, .slice a.wa x.ws.length a.wc, .slice a.oa x.os.length a.oc, .slice a.ka x.kn.length a.kc] 32)).alloc (.cells #[.int .i64 0, .bool false, .slice none 0 0, .slice none 0 0, .slice none 0 0, .slice none 0 0, .slice none 0 0] 32)) #[.int .i64 0, .int .i64 0, .int .i64 0, .int .i64 0, .int .i64 0, .int .i64 0, .int .i64 0, .int .i64 0, .bool false, .slice none 0 0, .int .i64 0, .int .i64 0, .slice none 0 0, .slice none 0 0, .slice none 0 0] 41; simpa using this
  have L0 := h.below b0
  have hO := fun W h => sServerOk_any x a W hl h
  rw [hs] at hO
  obtain ⟨m1, m2, m3⟩ := move_stays hs hg
  rw [m1, m2, m3]
  clear m1 m2 m3 hg
  go_enter Tryz.func16, Tryz.ntmps16
  go_wp2_with fail
  generalize (((w.alloc (.cells #[.int .i64 x.site, .bool x.up, .slice a.la x.sl.length a.lc, .slice a.va x.vs.length a.vc, .slice a.wa x.ws.length a.wc, .slice a.oa x.os.length a.oc, .slice a.ka x.kn.length a.kc] 32)).alloc (.cells #[.int .i64 0, .bool false, .slice none 0 0, .slice none 0 0, .slice none 0 0, .slice none 0 0, .slice none 0 0] 32)).alloc (.cells #[.int .i64 0, .int .i64 0, .int .i64 0, .int .i64 0, .int .i64 0, .int .i64 0, .int .i64 0, .int .i64 0, .bool false, .slice none 0 0, .int .i64 0, .int .i64 0, .slice none 0 0, .slice none 0 0, .slice none 0 0] 41)) = v0 at *
  refine (hO _ L0).mono ?_
  rintro e w1 ⟨rfl, hb⟩
  have A1 := A0.below hb A0.lt
  have S1 := S0.below hb S0.lt
  have W1 := W0.below hb W0.lt
  have B1 : Below w.heap.size w w1 := b0.trans (hb.mono b0.size)
  have n1 := hb.size
  have n0 := b0.size
  have z0 := W0.lt
  clear S0 W0 A0 b0 hb L0 hs hO
  obtain ⟨q1, g1⟩ := A1.rules
  go_wp2_with fail
  clear q1 g1
  refine (sCopySv_any x a _ hl (h.below B1)).mono ?_
  rintro e w2 ⟨b, ys, zs, rfl, P2, hb⟩
  have bt : Below w2.heap.size w2 (w2.alloc (.cells #[.int .i64 x.site, .bool x.up, .slice b.la x.sl.length b.lc, .slice b.va x.vs.length b.vc, .slice b.wa x.ws.length b.wc, .slice b.oa x.os.length b.oc, .slice b.ka x.kn.length b.kc] 32)) := (Below.refl _ _).alloc (Nat.le_refl _) _
  have kk := hb.trans (bt.mono hb.size)
  have A2 := A1.below kk A1.lt
  have S2 := S1.below kk S1.lt
  have W2 := W1.below kk W1.lt
  have D2 := Blk.new w2 #[.int .i64 x.site, .bool x.up, .slice b.la x.sl.length b.lc, .slice b.va x.vs.length b.vc, .slice b.wa x.ws.length b.wc, .slice b.oa x.os.length b.oc, .slice b.ka x.kn.length b.kc] 32
  have B2 : Below w.heap.size w (w2.alloc (.cells #[.int .i64 x.site, .bool x.up, .slice b.la x.sl.length b.lc, .slice b.va x.vs.length b.vc, .slice b.wa x.ws.length b.wc, .slice b.oa x.os.length b.oc, .slice b.ka x.kn.length b.kc] 32)) := B1.trans (kk.mono B1.size)
  have P3 := P2.below bt (Nat.le_refl _)
  have n2 := hb.size
  clear A1 S1 W1 B1 kk bt hb P2
  have g1 := A2.rules.2
  have q1 : ∀ j, (w2.alloc (.cells #[.int .i64 x.site, .bool x.up, .slice b.la x.sl.length b.lc, .slice b.va x.vs.length b.vc, .slice b.wa x.ws.length b.wc, .slice b.oa x.os.length b.oc, .slice b.ka x.kn.length b.kc] 32)).cell? ⟨w.heap.size, j, none⟩ = #[.int .i64 x.site, .bool true, .slice (some ⟨sb, so, none⟩) 3 a.lc, .slice a.va x.vs.length a.vc, .slice a.wa x.ws.length a.wc, .slice a.oa x.os.length a.oc, .slice a.ka x.kn.length a.kc][j]? := fun j => by
    have e1 : (#[.int .i64 x.site, .bool x.up, .slice a.la x.sl.length a.lc, .slice a.va x.vs.length a.vc, .slice a.wa x.ws.length a.wc, .slice a.oa x.os.length a.oc, .slice a.ka x.kn.length a.kc] : Array Value) = #[.int .i64 x.site, .bool true, .slice (some ⟨sb, so, none⟩) 3 a.lc, .slice a.va x.vs.length a.vc, .slice a.wa x.ws.length a.wc, .slice a.oa x.os.length a.oc, .slice a.ka x.kn.length a.kc] := by rw [HU.out, HLA.out, HLS.out]
    rw [← e1]
    exact A2.cell j
  obtain ⟨q2, g2⟩ := S2.rules
  obtain ⟨q3, g3⟩ := W2.rules
  obtain ⟨q4, g4⟩ := D2.rules
  have d0' := (B2.cell (p := ⟨sb, so + 4, none⟩) hsb).trans d0
  have d1' := (B2.cell (p := ⟨sb, so + 4 + 1, none⟩) hsb).trans d1
  go_wp2_with (first | (go_at_call 60; refine (hI _).mono ?_; rintro e wy ⟨rfl, rfl⟩))
  refine bodyPost_ret (v := .tuple #[.agg #[.int .i64 x.site, .bool x.up, .slice b.la x.sl.length b.lc, .slice b.va x.vs.length b.vc, .slice b.wa x.ws.length b.wc, .slice b.oa x.os.length b.oc, .slice b.ka x.kn.length b.kc], .agg #[.int .i64 0, .int .i64 0, .int .i64 0, .int .i64 0, .int .i64 0, .int .i64 0, .int .i64 0, .int .i64 0, .bool false, .slice none 0 0, .int .i64 0, .int .i64 0, .slice none 0 0, .slice none 0 0, .slice none 0 0], .bool false]) ?_ rfl ⟨b, ⟨none, 0, none, 0, none, 0, none, 0⟩, rfl, ?_, zeroW_in' _, fill22_below B2 (by omega) (by omega)⟩
  · refine Blk.gen2 (A := w.heap.size + 1) (B := w.heap.size + 1 + 1) (vs := #[.int .i64 x.site, .bool x.up, .slice b.la x.sl.length b.lc, .slice b.va x.vs.length b.vc, .slice b.wa x.ws.length b.wc, .slice b.oa x.os.length b.oc, .slice b.ka x.kn.length b.kc]) (us := #[.int .i64 0, .int .i64 0, .int .i64 0, .int .i64 0, .int .i64 0, .int .i64 0, .int .i64 0, .int .i64 0, .bool false, .slice none 0 0, .int .i64 0, .int .i64 0, .slice none 0 0, .slice none 0 0, .slice none 0 0]) (T := 32) (T' := 41) (P := fun W => (results Tryz.f16 _).run Tryz.prog W = .ok _ W) ((fill22 S2 W2 (by omega)).1) ((fill22 S2 W2 (by omega)).2) ?_
    intro W hA hB
    obtain ⟨k1, f1⟩ := hA.rules
    obtain ⟨k2, f2⟩ := hB.rules
    simp [results, Tryz.results16, go_sem, k1, k2]
  · exact (fill22_only.ownS P3 (fun j hj hS => by have := P3.lt hj; rcases hS with hS | hS <;> omega)).inS
end Go.Proofs.YtpjidogilofppaaGreat
