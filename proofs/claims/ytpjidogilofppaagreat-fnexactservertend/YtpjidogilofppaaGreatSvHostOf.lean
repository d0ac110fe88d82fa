/- A server as a host. -/
import Derived.Test.YtpjidogilofppaaGreatSvHost
namespace Go.Proofs.YtpjidogilofppaaGreat
open Go.ChangeShapes Go.WideShapes Go.ChangeAt Go.RowKit

theorem fill_keep {U v : World} {B D : Nat} {vs zs : Array Value} {T T' : TypeId} (hB : B < U.heap.size) (k : Below U.heap.size U v) (A : Blk U B vs T) (_ : Blk v D zs T') (hD : U.heap.size ≤ D) (v0 v1 v2 : Value) : Hid (∀ j, (((v.setCell ⟨D, 0, none⟩ v0).setCell ⟨D, 1, none⟩ v1).setCell ⟨D, 2, none⟩ v2).cell? ⟨B, j, none⟩ = vs[j]?) := by
  show ∀ j, _
  intro j
  exact (A.below (((k.setCell (p := ⟨D, 0, none⟩) hD _).setCell (p := ⟨D, 1, none⟩) hD _).setCell (p := ⟨D, 2, none⟩) hD _) hB).cell j

structure OwnK (W : World) (base : Nat) (x : Sv) (a : Sa) (ys zs : List XV) : Prop where
  v : OwnV W base (.slice a.va x.vs.length a.vc) ys
  w : OwnV W base (.slice a.wa x.ws.length a.wc) zs
  o : RowD W base (.slice a.oa x.os.length a.oc) x.os
  k : RowD W base (.slice a.ka x.kn.length a.kc) x.kn
  hy : ys.map XV.v = x.vs
  hz : zs.map XV.v = x.ws
  vw : ∀ b, inV (.slice a.va x.vs.length a.vc) ys b → ¬ inV (.slice a.wa x.ws.length a.wc) zs b
  vo : ∀ b, inV (.slice a.va x.vs.length a.vc) ys b → (Value.slice a.oa x.os.length a.oc).ownBlock ≠ some b
  vk : ∀ b, inV (.slice a.va x.vs.length a.vc) ys b → (Value.slice a.ka x.kn.length a.kc).ownBlock ≠ some b
  wo : ∀ b, inV (.slice a.wa x.ws.length a.wc) zs b → (Value.slice a.oa x.os.length a.oc).ownBlock ≠ some b
  wk : ∀ b, inV (.slice a.wa x.ws.length a.wc) zs b → (Value.slice a.ka x.kn.length a.kc).ownBlock ≠ some b
  ok : ∀ b, (Value.slice a.oa x.os.length a.oc).ownBlock = some b → (Value.slice a.ka x.kn.length a.kc).ownBlock ≠ some b
theorem OwnK.below {w w' : World} {base : Nat} {x : Sv} {a : Sa} {ys zs : List XV} (h : OwnK w base x a ys zs) {m : Nat} (k : Below m w w') (hm : w.heap.size ≤ m) : OwnK w' base x a ys zs :=
  ⟨h.v.below k hm, h.w.below k hm, row_below h.o k hm, row_below h.k k hm, h.hy, h.hz, h.vw, h.vo, h.vk, h.wo, h.wk, h.ok⟩
theorem OwnK.mono {w : World} {base base' : Nat} {x : Sv} {a : Sa} {ys zs : List XV} (h : OwnK w base x a ys zs) (hb : base' ≤ base) : OwnK w base' x a ys zs :=
  ⟨h.v.mono hb, h.w.mono hb, row_mono h.o hb, row_mono h.k hb, h.hy, h.hz, h.vw, h.vo, h.vk, h.wo, h.wk, h.ok⟩
theorem OwnK.setB {w : World} {base Z j : Nat} {u : Value} {x : Sv} {a : Sa} {ys zs : List XV} (h : OwnK w base x a ys zs) (hZ : Z < base) : OwnK (w.setCell ⟨Z, j, none⟩ u) base x a ys zs :=
  ⟨h.v.setB hZ, h.w.setB hZ, rowSetB h.o hZ, rowSetB h.k hZ, h.hy, h.hz, h.vw, h.vo, h.vk, h.wo, h.wk, h.ok⟩
theorem OwnK.fill12 {w : World} {base Z : Nat} {v0 v1 v2 v3 v4 v5 v6 v7 v8 v9 v10 v11 : Value} {x : Sv} {a : Sa} {ys zs : List XV} (h : OwnK w base x a ys zs) (hZ : Z < base) : OwnK ((((((((((((w.setCell ⟨Z, 0, none⟩ v0).setCell ⟨Z, 1, none⟩ v1).setCell ⟨Z, 2, none⟩ v2).setCell ⟨Z, 3, none⟩ v3).setCell ⟨Z, 4, none⟩ v4).setCell ⟨Z, 5, none⟩ v5).setCell ⟨Z, 6, none⟩ v6).setCell ⟨Z, 7, none⟩ v7).setCell ⟨Z, 8, none⟩ v8).setCell ⟨Z, 9, none⟩ v9).setCell ⟨Z, 10, none⟩ v10).setCell ⟨Z, 11, none⟩ v11) base x a ys zs :=
  (((((((((((h.setB hZ).setB hZ).setB hZ).setB hZ).setB hZ).setB hZ).setB hZ).setB hZ).setB hZ).setB hZ).setB hZ).setB hZ
theorem OwnK.withS {W : World} {base : Nat} {x : Sv} {a : Sa} {ys zs : List XV} (h : OwnK W base x a ys zs) (l : RowS W base (.slice a.la x.sl.length a.lc) x.sl) : OwnS W base x a ys zs :=
  ⟨l, h.v, h.w, h.o, h.k, h.hy, h.hz, h.vw, h.vo, h.vk, h.wo, h.wk, h.ok⟩
theorem OwnK.mk4 {W : World} {base : Nat} {x : Sv} {a : Sa} {ys zs : List XV} (v : OwnV W base (.slice a.va x.vs.length a.vc) ys) (w : OwnV W base (.slice a.wa x.ws.length a.wc) zs) (o : RowD W base (.slice a.oa x.os.length a.oc) x.os) (k : RowD W base (.slice a.ka x.kn.length a.kc) x.kn) (hy : ys.map XV.v = x.vs) (hz : zs.map XV.v = x.ws) (n1 n2 n3 : Nat)
    (iv : ∀ b, inV (.slice a.va x.vs.length a.vc) ys b → b < n1) (iw : ∀ b, inV (.slice a.wa x.ws.length a.wc) zs b → n1 ≤ b ∧ b < n2) (io : ∀ b, (Value.slice a.oa x.os.length a.oc).ownBlock = some b → n2 ≤ b ∧ b < n3) (ik : ∀ b, (Value.slice a.ka x.kn.length a.kc).ownBlock = some b → n3 ≤ b) (h12 : n1 ≤ n2) (h23 : n2 ≤ n3) : OwnK W base x a ys zs :=
  ⟨v, w, o, k, hy, hz, fun b h h' => by have := iv b h; have := iw b h'; omega, fun b h h' => by have := iv b h; have := io b h'; omega, fun b h h' => by have := iv b h; have := ik b h'; omega, fun b h h' => by have := iw b h; have := io b h'; omega, fun b h h' => by have := iw b h; have := ik b h'; omega, fun b h h' => by have := io b h; have := ik b h'; omega⟩
theorem OwnV.set3 {w : World} {base Z : Nat} {v v0 v1 v2 : Value} {ys : List XV} (h : OwnV w base v ys) (hZ : ¬ inV v ys Z) : OwnV (((w.setCell ⟨Z, 0, none⟩ v0).setCell ⟨Z, 1, none⟩ v1).setCell ⟨Z, 2, none⟩ v2) base v ys :=
  ((((Only.refl w (fun b => b = Z)).set (A := Z) rfl _).set (A := Z) rfl _).set (A := Z) rfl _).ownV h (fun j hj e => by subst e; exact hZ hj)
theorem row_set3 {w : World} {base Z n : Nat} {e : TypeId} {s : Nat} {v v0 v1 v2 : Value} {xs : List Value} (h : w.ownsRow base e s v n xs) (hZ : v.ownBlock ≠ some Z) : (((w.setCell ⟨Z, 0, none⟩ v0).setCell ⟨Z, 1, none⟩ v1).setCell ⟨Z, 2, none⟩ v2).ownsRow base e s v n xs :=
  ((((Only.refl w (fun b => b = Z)).set (A := Z) rfl _).set (A := Z) rfl _).set (A := Z) rfl _).row h (fun j hj e => by subst e; exact hZ hj)
set_option maxHeartbeats 8000000 in
set_option maxRecDepth 20000 in
theorem hostOf_yes (x : Sv) (a : Sa) (t1 t2 t3 : Sl) (w : World) (hl : LenS x) (h : InS w x a) (hs : servB x = true) (he : x.sl = [t1, t2, t3]) :
    Calls Tryz.prog 48 #[servV x a] w fun e w' => ∃ va vc wa wc oa oc ka kc ys zs, e = .returned (.tuple #[.agg (hostC x.site x.up (.slice va x.vs.length vc) (.slice wa x.ws.length wc) (.slice oa x.os.length oc) (.slice ka x.kn.length kc) t1 t2 t3), .bool true]) ∧ OwnK w' w.heap.size x ⟨none, 0, va, vc, wa, wc, oa, oc, ka, kc⟩ ys zs ∧ Below w.heap.size w w' := by
  have hsl : slotsB x.sl = true := by unfold servB at hs; simp at hs; exact hs.1.1.1.1.1.1.1
  have ht : tabV x.sl = tab6 t1 t2 t3 := by rw [he]; exact tabV_yes (by rw [← he]; exact hsl)
  have b0 : Below w.heap.size w ((w.alloc (.cells #[.int .i64 x.site, .bool x.up, .slice a.la x.sl.length a.lc, .slice a.va x.vs.length a.vc, .slice a.wa x.ws.length a.wc, .slice a.oa x.os.length a.oc, .slice a.ka x.kn.length a.kc] 32)).alloc (.cells #[.slice none 0 0, .slice none 0 0, .slice none 0 0, .int .i64 0, .bool false, .int .i64 0, .int .i64 0, .int .i64 0, .int .i64 0, .int .i64 0, .int .i64 0, .slice none 0 0] 88)) := ((Below.refl _ _).alloc (Nat.le_refl _) _).alloc (by simp) _
  have A0 : Blk ((w.alloc (.cells #[.int .i64 x.site, .bool x.up, .slice a.la x.sl.length a.lc, .slice a.va x.vs.length a.vc, .slice a.wa x.ws.length a.wc, .slice a.oa x.os.length a.oc, .slice a.ka x.kn.length a.kc] 32)).alloc (.cells #[.slice none 0 0, .slice none 0 0, .slice none 0 0, .int .i64 0, .bool false, .int .i64 0, .int .i64 0, .int .i64 0, .int .i64 0, .int .i64 0, .int .i64 0, .slice none 0 0] 88)) w.heap.size #[.int .i64 x.site, .bool x.up, .slice a.la x.sl.length a.lc, .slice a.va x.vs.length a.vc, .slice a.wa x.ws.length a.wc, .slice a.oa x.os.length a.oc, .slice a.ka x.kn.length a.kc] 32 := (Blk.new w _ _).alloc _
  have R0 : Blk ((w.alloc (.cells #[.int .i64 x.site, .bool x.up, .slice a.la x.sl.length a.lc, .slice a.va x.vs.length a.vc, .slice a.wa x.ws.length a.wc, .slice a.oa x.os.length a.oc, .slice a.ka x.kn.length a.kc] 32)).alloc (.cells #[.slice none 0 0, .slice none 0 0, .slice none 0 0, .int .i64 0, .bool false, .int .i64 0, .int .i64 0, .int .i64 0, .int .i64 0, .int .i64 0, .int .i64 0, .slice none 0 0] 88)) (w.heap.size + 1) #[.slice none 0 0, .slice none 0 0, .slice none 0 0, .int .i64 0, .bool false, .int .i64 0, .int .i64 0, .int .i64 0, .int .i64 0, .int .i64 0, .int .i64 0, .slice none 0 0] 88 := by have := Blk.new (w.alloc (.cells #[.int .i64 x.site, .bool x.up, .slice a.la x.sl.length a.lc, .slice a.va x.vs.length a.vc, .slice a.wa x.ws.length a.wc, .slice a.oa x.os.length a.oc, .slice a.ka x.kn.length a.kc] 32)) #[.slice none 0 0, .slice none 0 0, .slice none 0 0, .int .i64 0, .bool false, .int .i64 0, .int .i64 0, .int .i64 0, .int .i64 0, .int .i64 0, .int .i64 0, .slice none 0 0] 88; simpa using this
  have L0 := h.below b0
  have hT := fun W h => slotsTab_any a.la a.lc x.sl W hl.l h
  rw [hsl, ht] at hT
  have hO := fun W h => iServerOk_any x a W hl h
  rw [hs] at hO
  clear h hs hsl ht he
  go_enter Tryz.func48, Tryz.ntmps48
  go_wp2_with fail
  generalize ((w.alloc (.cells #[.int .i64 x.site, .bool x.up, .slice a.la x.sl.length a.lc, .slice a.va x.vs.length a.vc, .slice a.wa x.ws.length a.wc, .slice a.oa x.os.length a.oc, .slice a.ka x.kn.length a.kc] 32)).alloc (.cells #[.slice none 0 0, .slice none 0 0, .slice none 0 0, .int .i64 0, .bool false, .int .i64 0, .int .i64 0, .int .i64 0, .int .i64 0, .int .i64 0, .int .i64 0, .slice none 0 0] 88)) = u0 at *
  refine (hO _ L0).mono ?_
  rintro e w1 ⟨rfl, hb⟩
  have A1 := A0.below hb A0.lt
  have R1 := R0.below hb R0.lt
  have L1 := L0.below hb
  have B1 : Below w.heap.size w w1 := b0.trans (hb.mono b0.size)
  clear A0 R0 L0 b0 hb hO
  obtain ⟨q1, g1⟩ := A1.rules
  go_wp2_with fail
  clear q1 g1
  refine (hT _ L1.l).mono ?_
  rintro e w2 ⟨rfl, hb⟩
  have bt : Below w1.heap.size w1 (w2.alloc (.cells (tab6 t1 t2 t3) 86)) := hb.alloc hb.size _
  have A := A1.below bt A1.lt
  have R := R1.below bt R1.lt
  have L := L1.below bt
  have T := Blk.new w2 (tab6 t1 t2 t3) 86
  have B : Below w.heap.size w (w2.alloc (.cells (tab6 t1 t2 t3) 86)) := B1.trans (bt.mono B1.size)
  have A' := A1.below hb A1.lt
  have nR : w.heap.size + 1 < w2.heap.size := Nat.lt_of_lt_of_le R1.lt hb.size
  obtain ⟨q1, g1⟩ := A'.rules
  have za := A'.lt
  clear A1 R1 L1 B1 hb hT bt
  go_wp2_with fail
  clear q1 g1 A' za
  generalize w2.alloc (.cells (tab6 t1 t2 t3) 86) = U at *
  have kk : Below U.heap.size U U := Below.refl _ _
  have kD : Below U.heap.size U U.drew := kk.drew
  have zA := A.lt
  have s0 : Hid (∀ j, (U.drew).cell? ⟨w.heap.size, j, none⟩ = #[.int .i64 x.site, .bool x.up, .slice a.la x.sl.length a.lc, .slice a.va x.vs.length a.vc, .slice a.wa x.ws.length a.wc, .slice a.oa x.os.length a.oc, .slice a.ka x.kn.length a.kc][j]?) := fun j => (A.below kD zA).cell j
  have s0A : Hid (∀ j, ((U.alloc (.cells #[.slice none 0 0, .slice none 0 0, .slice none 0 0] 82)).drew).cell? ⟨w.heap.size, j, none⟩ = #[.int .i64 x.site, .bool x.up, .slice a.la x.sl.length a.lc, .slice a.va x.vs.length a.vc, .slice a.wa x.ws.length a.wc, .slice a.oa x.os.length a.oc, .slice a.ka x.kn.length a.kc][j]?) := fun j => (A.below ((kk.alloc (Nat.le_refl _) _).drew) zA).cell j
  have P1 : Vers U.drew a.va x.vs := L.v.below kD
  have PA1 : Vers ((U.alloc (.cells #[.slice none 0 0, .slice none 0 0, .slice none 0 0] 82)).drew) a.va x.vs := L.v.below ((kk.alloc (Nat.le_refl _) _).drew)
  have tk1 : Hid True := trivial
  have tk2 : Hid True := trivial
  have tkN : Hid True := trivial
  go_region_held3 (fun W => ∀ j, W.cell? ⟨w.heap.size, j, none⟩ = #[.int .i64 x.site, .bool x.up, .slice a.la x.sl.length a.lc, .slice a.va x.vs.length a.vc, .slice a.wa x.ws.length a.wc, .slice a.oa x.os.length a.oc, .slice a.ka x.kn.length a.kc][j]?) (first | with_reducible exact s4.out | with_reducible exact s3A.out | with_reducible exact s3.out | with_reducible exact s2A.out | with_reducible exact s2.out | with_reducible exact s1A.out | with_reducible exact s1.out | with_reducible exact s0A.out | with_reducible exact s0.out)
    (first
      | (go_at_call 125
         clear tk1
         refine (iVers_any a.va a.vc x.vs _ hl.v ?hv).mono ?_
         (case hv => exact PA1)
         rintro e v1 ⟨u, ys, rfl, OV, hy, hb1⟩
         obtain ⟨va, vc, rfl, _⟩ := OV.asD hy
         have k' : Below U.heap.size U v1 := ((kk.alloc (Nat.le_refl _) _).drew).trans (hb1.mono (by simp))
         have ZD : Blk v1 (U.heap.size) #[.slice none 0 0, .slice none 0 0, .slice none 0 0] 82 := Blk.below (w := (U.alloc (.cells #[.slice none 0 0, .slice none 0 0, .slice none 0 0] 82)).drew) (Blk.new U _ _) hb1 (by simp)
         obtain ⟨zq, zf⟩ := ZD.rules
         have dD : Hid (U.heap.size ≤ U.heap.size) := by show _ ≤ _; first | exact Nat.le_refl _ | exact kk.size
         clear tkN
         clear kk
         have kk := k'
         clear k'
         have s1 : Hid (∀ j, (v1).cell? ⟨w.heap.size, j, none⟩ = #[.int .i64 x.site, .bool x.up, .slice a.la x.sl.length a.lc, .slice a.va x.vs.length a.vc, .slice a.wa x.ws.length a.wc, .slice a.oa x.os.length a.oc, .slice a.ka x.kn.length a.kc][j]?) := fun j => (A.below kk zA).cell j
         have P2 : Vers v1 a.wa x.ws := L.w.below kk)
      | (go_at_call 125
         clear tk1
         refine (iVers_any a.va a.vc x.vs _ hl.v ?hv).mono ?_
         (case hv => exact P1)
         rintro e v1 ⟨u, ys, rfl, OV, hy, hb1⟩
         obtain ⟨va, vc, rfl, _⟩ := OV.asD hy
         have k' : Below U.heap.size U v1 := kD.trans (hb1.mono kD.size)
         clear kk
         have kk := k'
         clear k'
         have s1 : Hid (∀ j, (v1).cell? ⟨w.heap.size, j, none⟩ = #[.int .i64 x.site, .bool x.up, .slice a.la x.sl.length a.lc, .slice a.va x.vs.length a.vc, .slice a.wa x.ws.length a.wc, .slice a.oa x.os.length a.oc, .slice a.ka x.kn.length a.kc][j]?) := fun j => (A.below kk zA).cell j
         have s1A : Hid (∀ j, (v1.alloc (.cells #[.slice none 0 0, .slice none 0 0, .slice none 0 0] 82)).cell? ⟨w.heap.size, j, none⟩ = #[.int .i64 x.site, .bool x.up, .slice a.la x.sl.length a.lc, .slice a.va x.vs.length a.vc, .slice a.wa x.ws.length a.wc, .slice a.oa x.os.length a.oc, .slice a.ka x.kn.length a.kc][j]?) := fun j => (A.below (kk.alloc kk.size _) zA).cell j
         have P2 : Vers v1 a.wa x.ws := L.w.below kk
         have PA2 : Vers (v1.alloc (.cells #[.slice none 0 0, .slice none 0 0, .slice none 0 0] 82)) a.wa x.ws := L.w.below (kk.alloc kk.size _))
      | (go_at_call 125
         clear tk2
         have zd := ZD
         refine (iVers_any a.wa a.wc x.ws _ hl.w ?hv).mono ?_
         (case hv => exact P2)
         rintro e v2 ⟨u, zs, rfl, OW, hz, hb2⟩
         obtain ⟨wa, wc, rfl, _⟩ := OW.asD hz
         have k' : Below U.heap.size U v2 := kk.trans (hb2.mono kk.size)
         clear ZD zq zf
         have ZD := zd.below hb2 zd.lt
         clear zd
         obtain ⟨zq, zf⟩ := ZD.rules
         clear kk
         have kk := k'
         clear k'
         have s2 : Hid (∀ j, (v2).cell? ⟨w.heap.size, j, none⟩ = #[.int .i64 x.site, .bool x.up, .slice a.la x.sl.length a.lc, .slice a.va x.vs.length a.vc, .slice a.wa x.ws.length a.wc, .slice a.oa x.os.length a.oc, .slice a.ka x.kn.length a.kc][j]?) := fun j => (A.below kk zA).cell j
         have P3 : Deps v2 a.oa x.os := L.o.below kk)
      | (go_at_call 125
         clear tk2
         refine (iVers_any a.wa a.wc x.ws _ hl.w ?hv).mono ?_
         (case hv => exact PA2)
         rintro e v2 ⟨u, zs, rfl, OW, hz, hb2⟩
         obtain ⟨wa, wc, rfl, _⟩ := OW.asD hz
         have k' : Below U.heap.size U v2 := (kk.alloc kk.size _).trans (hb2.mono (by have := kk.size; simp; omega))
         have ZD : Blk v2 (v1.heap.size) #[.slice none 0 0, .slice none 0 0, .slice none 0 0] 82 := Blk.below (w := v1.alloc (.cells #[.slice none 0 0, .slice none 0 0, .slice none 0 0] 82)) (Blk.new v1 _ _) hb2 (by simp)
         obtain ⟨zq, zf⟩ := ZD.rules
         have dD : Hid (U.heap.size ≤ v1.heap.size) := by show _ ≤ _; first | exact Nat.le_refl _ | exact kk.size
         clear tkN
         clear kk
         have kk := k'
         clear k'
         have s2 : Hid (∀ j, (v2).cell? ⟨w.heap.size, j, none⟩ = #[.int .i64 x.site, .bool x.up, .slice a.la x.sl.length a.lc, .slice a.va x.vs.length a.vc, .slice a.wa x.ws.length a.wc, .slice a.oa x.os.length a.oc, .slice a.ka x.kn.length a.kc][j]?) := fun j => (A.below kk zA).cell j
         have P3 : Deps v2 a.oa x.os := L.o.below kk)
      | (go_at_call 125
         clear tk2
         refine (iVers_any a.wa a.wc x.ws _ hl.w ?hv).mono ?_
         (case hv => exact P2)
         rintro e v2 ⟨u, zs, rfl, OW, hz, hb2⟩
         obtain ⟨wa, wc, rfl, _⟩ := OW.asD hz
         have k' : Below U.heap.size U v2 := kk.trans (hb2.mono kk.size)
         clear kk
         have kk := k'
         clear k'
         have s2 : Hid (∀ j, (v2).cell? ⟨w.heap.size, j, none⟩ = #[.int .i64 x.site, .bool x.up, .slice a.la x.sl.length a.lc, .slice a.va x.vs.length a.vc, .slice a.wa x.ws.length a.wc, .slice a.oa x.os.length a.oc, .slice a.ka x.kn.length a.kc][j]?) := fun j => (A.below kk zA).cell j
         have s2A : Hid (∀ j, (v2.alloc (.cells #[.slice none 0 0, .slice none 0 0, .slice none 0 0] 82)).cell? ⟨w.heap.size, j, none⟩ = #[.int .i64 x.site, .bool x.up, .slice a.la x.sl.length a.lc, .slice a.va x.vs.length a.vc, .slice a.wa x.ws.length a.wc, .slice a.oa x.os.length a.oc, .slice a.ka x.kn.length a.kc][j]?) := fun j => (A.below (kk.alloc kk.size _) zA).cell j
         have P3 : Deps v2 a.oa x.os := L.o.below kk
         have PA3 : Deps (v2.alloc (.cells #[.slice none 0 0, .slice none 0 0, .slice none 0 0] 82)) a.oa x.os := L.o.below (kk.alloc kk.size _))
      | (go_at_call 126
         have zd := ZD
         refine (copyDeps_any a.oa a.oc x.os _ hl.o ?hv).mono ?_
         (case hv => exact P3)
         rintro e v3 ⟨oa, oc, rfl, RO, hb3⟩
         have k' : Below U.heap.size U v3 := kk.trans (hb3.mono kk.size)
         clear ZD zq zf
         have ZD := zd.below hb3 zd.lt
         clear zd
         obtain ⟨zq, zf⟩ := ZD.rules
         clear kk
         have kk := k'
         clear k'
         have s3 : Hid (∀ j, (v3).cell? ⟨w.heap.size, j, none⟩ = #[.int .i64 x.site, .bool x.up, .slice a.la x.sl.length a.lc, .slice a.va x.vs.length a.vc, .slice a.wa x.ws.length a.wc, .slice a.oa x.os.length a.oc, .slice a.ka x.kn.length a.kc][j]?) := fun j => (A.below kk zA).cell j
         have s4 := fill_keep (B := w.heap.size) zA kk A ZD dD.out (.slice va x.vs.length vc) (.slice wa x.ws.length wc) (.slice oa x.os.length oc))
      | (go_at_call 126
         refine (copyDeps_any a.oa a.oc x.os _ hl.o ?hv).mono ?_
         (case hv => exact PA3)
         rintro e v3 ⟨oa, oc, rfl, RO, hb3⟩
         have k' : Below U.heap.size U v3 := (kk.alloc kk.size _).trans (hb3.mono (by have := kk.size; simp; omega))
         have ZD : Blk v3 (v2.heap.size) #[.slice none 0 0, .slice none 0 0, .slice none 0 0] 82 := Blk.below (w := v2.alloc (.cells #[.slice none 0 0, .slice none 0 0, .slice none 0 0] 82)) (Blk.new v2 _ _) hb3 (by simp)
         obtain ⟨zq, zf⟩ := ZD.rules
         have dD : Hid (U.heap.size ≤ v2.heap.size) := by show _ ≤ _; first | exact Nat.le_refl _ | exact kk.size
         clear tkN
         clear kk
         have kk := k'
         clear k'
         have s3 : Hid (∀ j, (v3).cell? ⟨w.heap.size, j, none⟩ = #[.int .i64 x.site, .bool x.up, .slice a.la x.sl.length a.lc, .slice a.va x.vs.length a.vc, .slice a.wa x.ws.length a.wc, .slice a.oa x.os.length a.oc, .slice a.ka x.kn.length a.kc][j]?) := fun j => (A.below kk zA).cell j
         have s4 := fill_keep (B := w.heap.size) zA kk A ZD dD.out (.slice va x.vs.length vc) (.slice wa x.ws.length wc) (.slice oa x.os.length oc))
      | (go_at_call 126
         refine (copyDeps_any a.oa a.oc x.os _ hl.o ?hv).mono ?_
         (case hv => exact P3)
         rintro e v3 ⟨oa, oc, rfl, RO, hb3⟩
         have k' : Below U.heap.size U v3 := kk.trans (hb3.mono kk.size)
         clear kk
         have kk := k'
         clear k'
         have s3 : Hid (∀ j, (v3).cell? ⟨w.heap.size, j, none⟩ = #[.int .i64 x.site, .bool x.up, .slice a.la x.sl.length a.lc, .slice a.va x.vs.length a.vc, .slice a.wa x.ws.length a.wc, .slice a.oa x.os.length a.oc, .slice a.ka x.kn.length a.kc][j]?) := fun j => (A.below kk zA).cell j
         have s3A : Hid (∀ j, (v3.alloc (.cells #[.slice none 0 0, .slice none 0 0, .slice none 0 0] 82)).cell? ⟨w.heap.size, j, none⟩ = #[.int .i64 x.site, .bool x.up, .slice a.la x.sl.length a.lc, .slice a.va x.vs.length a.vc, .slice a.wa x.ws.length a.wc, .slice a.oa x.os.length a.oc, .slice a.ka x.kn.length a.kc][j]?) := fun j => (A.below (kk.alloc kk.size _) zA).cell j
         have s4 : Hid (∀ j, (v3.alloc (.cells #[.slice va x.vs.length vc, .slice wa x.ws.length wc, .slice oa x.os.length oc] 82)).cell? ⟨w.heap.size, j, none⟩ = #[.int .i64 x.site, .bool x.up, .slice a.la x.sl.length a.lc, .slice a.va x.vs.length a.vc, .slice a.wa x.ws.length a.wc, .slice a.oa x.os.length a.oc, .slice a.ka x.kn.length a.kc][j]?) := fun j => (A.below (kk.alloc kk.size _) zA).cell j))
  · have n1 := hb1.size
    have n2 := hb2.size
    have n3 := hb3.size
    simp only [World.size_drew] at n1 n2 n3
    have iv : Hid (∀ b, inV (.slice va x.vs.length vc) ys b → U.heap.size ≤ b ∧ b < v1.heap.size) := by show ∀ b, _; intro b hb; have := OV.lt hb; (try simp at this); omega
    have iw : Hid (∀ b, inV (.slice wa x.ws.length wc) zs b → v1.heap.size ≤ b ∧ b < v2.heap.size) := by show ∀ b, _; intro b hb; have := OW.lt hb; (try simp at this); omega
    have io : Hid (∀ b, (Value.slice oa x.os.length oc).ownBlock = some b → v2.heap.size ≤ b ∧ b < v3.heap.size) := by show ∀ b, _; intro b hb; have := RO.lt b hb; (try simp at this); omega
    have OV2 := (OV).below hb2 (Nat.le_refl _)
    have OV3 := (OV2).below hb3 (Nat.le_refl _)
    have OW3 := (OW).below hb3 (Nat.le_refl _)
    have OV4 := OV3.mono (base' := U.heap.size) (by first | omega | (simp; omega) | simp)
    have OW4 := OW3.mono (base' := U.heap.size) (by first | omega | (simp; omega))
    have RO4 := row_mono RO (base' := U.heap.size) (by first | omega | (simp; omega))
    have OV5 := OV4.alloc (.cells #[.slice va x.vs.length vc, .slice wa x.ws.length wc, .slice oa x.os.length oc] 82)
    have OW5 := OW4.alloc (.cells #[.slice va x.vs.length vc, .slice wa x.ws.length wc, .slice oa x.os.length oc] 82)
    have RO5 : Hid (RowD (v3.alloc (.cells #[.slice va x.vs.length vc, .slice wa x.ws.length wc, .slice oa x.os.length oc] 82)) U.heap.size (.slice oa x.os.length oc) x.os) := (show World.ownsRow _ _ _ _ _ _ _ from RO4).alloc _
    have kW : Below U.heap.size U (v3.alloc (.cells #[.slice va x.vs.length vc, .slice wa x.ws.length wc, .slice oa x.os.length oc] 82)) := kk.alloc kk.size _
    have FK := Blk.new v3 #[.slice va x.vs.length vc, .slice wa x.ws.length wc, .slice oa x.os.length oc] 82
    have zD : U.heap.size ≤ v3.heap.size := by omega
    have sW : v3.heap.size ≤ (v3.alloc (.cells #[.slice va x.vs.length vc, .slice wa x.ws.length wc, .slice oa x.os.length oc] 82)).heap.size := by simp
    have FA := A.below kW zA
    have FR := R.below kW R.lt
    have FT := T.below kW T.lt
    have HY : Hid (ys.map XV.v = x.vs) := hy
    have HZ : Hid (zs.map XV.v = x.ws) := hz
    have FL := L.k.below (kW.drew)
    have FB : Below w.heap.size w (v3.alloc (.cells #[.slice va x.vs.length vc, .slice wa x.ws.length wc, .slice oa x.os.length oc] 82)) := B.trans (kW.mono B.size)
    have n0 : w.heap.size + 1 < U.heap.size := R.lt
    have nT := T.lt
    clear OV OW RO OV2 OV3 OW3 OV4 OW4 RO4 A R T L B hb1 hb2 hb3 kk hy hz s1 s2 s3 s4 s0 s0A kD
    try clear tkN
    try clear PA1
    try clear P1
    try clear P2
    try clear PA2
    try clear P3
    try clear PA3
    try clear s1A
    try clear s2A
    try clear s3A
    generalize v3.alloc (.cells #[.slice va x.vs.length vc, .slice wa x.ws.length wc, .slice oa x.os.length oc] 82) = W at *
    have eK := FK.lt
    have eA := FA.lt
    have eT := FT.lt
    have eR := FR.lt
    have c0 : Hid ((∀ j, (W.drew).cell? ⟨w.heap.size, j, none⟩ = #[.int .i64 x.site, .bool x.up, .slice a.la x.sl.length a.lc, .slice a.va x.vs.length a.vc, .slice a.wa x.ws.length a.wc, .slice a.oa x.os.length a.oc, .slice a.ka x.kn.length a.kc][j]?) ∧ (∀ j, (W.drew).cell? ⟨w2.heap.size, j, none⟩ = (tab6 t1 t2 t3)[j]?) ∧ (∀ j, (W.drew).cell? ⟨v3.heap.size, j, none⟩ = #[.slice va x.vs.length vc, .slice wa x.ws.length wc, .slice oa x.os.length oc][j]?)) := ⟨fun j => FA.cell j, fun j => FT.cell j, fun j => FK.cell j⟩
    have tkC : Hid True := trivial
    go_wp2_with fail
    go_region_held3 (fun W' => (∀ j, W'.cell? ⟨w.heap.size, j, none⟩ = #[.int .i64 x.site, .bool x.up, .slice a.la x.sl.length a.lc, .slice a.va x.vs.length a.vc, .slice a.wa x.ws.length a.wc, .slice a.oa x.os.length a.oc, .slice a.ka x.kn.length a.kc][j]?) ∧ (∀ j, W'.cell? ⟨w2.heap.size, j, none⟩ = (tab6 t1 t2 t3)[j]?) ∧ (∀ j, W'.cell? ⟨v3.heap.size, j, none⟩ = #[.slice va x.vs.length vc, .slice wa x.ws.length wc, .slice oa x.os.length oc][j]?)) (first | with_reducible exact c2.out | with_reducible exact c1.out | with_reducible exact c0.out)
      (first | (go_at_call 126
                clear tkC
                refine (copyDeps_any a.ka a.kc x.kn _ hl.k ?hv).mono ?_
                (case hv => exact FL)
                rintro e v4 ⟨ka, kc, rfl, RK, hb4⟩
                have k4 : Below W.heap.size W v4 := ((Below.refl _ W).drew).trans (hb4.mono (Nat.le_refl _))
                have FR4 := FR.below k4 eR
                have c1 : Hid ((∀ j, (v4).cell? ⟨w.heap.size, j, none⟩ = #[.int .i64 x.site, .bool x.up, .slice a.la x.sl.length a.lc, .slice a.va x.vs.length a.vc, .slice a.wa x.ws.length a.wc, .slice a.oa x.os.length a.oc, .slice a.ka x.kn.length a.kc][j]?) ∧ (∀ j, (v4).cell? ⟨w2.heap.size, j, none⟩ = (tab6 t1 t2 t3)[j]?) ∧ (∀ j, (v4).cell? ⟨v3.heap.size, j, none⟩ = #[.slice va x.vs.length vc, .slice wa x.ws.length wc, .slice oa x.os.length oc][j]?)) := ⟨fun j => (FA.below k4 eA).cell j, fun j => (FT.below k4 eT).cell j, fun j => (FK.below k4 eK).cell j⟩
                have k5 : Below (w.heap.size + 1) v4 ((((((((((((v4.setCell ⟨w.heap.size + 1, 0, none⟩ (.slice va x.vs.length vc)).setCell ⟨w.heap.size + 1, 1, none⟩ (.slice wa x.ws.length wc)).setCell ⟨w.heap.size + 1, 2, none⟩ (.slice oa x.os.length oc)).setCell ⟨w.heap.size + 1, 3, none⟩ (.int .i64 x.site)).setCell ⟨w.heap.size + 1, 4, none⟩ (.bool x.up)).setCell ⟨w.heap.size + 1, 5, none⟩ (.int .i64 t1.ep)).setCell ⟨w.heap.size + 1, 6, none⟩ (.int .i64 t1.st)).setCell ⟨w.heap.size + 1, 7, none⟩ (.int .i64 t2.ep)).setCell ⟨w.heap.size + 1, 8, none⟩ (.int .i64 t2.st)).setCell ⟨w.heap.size + 1, 9, none⟩ (.int .i64 t3.ep)).setCell ⟨w.heap.size + 1, 10, none⟩ (.int .i64 t3.st)).setCell ⟨w.heap.size + 1, 11, none⟩ (.slice ka x.kn.length kc)) := fill_below (Below.refl _ _) (Nat.le_refl _)
                have c2 : Hid ((∀ j, (((((((((((((v4.setCell ⟨w.heap.size + 1, 0, none⟩ (.slice va x.vs.length vc)).setCell ⟨w.heap.size + 1, 1, none⟩ (.slice wa x.ws.length wc)).setCell ⟨w.heap.size + 1, 2, none⟩ (.slice oa x.os.length oc)).setCell ⟨w.heap.size + 1, 3, none⟩ (.int .i64 x.site)).setCell ⟨w.heap.size + 1, 4, none⟩ (.bool x.up)).setCell ⟨w.heap.size + 1, 5, none⟩ (.int .i64 t1.ep)).setCell ⟨w.heap.size + 1, 6, none⟩ (.int .i64 t1.st)).setCell ⟨w.heap.size + 1, 7, none⟩ (.int .i64 t2.ep)).setCell ⟨w.heap.size + 1, 8, none⟩ (.int .i64 t2.st)).setCell ⟨w.heap.size + 1, 9, none⟩ (.int .i64 t3.ep)).setCell ⟨w.heap.size + 1, 10, none⟩ (.int .i64 t3.st)).setCell ⟨w.heap.size + 1, 11, none⟩ (.slice ka x.kn.length kc))).cell? ⟨w.heap.size, j, none⟩ = #[.int .i64 x.site, .bool x.up, .slice a.la x.sl.length a.lc, .slice a.va x.vs.length a.vc, .slice a.wa x.ws.length a.wc, .slice a.oa x.os.length a.oc, .slice a.ka x.kn.length a.kc][j]?) ∧ (∀ j, (((((((((((((v4.setCell ⟨w.heap.size + 1, 0, none⟩ (.slice va x.vs.length vc)).setCell ⟨w.heap.size + 1, 1, none⟩ (.slice wa x.ws.length wc)).setCell ⟨w.heap.size + 1, 2, none⟩ (.slice oa x.os.length oc)).setCell ⟨w.heap.size + 1, 3, none⟩ (.int .i64 x.site)).setCell ⟨w.heap.size + 1, 4, none⟩ (.bool x.up)).setCell ⟨w.heap.size + 1, 5, none⟩ (.int .i64 t1.ep)).setCell ⟨w.heap.size + 1, 6, none⟩ (.int .i64 t1.st)).setCell ⟨w.heap.size + 1, 7, none⟩ (.int .i64 t2.ep)).setCell ⟨w.heap.size + 1, 8, none⟩ (.int .i64 t2.st)).setCell ⟨w.heap.size + 1, 9, none⟩ (.int .i64 t3.ep)).setCell ⟨w.heap.size + 1, 10, none⟩ (.int .i64 t3.st)).setCell ⟨w.heap.size + 1, 11, none⟩ (.slice ka x.kn.length kc))).cell? ⟨w2.heap.size, j, none⟩ = (tab6 t1 t2 t3)[j]?) ∧ (∀ j, (((((((((((((v4.setCell ⟨w.heap.size + 1, 0, none⟩ (.slice va x.vs.length vc)).setCell ⟨w.heap.size + 1, 1, none⟩ (.slice wa x.ws.length wc)).setCell ⟨w.heap.size + 1, 2, none⟩ (.slice oa x.os.length oc)).setCell ⟨w.heap.size + 1, 3, none⟩ (.int .i64 x.site)).setCell ⟨w.heap.size + 1, 4, none⟩ (.bool x.up)).setCell ⟨w.heap.size + 1, 5, none⟩ (.int .i64 t1.ep)).setCell ⟨w.heap.size + 1, 6, none⟩ (.int .i64 t1.st)).setCell ⟨w.heap.size + 1, 7, none⟩ (.int .i64 t2.ep)).setCell ⟨w.heap.size + 1, 8, none⟩ (.int .i64 t2.st)).setCell ⟨w.heap.size + 1, 9, none⟩ (.int .i64 t3.ep)).setCell ⟨w.heap.size + 1, 10, none⟩ (.int .i64 t3.st)).setCell ⟨w.heap.size + 1, 11, none⟩ (.slice ka x.kn.length kc))).cell? ⟨v3.heap.size, j, none⟩ = #[.slice va x.vs.length vc, .slice wa x.ws.length wc, .slice oa x.os.length oc][j]?)) := ⟨fun j => (Blk.fillOther (FA.below k4 eA) (by omega)).cell j, fun j => (Blk.fillOther (FT.below k4 eT) (by omega)).cell j, fun j => (Blk.fillOther (FK.below k4 eK) (by omega)).cell j⟩
                obtain ⟨yq, yf⟩ := FR4.rules))
    have OK := (OwnK.mk4 (x := x) (a := ⟨none, 0, va, vc, wa, wc, oa, oc, ka, kc⟩) (OV5.below k4 (Nat.le_refl _)) (OW5.below k4 (Nat.le_refl _)) (row_below RO5.out k4 (Nat.le_refl _)) (row_mono RK (base' := U.heap.size) (by first | omega | (simp; omega))) HY.out HZ.out v1.heap.size v2.heap.size v3.heap.size (fun b hb => (iv.out b hb).2) (fun b hb => by have := iw.out b hb; omega) (fun b hb => by have := io.out b hb; omega) (fun b hb => by have := (RK.lt b hb).1; (try simp at this); omega) (by omega) (by omega))
    have B4 : Below w.heap.size w v4 := FB.trans (k4.mono FB.size)
    clear c0 c1 c2 yq yf FA FT FK FL OV5 OW5 RO5 RK iv iw io HY HZ k4 hb4 FR FB
    go_wp2_with fail
    refine bodyPost_ret (v := .tuple #[.agg (hostC x.site x.up (.slice va x.vs.length vc) (.slice wa x.ws.length wc) (.slice oa x.os.length oc) (.slice ka x.kn.length kc) t1 t2 t3), .bool true]) ?_ rfl ⟨va, vc, wa, wc, oa, oc, ka, kc, ys, zs, rfl, (OK.fill12 (by omega)).mono (by omega), fill_below B4 (by omega)⟩
    refine Blk.gen (B := w.heap.size + 1) (vs := hostC x.site x.up (.slice va x.vs.length vc) (.slice wa x.ws.length wc) (.slice oa x.os.length oc) (.slice ka x.kn.length kc) t1 t2 t3) (T := 88) ?_ (P := fun W => (results Tryz.f48 _).run Tryz.prog W = .ok _ W) ?_
    · exact Blk.fill FR4
    intro W hW
    obtain ⟨k, f⟩ := hW.rules
    simp [results, Tryz.results48, go_sem, k]
  · have n1 := hb1.size
    have n2 := hb2.size
    have n3 := hb3.size
    simp only [World.size_alloc, World.size_drew] at n1 n2 n3
    have iv : Hid (∀ b, inV (.slice va x.vs.length vc) ys b → U.heap.size ≤ b ∧ b < v1.heap.size) := by show ∀ b, _; intro b hb; have := OV.lt hb; (try simp at this); omega
    have iw : Hid (∀ b, inV (.slice wa x.ws.length wc) zs b → v1.heap.size ≤ b ∧ b < v2.heap.size) := by show ∀ b, _; intro b hb; have := OW.lt hb; (try simp at this); omega
    have io : Hid (∀ b, (Value.slice oa x.os.length oc).ownBlock = some b → v2.heap.size + 1 ≤ b ∧ b < v3.heap.size) := by show ∀ b, _; intro b hb; have := RO.lt b hb; (try simp at this); omega
    have OV2 := (OV).below hb2 (Nat.le_refl _)
    have OV3 := (OV2.alloc (.cells #[.slice none 0 0, .slice none 0 0, .slice none 0 0] 82)).below hb3 (Nat.le_refl _)
    have OW3 := (OW.alloc (.cells #[.slice none 0 0, .slice none 0 0, .slice none 0 0] 82)).below hb3 (Nat.le_refl _)
    have OV4 := OV3.mono (base' := U.heap.size) (by first | omega | (simp; omega) | simp)
    have OW4 := OW3.mono (base' := U.heap.size) (by first | omega | (simp; omega))
    have RO4 := row_mono RO (base' := U.heap.size) (by first | omega | (simp; omega))
    have zD : U.heap.size ≤ v2.heap.size := by omega
    have OV5 := OV4.set3 (Z := v2.heap.size) (v0 := .slice va x.vs.length vc) (v1 := .slice wa x.ws.length wc) (v2 := .slice oa x.os.length oc) (fun hb => by have := iv.out _ hb; omega)
    have OW5 := OW4.set3 (Z := v2.heap.size) (v0 := .slice va x.vs.length vc) (v1 := .slice wa x.ws.length wc) (v2 := .slice oa x.os.length oc) (fun hb => by have := iw.out _ hb; omega)
    have RO5 : Hid (RowD (((v3.setCell ⟨v2.heap.size, 0, none⟩ (.slice va x.vs.length vc)).setCell ⟨v2.heap.size, 1, none⟩ (.slice wa x.ws.length wc)).setCell ⟨v2.heap.size, 2, none⟩ (.slice oa x.os.length oc)) U.heap.size (.slice oa x.os.length oc) x.os) := row_set3 RO4 (fun hb => by have := io.out _ hb; omega)
    have kW : Below U.heap.size U (((v3.setCell ⟨v2.heap.size, 0, none⟩ (.slice va x.vs.length vc)).setCell ⟨v2.heap.size, 1, none⟩ (.slice wa x.ws.length wc)).setCell ⟨v2.heap.size, 2, none⟩ (.slice oa x.os.length oc)) := ((kk.setCell (p := ⟨v2.heap.size, 0, none⟩) zD _).setCell (p := ⟨v2.heap.size, 1, none⟩) zD _).setCell (p := ⟨v2.heap.size, 2, none⟩) zD _
    have FK : Blk (((v3.setCell ⟨v2.heap.size, 0, none⟩ (.slice va x.vs.length vc)).setCell ⟨v2.heap.size, 1, none⟩ (.slice wa x.ws.length wc)).setCell ⟨v2.heap.size, 2, none⟩ (.slice oa x.os.length oc)) (v2.heap.size) #[.slice va x.vs.length vc, .slice wa x.ws.length wc, .slice oa x.os.length oc] 82 := Blk.fill3 ZD
    have sW : v3.heap.size ≤ ((((v3.setCell ⟨v2.heap.size, 0, none⟩ (.slice va x.vs.length vc)).setCell ⟨v2.heap.size, 1, none⟩ (.slice wa x.ws.length wc)).setCell ⟨v2.heap.size, 2, none⟩ (.slice oa x.os.length oc))).heap.size := by simp
    have FA := A.below kW zA
    have FR := R.below kW R.lt
    have FT := T.below kW T.lt
    have HY : Hid (ys.map XV.v = x.vs) := hy
    have HZ : Hid (zs.map XV.v = x.ws) := hz
    have FL := L.k.below (kW.drew)
    have FB : Below w.heap.size w ((((v3.setCell ⟨v2.heap.size, 0, none⟩ (.slice va x.vs.length vc)).setCell ⟨v2.heap.size, 1, none⟩ (.slice wa x.ws.length wc)).setCell ⟨v2.heap.size, 2, none⟩ (.slice oa x.os.length oc))) := B.trans (kW.mono B.size)
    have n0 : w.heap.size + 1 < U.heap.size := R.lt
    have nT := T.lt
    clear OV OW RO OV2 OV3 OW3 OV4 OW4 RO4 A R T L B hb1 hb2 hb3 kk hy hz s1 s2 s3 s4 s0 s0A kD ZD zq zf dD
    try clear tkN
    try clear PA1
    try clear P1
    try clear P2
    try clear PA2
    try clear P3
    try clear PA3
    try clear s1A
    try clear s2A
    try clear s3A
    generalize (((v3.setCell ⟨v2.heap.size, 0, none⟩ (.slice va x.vs.length vc)).setCell ⟨v2.heap.size, 1, none⟩ (.slice wa x.ws.length wc)).setCell ⟨v2.heap.size, 2, none⟩ (.slice oa x.os.length oc)) = W at *
    have eK := FK.lt
    have eA := FA.lt
    have eT := FT.lt
    have eR := FR.lt
    have c0 : Hid ((∀ j, (W.drew).cell? ⟨w.heap.size, j, none⟩ = #[.int .i64 x.site, .bool x.up, .slice a.la x.sl.length a.lc, .slice a.va x.vs.length a.vc, .slice a.wa x.ws.length a.wc, .slice a.oa x.os.length a.oc, .slice a.ka x.kn.length a.kc][j]?) ∧ (∀ j, (W.drew).cell? ⟨w2.heap.size, j, none⟩ = (tab6 t1 t2 t3)[j]?) ∧ (∀ j, (W.drew).cell? ⟨v2.heap.size, j, none⟩ = #[.slice va x.vs.length vc, .slice wa x.ws.length wc, .slice oa x.os.length oc][j]?)) := ⟨fun j => FA.cell j, fun j => FT.cell j, fun j => FK.cell j⟩
    have tkC : Hid True := trivial
    go_wp2_with fail
    go_region_held3 (fun W' => (∀ j, W'.cell? ⟨w.heap.size, j, none⟩ = #[.int .i64 x.site, .bool x.up, .slice a.la x.sl.length a.lc, .slice a.va x.vs.length a.vc, .slice a.wa x.ws.length a.wc, .slice a.oa x.os.length a.oc, .slice a.ka x.kn.length a.kc][j]?) ∧ (∀ j, W'.cell? ⟨w2.heap.size, j, none⟩ = (tab6 t1 t2 t3)[j]?) ∧ (∀ j, W'.cell? ⟨v2.heap.size, j, none⟩ = #[.slice va x.vs.length vc, .slice wa x.ws.length wc, .slice oa x.os.length oc][j]?)) (first | with_reducible exact c2.out | with_reducible exact c1.out | with_reducible exact c0.out)
      (first | (go_at_call 126
                clear tkC
                refine (copyDeps_any a.ka a.kc x.kn _ hl.k ?hv).mono ?_
                (case hv => exact FL)
                rintro e v4 ⟨ka, kc, rfl, RK, hb4⟩
                have k4 : Below W.heap.size W v4 := ((Below.refl _ W).drew).trans (hb4.mono (Nat.le_refl _))
                have FR4 := FR.below k4 eR
                have c1 : Hid ((∀ j, (v4).cell? ⟨w.heap.size, j, none⟩ = #[.int .i64 x.site, .bool x.up, .slice a.la x.sl.length a.lc, .slice a.va x.vs.length a.vc, .slice a.wa x.ws.length a.wc, .slice a.oa x.os.length a.oc, .slice a.ka x.kn.length a.kc][j]?) ∧ (∀ j, (v4).cell? ⟨w2.heap.size, j, none⟩ = (tab6 t1 t2 t3)[j]?) ∧ (∀ j, (v4).cell? ⟨v2.heap.size, j, none⟩ = #[.slice va x.vs.length vc, .slice wa x.ws.length wc, .slice oa x.os.length oc][j]?)) := ⟨fun j => (FA.below k4 eA).cell j, fun j => (FT.below k4 eT).cell j, fun j => (FK.below k4 eK).cell j⟩
                have k5 : Below (w.heap.size + 1) v4 ((((((((((((v4.setCell ⟨w.heap.size + 1, 0, none⟩ (.slice va x.vs.length vc)).setCell ⟨w.heap.size + 1, 1, none⟩ (.slice wa x.ws.length wc)).setCell ⟨w.heap.size + 1, 2, none⟩ (.slice oa x.os.length oc)).setCell ⟨w.heap.size + 1, 3, none⟩ (.int .i64 x.site)).setCell ⟨w.heap.size + 1, 4, none⟩ (.bool x.up)).setCell ⟨w.heap.size + 1, 5, none⟩ (.int .i64 t1.ep)).setCell ⟨w.heap.size + 1, 6, none⟩ (.int .i64 t1.st)).setCell ⟨w.heap.size + 1, 7, none⟩ (.int .i64 t2.ep)).setCell ⟨w.heap.size + 1, 8, none⟩ (.int .i64 t2.st)).setCell ⟨w.heap.size + 1, 9, none⟩ (.int .i64 t3.ep)).setCell ⟨w.heap.size + 1, 10, none⟩ (.int .i64 t3.st)).setCell ⟨w.heap.size + 1, 11, none⟩ (.slice ka x.kn.length kc)) := fill_below (Below.refl _ _) (Nat.le_refl _)
                have c2 : Hid ((∀ j, (((((((((((((v4.setCell ⟨w.heap.size + 1, 0, none⟩ (.slice va x.vs.length vc)).setCell ⟨w.heap.size + 1, 1, none⟩ (.slice wa x.ws.length wc)).setCell ⟨w.heap.size + 1, 2, none⟩ (.slice oa x.os.length oc)).setCell ⟨w.heap.size + 1, 3, none⟩ (.int .i64 x.site)).setCell ⟨w.heap.size + 1, 4, none⟩ (.bool x.up)).setCell ⟨w.heap.size + 1, 5, none⟩ (.int .i64 t1.ep)).setCell ⟨w.heap.size + 1, 6, none⟩ (.int .i64 t1.st)).setCell ⟨w.heap.size + 1, 7, none⟩ (.int .i64 t2.ep)).setCell ⟨w.heap.size + 1, 8, none⟩ (.int .i64 t2.st)).setCell ⟨w.heap.size + 1, 9, none⟩ (.int .i64 t3.ep)).setCell ⟨w.heap.size + 1, 10, none⟩ (.int .i64 t3.st)).setCell ⟨w.heap.size + 1, 11, none⟩ (.slice ka x.kn.length kc))).cell? ⟨w.heap.size, j, none⟩ = #[.int .i64 x.site, .bool x.up, .slice a.la x.sl.length a.lc, .slice a.va x.vs.length a.vc, .slice a.wa x.ws.length a.wc, .slice a.oa x.os.length a.oc, .slice a.ka x.kn.length a.kc][j]?) ∧ (∀ j, (((((((((((((v4.setCell ⟨w.heap.size + 1, 0, none⟩ (.slice va x.vs.length vc)).setCell ⟨w.heap.size + 1, 1, none⟩ (.slice wa x.ws.length wc)).setCell ⟨w.heap.size + 1, 2, none⟩ (.slice oa x.os.length oc)).setCell ⟨w.heap.size + 1, 3, none⟩ (.int .i64 x.site)).setCell ⟨w.heap.size + 1, 4, none⟩ (.bool x.up)).setCell ⟨w.heap.size + 1, 5, none⟩ (.int .i64 t1.ep)).setCell ⟨w.heap.size + 1, 6, none⟩ (.int .i64 t1.st)).setCell ⟨w.heap.size + 1, 7, none⟩ (.int .i64 t2.ep)).setCell ⟨w.heap.size + 1, 8, none⟩ (.int .i64 t2.st)).setCell ⟨w.heap.size + 1, 9, none⟩ (.int .i64 t3.ep)).setCell ⟨w.heap.size + 1, 10, none⟩ (.int .i64 t3.st)).setCell ⟨w.heap.size + 1, 11, none⟩ (.slice ka x.kn.length kc))).cell? ⟨w2.heap.size, j, none⟩ = (tab6 t1 t2 t3)[j]?) ∧ (∀ j, (((((((((((((v4.setCell ⟨w.heap.size + 1, 0, none⟩ (.slice va x.vs.length vc)).setCell ⟨w.heap.size + 1, 1, none⟩ (.slice wa x.ws.length wc)).setCell ⟨w.heap.size + 1, 2, none⟩ (.slice oa x.os.length oc)).setCell ⟨w.heap.size + 1, 3, none⟩ (.int .i64 x.site)).setCell ⟨w.heap.size + 1, 4, none⟩ (.bool x.up)).setCell ⟨w.heap.size + 1, 5, none⟩ (.int .i64 t1.ep)).setCell ⟨w.heap.size + 1, 6, none⟩ (.int .i64 t1.st)).setCell ⟨w.heap.size + 1, 7, none⟩ (.int .i64 t2.ep)).setCell ⟨w.heap.size + 1, 8, none⟩ (.int .i64 t2.st)).setCell ⟨w.heap.size + 1, 9, none⟩ (.int .i64 t3.ep)).setCell ⟨w.heap.size + 1, 10, none⟩ (.int .i64 t3.st)).setCell ⟨w.heap.size + 1, 11, none⟩ (.slice ka x.kn.length kc))).cell? ⟨v2.heap.size, j, none⟩ = #[.slice va x.vs.length vc, .slice wa x.ws.length wc, .slice oa x.os.length oc][j]?)) := ⟨fun j => (Blk.fillOther (FA.below k4 eA) (by omega)).cell j, fun j => (Blk.fillOther (FT.below k4 eT) (by omega)).cell j, fun j => (Blk.fillOther (FK.below k4 eK) (by omega)).cell j⟩
                obtain ⟨yq, yf⟩ := FR4.rules))
    have OK := (OwnK.mk4 (x := x) (a := ⟨none, 0, va, vc, wa, wc, oa, oc, ka, kc⟩) (OV5.below k4 (Nat.le_refl _)) (OW5.below k4 (Nat.le_refl _)) (row_below RO5.out k4 (Nat.le_refl _)) (row_mono RK (base' := U.heap.size) (by first | omega | (simp; omega))) HY.out HZ.out v1.heap.size v2.heap.size v3.heap.size (fun b hb => (iv.out b hb).2) (fun b hb => by have := iw.out b hb; omega) (fun b hb => by have := io.out b hb; omega) (fun b hb => by have := (RK.lt b hb).1; (try simp at this); omega) (by omega) (by omega))
    have B4 : Below w.heap.size w v4 := FB.trans (k4.mono FB.size)
    clear c0 c1 c2 yq yf FA FT FK FL OV5 OW5 RO5 RK iv iw io HY HZ k4 hb4 FR FB
    go_wp2_with fail
    refine bodyPost_ret (v := .tuple #[.agg (hostC x.site x.up (.slice va x.vs.length vc) (.slice wa x.ws.length wc) (.slice oa x.os.length oc) (.slice ka x.kn.length kc) t1 t2 t3), .bool true]) ?_ rfl ⟨va, vc, wa, wc, oa, oc, ka, kc, ys, zs, rfl, (OK.fill12 (by omega)).mono (by omega), fill_below B4 (by omega)⟩
    refine Blk.gen (B := w.heap.size + 1) (vs := hostC x.site x.up (.slice va x.vs.length vc) (.slice wa x.ws.length wc) (.slice oa x.os.length oc) (.slice ka x.kn.length kc) t1 t2 t3) (T := 88) ?_ (P := fun W => (results Tryz.f48 _).run Tryz.prog W = .ok _ W) ?_
    · exact Blk.fill FR4
    intro W hW
    obtain ⟨k, f⟩ := hW.rules
    simp [results, Tryz.results48, go_sem, k]
  · have n1 := hb1.size
    have n2 := hb2.size
    have n3 := hb3.size
    simp only [World.size_alloc, World.size_drew] at n1 n2 n3
    have iv : Hid (∀ b, inV (.slice va x.vs.length vc) ys b → U.heap.size ≤ b ∧ b < v1.heap.size) := by show ∀ b, _; intro b hb; have := OV.lt hb; (try simp at this); omega
    have iw : Hid (∀ b, inV (.slice wa x.ws.length wc) zs b → v1.heap.size + 1 ≤ b ∧ b < v2.heap.size) := by show ∀ b, _; intro b hb; have := OW.lt hb; (try simp at this); omega
    have io : Hid (∀ b, (Value.slice oa x.os.length oc).ownBlock = some b → v2.heap.size ≤ b ∧ b < v3.heap.size) := by show ∀ b, _; intro b hb; have := RO.lt b hb; (try simp at this); omega
    have OV2 := (OV.alloc (.cells #[.slice none 0 0, .slice none 0 0, .slice none 0 0] 82)).below hb2 (Nat.le_refl _)
    have OV3 := (OV2).below hb3 (Nat.le_refl _)
    have OW3 := (OW).below hb3 (Nat.le_refl _)
    have OV4 := OV3.mono (base' := U.heap.size) (by first | omega | (simp; omega) | simp)
    have OW4 := OW3.mono (base' := U.heap.size) (by first | omega | (simp; omega))
    have RO4 := row_mono RO (base' := U.heap.size) (by first | omega | (simp; omega))
    have zD : U.heap.size ≤ v1.heap.size := by omega
    have OV5 := OV4.set3 (Z := v1.heap.size) (v0 := .slice va x.vs.length vc) (v1 := .slice wa x.ws.length wc) (v2 := .slice oa x.os.length oc) (fun hb => by have := iv.out _ hb; omega)
    have OW5 := OW4.set3 (Z := v1.heap.size) (v0 := .slice va x.vs.length vc) (v1 := .slice wa x.ws.length wc) (v2 := .slice oa x.os.length oc) (fun hb => by have := iw.out _ hb; omega)
    have RO5 : Hid (RowD (((v3.setCell ⟨v1.heap.size, 0, none⟩ (.slice va x.vs.length vc)).setCell ⟨v1.heap.size, 1, none⟩ (.slice wa x.ws.length wc)).setCell ⟨v1.heap.size, 2, none⟩ (.slice oa x.os.length oc)) U.heap.size (.slice oa x.os.length oc) x.os) := row_set3 RO4 (fun hb => by have := io.out _ hb; omega)
    have kW : Below U.heap.size U (((v3.setCell ⟨v1.heap.size, 0, none⟩ (.slice va x.vs.length vc)).setCell ⟨v1.heap.size, 1, none⟩ (.slice wa x.ws.length wc)).setCell ⟨v1.heap.size, 2, none⟩ (.slice oa x.os.length oc)) := ((kk.setCell (p := ⟨v1.heap.size, 0, none⟩) zD _).setCell (p := ⟨v1.heap.size, 1, none⟩) zD _).setCell (p := ⟨v1.heap.size, 2, none⟩) zD _
    have FK : Blk (((v3.setCell ⟨v1.heap.size, 0, none⟩ (.slice va x.vs.length vc)).setCell ⟨v1.heap.size, 1, none⟩ (.slice wa x.ws.length wc)).setCell ⟨v1.heap.size, 2, none⟩ (.slice oa x.os.length oc)) (v1.heap.size) #[.slice va x.vs.length vc, .slice wa x.ws.length wc, .slice oa x.os.length oc] 82 := Blk.fill3 ZD
    have sW : v3.heap.size ≤ ((((v3.setCell ⟨v1.heap.size, 0, none⟩ (.slice va x.vs.length vc)).setCell ⟨v1.heap.size, 1, none⟩ (.slice wa x.ws.length wc)).setCell ⟨v1.heap.size, 2, none⟩ (.slice oa x.os.length oc))).heap.size := by simp
    have FA := A.below kW zA
    have FR := R.below kW R.lt
    have FT := T.below kW T.lt
    have HY : Hid (ys.map XV.v = x.vs) := hy
    have HZ : Hid (zs.map XV.v = x.ws) := hz
    have FL := L.k.below (kW.drew)
    have FB : Below w.heap.size w ((((v3.setCell ⟨v1.heap.size, 0, none⟩ (.slice va x.vs.length vc)).setCell ⟨v1.heap.size, 1, none⟩ (.slice wa x.ws.length wc)).setCell ⟨v1.heap.size, 2, none⟩ (.slice oa x.os.length oc))) := B.trans (kW.mono B.size)
    have n0 : w.heap.size + 1 < U.heap.size := R.lt
    have nT := T.lt
    clear OV OW RO OV2 OV3 OW3 OV4 OW4 RO4 A R T L B hb1 hb2 hb3 kk hy hz s1 s2 s3 s4 s0 s0A kD ZD zq zf dD
    try clear tkN
    try clear PA1
    try clear P1
    try clear P2
    try clear PA2
    try clear P3
    try clear PA3
    try clear s1A
    try clear s2A
    try clear s3A
    generalize (((v3.setCell ⟨v1.heap.size, 0, none⟩ (.slice va x.vs.length vc)).setCell ⟨v1.heap.size, 1, none⟩ (.slice wa x.ws.length wc)).setCell ⟨v1.heap.size, 2, none⟩ (.slice oa x.os.length oc)) = W at *
    have eK := FK.lt
    have eA := FA.lt
    have eT := FT.lt
    have eR := FR.lt
    have c0 : Hid ((∀ j, (W.drew).cell? ⟨w.heap.size, j, none⟩ = #[.int .i64 x.site, .bool x.up, .slice a.la x.sl.length a.lc, .slice a.va x.vs.length a.vc, .slice a.wa x.ws.length a.wc, .slice a.oa x.os.length a.oc, .slice a.ka x.kn.length a.kc][j]?) ∧ (∀ j, (W.drew).cell? ⟨w2.heap.size, j, none⟩ = (tab6 t1 t2 t3)[j]?) ∧ (∀ j, (W.drew).cell? ⟨v1.heap.size, j, none⟩ = #[.slice va x.vs.length vc, .slice wa x.ws.length wc, .slice oa x.os.length oc][j]?)) := ⟨fun j => FA.cell j, fun j => FT.cell j, fun j => FK.cell j⟩
    have tkC : Hid True := trivial
    go_wp2_with fail
    go_region_held3 (fun W' => (∀ j, W'.cell? ⟨w.heap.size, j, none⟩ = #[.int .i64 x.site, .bool x.up, .slice a.la x.sl.length a.lc, .slice a.va x.vs.length a.vc, .slice a.wa x.ws.length a.wc, .slice a.oa x.os.length a.oc, .slice a.ka x.kn.length a.kc][j]?) ∧ (∀ j, W'.cell? ⟨w2.heap.size, j, none⟩ = (tab6 t1 t2 t3)[j]?) ∧ (∀ j, W'.cell? ⟨v1.heap.size, j, none⟩ = #[.slice va x.vs.length vc, .slice wa x.ws.length wc, .slice oa x.os.length oc][j]?)) (first | with_reducible exact c2.out | with_reducible exact c1.out | with_reducible exact c0.out)
      (first | (go_at_call 126
                clear tkC
                refine (copyDeps_any a.ka a.kc x.kn _ hl.k ?hv).mono ?_
                (case hv => exact FL)
                rintro e v4 ⟨ka, kc, rfl, RK, hb4⟩
                have k4 : Below W.heap.size W v4 := ((Below.refl _ W).drew).trans (hb4.mono (Nat.le_refl _))
                have FR4 := FR.below k4 eR
                have c1 : Hid ((∀ j, (v4).cell? ⟨w.heap.size, j, none⟩ = #[.int .i64 x.site, .bool x.up, .slice a.la x.sl.length a.lc, .slice a.va x.vs.length a.vc, .slice a.wa x.ws.length a.wc, .slice a.oa x.os.length a.oc, .slice a.ka x.kn.length a.kc][j]?) ∧ (∀ j, (v4).cell? ⟨w2.heap.size, j, none⟩ = (tab6 t1 t2 t3)[j]?) ∧ (∀ j, (v4).cell? ⟨v1.heap.size, j, none⟩ = #[.slice va x.vs.length vc, .slice wa x.ws.length wc, .slice oa x.os.length oc][j]?)) := ⟨fun j => (FA.below k4 eA).cell j, fun j => (FT.below k4 eT).cell j, fun j => (FK.below k4 eK).cell j⟩
                have k5 : Below (w.heap.size + 1) v4 ((((((((((((v4.setCell ⟨w.heap.size + 1, 0, none⟩ (.slice va x.vs.length vc)).setCell ⟨w.heap.size + 1, 1, none⟩ (.slice wa x.ws.length wc)).setCell ⟨w.heap.size + 1, 2, none⟩ (.slice oa x.os.length oc)).setCell ⟨w.heap.size + 1, 3, none⟩ (.int .i64 x.site)).setCell ⟨w.heap.size + 1, 4, none⟩ (.bool x.up)).setCell ⟨w.heap.size + 1, 5, none⟩ (.int .i64 t1.ep)).setCell ⟨w.heap.size + 1, 6, none⟩ (.int .i64 t1.st)).setCell ⟨w.heap.size + 1, 7, none⟩ (.int .i64 t2.ep)).setCell ⟨w.heap.size + 1, 8, none⟩ (.int .i64 t2.st)).setCell ⟨w.heap.size + 1, 9, none⟩ (.int .i64 t3.ep)).setCell ⟨w.heap.size + 1, 10, none⟩ (.int .i64 t3.st)).setCell ⟨w.heap.size + 1, 11, none⟩ (.slice ka x.kn.length kc)) := fill_below (Below.refl _ _) (Nat.le_refl _)
                have c2 : Hid ((∀ j, (((((((((((((v4.setCell ⟨w.heap.size + 1, 0, none⟩ (.slice va x.vs.length vc)).setCell ⟨w.heap.size + 1, 1, none⟩ (.slice wa x.ws.length wc)).setCell ⟨w.heap.size + 1, 2, none⟩ (.slice oa x.os.length oc)).setCell ⟨w.heap.size + 1, 3, none⟩ (.int .i64 x.site)).setCell ⟨w.heap.size + 1, 4, none⟩ (.bool x.up)).setCell ⟨w.heap.size + 1, 5, none⟩ (.int .i64 t1.ep)).setCell ⟨w.heap.size + 1, 6, none⟩ (.int .i64 t1.st)).setCell ⟨w.heap.size + 1, 7, none⟩ (.int .i64 t2.ep)).setCell ⟨w.heap.size + 1, 8, none⟩ (.int .i64 t2.st)).setCell ⟨w.heap.size + 1, 9, none⟩ (.int .i64 t3.ep)).setCell ⟨w.heap.size + 1, 10, none⟩ (.int .i64 t3.st)).setCell ⟨w.heap.size + 1, 11, none⟩ (.slice ka x.kn.length kc))).cell? ⟨w.heap.size, j, none⟩ = #[.int .i64 x.site, .bool x.up, .slice a.la x.sl.length a.lc, .slice a.va x.vs.length a.vc, .slice a.wa x.ws.length a.wc, .slice a.oa x.os.length a.oc, .slice a.ka x.kn.length a.kc][j]?) ∧ (∀ j, (((((((((((((v4.setCell ⟨w.heap.size + 1, 0, none⟩ (.slice va x.vs.length vc)).setCell ⟨w.heap.size + 1, 1, none⟩ (.slice wa x.ws.length wc)).setCell ⟨w.heap.size + 1, 2, none⟩ (.slice oa x.os.length oc)).setCell ⟨w.heap.size + 1, 3, none⟩ (.int .i64 x.site)).setCell ⟨w.heap.size + 1, 4, none⟩ (.bool x.up)).setCell ⟨w.heap.size + 1, 5, none⟩ (.int .i64 t1.ep)).setCell ⟨w.heap.size + 1, 6, none⟩ (.int .i64 t1.st)).setCell ⟨w.heap.size + 1, 7, none⟩ (.int .i64 t2.ep)).setCell ⟨w.heap.size + 1, 8, none⟩ (.int .i64 t2.st)).setCell ⟨w.heap.size + 1, 9, none⟩ (.int .i64 t3.ep)).setCell ⟨w.heap.size + 1, 10, none⟩ (.int .i64 t3.st)).setCell ⟨w.heap.size + 1, 11, none⟩ (.slice ka x.kn.length kc))).cell? ⟨w2.heap.size, j, none⟩ = (tab6 t1 t2 t3)[j]?) ∧ (∀ j, (((((((((((((v4.setCell ⟨w.heap.size + 1, 0, none⟩ (.slice va x.vs.length vc)).setCell ⟨w.heap.size + 1, 1, none⟩ (.slice wa x.ws.length wc)).setCell ⟨w.heap.size + 1, 2, none⟩ (.slice oa x.os.length oc)).setCell ⟨w.heap.size + 1, 3, none⟩ (.int .i64 x.site)).setCell ⟨w.heap.size + 1, 4, none⟩ (.bool x.up)).setCell ⟨w.heap.size + 1, 5, none⟩ (.int .i64 t1.ep)).setCell ⟨w.heap.size + 1, 6, none⟩ (.int .i64 t1.st)).setCell ⟨w.heap.size + 1, 7, none⟩ (.int .i64 t2.ep)).setCell ⟨w.heap.size + 1, 8, none⟩ (.int .i64 t2.st)).setCell ⟨w.heap.size + 1, 9, none⟩ (.int .i64 t3.ep)).setCell ⟨w.heap.size + 1, 10, none⟩ (.int .i64 t3.st)).setCell ⟨w.heap.size + 1, 11, none⟩ (.slice ka x.kn.length kc))).cell? ⟨v1.heap.size, j, none⟩ = #[.slice va x.vs.length vc, .slice wa x.ws.length wc, .slice oa x.os.length oc][j]?)) := ⟨fun j => (Blk.fillOther (FA.below k4 eA) (by omega)).cell j, fun j => (Blk.fillOther (FT.below k4 eT) (by omega)).cell j, fun j => (Blk.fillOther (FK.below k4 eK) (by omega)).cell j⟩
                obtain ⟨yq, yf⟩ := FR4.rules))
    have OK := (OwnK.mk4 (x := x) (a := ⟨none, 0, va, vc, wa, wc, oa, oc, ka, kc⟩) (OV5.below k4 (Nat.le_refl _)) (OW5.below k4 (Nat.le_refl _)) (row_below RO5.out k4 (Nat.le_refl _)) (row_mono RK (base' := U.heap.size) (by first | omega | (simp; omega))) HY.out HZ.out v1.heap.size v2.heap.size v3.heap.size (fun b hb => (iv.out b hb).2) (fun b hb => by have := iw.out b hb; omega) (fun b hb => by have := io.out b hb; omega) (fun b hb => by have := (RK.lt b hb).1; (try simp at this); omega) (by omega) (by omega))
    have B4 : Below w.heap.size w v4 := FB.trans (k4.mono FB.size)
    clear c0 c1 c2 yq yf FA FT FK FL OV5 OW5 RO5 RK iv iw io HY HZ k4 hb4 FR FB
    go_wp2_with fail
    refine bodyPost_ret (v := .tuple #[.agg (hostC x.site x.up (.slice va x.vs.length vc) (.slice wa x.ws.length wc) (.slice oa x.os.length oc) (.slice ka x.kn.length kc) t1 t2 t3), .bool true]) ?_ rfl ⟨va, vc, wa, wc, oa, oc, ka, kc, ys, zs, rfl, (OK.fill12 (by omega)).mono (by omega), fill_below B4 (by omega)⟩
    refine Blk.gen (B := w.heap.size + 1) (vs := hostC x.site x.up (.slice va x.vs.length vc) (.slice wa x.ws.length wc) (.slice oa x.os.length oc) (.slice ka x.kn.length kc) t1 t2 t3) (T := 88) ?_ (P := fun W => (results Tryz.f48 _).run Tryz.prog W = .ok _ W) ?_
    · exact Blk.fill FR4
    intro W hW
    obtain ⟨k, f⟩ := hW.rules
    simp [results, Tryz.results48, go_sem, k]
  · have n1 := hb1.size
    have n2 := hb2.size
    have n3 := hb3.size
    simp only [World.size_alloc, World.size_drew] at n1 n2 n3
    have iv : Hid (∀ b, inV (.slice va x.vs.length vc) ys b → U.heap.size + 1 ≤ b ∧ b < v1.heap.size) := by show ∀ b, _; intro b hb; have := OV.lt hb; (try simp at this); omega
    have iw : Hid (∀ b, inV (.slice wa x.ws.length wc) zs b → v1.heap.size ≤ b ∧ b < v2.heap.size) := by show ∀ b, _; intro b hb; have := OW.lt hb; (try simp at this); omega
    have io : Hid (∀ b, (Value.slice oa x.os.length oc).ownBlock = some b → v2.heap.size ≤ b ∧ b < v3.heap.size) := by show ∀ b, _; intro b hb; have := RO.lt b hb; (try simp at this); omega
    have OV2 := (OV).below hb2 (Nat.le_refl _)
    have OV3 := (OV2).below hb3 (Nat.le_refl _)
    have OW3 := (OW).below hb3 (Nat.le_refl _)
    have OV4 := OV3.mono (base' := U.heap.size) (by first | omega | (simp; omega) | simp)
    have OW4 := OW3.mono (base' := U.heap.size) (by first | omega | (simp; omega))
    have RO4 := row_mono RO (base' := U.heap.size) (by first | omega | (simp; omega))
    have zD : U.heap.size ≤ U.heap.size := by omega
    have OV5 := OV4.set3 (Z := U.heap.size) (v0 := .slice va x.vs.length vc) (v1 := .slice wa x.ws.length wc) (v2 := .slice oa x.os.length oc) (fun hb => by have := iv.out _ hb; omega)
    have OW5 := OW4.set3 (Z := U.heap.size) (v0 := .slice va x.vs.length vc) (v1 := .slice wa x.ws.length wc) (v2 := .slice oa x.os.length oc) (fun hb => by have := iw.out _ hb; omega)
    have RO5 : Hid (RowD (((v3.setCell ⟨U.heap.size, 0, none⟩ (.slice va x.vs.length vc)).setCell ⟨U.heap.size, 1, none⟩ (.slice wa x.ws.length wc)).setCell ⟨U.heap.size, 2, none⟩ (.slice oa x.os.length oc)) U.heap.size (.slice oa x.os.length oc) x.os) := row_set3 RO4 (fun hb => by have := io.out _ hb; omega)
    have kW : Below U.heap.size U (((v3.setCell ⟨U.heap.size, 0, none⟩ (.slice va x.vs.length vc)).setCell ⟨U.heap.size, 1, none⟩ (.slice wa x.ws.length wc)).setCell ⟨U.heap.size, 2, none⟩ (.slice oa x.os.length oc)) := ((kk.setCell (p := ⟨U.heap.size, 0, none⟩) zD _).setCell (p := ⟨U.heap.size, 1, none⟩) zD _).setCell (p := ⟨U.heap.size, 2, none⟩) zD _
    have FK : Blk (((v3.setCell ⟨U.heap.size, 0, none⟩ (.slice va x.vs.length vc)).setCell ⟨U.heap.size, 1, none⟩ (.slice wa x.ws.length wc)).setCell ⟨U.heap.size, 2, none⟩ (.slice oa x.os.length oc)) (U.heap.size) #[.slice va x.vs.length vc, .slice wa x.ws.length wc, .slice oa x.os.length oc] 82 := Blk.fill3 ZD
    have sW : v3.heap.size ≤ ((((v3.setCell ⟨U.heap.size, 0, none⟩ (.slice va x.vs.length vc)).setCell ⟨U.heap.size, 1, none⟩ (.slice wa x.ws.length wc)).setCell ⟨U.heap.size, 2, none⟩ (.slice oa x.os.length oc))).heap.size := by simp
    have FA := A.below kW zA
    have FR := R.below kW R.lt
    have FT := T.below kW T.lt
    have HY : Hid (ys.map XV.v = x.vs) := hy
    have HZ : Hid (zs.map XV.v = x.ws) := hz
    have FL := L.k.below (kW.drew)
    have FB : Below w.heap.size w ((((v3.setCell ⟨U.heap.size, 0, none⟩ (.slice va x.vs.length vc)).setCell ⟨U.heap.size, 1, none⟩ (.slice wa x.ws.length wc)).setCell ⟨U.heap.size, 2, none⟩ (.slice oa x.os.length oc))) := B.trans (kW.mono B.size)
    have n0 : w.heap.size + 1 < U.heap.size := R.lt
    have nT := T.lt
    clear OV OW RO OV2 OV3 OW3 OV4 OW4 RO4 A R T L B hb1 hb2 hb3 kk hy hz s1 s2 s3 s4 s0 s0A kD ZD zq zf dD
    try clear tkN
    try clear PA1
    try clear P1
    try clear P2
    try clear PA2
    try clear P3
    try clear PA3
    try clear s1A
    try clear s2A
    try clear s3A
    generalize (((v3.setCell ⟨U.heap.size, 0, none⟩ (.slice va x.vs.length vc)).setCell ⟨U.heap.size, 1, none⟩ (.slice wa x.ws.length wc)).setCell ⟨U.heap.size, 2, none⟩ (.slice oa x.os.length oc)) = W at *
    have eK := FK.lt
    have eA := FA.lt
    have eT := FT.lt
    have eR := FR.lt
    have c0 : Hid ((∀ j, (W.drew).cell? ⟨w.heap.size, j, none⟩ = #[.int .i64 x.site, .bool x.up, .slice a.la x.sl.length a.lc, .slice a.va x.vs.length a.vc, .slice a.wa x.ws.length a.wc, .slice a.oa x.os.length a.oc, .slice a.ka x.kn.length a.kc][j]?) ∧ (∀ j, (W.drew).cell? ⟨w2.heap.size, j, none⟩ = (tab6 t1 t2 t3)[j]?) ∧ (∀ j, (W.drew).cell? ⟨U.heap.size, j, none⟩ = #[.slice va x.vs.length vc, .slice wa x.ws.length wc, .slice oa x.os.length oc][j]?)) := ⟨fun j => FA.cell j, fun j => FT.cell j, fun j => FK.cell j⟩
    have tkC : Hid True := trivial
    go_wp2_with fail
    go_region_held3 (fun W' => (∀ j, W'.cell? ⟨w.heap.size, j, none⟩ = #[.int .i64 x.site, .bool x.up, .slice a.la x.sl.length a.lc, .slice a.va x.vs.length a.vc, .slice a.wa x.ws.length a.wc, .slice a.oa x.os.length a.oc, .slice a.ka x.kn.length a.kc][j]?) ∧ (∀ j, W'.cell? ⟨w2.heap.size, j, none⟩ = (tab6 t1 t2 t3)[j]?) ∧ (∀ j, W'.cell? ⟨U.heap.size, j, none⟩ = #[.slice va x.vs.length vc, .slice wa x.ws.length wc, .slice oa x.os.length oc][j]?)) (first | with_reducible exact c2.out | with_reducible exact c1.out | with_reducible exact c0.out)
      (first | (go_at_call 126
                clear tkC
                refine (copyDeps_any a.ka a.kc x.kn _ hl.k ?hv).mono ?_
                (case hv => exact FL)
                rintro e v4 ⟨ka, kc, rfl, RK, hb4⟩
                have k4 : Below W.heap.size W v4 := ((Below.refl _ W).drew).trans (hb4.mono (Nat.le_refl _))
                have FR4 := FR.below k4 eR
                have c1 : Hid ((∀ j, (v4).cell? ⟨w.heap.size, j, none⟩ = #[.int .i64 x.site, .bool x.up, .slice a.la x.sl.length a.lc, .slice a.va x.vs.length a.vc, .slice a.wa x.ws.length a.wc, .slice a.oa x.os.length a.oc, .slice a.ka x.kn.length a.kc][j]?) ∧ (∀ j, (v4).cell? ⟨w2.heap.size, j, none⟩ = (tab6 t1 t2 t3)[j]?) ∧ (∀ j, (v4).cell? ⟨U.heap.size, j, none⟩ = #[.slice va x.vs.length vc, .slice wa x.ws.length wc, .slice oa x.os.length oc][j]?)) := ⟨fun j => (FA.below k4 eA).cell j, fun j => (FT.below k4 eT).cell j, fun j => (FK.below k4 eK).cell j⟩
                have k5 : Below (w.heap.size + 1) v4 ((((((((((((v4.setCell ⟨w.heap.size + 1, 0, none⟩ (.slice va x.vs.length vc)).setCell ⟨w.heap.size + 1, 1, none⟩ (.slice wa x.ws.length wc)).setCell ⟨w.heap.size + 1, 2, none⟩ (.slice oa x.os.length oc)).setCell ⟨w.heap.size + 1, 3, none⟩ (.int .i64 x.site)).setCell ⟨w.heap.size + 1, 4, none⟩ (.bool x.up)).setCell ⟨w.heap.size + 1, 5, none⟩ (.int .i64 t1.ep)).setCell ⟨w.heap.size + 1, 6, none⟩ (.int .i64 t1.st)).setCell ⟨w.heap.size + 1, 7, none⟩ (.int .i64 t2.ep)).setCell ⟨w.heap.size + 1, 8, none⟩ (.int .i64 t2.st)).setCell ⟨w.heap.size + 1, 9, none⟩ (.int .i64 t3.ep)).setCell ⟨w.heap.size + 1, 10, none⟩ (.int .i64 t3.st)).setCell ⟨w.heap.size + 1, 11, none⟩ (.slice ka x.kn.length kc)) := fill_below (Below.refl _ _) (Nat.le_refl _)
                have c2 : Hid ((∀ j, (((((((((((((v4.setCell ⟨w.heap.size + 1, 0, none⟩ (.slice va x.vs.length vc)).setCell ⟨w.heap.size + 1, 1, none⟩ (.slice wa x.ws.length wc)).setCell ⟨w.heap.size + 1, 2, none⟩ (.slice oa x.os.length oc)).setCell ⟨w.heap.size + 1, 3, none⟩ (.int .i64 x.site)).setCell ⟨w.heap.size + 1, 4, none⟩ (.bool x.up)).setCell ⟨w.heap.size + 1, 5, none⟩ (.int .i64 t1.ep)).setCell ⟨w.heap.size + 1, 6, none⟩ (.int .i64 t1.st)).setCell ⟨w.heap.size + 1, 7, none⟩ (.int .i64 t2.ep)).setCell ⟨w.heap.size + 1, 8, none⟩ (.int .i64 t2.st)).setCell ⟨w.heap.size + 1, 9, none⟩ (.int .i64 t3.ep)).setCell ⟨w.heap.size + 1, 10, none⟩ (.int .i64 t3.st)).setCell ⟨w.heap.size + 1, 11, none⟩ (.slice ka x.kn.length kc))).cell? ⟨w.heap.size, j, none⟩ = #[.int .i64 x.site, .bool x.up, .slice a.la x.sl.length a.lc, .slice a.va x.vs.length a.vc, .slice a.wa x.ws.length a.wc, .slice a.oa x.os.length a.oc, .slice a.ka x.kn.length a.kc][j]?) ∧ (∀ j, (((((((((((((v4.setCell ⟨w.heap.size + 1, 0, none⟩ (.slice va x.vs.length vc)).setCell ⟨w.heap.size + 1, 1, none⟩ (.slice wa x.ws.length wc)).setCell ⟨w.heap.size + 1, 2, none⟩ (.slice oa x.os.length oc)).setCell ⟨w.heap.size + 1, 3, none⟩ (.int .i64 x.site)).setCell ⟨w.heap.size + 1, 4, none⟩ (.bool x.up)).setCell ⟨w.heap.size + 1, 5, none⟩ (.int .i64 t1.ep)).setCell ⟨w.heap.size + 1, 6, none⟩ (.int .i64 t1.st)).setCell ⟨w.heap.size + 1, 7, none⟩ (.int .i64 t2.ep)).setCell ⟨w.heap.size + 1, 8, none⟩ (.int .i64 t2.st)).setCell ⟨w.heap.size + 1, 9, none⟩ (.int .i64 t3.ep)).setCell ⟨w.heap.size + 1, 10, none⟩ (.int .i64 t3.st)).setCell ⟨w.heap.size + 1, 11, none⟩ (.slice ka x.kn.length kc))).cell? ⟨w2.heap.size, j, none⟩ = (tab6 t1 t2 t3)[j]?) ∧ (∀ j, (((((((((((((v4.setCell ⟨w.heap.size + 1, 0, none⟩ (.slice va x.vs.length vc)).setCell ⟨w.heap.size + 1, 1, none⟩ (.slice wa x.ws.length wc)).setCell ⟨w.heap.size + 1, 2, none⟩ (.slice oa x.os.length oc)).setCell ⟨w.heap.size + 1, 3, none⟩ (.int .i64 x.site)).setCell ⟨w.heap.size + 1, 4, none⟩ (.bool x.up)).setCell ⟨w.heap.size + 1, 5, none⟩ (.int .i64 t1.ep)).setCell ⟨w.heap.size + 1, 6, none⟩ (.int .i64 t1.st)).setCell ⟨w.heap.size + 1, 7, none⟩ (.int .i64 t2.ep)).setCell ⟨w.heap.size + 1, 8, none⟩ (.int .i64 t2.st)).setCell ⟨w.heap.size + 1, 9, none⟩ (.int .i64 t3.ep)).setCell ⟨w.heap.size + 1, 10, none⟩ (.int .i64 t3.st)).setCell ⟨w.heap.size + 1, 11, none⟩ (.slice ka x.kn.length kc))).cell? ⟨U.heap.size, j, none⟩ = #[.slice va x.vs.length vc, .slice wa x.ws.length wc, .slice oa x.os.length oc][j]?)) := ⟨fun j => (Blk.fillOther (FA.below k4 eA) (by omega)).cell j, fun j => (Blk.fillOther (FT.below k4 eT) (by omega)).cell j, fun j => (Blk.fillOther (FK.below k4 eK) (by omega)).cell j⟩
                obtain ⟨yq, yf⟩ := FR4.rules))
    have OK := (OwnK.mk4 (x := x) (a := ⟨none, 0, va, vc, wa, wc, oa, oc, ka, kc⟩) (OV5.below k4 (Nat.le_refl _)) (OW5.below k4 (Nat.le_refl _)) (row_below RO5.out k4 (Nat.le_refl _)) (row_mono RK (base' := U.heap.size) (by first | omega | (simp; omega))) HY.out HZ.out v1.heap.size v2.heap.size v3.heap.size (fun b hb => (iv.out b hb).2) (fun b hb => by have := iw.out b hb; omega) (fun b hb => by have := io.out b hb; omega) (fun b hb => by have := (RK.lt b hb).1; (try simp at this); omega) (by omega) (by omega))
    have B4 : Below w.heap.size w v4 := FB.trans (k4.mono FB.size)
    clear c0 c1 c2 yq yf FA FT FK FL OV5 OW5 RO5 RK iv iw io HY HZ k4 hb4 FR FB
    go_wp2_with fail
    refine bodyPost_ret (v := .tuple #[.agg (hostC x.site x.up (.slice va x.vs.length vc) (.slice wa x.ws.length wc) (.slice oa x.os.length oc) (.slice ka x.kn.length kc) t1 t2 t3), .bool true]) ?_ rfl ⟨va, vc, wa, wc, oa, oc, ka, kc, ys, zs, rfl, (OK.fill12 (by omega)).mono (by omega), fill_below B4 (by omega)⟩
    refine Blk.gen (B := w.heap.size + 1) (vs := hostC x.site x.up (.slice va x.vs.length vc) (.slice wa x.ws.length wc) (.slice oa x.os.length oc) (.slice ka x.kn.length kc) t1 t2 t3) (T := 88) ?_ (P := fun W => (results Tryz.f48 _).run Tryz.prog W = .ok _ W) ?_
    · exact Blk.fill FR4
    intro W hW
    obtain ⟨k, f⟩ := hW.rules
    simp [results, Tryz.results48, go_sem, k]
end Go.Proofs.YtpjidogilofppaaGreat
