/- The parcel of a slot, by the program. -/
import Derived.Test.YtpjidogilofppaaGreatMvC
import Derived.Test.YtpjidogilofppaaGreatMvD
import Derived.Test.YtpjidogilofppaaGreatZY
namespace Go.Proofs.YtpjidogilofppaaGreat
open Go.ChangeShapes Go.WideShapes Go.ChangeAt Go.RowKit

/-- A parcel, part by part. -/
def parcelX (site : Int) (n e : Int) (vs ws : List V) (os : List D) : Wd := ⟨9, site, twinX site, 0, 0, 0, 0, 0, false, [], n, e, slotL vs n, slotL ws n, owesL os n⟩
theorem fill15_only {w : World} {Z : Nat} {v0 v1 v2 v3 v4 v5 v6 v7 v8 v9 v10 v11 v12 v13 v14 : Value} : Only w (((((((((((((((w.setCell ⟨Z, 0, none⟩ (v0)).setCell ⟨Z, 1, none⟩ (v1)).setCell ⟨Z, 2, none⟩ (v2)).setCell ⟨Z, 3, none⟩ (v3)).setCell ⟨Z, 4, none⟩ (v4)).setCell ⟨Z, 5, none⟩ (v5)).setCell ⟨Z, 6, none⟩ (v6)).setCell ⟨Z, 7, none⟩ (v7)).setCell ⟨Z, 8, none⟩ (v8)).setCell ⟨Z, 9, none⟩ (v9)).setCell ⟨Z, 10, none⟩ (v10)).setCell ⟨Z, 11, none⟩ (v11)).setCell ⟨Z, 12, none⟩ (v12)).setCell ⟨Z, 13, none⟩ (v13)).setCell ⟨Z, 14, none⟩ (v14)) (fun b => b = Z) := (((((((((((((((Only.refl w (fun b => b = Z)).set (A := Z) rfl _).set (A := Z) rfl _).set (A := Z) rfl _).set (A := Z) rfl _).set (A := Z) rfl _).set (A := Z) rfl _).set (A := Z) rfl _).set (A := Z) rfl _).set (A := Z) rfl _).set (A := Z) rfl _).set (A := Z) rfl _).set (A := Z) rfl _).set (A := Z) rfl _).set (A := Z) rfl _).set (A := Z) rfl _
theorem fill15_blk {w : World} {Z B : Nat} {xs : Array Value} {T : TypeId} {v0 v1 v2 v3 v4 v5 v6 v7 v8 v9 v10 v11 v12 v13 v14 : Value} (h : Blk w B xs T) (hne : B ≠ Z) : Blk (((((((((((((((w.setCell ⟨Z, 0, none⟩ (v0)).setCell ⟨Z, 1, none⟩ (v1)).setCell ⟨Z, 2, none⟩ (v2)).setCell ⟨Z, 3, none⟩ (v3)).setCell ⟨Z, 4, none⟩ (v4)).setCell ⟨Z, 5, none⟩ (v5)).setCell ⟨Z, 6, none⟩ (v6)).setCell ⟨Z, 7, none⟩ (v7)).setCell ⟨Z, 8, none⟩ (v8)).setCell ⟨Z, 9, none⟩ (v9)).setCell ⟨Z, 10, none⟩ (v10)).setCell ⟨Z, 11, none⟩ (v11)).setCell ⟨Z, 12, none⟩ (v12)).setCell ⟨Z, 13, none⟩ (v13)).setCell ⟨Z, 14, none⟩ (v14)).drew B xs T := by
  have := (fill15_only (w := w) (Z := Z) (v0 := v0) (v1 := v1) (v2 := v2) (v3 := v3) (v4 := v4) (v5 := v5) (v6 := v6) (v7 := v7) (v8 := v8) (v9 := v9) (v10 := v10) (v11 := v11) (v12 := v12) (v13 := v13) (v14 := v14)).blk h hne
  exact this.below (Below.refl _ _).drew this.lt
theorem OwnP.fill15 {w : World} {Z base : Nat} {pv : Option Addr} {pvc : Nat} {pw : Option Addr} {pwc : Nat} {po : Option Addr} {poc : Nat} {vs ws : List V} {os : List D} {ys zs : List XV} {v0 v1 v2 v3 v4 v5 v6 v7 v8 v9 v10 v11 v12 v13 v14 : Value} (h : OwnP w base pv pvc pw pwc po poc vs ws os ys zs) (hZ : Z < base) : OwnP (((((((((((((((w.setCell ⟨Z, 0, none⟩ (v0)).setCell ⟨Z, 1, none⟩ (v1)).setCell ⟨Z, 2, none⟩ (v2)).setCell ⟨Z, 3, none⟩ (v3)).setCell ⟨Z, 4, none⟩ (v4)).setCell ⟨Z, 5, none⟩ (v5)).setCell ⟨Z, 6, none⟩ (v6)).setCell ⟨Z, 7, none⟩ (v7)).setCell ⟨Z, 8, none⟩ (v8)).setCell ⟨Z, 9, none⟩ (v9)).setCell ⟨Z, 10, none⟩ (v10)).setCell ⟨Z, 11, none⟩ (v11)).setCell ⟨Z, 12, none⟩ (v12)).setCell ⟨Z, 13, none⟩ (v13)).setCell ⟨Z, 14, none⟩ (v14)).drew base pv pvc pw pwc po poc vs ws os ys zs :=
  (((((((((((((((h.setB hZ).setB hZ).setB hZ).setB hZ).setB hZ).setB hZ).setB hZ).setB hZ).setB hZ).setB hZ).setB hZ).setB hZ).setB hZ).setB hZ).setB hZ).below (Below.refl _ _).drew (Nat.le_refl _)
theorem OwnP.word {M : World} {base : Nat} {pv : Option Addr} {pvc : Nat} {pw : Option Addr} {pwc : Nat} {po : Option Addr} {poc : Nat} {vs ws : List V} {os : List D} {ys zs : List XV} {site n e : Int} (h : OwnP M base pv pvc pw pwc po poc (slotL vs n) (slotL ws n) (owesL os n) ys zs) : OwnW M base (parcelX site n e vs ws os) ⟨none, 0, pv, pvc, pw, pwc, po, poc⟩ ys zs :=
  ⟨World.ownsRow_nil _ _ _ _, h.v, h.w, h.o, h.hy, h.hz, fun b hb => by simp [Value.ownBlock] at hb, fun b hb => by simp [Value.ownBlock] at hb, fun b hb => by simp [Value.ownBlock] at hb, h.vw, h.vo, h.wo⟩

set_option maxHeartbeats 4000000 in
set_option maxRecDepth 20000 in
theorem parcel0_any (B : Nat) (site : Int) (up : Bool) (va wa oa : Option Addr) (vc wk oc : Nat) (kv : Value) (vs ws : List V) (os : List D) (t1 t2 t3 : Sl) (w : World) (hB : Blk w B (hostC site up (.slice va vs.length vc) (.slice wa ws.length wk) (.slice oa os.length oc) kv t1 t2 t3) 88) (hv : Vers w va vs) (hw : Vers w wa ws) (ho : Deps w oa os) (nv : vs.length ≤ 1099511627776) (nw : ws.length ≤ 1099511627776) (no : os.length ≤ 1099511627776) (s0 : 0 ≤ site) (s3 : site ≤ 3) :
    Calls Tryz.prog 63 #[.pointer (some ⟨B, 0, none⟩), .int .i64 0] w fun e w' => ∃ c ys zs, e = .returned (wordV (parcelX site 0 t1.ep vs ws os) c) ∧ OwnW w' w.heap.size (parcelX site 0 t1.ep vs ws os) c ys zs ∧ Below w.heap.size w w' := by
  have b0 : Below w.heap.size w (w.alloc (.cells #[.int .i64 0, .int .i64 0, .int .i64 0, .int .i64 0, .int .i64 0, .int .i64 0, .int .i64 0, .int .i64 0, .bool false, .slice none 0 0, .int .i64 0, .int .i64 0, .slice none 0 0, .slice none 0 0, .slice none 0 0] 41)) := (Below.refl _ _).alloc (Nat.le_refl _) _
  have Z0 := Blk.new w #[.int .i64 0, .int .i64 0, .int .i64 0, .int .i64 0, .int .i64 0, .int .i64 0, .int .i64 0, .int .i64 0, .bool false, .slice none 0 0, .int .i64 0, .int .i64 0, .slice none 0 0, .slice none 0 0, .slice none 0 0] 41
  have B0 := hB.below b0 hB.lt
  obtain ⟨q1, g1⟩ := B0.rules
  have zB := hB.lt
  go_enter Tryz.func63, Tryz.ntmps63
  go_wp2_with fail
  clear q1 g1
  generalize (w.alloc (.cells #[.int .i64 0, .int .i64 0, .int .i64 0, .int .i64 0, .int .i64 0, .int .i64 0, .int .i64 0, .int .i64 0, .bool false, .slice none 0 0, .int .i64 0, .int .i64 0, .slice none 0 0, .slice none 0 0, .slice none 0 0] 41)) = u0 at *
  refine (parted_any va wa oa vc wk oc vs ws os 0 _ (hv.below b0) (hw.below b0) (ho.below b0) nv nw no).mono ?_
  rintro e w1 ⟨pv, pvc, pw, pwc, po, poc, rv, rvc, rw', rwc, ro, roc, ys, zs, ys', zs', rfl, P1, _, hb1⟩
  have n0 := b0.size
  have z0 := Z0.lt
  have n1 := hb1.size
  have c0 : Below w1.heap.size w1 ((w1.alloc (.cells #[.slice pv (slotL vs 0).length pvc, .slice pw (slotL ws 0).length pwc, .slice po (os.filter (fun d => slotOf d.k == 0)).length poc] 82)).alloc (.cells #[.slice rv (restL vs 0).length rvc, .slice rw' (restL ws 0).length rwc, .slice ro (os.filter (fun d => !(slotOf d.k == 0))).length roc] 82)) := ((Below.refl _ _).alloc (Nat.le_refl _) _).alloc (by simp) _
  have B1 := (B0.below hb1 B0.lt).below c0 (B0.below hb1 B0.lt).lt
  have Z1 := (Z0.below hb1 Z0.lt).below c0 (Z0.below hb1 Z0.lt).lt
  have D1 : Blk ((w1.alloc (.cells #[.slice pv (slotL vs 0).length pvc, .slice pw (slotL ws 0).length pwc, .slice po (os.filter (fun d => slotOf d.k == 0)).length poc] 82)).alloc (.cells #[.slice rv (restL vs 0).length rvc, .slice rw' (restL ws 0).length rwc, .slice ro (os.filter (fun d => !(slotOf d.k == 0))).length roc] 82)) w1.heap.size #[.slice pv (slotL vs 0).length pvc, .slice pw (slotL ws 0).length pwc, .slice po (os.filter (fun d => slotOf d.k == 0)).length poc] 82 := (Blk.new w1 _ _).alloc _
  have C1 : Below w.heap.size w ((w1.alloc (.cells #[.slice pv (slotL vs 0).length pvc, .slice pw (slotL ws 0).length pwc, .slice po (os.filter (fun d => slotOf d.k == 0)).length poc] 82)).alloc (.cells #[.slice rv (restL vs 0).length rvc, .slice rw' (restL ws 0).length rwc, .slice ro (os.filter (fun d => !(slotOf d.k == 0))).length roc] 82)) := (b0.trans (hb1.mono b0.size)).trans (c0.mono (by omega))
  have P2 := (P1.below c0 (Nat.le_refl _))
  clear B0 Z0 b0 hb1 hv hw ho hB P1 c0
  go_wp2_with fail
  generalize ((w1.alloc (.cells #[.slice pv (slotL vs 0).length pvc, .slice pw (slotL ws 0).length pwc, .slice po (os.filter (fun d => slotOf d.k == 0)).length poc] 82)).alloc (.cells #[.slice rv (restL vs 0).length rvc, .slice rw' (restL ws 0).length rwc, .slice ro (os.filter (fun d => !(slotOf d.k == 0))).length roc] 82)) = u2 at *
  have hT := fun W => twin_any site s0 s3 W
  have k1 : (∀ j, u2.drew.cell? ⟨B, j, none⟩ = (hostC site up (.slice va vs.length vc) (.slice wa ws.length wk) (.slice oa os.length oc) kv t1 t2 t3)[j]?) ∧ (∀ j, u2.drew.cell? ⟨w1.heap.size, j, none⟩ = #[.slice pv (slotL vs 0).length pvc, .slice pw (slotL ws 0).length pwc, .slice po (os.filter (fun d => slotOf d.k == 0)).length poc][j]?) := ⟨(B1.below (Below.refl _ _).drew B1.lt).cell, (D1.below (Below.refl _ _).drew D1.lt).cell⟩
  have k2 : (∀ j, (((((((((((((((u2.setCell ⟨w.heap.size, 0, none⟩ (.int .i64 9)).setCell ⟨w.heap.size, 1, none⟩ (.int .i64 site)).setCell ⟨w.heap.size, 2, none⟩ (.int .i64 (twinX site))).setCell ⟨w.heap.size, 3, none⟩ (.int .i64 0)).setCell ⟨w.heap.size, 4, none⟩ (.int .i64 0)).setCell ⟨w.heap.size, 5, none⟩ (.int .i64 0)).setCell ⟨w.heap.size, 6, none⟩ (.int .i64 0)).setCell ⟨w.heap.size, 7, none⟩ (.int .i64 0)).setCell ⟨w.heap.size, 8, none⟩ (.bool false)).setCell ⟨w.heap.size, 9, none⟩ (.slice none 0 0)).setCell ⟨w.heap.size, 10, none⟩ (.int .i64 0)).setCell ⟨w.heap.size, 11, none⟩ (.int .i64 t1.ep)).setCell ⟨w.heap.size, 12, none⟩ (.slice pv (slotL vs 0).length pvc)).setCell ⟨w.heap.size, 13, none⟩ (.slice pw (slotL ws 0).length pwc)).setCell ⟨w.heap.size, 14, none⟩ (.slice po (os.filter (fun d => slotOf d.k == 0)).length poc)).drew.cell? ⟨B, j, none⟩ = (hostC site up (.slice va vs.length vc) (.slice wa ws.length wk) (.slice oa os.length oc) kv t1 t2 t3)[j]?) ∧ (∀ j, (((((((((((((((u2.setCell ⟨w.heap.size, 0, none⟩ (.int .i64 9)).setCell ⟨w.heap.size, 1, none⟩ (.int .i64 site)).setCell ⟨w.heap.size, 2, none⟩ (.int .i64 (twinX site))).setCell ⟨w.heap.size, 3, none⟩ (.int .i64 0)).setCell ⟨w.heap.size, 4, none⟩ (.int .i64 0)).setCell ⟨w.heap.size, 5, none⟩ (.int .i64 0)).setCell ⟨w.heap.size, 6, none⟩ (.int .i64 0)).setCell ⟨w.heap.size, 7, none⟩ (.int .i64 0)).setCell ⟨w.heap.size, 8, none⟩ (.bool false)).setCell ⟨w.heap.size, 9, none⟩ (.slice none 0 0)).setCell ⟨w.heap.size, 10, none⟩ (.int .i64 0)).setCell ⟨w.heap.size, 11, none⟩ (.int .i64 t1.ep)).setCell ⟨w.heap.size, 12, none⟩ (.slice pv (slotL vs 0).length pvc)).setCell ⟨w.heap.size, 13, none⟩ (.slice pw (slotL ws 0).length pwc)).setCell ⟨w.heap.size, 14, none⟩ (.slice po (os.filter (fun d => slotOf d.k == 0)).length poc)).drew.cell? ⟨w1.heap.size, j, none⟩ = #[.slice pv (slotL vs 0).length pvc, .slice pw (slotL ws 0).length pwc, .slice po (os.filter (fun d => slotOf d.k == 0)).length poc][j]?) := ⟨(fill15_blk B1 (by omega)).cell, (fill15_blk D1 (by omega)).cell⟩
  obtain ⟨qz, gz⟩ := Z1.rules
  go_region_held3 (fun W => (∀ j, W.cell? ⟨B, j, none⟩ = (hostC site up (.slice va vs.length vc) (.slice wa ws.length wk) (.slice oa os.length oc) kv t1 t2 t3)[j]?) ∧ (∀ j, W.cell? ⟨w1.heap.size, j, none⟩ = #[.slice pv (slotL vs 0).length pvc, .slice pw (slotL ws 0).length pwc, .slice po (os.filter (fun d => slotOf d.k == 0)).length poc][j]?)) (with_reducible (first | exact k1 | exact k2)) (first | (go_at_call 139; refine (hT _).mono ?_; rintro e w3 ⟨rfl, rfl⟩))
  go_wp2_with fail
  have P3 : OwnP u2 u0.heap.size pv pvc pw pwc po poc (slotL vs 0) (slotL ws 0) (owesL os 0) ys zs := P2
  refine bodyPost_ret (v := wordV (parcelX site 0 t1.ep vs ws os) ⟨none, 0, pv, pvc, pw, pwc, po, poc⟩) ?_ rfl ⟨_, ys, zs, rfl, ?_, ?_⟩
  · refine Blk.gen (B := w.heap.size) (vs := #[.int .i64 9, .int .i64 site, .int .i64 (twinX site), .int .i64 0, .int .i64 0, .int .i64 0, .int .i64 0, .int .i64 0, .bool false, .slice none 0 0, .int .i64 0, .int .i64 t1.ep, .slice pv (slotL vs 0).length pvc, .slice pw (slotL ws 0).length pwc, .slice po (os.filter (fun d => slotOf d.k == 0)).length poc]) (T := 41) ?_ (P := fun W => (results Tryz.f63 _).run Tryz.prog W = .ok _ W) ?_
    · have h := Blk.fill15 (v0 := .int .i64 9) (v1 := .int .i64 site) (v2 := .int .i64 (twinX site)) (v3 := .int .i64 0) (v4 := .int .i64 0) (v5 := .int .i64 0) (v6 := .int .i64 0) (v7 := .int .i64 0) (v8 := .bool false) (v9 := .slice none 0 0) (v10 := .int .i64 0) (v11 := .int .i64 t1.ep) (v12 := .slice pv (slotL vs 0).length pvc) (v13 := .slice pw (slotL ws 0).length pwc) (v14 := .slice po (os.filter (fun d => slotOf d.k == 0)).length poc) Z1
      exact h.below (Below.refl _ _).drew h.lt
    intro W hW
    obtain ⟨k, f⟩ := hW.rules
    simp [results, Tryz.results63, go_sem, k, parcelX, owesL]
  · exact ((P3.fill15 z0).word).mono n0
  · exact (fill15_below C1 (Nat.le_refl _)).drew

set_option maxHeartbeats 4000000 in
set_option maxRecDepth 20000 in
theorem parcel1_any (B : Nat) (site : Int) (up : Bool) (va wa oa : Option Addr) (vc wk oc : Nat) (kv : Value) (vs ws : List V) (os : List D) (t1 t2 t3 : Sl) (w : World) (hB : Blk w B (hostC site up (.slice va vs.length vc) (.slice wa ws.length wk) (.slice oa os.length oc) kv t1 t2 t3) 88) (hv : Vers w va vs) (hw : Vers w wa ws) (ho : Deps w oa os) (nv : vs.length ≤ 1099511627776) (nw : ws.length ≤ 1099511627776) (no : os.length ≤ 1099511627776) (s0 : 0 ≤ site) (s3 : site ≤ 3) :
    Calls Tryz.prog 63 #[.pointer (some ⟨B, 0, none⟩), .int .i64 1] w fun e w' => ∃ c ys zs, e = .returned (wordV (parcelX site 1 t2.ep vs ws os) c) ∧ OwnW w' w.heap.size (parcelX site 1 t2.ep vs ws os) c ys zs ∧ Below w.heap.size w w' := by
  have b0 : Below w.heap.size w (w.alloc (.cells #[.int .i64 0, .int .i64 0, .int .i64 0, .int .i64 0, .int .i64 0, .int .i64 0, .int .i64 0, .int .i64 0, .bool false, .slice none 0 0, .int .i64 0, .int .i64 0, .slice none 0 0, .slice none 0 0, .slice none 0 0] 41)) := (Below.refl _ _).alloc (Nat.le_refl _) _
  have Z0 := Blk.new w #[.int .i64 0, .int .i64 0, .int .i64 0, .int .i64 0, .int .i64 0, .int .i64 0, .int .i64 0, .int .i64 0, .bool false, .slice none 0 0, .int .i64 0, .int .i64 0, .slice none 0 0, .slice none 0 0, .slice none 0 0] 41
  have B0 := hB.below b0 hB.lt
  obtain ⟨q1, g1⟩ := B0.rules
  have zB := hB.lt
  go_enter Tryz.func63, Tryz.ntmps63
  go_wp2_with fail
  clear q1 g1
  generalize (w.alloc (.cells #[.int .i64 0, .int .i64 0, .int .i64 0, .int .i64 0, .int .i64 0, .int .i64 0, .int .i64 0, .int .i64 0, .bool false, .slice none 0 0, .int .i64 0, .int .i64 0, .slice none 0 0, .slice none 0 0, .slice none 0 0] 41)) = u0 at *
  refine (parted_any va wa oa vc wk oc vs ws os 1 _ (hv.below b0) (hw.below b0) (ho.below b0) nv nw no).mono ?_
  rintro e w1 ⟨pv, pvc, pw, pwc, po, poc, rv, rvc, rw', rwc, ro, roc, ys, zs, ys', zs', rfl, P1, _, hb1⟩
  have n0 := b0.size
  have z0 := Z0.lt
  have n1 := hb1.size
  have c0 : Below w1.heap.size w1 ((w1.alloc (.cells #[.slice pv (slotL vs 1).length pvc, .slice pw (slotL ws 1).length pwc, .slice po (os.filter (fun d => slotOf d.k == 1)).length poc] 82)).alloc (.cells #[.slice rv (restL vs 1).length rvc, .slice rw' (restL ws 1).length rwc, .slice ro (os.filter (fun d => !(slotOf d.k == 1))).length roc] 82)) := ((Below.refl _ _).alloc (Nat.le_refl _) _).alloc (by simp) _
  have B1 := (B0.below hb1 B0.lt).below c0 (B0.below hb1 B0.lt).lt
  have Z1 := (Z0.below hb1 Z0.lt).below c0 (Z0.below hb1 Z0.lt).lt
  have D1 : Blk ((w1.alloc (.cells #[.slice pv (slotL vs 1).length pvc, .slice pw (slotL ws 1).length pwc, .slice po (os.filter (fun d => slotOf d.k == 1)).length poc] 82)).alloc (.cells #[.slice rv (restL vs 1).length rvc, .slice rw' (restL ws 1).length rwc, .slice ro (os.filter (fun d => !(slotOf d.k == 1))).length roc] 82)) w1.heap.size #[.slice pv (slotL vs 1).length pvc, .slice pw (slotL ws 1).length pwc, .slice po (os.filter (fun d => slotOf d.k == 1)).length poc] 82 := (Blk.new w1 _ _).alloc _
  have C1 : Below w.heap.size w ((w1.alloc (.cells #[.slice pv (slotL vs 1).length pvc, .slice pw (slotL ws 1).length pwc, .slice po (os.filter (fun d => slotOf d.k == 1)).length poc] 82)).alloc (.cells #[.slice rv (restL vs 1).length rvc, .slice rw' (restL ws 1).length rwc, .slice ro (os.filter (fun d => !(slotOf d.k == 1))).length roc] 82)) := (b0.trans (hb1.mono b0.size)).trans (c0.mono (by omega))
  have P2 := (P1.below c0 (Nat.le_refl _))
  clear B0 Z0 b0 hb1 hv hw ho hB P1 c0
  go_wp2_with fail
  generalize ((w1.alloc (.cells #[.slice pv (slotL vs 1).length pvc, .slice pw (slotL ws 1).length pwc, .slice po (os.filter (fun d => slotOf d.k == 1)).length poc] 82)).alloc (.cells #[.slice rv (restL vs 1).length rvc, .slice rw' (restL ws 1).length rwc, .slice ro (os.filter (fun d => !(slotOf d.k == 1))).length roc] 82)) = u2 at *
  have hT := fun W => twin_any site s0 s3 W
  have k1 : (∀ j, u2.drew.cell? ⟨B, j, none⟩ = (hostC site up (.slice va vs.length vc) (.slice wa ws.length wk) (.slice oa os.length oc) kv t1 t2 t3)[j]?) ∧ (∀ j, u2.drew.cell? ⟨w1.heap.size, j, none⟩ = #[.slice pv (slotL vs 1).length pvc, .slice pw (slotL ws 1).length pwc, .slice po (os.filter (fun d => slotOf d.k == 1)).length poc][j]?) := ⟨(B1.below (Below.refl _ _).drew B1.lt).cell, (D1.below (Below.refl _ _).drew D1.lt).cell⟩
  have k2 : (∀ j, (((((((((((((((u2.setCell ⟨w.heap.size, 0, none⟩ (.int .i64 9)).setCell ⟨w.heap.size, 1, none⟩ (.int .i64 site)).setCell ⟨w.heap.size, 2, none⟩ (.int .i64 (twinX site))).setCell ⟨w.heap.size, 3, none⟩ (.int .i64 0)).setCell ⟨w.heap.size, 4, none⟩ (.int .i64 0)).setCell ⟨w.heap.size, 5, none⟩ (.int .i64 0)).setCell ⟨w.heap.size, 6, none⟩ (.int .i64 0)).setCell ⟨w.heap.size, 7, none⟩ (.int .i64 0)).setCell ⟨w.heap.size, 8, none⟩ (.bool false)).setCell ⟨w.heap.size, 9, none⟩ (.slice none 0 0)).setCell ⟨w.heap.size, 10, none⟩ (.int .i64 1)).setCell ⟨w.heap.size, 11, none⟩ (.int .i64 t2.ep)).setCell ⟨w.heap.size, 12, none⟩ (.slice pv (slotL vs 1).length pvc)).setCell ⟨w.heap.size, 13, none⟩ (.slice pw (slotL ws 1).length pwc)).setCell ⟨w.heap.size, 14, none⟩ (.slice po (os.filter (fun d => slotOf d.k == 1)).length poc)).drew.cell? ⟨B, j, none⟩ = (hostC site up (.slice va vs.length vc) (.slice wa ws.length wk) (.slice oa os.length oc) kv t1 t2 t3)[j]?) ∧ (∀ j, (((((((((((((((u2.setCell ⟨w.heap.size, 0, none⟩ (.int .i64 9)).setCell ⟨w.heap.size, 1, none⟩ (.int .i64 site)).setCell ⟨w.heap.size, 2, none⟩ (.int .i64 (twinX site))).setCell ⟨w.heap.size, 3, none⟩ (.int .i64 0)).setCell ⟨w.heap.size, 4, none⟩ (.int .i64 0)).setCell ⟨w.heap.size, 5, none⟩ (.int .i64 0)).setCell ⟨w.heap.size, 6, none⟩ (.int .i64 0)).setCell ⟨w.heap.size, 7, none⟩ (.int .i64 0)).setCell ⟨w.heap.size, 8, none⟩ (.bool false)).setCell ⟨w.heap.size, 9, none⟩ (.slice none 0 0)).setCell ⟨w.heap.size, 10, none⟩ (.int .i64 1)).setCell ⟨w.heap.size, 11, none⟩ (.int .i64 t2.ep)).setCell ⟨w.heap.size, 12, none⟩ (.slice pv (slotL vs 1).length pvc)).setCell ⟨w.heap.size, 13, none⟩ (.slice pw (slotL ws 1).length pwc)).setCell ⟨w.heap.size, 14, none⟩ (.slice po (os.filter (fun d => slotOf d.k == 1)).length poc)).drew.cell? ⟨w1.heap.size, j, none⟩ = #[.slice pv (slotL vs 1).length pvc, .slice pw (slotL ws 1).length pwc, .slice po (os.filter (fun d => slotOf d.k == 1)).length poc][j]?) := ⟨(fill15_blk B1 (by omega)).cell, (fill15_blk D1 (by omega)).cell⟩
  obtain ⟨qz, gz⟩ := Z1.rules
  go_region_held3 (fun W => (∀ j, W.cell? ⟨B, j, none⟩ = (hostC site up (.slice va vs.length vc) (.slice wa ws.length wk) (.slice oa os.length oc) kv t1 t2 t3)[j]?) ∧ (∀ j, W.cell? ⟨w1.heap.size, j, none⟩ = #[.slice pv (slotL vs 1).length pvc, .slice pw (slotL ws 1).length pwc, .slice po (os.filter (fun d => slotOf d.k == 1)).length poc][j]?)) (with_reducible (first | exact k1 | exact k2)) (first | (go_at_call 139; refine (hT _).mono ?_; rintro e w3 ⟨rfl, rfl⟩))
  go_wp2_with fail
  have P3 : OwnP u2 u0.heap.size pv pvc pw pwc po poc (slotL vs 1) (slotL ws 1) (owesL os 1) ys zs := P2
  refine bodyPost_ret (v := wordV (parcelX site 1 t2.ep vs ws os) ⟨none, 0, pv, pvc, pw, pwc, po, poc⟩) ?_ rfl ⟨_, ys, zs, rfl, ?_, ?_⟩
  · refine Blk.gen (B := w.heap.size) (vs := #[.int .i64 9, .int .i64 site, .int .i64 (twinX site), .int .i64 0, .int .i64 0, .int .i64 0, .int .i64 0, .int .i64 0, .bool false, .slice none 0 0, .int .i64 1, .int .i64 t2.ep, .slice pv (slotL vs 1).length pvc, .slice pw (slotL ws 1).length pwc, .slice po (os.filter (fun d => slotOf d.k == 1)).length poc]) (T := 41) ?_ (P := fun W => (results Tryz.f63 _).run Tryz.prog W = .ok _ W) ?_
    · have h := Blk.fill15 (v0 := .int .i64 9) (v1 := .int .i64 site) (v2 := .int .i64 (twinX site)) (v3 := .int .i64 0) (v4 := .int .i64 0) (v5 := .int .i64 0) (v6 := .int .i64 0) (v7 := .int .i64 0) (v8 := .bool false) (v9 := .slice none 0 0) (v10 := .int .i64 1) (v11 := .int .i64 t2.ep) (v12 := .slice pv (slotL vs 1).length pvc) (v13 := .slice pw (slotL ws 1).length pwc) (v14 := .slice po (os.filter (fun d => slotOf d.k == 1)).length poc) Z1
      exact h.below (Below.refl _ _).drew h.lt
    intro W hW
    obtain ⟨k, f⟩ := hW.rules
    simp [results, Tryz.results63, go_sem, k, parcelX, owesL]
  · exact ((P3.fill15 z0).word).mono n0
  · exact (fill15_below C1 (Nat.le_refl _)).drew

set_option maxHeartbeats 4000000 in
set_option maxRecDepth 20000 in
theorem parcel2_any (B : Nat) (site : Int) (up : Bool) (va wa oa : Option Addr) (vc wk oc : Nat) (kv : Value) (vs ws : List V) (os : List D) (t1 t2 t3 : Sl) (w : World) (hB : Blk w B (hostC site up (.slice va vs.length vc) (.slice wa ws.length wk) (.slice oa os.length oc) kv t1 t2 t3) 88) (hv : Vers w va vs) (hw : Vers w wa ws) (ho : Deps w oa os) (nv : vs.length ≤ 1099511627776) (nw : ws.length ≤ 1099511627776) (no : os.length ≤ 1099511627776) (s0 : 0 ≤ site) (s3 : site ≤ 3) :
    Calls Tryz.prog 63 #[.pointer (some ⟨B, 0, none⟩), .int .i64 2] w fun e w' => ∃ c ys zs, e = .returned (wordV (parcelX site 2 t3.ep vs ws os) c) ∧ OwnW w' w.heap.size (parcelX site 2 t3.ep vs ws os) c ys zs ∧ Below w.heap.size w w' := by
  have b0 : Below w.heap.size w (w.alloc (.cells #[.int .i64 0, .int .i64 0, .int .i64 0, .int .i64 0, .int .i64 0, .int .i64 0, .int .i64 0, .int .i64 0, .bool false, .slice none 0 0, .int .i64 0, .int .i64 0, .slice none 0 0, .slice none 0 0, .slice none 0 0] 41)) := (Below.refl _ _).alloc (Nat.le_refl _) _
  have Z0 := Blk.new w #[.int .i64 0, .int .i64 0, .int .i64 0, .int .i64 0, .int .i64 0, .int .i64 0, .int .i64 0, .int .i64 0, .bool false, .slice none 0 0, .int .i64 0, .int .i64 0, .slice none 0 0, .slice none 0 0, .slice none 0 0] 41
  have B0 := hB.below b0 hB.lt
  obtain ⟨q1, g1⟩ := B0.rules
  have zB := hB.lt
  go_enter Tryz.func63, Tryz.ntmps63
  go_wp2_with fail
  clear q1 g1
  generalize (w.alloc (.cells #[.int .i64 0, .int .i64 0, .int .i64 0, .int .i64 0, .int .i64 0, .int .i64 0, .int .i64 0, .int .i64 0, .bool false, .slice none 0 0, .int .i64 0, .int .i64 0, .slice none 0 0, .slice none 0 0, .slice none 0 0] 41)) = u0 at *
  refine (parted_any va wa oa vc wk oc vs ws os 2 _ (hv.below b0) (hw.below b0) (ho.below b0) nv nw no).mono ?_
  rintro e w1 ⟨pv, pvc, pw, pwc, po, poc, rv, rvc, rw', rwc, ro, roc, ys, zs, ys', zs', rfl, P1, _, hb1⟩
  have n0 := b0.size
  have z0 := Z0.lt
  have n1 := hb1.size
  have c0 : Below w1.heap.size w1 ((w1.alloc (.cells #[.slice pv (slotL vs 2).length pvc, .slice pw (slotL ws 2).length pwc, .slice po (os.filter (fun d => slotOf d.k == 2)).length poc] 82)).alloc (.cells #[.slice rv (restL vs 2).length rvc, .slice rw' (restL ws 2).length rwc, .slice ro (os.filter (fun d => !(slotOf d.k == 2))).length roc] 82)) := ((Below.refl _ _).alloc (Nat.le_refl _) _).alloc (by simp) _
  have B1 := (B0.below hb1 B0.lt).below c0 (B0.below hb1 B0.lt).lt
  have Z1 := (Z0.below hb1 Z0.lt).below c0 (Z0.below hb1 Z0.lt).lt
  have D1 : Blk ((w1.alloc (.cells #[.slice pv (slotL vs 2).length pvc, .slice pw (slotL ws 2).length pwc, .slice po (os.filter (fun d => slotOf d.k == 2)).length poc] 82)).alloc (.cells #[.slice rv (restL vs 2).length rvc, .slice rw' (restL ws 2).length rwc, .slice ro (os.filter (fun d => !(slotOf d.k == 2))).length roc] 82)) w1.heap.size #[.slice pv (slotL vs 2).length pvc, .slice pw (slotL ws 2).length pwc, .slice po (os.filter (fun d => slotOf d.k == 2)).length poc] 82 := (Blk.new w1 _ _).alloc _
  have C1 : Below w.heap.size w ((w1.alloc (.cells #[.slice pv (slotL vs 2).length pvc, .slice pw (slotL ws 2).length pwc, .slice po (os.filter (fun d => slotOf d.k == 2)).length poc] 82)).alloc (.cells #[.slice rv (restL vs 2).length rvc, .slice rw' (restL ws 2).length rwc, .slice ro (os.filter (fun d => !(slotOf d.k == 2))).length roc] 82)) := (b0.trans (hb1.mono b0.size)).trans (c0.mono (by omega))
  have P2 := (P1.below c0 (Nat.le_refl _))
  clear B0 Z0 b0 hb1 hv hw ho hB P1 c0
  go_wp2_with fail
  generalize ((w1.alloc (.cells #[.slice pv (slotL vs 2).length pvc, .slice pw (slotL ws 2).length pwc, .slice po (os.filter (fun d => slotOf d.k == 2)).length poc] 82)).alloc (.cells #[.slice rv (restL vs 2).length rvc, .slice rw' (restL ws 2).length rwc, .slice ro (os.filter (fun d => !(slotOf d.k == 2))).length roc] 82)) = u2 at *
  have hT := fun W => twin_any site s0 s3 W
  have k1 : (∀ j, u2.drew.cell? ⟨B, j, none⟩ = (hostC site up (.slice va vs.length vc) (.slice wa ws.length wk) (.slice oa os.length oc) kv t1 t2 t3)[j]?) ∧ (∀ j, u2.drew.cell? ⟨w1.heap.size, j, none⟩ = #[.slice pv (slotL vs 2).length pvc, .slice pw (slotL ws 2).length pwc, .slice po (os.filter (fun d => slotOf d.k == 2)).length poc][j]?) := ⟨(B1.below (Below.refl _ _).drew B1.lt).cell, (D1.below (Below.refl _ _).drew D1.lt).cell⟩
  have k2 : (∀ j, (((((((((((((((u2.setCell ⟨w.heap.size, 0, none⟩ (.int .i64 9)).setCell ⟨w.heap.size, 1, none⟩ (.int .i64 site)).setCell ⟨w.heap.size, 2, none⟩ (.int .i64 (twinX site))).setCell ⟨w.heap.size, 3, none⟩ (.int .i64 0)).setCell ⟨w.heap.size, 4, none⟩ (.int .i64 0)).setCell ⟨w.heap.size, 5, none⟩ (.int .i64 0)).setCell ⟨w.heap.size, 6, none⟩ (.int .i64 0)).setCell ⟨w.heap.size, 7, none⟩ (.int .i64 0)).setCell ⟨w.heap.size, 8, none⟩ (.bool false)).setCell ⟨w.heap.size, 9, none⟩ (.slice none 0 0)).setCell ⟨w.heap.size, 10, none⟩ (.int .i64 2)).setCell ⟨w.heap.size, 11, none⟩ (.int .i64 t3.ep)).setCell ⟨w.heap.size, 12, none⟩ (.slice pv (slotL vs 2).length pvc)).setCell ⟨w.heap.size, 13, none⟩ (.slice pw (slotL ws 2).length pwc)).setCell ⟨w.heap.size, 14, none⟩ (.slice po (os.filter (fun d => slotOf d.k == 2)).length poc)).drew.cell? ⟨B, j, none⟩ = (hostC site up (.slice va vs.length vc) (.slice wa ws.length wk) (.slice oa os.length oc) kv t1 t2 t3)[j]?) ∧ (∀ j, (((((((((((((((u2.setCell ⟨w.heap.size, 0, none⟩ (.int .i64 9)).setCell ⟨w.heap.size, 1, none⟩ (.int .i64 site)).setCell ⟨w.heap.size, 2, none⟩ (.int .i64 (twinX site))).setCell ⟨w.heap.size, 3, none⟩ (.int .i64 0)).setCell ⟨w.heap.size, 4, none⟩ (.int .i64 0)).setCell ⟨w.heap.size, 5, none⟩ (.int .i64 0)).setCell ⟨w.heap.size, 6, none⟩ (.int .i64 0)).setCell ⟨w.heap.size, 7, none⟩ (.int .i64 0)).setCell ⟨w.heap.size, 8, none⟩ (.bool false)).setCell ⟨w.heap.size, 9, none⟩ (.slice none 0 0)).setCell ⟨w.heap.size, 10, none⟩ (.int .i64 2)).setCell ⟨w.heap.size, 11, none⟩ (.int .i64 t3.ep)).setCell ⟨w.heap.size, 12, none⟩ (.slice pv (slotL vs 2).length pvc)).setCell ⟨w.heap.size, 13, none⟩ (.slice pw (slotL ws 2).length pwc)).setCell ⟨w.heap.size, 14, none⟩ (.slice po (os.filter (fun d => slotOf d.k == 2)).length poc)).drew.cell? ⟨w1.heap.size, j, none⟩ = #[.slice pv (slotL vs 2).length pvc, .slice pw (slotL ws 2).length pwc, .slice po (os.filter (fun d => slotOf d.k == 2)).length poc][j]?) := ⟨(fill15_blk B1 (by omega)).cell, (fill15_blk D1 (by omega)).cell⟩
  obtain ⟨qz, gz⟩ := Z1.rules
  go_region_held3 (fun W => (∀ j, W.cell? ⟨B, j, none⟩ = (hostC site up (.slice va vs.length vc) (.slice wa ws.length wk) (.slice oa os.length oc) kv t1 t2 t3)[j]?) ∧ (∀ j, W.cell? ⟨w1.heap.size, j, none⟩ = #[.slice pv (slotL vs 2).length pvc, .slice pw (slotL ws 2).length pwc, .slice po (os.filter (fun d => slotOf d.k == 2)).length poc][j]?)) (with_reducible (first | exact k1 | exact k2)) (first | (go_at_call 139; refine (hT _).mono ?_; rintro e w3 ⟨rfl, rfl⟩))
  go_wp2_with fail
  have P3 : OwnP u2 u0.heap.size pv pvc pw pwc po poc (slotL vs 2) (slotL ws 2) (owesL os 2) ys zs := P2
  refine bodyPost_ret (v := wordV (parcelX site 2 t3.ep vs ws os) ⟨none, 0, pv, pvc, pw, pwc, po, poc⟩) ?_ rfl ⟨_, ys, zs, rfl, ?_, ?_⟩
  · refine Blk.gen (B := w.heap.size) (vs := #[.int .i64 9, .int .i64 site, .int .i64 (twinX site), .int .i64 0, .int .i64 0, .int .i64 0, .int .i64 0, .int .i64 0, .bool false, .slice none 0 0, .int .i64 2, .int .i64 t3.ep, .slice pv (slotL vs 2).length pvc, .slice pw (slotL ws 2).length pwc, .slice po (os.filter (fun d => slotOf d.k == 2)).length poc]) (T := 41) ?_ (P := fun W => (results Tryz.f63 _).run Tryz.prog W = .ok _ W) ?_
    · have h := Blk.fill15 (v0 := .int .i64 9) (v1 := .int .i64 site) (v2 := .int .i64 (twinX site)) (v3 := .int .i64 0) (v4 := .int .i64 0) (v5 := .int .i64 0) (v6 := .int .i64 0) (v7 := .int .i64 0) (v8 := .bool false) (v9 := .slice none 0 0) (v10 := .int .i64 2) (v11 := .int .i64 t3.ep) (v12 := .slice pv (slotL vs 2).length pvc) (v13 := .slice pw (slotL ws 2).length pwc) (v14 := .slice po (os.filter (fun d => slotOf d.k == 2)).length poc) Z1
      exact h.below (Below.refl _ _).drew h.lt
    intro W hW
    obtain ⟨k, f⟩ := hW.rules
    simp [results, Tryz.results63, go_sem, k, parcelX, owesL]
  · exact ((P3.fill15 z0).word).mono n0
  · exact (fill15_below C1 (Nat.le_refl _)).drew
end Go.Proofs.YtpjidogilofppaaGreat
