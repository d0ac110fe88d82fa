/- 2 texts in one: XServO, XWordM. -/
import Derived.Test.YtpjidogilofppaaGreatGSX
import Derived.Test.YtpjidogilofppaaGreatZC
/- Servers are marked, and stay a call's own. -/
namespace Go.Proofs.YtpjidogilofppaaGreat
open Go.ChangeShapes Go.WideShapes Go.ChangeAt Go.RowKit

theorem markSv_len (k : Int) (x : Sv) : (markSv k x).sl.length = x.sl.length ∧ (markSv k x).vs.length = x.vs.length ∧ (markSv k x).ws.length = x.ws.length ∧ (markSv k x).os.length = x.os.length ∧ (markSv k x).kn.length = x.kn.length :=
  ⟨mark2_len _ _, markVs_len _ _, markVs_len _ _, markL_len _ _, markL_len _ _⟩
theorem own_mark {w W : World} {base : Nat} {x : Sv} {a : Sa} {ys zs ys' zs' : List XV} {k : Int} (h : OwnS w base x a ys zs)
    (i1 : W.ownsRow base 84 2 (.slice a.la x.sl.length a.lc) x.sl.length (flat2 (mark2 k x.sl.length))) (i2 : OwnV W base (.slice a.va x.vs.length a.vc) ys') (i3 : OwnV W base (.slice a.wa x.ws.length a.wc) zs') (i4 : W.ownsRow base 116 3 (.slice a.oa x.os.length a.oc) x.os.length (flat3 (markL (endV (endV (k + 2 * x.sl.length) x.vs) x.ws) x.os.length))) (i5 : W.ownsRow base 116 3 (.slice a.ka x.kn.length a.kc) x.kn.length (flat3 (markL (endV (endV (k + 2 * x.sl.length) x.vs) x.ws + 3 * x.os.length) x.kn.length)))
    (hy : ys'.map XV.v = markVs (k + 2 * x.sl.length) x.vs) (hz : zs'.map XV.v = markVs (endV (k + 2 * x.sl.length) x.vs) x.ws) (sy : ∀ b, inV (.slice a.va x.vs.length a.vc) ys' b → inV (.slice a.va x.vs.length a.vc) ys b) (sz : ∀ b, inV (.slice a.wa x.ws.length a.wc) zs' b → inV (.slice a.wa x.ws.length a.wc) zs b) :
    OwnS W base (markSv k x) a ys' zs' ∧ ∀ b, inSv (markSv k x) a ys' zs' b → inSv x a ys zs b := by
  obtain ⟨l1, l2, l3, l4, l5⟩ := markSv_len k x
  refine ⟨⟨?_, ?_, ?_, ?_, ?_, hy, hz, ?_, ?_, ?_, ?_, ?_, ?_⟩, ?_⟩
  · show W.ownsRow base _ 2 (.slice a.la (markSv k x).sl.length a.lc) (markSv k x).sl.length _; rw [l1]; exact i1
  · rw [l2]; exact i2
  · rw [l3]; exact i3
  · show W.ownsRow base _ 3 (.slice a.oa (markSv k x).os.length a.oc) (markSv k x).os.length _; rw [l4]; exact i4
  · show W.ownsRow base _ 3 (.slice a.ka (markSv k x).kn.length a.kc) (markSv k x).kn.length _; rw [l5]; exact i5
  · rw [l2, l3]; exact fun b hb hb' => h.vw b (sy b hb) (sz b hb')
  · rw [l2, l4]; exact fun b hb => h.vo b (sy b hb)
  · rw [l2, l5]; exact fun b hb => h.vk b (sy b hb)
  · rw [l3, l4]; exact fun b hb => h.wo b (sz b hb)
  · rw [l3, l5]; exact fun b hb => h.wk b (sz b hb)
  · rw [l4, l5]; exact h.ok
  · unfold inSv
    rw [l1, l2, l3, l4, l5]
    intro b hb
    rcases hb with hb | hb | hb | hb | hb
    · exact .inl hb
    · exact .inr (.inl (sy b hb))
    · exact .inr (.inr (.inl (sz b hb)))
    · exact .inr (.inr (.inr (.inl hb)))
    · exact .inr (.inr (.inr (.inr hb)))

set_option maxHeartbeats 4000000 in
theorem markServerO_any (x : Sv) (a : Sa) (ys zs : List XV) (base : Nat) (k : Int) (w : World) (hs : sizeS x ≤ 1048576) (hk0 : 0 ≤ k) (hk1 : endS k x ≤ 10000000) (h : OwnS w base x a ys zs) :
    Calls Tryz.prog 14 #[servV x a, .int .i64 k] w fun e w' => e = .returned (.int .i64 (endS k x)) ∧ (∃ ys' zs', OwnS w' base (markSv k x) a ys' zs' ∧ ∀ b, inSv (markSv k x) a ys' zs' b → inSv x a ys zs b) ∧ Only w w' (fun b => w.heap.size ≤ b ∨ inSv x a ys zs b) := by
  have hlt : Hid (∀ b, inSv x a ys zs b → b < w.heap.size) := by show ∀ b, _; intro b hb; exact (h.lt hb).2
  have dlv : Hid (∀ b, (Value.slice a.la x.sl.length a.lc).ownBlock = some b → ¬ inV (.slice a.va x.vs.length a.vc) ys b) := slot_apart h.l h.v
  have dlw : Hid (∀ b, (Value.slice a.la x.sl.length a.lc).ownBlock = some b → ¬ inV (.slice a.wa x.ws.length a.wc) zs b) := slot_apart h.l h.w
  have dlo : Hid (∀ b, (Value.slice a.la x.sl.length a.lc).ownBlock = some b → (Value.slice a.oa x.os.length a.oc).ownBlock ≠ some b) := slot_apartD h.l h.o
  have dlk : Hid (∀ b, (Value.slice a.la x.sl.length a.lc).ownBlock = some b → (Value.slice a.ka x.kn.length a.kc).ownBlock ≠ some b) := slot_apartD h.l h.k
  have b0 : Below w.heap.size w (w.alloc (.cells #[.int .i64 x.site, .bool x.up, .slice a.la x.sl.length a.lc, .slice a.va x.vs.length a.vc, .slice a.wa x.ws.length a.wc, .slice a.oa x.os.length a.oc, .slice a.ka x.kn.length a.kc] 32)) := (Below.refl _ _).alloc (Nat.le_refl _) _
  have A0 := Blk.new w #[.int .i64 x.site, .bool x.up, .slice a.la x.sl.length a.lc, .slice a.va x.vs.length a.vc, .slice a.wa x.ws.length a.wc, .slice a.oa x.os.length a.oc, .slice a.ka x.kn.length a.kc] 32
  have h0 := h.below b0 (Nat.le_refl _)
  have O0 : Only w (w.alloc (.cells #[.int .i64 x.site, .bool x.up, .slice a.la x.sl.length a.lc, .slice a.va x.vs.length a.vc, .slice a.wa x.ws.length a.wc, .slice a.oa x.os.length a.oc, .slice a.ka x.kn.length a.kc] 32)) (fun b => w.heap.size ≤ b ∨ inSv x a ys zs b) := (only_alloc w _).wide fun j hj => .inl hj
  have e1 : endV (k + 2 * x.sl.length) x.vs ≤ 10000000 := by
    have := endV_mono (endV (k + 2 * x.sl.length) x.vs) x.ws; unfold endS at hk1; omega
  have e2 : endV (endV (k + 2 * x.sl.length) x.vs) x.ws ≤ 10000000 := by unfold endS at hk1; omega
  have e0 : k + 2 * (x.sl.length : Int) ≤ 10000000 := by have := endV_mono (k + 2 * x.sl.length) x.vs; omega
  have p1 : 0 ≤ k + 2 * (x.sl.length : Int) := by omega
  have p2 : 0 ≤ endV (k + 2 * x.sl.length) x.vs := by have := endV_mono (k + 2 * x.sl.length) x.vs; omega
  have p3 : 0 ≤ endV (endV (k + 2 * x.sl.length) x.vs) x.ws := by have := endV_mono (endV (k + 2 * x.sl.length) x.vs) x.ws; omega
  have e3 : endV (endV (k + 2 * x.sl.length) x.vs) x.ws + 3 * (x.os.length : Int) ≤ 10000000 := by unfold endS at hk1; omega
  have l1 : x.sl.length ≤ 1048576 := by unfold sizeS at hs; omega
  have l2 : x.vs.length ≤ 1048577 := by unfold sizeS at hs; omega
  have l3 : x.ws.length ≤ 1048577 := by unfold sizeS at hs; omega
  have l4 : x.os.length ≤ 1048576 := by unfold sizeS at hs; omega
  have l5 : x.kn.length ≤ 1048576 := by unfold sizeS at hs; omega
  have d2 : ∀ v ∈ x.vs, v.ds.length ≤ 1048576 := fun v hv => by have := tot_mem hv; unfold sizeS at hs; omega
  have d3 : ∀ v ∈ x.ws, v.ds.length ≤ 1048576 := fun v hv => by have := tot_mem hv; unfold sizeS at hs; omega
  have HE : Hid (endS k x = endV (endV (k + 2 * x.sl.length) x.vs) x.ws + 3 * x.os.length + 3 * x.kn.length) := rfl
  have HM : Hid (∀ (W : World) (ys' zs' : List XV), W.ownsRow base 84 2 (.slice a.la x.sl.length a.lc) x.sl.length (flat2 (mark2 k x.sl.length)) → OwnV W base (.slice a.va x.vs.length a.vc) ys' → OwnV W base (.slice a.wa x.ws.length a.wc) zs' → W.ownsRow base 116 3 (.slice a.oa x.os.length a.oc) x.os.length (flat3 (markL (endV (endV (k + 2 * x.sl.length) x.vs) x.ws) x.os.length)) → W.ownsRow base 116 3 (.slice a.ka x.kn.length a.kc) x.kn.length (flat3 (markL (endV (endV (k + 2 * x.sl.length) x.vs) x.ws + 3 * x.os.length) x.kn.length)) → ys'.map XV.v = markVs (k + 2 * x.sl.length) x.vs → zs'.map XV.v = markVs (endV (k + 2 * x.sl.length) x.vs) x.ws → (∀ b, inV (.slice a.va x.vs.length a.vc) ys' b → inV (.slice a.va x.vs.length a.vc) ys b) → (∀ b, inV (.slice a.wa x.ws.length a.wc) zs' b → inV (.slice a.wa x.ws.length a.wc) zs b) → (∃ ys' zs', OwnS W base (markSv k x) a ys' zs' ∧ ∀ b, inSv (markSv k x) a ys' zs' b → inSv x a ys zs b)) := by
    show ∀ (W : World) (ys' zs' : List XV), _
    intro W ys' zs' i1 i2 i3 i4 i5 hy' hz' sy sz
    exact ⟨ys', zs', own_mark h i1 i2 i3 i4 i5 hy' hz' sy sz⟩
  obtain ⟨hl0, hv0, hw0, ho0, hk0', hy, hz, vw, vo, vk, wo, wk, ok⟩ := h0
  have HX : Hid ((∀ b, inV (.slice a.va x.vs.length a.vc) ys b → ¬ inV (.slice a.wa x.ws.length a.wc) zs b) ∧ (∀ b, inV (.slice a.va x.vs.length a.vc) ys b → (Value.slice a.oa x.os.length a.oc).ownBlock ≠ some b) ∧ (∀ b, inV (.slice a.va x.vs.length a.vc) ys b → (Value.slice a.ka x.kn.length a.kc).ownBlock ≠ some b) ∧ (∀ b, inV (.slice a.wa x.ws.length a.wc) zs b → (Value.slice a.oa x.os.length a.oc).ownBlock ≠ some b) ∧ (∀ b, inV (.slice a.wa x.ws.length a.wc) zs b → (Value.slice a.ka x.kn.length a.kc).ownBlock ≠ some b) ∧ (∀ b, (Value.slice a.oa x.os.length a.oc).ownBlock = some b → (Value.slice a.ka x.kn.length a.kc).ownBlock ≠ some b)) := ⟨vw, vo, vk, wo, wk, ok⟩
  have HI : Hid ((∀ b, (Value.slice a.la x.sl.length a.lc).ownBlock = some b → inSv x a ys zs b) ∧ (∀ b, inV (.slice a.va x.vs.length a.vc) ys b → inSv x a ys zs b) ∧ (∀ b, inV (.slice a.wa x.ws.length a.wc) zs b → inSv x a ys zs b) ∧ (∀ b, (Value.slice a.oa x.os.length a.oc).ownBlock = some b → inSv x a ys zs b) ∧ (∀ b, (Value.slice a.ka x.kn.length a.kc).ownBlock = some b → inSv x a ys zs b)) := ⟨fun b hb => .inl hb, fun b hb => .inr (.inl hb), fun b hb => .inr (.inr (.inl hb)), fun b hb => .inr (.inr (.inr (.inl hb))), fun b hb => .inr (.inr (.inr (.inr hb)))⟩
  have HYZ : Hid (ys.map XV.v = x.vs ∧ zs.map XV.v = x.ws) := ⟨hy, hz⟩
  generalize endS k x = en at *
  obtain ⟨k2, hk2⟩ : ∃ k2, endV (k + 2 * x.sl.length) x.vs = k2 := ⟨_, rfl⟩
  rw [hk2] at e1 e2 p2 p3 e3 HE HM
  obtain ⟨k3, hk3⟩ : ∃ k3, endV k2 x.ws = k3 := ⟨_, rfl⟩
  rw [hk3] at e2 p3 e3 HE HM
  have HK2 : Hid (endV (k + 2 * x.sl.length) x.vs = k2) := hk2
  have HK3 : Hid (endV k2 x.ws = k3) := hk3
  clear hk2 hk3
  clear vw vo vk wo wk ok hy hz h b0 hs hk1
  have HV0 : Hid (RowS _ base _ x.sl) := hl0
  have ho1 : Hid (RowD _ base _ x.os) := ho0
  have hk1 : Hid (RowD _ base _ x.kn) := hk0'
  clear hl0 ho0 hk0'
  go_enter Tryz.func14, Tryz.ntmps14
  go_wp2_with fail
  generalize (w.alloc (.cells #[.int .i64 x.site, .bool x.up, .slice a.la x.sl.length a.lc, .slice a.va x.vs.length a.vc, .slice a.wa x.ws.length a.wc, .slice a.oa x.os.length a.oc, .slice a.ka x.kn.length a.kc] 32)) = w0 at *
  refine (markSl_any _ x.sl.length base _ k _ l1 hk0 (by omega) HV0.out).mono ?_
  rintro e w1 ⟨rfl, r1, g1⟩
  have o1 := only_grown g1
  have R1 : Hid (w1.ownsRow base 84 2 (.slice a.la x.sl.length a.lc) x.sl.length (flat2 (mark2 k x.sl.length))) := r1
  have V1 := o1.ownV hv0 (fun j hj hs => dlv.out j hs hj)
  have W1 := o1.ownV hw0 (fun j hj hs => dlw.out j hs hj)
  have P1 : Hid (RowD w1 base (.slice a.oa x.os.length a.oc) x.os) := o1.row ho1.out (fun j hj hs => dlo.out j hs hj)
  have K1 : Hid (RowD w1 base (.slice a.ka x.kn.length a.kc) x.kn) := o1.row hk1.out (fun j hj hs => dlk.out j hs hj)
  have A1 := o1.blk A0 (fun hs => Nat.lt_irrefl _ (hlt.out _ (HI.out.1 _ hs)))
  have O1 := O0.trans (o1.wide fun j hj => .inr (HI.out.1 j hj))
  clear r1 g1 o1 hv0 hw0 ho1 hk1 A0 O0 HV0
  obtain ⟨q1, g1⟩ := A1.rules
  go_wp2_with fail
  clear q1 g1
  refine (markVers_as _ base ys x.vs _ _ HYZ.out.1 l2 d2 p1 (by rw [HK2.out]; exact e1) V1).mono ?_
  rw [HK2.out]
  rintro e w2 ⟨rfl, ⟨ys2, V2, hy2, sy2⟩, o2⟩
  have R2 : Hid (w2.ownsRow base 84 2 (.slice a.la x.sl.length a.lc) x.sl.length (flat2 (mark2 k x.sl.length))) := o2.row R1.out (fun j hj hs => dlv.out j hj hs)
  have W2 := o2.ownV W1 (fun j hj hs => HX.out.1 j hs hj)
  have P2 : Hid (RowD w2 base (.slice a.oa x.os.length a.oc) x.os) := o2.row P1.out (fun j hj hs => HX.out.2.1 j hs hj)
  have K2 : Hid (RowD w2 base (.slice a.ka x.kn.length a.kc) x.kn) := o2.row K1.out (fun j hj hs => HX.out.2.2.1 j hs hj)
  have A2 := o2.blk A1 (fun hs => Nat.lt_irrefl _ (hlt.out _ (HI.out.2.1 _ hs)))
  have O2 := O1.trans (o2.wide fun j hj => .inr (HI.out.2.1 j hj))
  have HY2 : Hid (ys2.map XV.v = markVs (k + 2 * x.sl.length) x.vs ∧ ∀ b, inV (.slice a.va x.vs.length a.vc) ys2 b → inV (.slice a.va x.vs.length a.vc) ys b) := ⟨hy2, sy2⟩
  clear o2 V1 W1 P1 K1 A1 O1 R1 hy2 sy2
  obtain ⟨q1, g1⟩ := A2.rules
  go_wp2_with fail
  clear q1 g1
  refine (markVers_as _ base zs x.ws _ _ HYZ.out.2 l3 d3 p2 (by rw [HK3.out]; exact e2) W2).mono ?_
  rw [HK3.out]
  rintro e w3 ⟨rfl, ⟨zs3, W3, hz3, sz3⟩, o3⟩
  have R3 : Hid (w3.ownsRow base 84 2 (.slice a.la x.sl.length a.lc) x.sl.length (flat2 (mark2 k x.sl.length))) := o3.row R2.out (fun j hj hs => dlw.out j hj hs)
  have V3 := o3.ownV V2 (fun j hj hs => HX.out.1 j (HY2.out.2 j hj) hs)
  have P3 : Hid (RowD w3 base (.slice a.oa x.os.length a.oc) x.os) := o3.row P2.out (fun j hj hs => HX.out.2.2.2.1 j hs hj)
  have K3 : Hid (RowD w3 base (.slice a.ka x.kn.length a.kc) x.kn) := o3.row K2.out (fun j hj hs => HX.out.2.2.2.2.1 j hs hj)
  have A3 := o3.blk A2 (fun hs => Nat.lt_irrefl _ (hlt.out _ (HI.out.2.2.1 _ hs)))
  have O3 := O2.trans (o3.wide fun j hj => .inr (HI.out.2.2.1 j hj))
  have HZ3 : Hid (zs3.map XV.v = markVs k2 x.ws ∧ ∀ b, inV (.slice a.wa x.ws.length a.wc) zs3 b → inV (.slice a.wa x.ws.length a.wc) zs b) := ⟨hz3, sz3⟩
  clear o3 V2 W2 P2 K2 A2 O2 R2 hz3 sz3
  obtain ⟨q1, g1⟩ := A3.rules
  go_wp2_with fail
  clear q1 g1
  refine (mark_any _ x.os.length base _ k3 _ l4 p3 (by omega) P3.out).mono ?_
  rintro e w4 ⟨rfl, p4, g4⟩
  have o4 := only_grown g4
  have R4 : Hid (w4.ownsRow base 84 2 (.slice a.la x.sl.length a.lc) x.sl.length (flat2 (mark2 k x.sl.length))) := o4.row R3.out (fun j hj hs => dlo.out j hj hs)
  have V4 := o4.ownV V3 (fun j hj hs => HX.out.2.1 j (HY2.out.2 j hj) hs)
  have W4 := o4.ownV W3 (fun j hj hs => HX.out.2.2.2.1 j (HZ3.out.2 j hj) hs)
  have P4 : Hid (w4.ownsRow base 116 3 (.slice a.oa x.os.length a.oc) x.os.length (flat3 (markL k3 x.os.length))) := p4
  have K4 : Hid (RowD w4 base (.slice a.ka x.kn.length a.kc) x.kn) := o4.row K3.out (fun j hj hs => HX.out.2.2.2.2.2 j hs hj)
  have A4 := o4.blk A3 (fun hs => Nat.lt_irrefl _ (hlt.out _ (HI.out.2.2.2.1 _ hs)))
  have O4 := O3.trans (o4.wide fun j hj => .inr (HI.out.2.2.2.1 j hj))
  clear o4 V3 W3 P3 K3 A3 O3 R3 p4 g4
  obtain ⟨q1, g1⟩ := A4.rules
  go_wp2_with fail
  clear q1 g1
  refine (mark_any _ x.kn.length base _ (k3 + 3 * (x.os.length : Int)) _ l5 (by omega) (by omega) K4.out).mono ?_
  rintro e w5 ⟨rfl, p5, g5⟩
  have o5 := only_grown g5
  have R5 : Hid (w5.ownsRow base 84 2 (.slice a.la x.sl.length a.lc) x.sl.length (flat2 (mark2 k x.sl.length))) := o5.row R4.out (fun j hj hs => dlk.out j hj hs)
  have V5 := o5.ownV V4 (fun j hj hs => HX.out.2.2.1 j (HY2.out.2 j hj) hs)
  have W5 := o5.ownV W4 (fun j hj hs => HX.out.2.2.2.2.1 j (HZ3.out.2 j hj) hs)
  have P5 : Hid (w5.ownsRow base 116 3 (.slice a.oa x.os.length a.oc) x.os.length (flat3 (markL k3 x.os.length))) := o5.row P4.out (fun j hj hs => HX.out.2.2.2.2.2 j hj hs)
  have K5 : Hid (w5.ownsRow base 116 3 (.slice a.ka x.kn.length a.kc) x.kn.length (flat3 (markL (k3 + 3 * (x.os.length : Int)) x.kn.length))) := p5
  have O5 := O4.trans (o5.wide fun j hj => .inr (HI.out.2.2.2.2 j hj))
  have HF : Hid (∃ ys' zs', OwnS w5 base (markSv k x) a ys' zs' ∧ ∀ b, inSv (markSv k x) a ys' zs' b → inSv x a ys zs b) := HM.out w5 ys2 zs3 R5.out V5 W5 P5.out K5.out HY2.out.1 HZ3.out.1 HY2.out.2 HZ3.out.2
  clear o5 V4 W4 P4 K4 A4 O4 R4 p5 g5 R5 V5 W5 P5 K5
  have hp5 : 0 ≤ k3 + 3 * (x.os.length : Int) + 3 * (x.kn.length : Int) := by omega
  go_wp2_with fail
  go_ret
  exact ⟨by rw [HE.out]; rfl, HF.out, O5⟩

end Go.Proofs.YtpjidogilofppaaGreat

/- Words of a call's own: their rows, all apart; they are marked, and held against the marks. -/
namespace Go.Proofs.YtpjidogilofppaaGreat
open Go.ChangeShapes Go.WideShapes Go.ChangeAt Go.RowKit

/-- A word's rows. -/
structure OwnW (M : World) (base : Nat) (x : Wd) (a : Wa) (ys zs : List XV) : Prop where
  d : RowD M base (.slice a.da x.ds.length a.dc) x.ds
  v : OwnV M base (.slice a.va x.vs.length a.vc) ys
  w : OwnV M base (.slice a.wa x.ws.length a.wc) zs
  o : RowD M base (.slice a.oa x.os.length a.oc) x.os
  hy : ys.map XV.v = x.vs
  hz : zs.map XV.v = x.ws
  dv : ∀ b, (Value.slice a.da x.ds.length a.dc).ownBlock = some b → ¬ inV (.slice a.va x.vs.length a.vc) ys b
  dw : ∀ b, (Value.slice a.da x.ds.length a.dc).ownBlock = some b → ¬ inV (.slice a.wa x.ws.length a.wc) zs b
  dn : ∀ b, (Value.slice a.da x.ds.length a.dc).ownBlock = some b → (Value.slice a.oa x.os.length a.oc).ownBlock ≠ some b
  vw : ∀ b, inV (.slice a.va x.vs.length a.vc) ys b → ¬ inV (.slice a.wa x.ws.length a.wc) zs b
  vo : ∀ b, inV (.slice a.va x.vs.length a.vc) ys b → (Value.slice a.oa x.os.length a.oc).ownBlock ≠ some b
  wo : ∀ b, inV (.slice a.wa x.ws.length a.wc) zs b → (Value.slice a.oa x.os.length a.oc).ownBlock ≠ some b
/-- The blocks of a word. -/
def inWd (x : Wd) (a : Wa) (ys zs : List XV) (b : Nat) : Prop := (Value.slice a.da x.ds.length a.dc).ownBlock = some b ∨ inV (.slice a.va x.vs.length a.vc) ys b ∨ inV (.slice a.wa x.ws.length a.wc) zs b ∨ (Value.slice a.oa x.os.length a.oc).ownBlock = some b
theorem OwnW.below {w w' : World} {base : Nat} {x : Wd} {a : Wa} {ys zs : List XV} (h : OwnW w base x a ys zs) {m : Nat} (k : Below m w w') (hm : w.heap.size ≤ m) : OwnW w' base x a ys zs :=
  ⟨row_below h.d k hm, h.v.below k hm, h.w.below k hm, row_below h.o k hm, h.hy, h.hz, h.dv, h.dw, h.dn, h.vw, h.vo, h.wo⟩
theorem OwnW.mono {w : World} {base base' : Nat} {x : Wd} {a : Wa} {ys zs : List XV} (h : OwnW w base x a ys zs) (hb : base' ≤ base) : OwnW w base' x a ys zs :=
  ⟨row_mono h.d hb, h.v.mono hb, h.w.mono hb, row_mono h.o hb, h.hy, h.hz, h.dv, h.dw, h.dn, h.vw, h.vo, h.wo⟩
theorem OwnW.inL {w : World} {base : Nat} {x : Wd} {a : Wa} {ys zs : List XV} (h : OwnW w base x a ys zs) : InL w x a :=
  ⟨row_deps' h.d, h.v.asV h.hy, h.w.asV h.hz, row_deps' h.o⟩
theorem OwnW.lt {w : World} {base : Nat} {x : Wd} {a : Wa} {ys zs : List XV} (h : OwnW w base x a ys zs) {j : Nat} (hj : inWd x a ys zs j) : base ≤ j ∧ j < w.heap.size := by
  rcases hj with hj | hj | hj | hj
  · exact h.d.lt j hj
  · exact h.v.lt hj
  · exact h.w.lt hj
  · exact h.o.lt j hj
theorem Only.ownW {w w' : World} {S : Nat → Prop} (o : Only w w' S) {base : Nat} {x : Wd} {a : Wa} {ys zs : List XV} (h : OwnW w base x a ys zs) (hS : ∀ j, inWd x a ys zs j → ¬ S j) : OwnW w' base x a ys zs :=
  ⟨o.row h.d (fun j hj => hS j (.inl hj)), o.ownV h.v (fun j hj => hS j (.inr (.inl hj))), o.ownV h.w (fun j hj => hS j (.inr (.inr (.inl hj)))), o.row h.o (fun j hj => hS j (.inr (.inr (.inr hj)))), h.hy, h.hz, h.dv, h.dw, h.dn, h.vw, h.vo, h.wo⟩
def endW (k : Int) (x : Wd) : Int := endV (endV (k + 3 * x.ds.length) x.vs) x.ws + 3 * x.os.length
def markWd (k : Int) (x : Wd) : Wd := ⟨x.kind, x.fr, x.to, x.call, x.key, x.t, x.s, x.val, x.yes, markL k x.ds.length, x.slot, x.ep, markVs (k + 3 * x.ds.length) x.vs, markVs (endV (k + 3 * x.ds.length) x.vs) x.ws, markL (endV (endV (k + 3 * x.ds.length) x.vs) x.ws) x.os.length⟩

set_option maxHeartbeats 4000000 in
set_option maxRecDepth 20000 in
theorem markWord_any (x : Wd) (a : Wa) (ys zs : List XV) (base : Nat) (k : Int) (w : World) (hs : sizeW x ≤ 1048576) (hk0 : 0 ≤ k) (hk1 : endW k x ≤ 10000000) (h : OwnW w base x a ys zs) :
    Calls Tryz.prog 19 #[wordV x a, .int .i64 k] w fun e w' => e = .returned (.int .i64 (endW k x)) ∧ InL w' (markWd k x) a ∧ Only w w' (fun b => w.heap.size ≤ b ∨ inWd x a ys zs b) := by
  have hlt : Hid (∀ b, inWd x a ys zs b → b < w.heap.size) := by show ∀ b, _; intro b hb; exact (h.lt hb).2
  have b0 : Below w.heap.size w (w.alloc (.cells #[.int .i64 x.kind, .int .i64 x.fr, .int .i64 x.to, .int .i64 x.call, .int .i64 x.key, .int .i64 x.t, .int .i64 x.s, .int .i64 x.val, .bool x.yes, .slice a.da x.ds.length a.dc, .int .i64 x.slot, .int .i64 x.ep, .slice a.va x.vs.length a.vc, .slice a.wa x.ws.length a.wc, .slice a.oa x.os.length a.oc] 41)) := (Below.refl _ _).alloc (Nat.le_refl _) _
  have A0 := Blk.new w #[.int .i64 x.kind, .int .i64 x.fr, .int .i64 x.to, .int .i64 x.call, .int .i64 x.key, .int .i64 x.t, .int .i64 x.s, .int .i64 x.val, .bool x.yes, .slice a.da x.ds.length a.dc, .int .i64 x.slot, .int .i64 x.ep, .slice a.va x.vs.length a.vc, .slice a.wa x.ws.length a.wc, .slice a.oa x.os.length a.oc] 41
  have h0 := h.below b0 (Nat.le_refl _)
  have O0 : Only w (w.alloc (.cells #[.int .i64 x.kind, .int .i64 x.fr, .int .i64 x.to, .int .i64 x.call, .int .i64 x.key, .int .i64 x.t, .int .i64 x.s, .int .i64 x.val, .bool x.yes, .slice a.da x.ds.length a.dc, .int .i64 x.slot, .int .i64 x.ep, .slice a.va x.vs.length a.vc, .slice a.wa x.ws.length a.wc, .slice a.oa x.os.length a.oc] 41)) (fun b => w.heap.size ≤ b ∨ inWd x a ys zs b) := (only_alloc w _).wide fun j hj => .inl hj
  have e2 : endV (endV (k + 3 * x.ds.length) x.vs) x.ws ≤ 10000000 := by unfold endW at hk1; omega
  have e1 : endV (k + 3 * x.ds.length) x.vs ≤ 10000000 := by
    have := endV_mono (endV (k + 3 * x.ds.length) x.vs) x.ws; omega
  have e0 : k + 3 * (x.ds.length : Int) ≤ 10000000 := by have := endV_mono (k + 3 * x.ds.length) x.vs; omega
  have p1 : 0 ≤ k + 3 * (x.ds.length : Int) := by omega
  have p2 : 0 ≤ endV (k + 3 * x.ds.length) x.vs := by have := endV_mono (k + 3 * x.ds.length) x.vs; omega
  have p3 : 0 ≤ endV (endV (k + 3 * x.ds.length) x.vs) x.ws := by have := endV_mono (endV (k + 3 * x.ds.length) x.vs) x.ws; omega
  have l1 : x.ds.length ≤ 1048576 := by unfold sizeW at hs; omega
  have l2 : x.vs.length ≤ 1048577 := by unfold sizeW at hs; omega
  have l3 : x.ws.length ≤ 1048577 := by unfold sizeW at hs; omega
  have l4 : x.os.length ≤ 1048576 := by unfold sizeW at hs; omega
  have d2 : ∀ v ∈ x.vs, v.ds.length ≤ 1048576 := fun v hv => by have := tot_mem hv; unfold sizeW at hs; omega
  have d3 : ∀ v ∈ x.ws, v.ds.length ≤ 1048576 := fun v hv => by have := tot_mem hv; unfold sizeW at hs; omega
  have HE : Hid (endW k x = endV (endV (k + 3 * x.ds.length) x.vs) x.ws + 3 * x.os.length) := rfl
  have HM : Hid (∀ M, Deps M a.da (markL k x.ds.length) → Vers M a.va (markVs (k + 3 * x.ds.length) x.vs) → Vers M a.wa (markVs (endV (k + 3 * x.ds.length) x.vs) x.ws) → Deps M a.oa (markL (endV (endV (k + 3 * x.ds.length) x.vs) x.ws) x.os.length) → InL M (markWd k x) a) := by
    show ∀ M, _; intro M i1 i2 i3 i4; exact ⟨i1, i2, i3, i4⟩
  obtain ⟨hd0, hv0, hw0, ho0, hy, hz, dv, dw, dn, vw, vo, wo⟩ := h0
  have HX : Hid ((∀ b, (Value.slice a.da x.ds.length a.dc).ownBlock = some b → ¬ inV (.slice a.va x.vs.length a.vc) ys b) ∧ (∀ b, (Value.slice a.da x.ds.length a.dc).ownBlock = some b → ¬ inV (.slice a.wa x.ws.length a.wc) zs b) ∧ (∀ b, (Value.slice a.da x.ds.length a.dc).ownBlock = some b → (Value.slice a.oa x.os.length a.oc).ownBlock ≠ some b) ∧ (∀ b, inV (.slice a.va x.vs.length a.vc) ys b → ¬ inV (.slice a.wa x.ws.length a.wc) zs b) ∧ (∀ b, inV (.slice a.va x.vs.length a.vc) ys b → (Value.slice a.oa x.os.length a.oc).ownBlock ≠ some b) ∧ (∀ b, inV (.slice a.wa x.ws.length a.wc) zs b → (Value.slice a.oa x.os.length a.oc).ownBlock ≠ some b)) := ⟨dv, dw, dn, vw, vo, wo⟩
  have HI : Hid ((∀ b, (Value.slice a.da x.ds.length a.dc).ownBlock = some b → inWd x a ys zs b) ∧ (∀ b, inV (.slice a.va x.vs.length a.vc) ys b → inWd x a ys zs b) ∧ (∀ b, inV (.slice a.wa x.ws.length a.wc) zs b → inWd x a ys zs b) ∧ (∀ b, (Value.slice a.oa x.os.length a.oc).ownBlock = some b → inWd x a ys zs b)) := ⟨fun b hb => .inl hb, fun b hb => .inr (.inl hb), fun b hb => .inr (.inr (.inl hb)), fun b hb => .inr (.inr (.inr hb))⟩
  have HYZ : Hid (ys.map XV.v = x.vs ∧ zs.map XV.v = x.ws) := ⟨hy, hz⟩
  generalize endW k x = en at *
  obtain ⟨k2, hk2⟩ : ∃ k2, endV (k + 3 * x.ds.length) x.vs = k2 := ⟨_, rfl⟩
  rw [hk2] at e1 e2 p2 p3 HE HM
  obtain ⟨k3, hk3⟩ : ∃ k3, endV k2 x.ws = k3 := ⟨_, rfl⟩
  rw [hk3] at e2 p3 HE HM
  have HK2 : Hid (endV (k + 3 * x.ds.length) x.vs = k2) := hk2
  have HK3 : Hid (endV k2 x.ws = k3) := hk3
  clear hk2 hk3
  clear dv dw dn vw vo wo hy hz h b0 hs hk1
  have hd1 : Hid (RowD _ base _ x.ds) := hd0
  have ho1 : Hid (RowD _ base _ x.os) := ho0
  clear hd0 ho0
  go_enter Tryz.func19, Tryz.ntmps19
  go_wp2_with fail
  generalize (w.alloc (.cells #[.int .i64 x.kind, .int .i64 x.fr, .int .i64 x.to, .int .i64 x.call, .int .i64 x.key, .int .i64 x.t, .int .i64 x.s, .int .i64 x.val, .bool x.yes, .slice a.da x.ds.length a.dc, .int .i64 x.slot, .int .i64 x.ep, .slice a.va x.vs.length a.vc, .slice a.wa x.ws.length a.wc, .slice a.oa x.os.length a.oc] 41)) = w0 at *
  refine (mark_any _ x.ds.length base _ k _ l1 hk0 (by omega) hd1.out).mono ?_
  rintro e w1 ⟨rfl, r1, g1⟩
  have o1 := only_grown g1
  have R1 : Hid (w1.ownsRow base 116 3 (.slice a.da x.ds.length a.dc) x.ds.length (flat3 (markL k x.ds.length))) := r1
  have V1 := o1.ownV hv0 (fun j hj hs => HX.out.1 j hs hj)
  have W1 := o1.ownV hw0 (fun j hj hs => HX.out.2.1 j hs hj)
  have P1 : Hid (RowD w1 base (.slice a.oa x.os.length a.oc) x.os) := o1.row ho1.out (fun j hj hs => HX.out.2.2.1 j hs hj)
  have A1 := o1.blk A0 (fun hs => Nat.lt_irrefl _ (hlt.out _ (HI.out.1 _ hs)))
  have O1 := O0.trans (o1.wide fun j hj => .inr (HI.out.1 j hj))
  clear r1 g1 o1 hv0 hw0 ho1 hd1 A0 O0
  obtain ⟨q1, g1⟩ := A1.rules
  go_wp2_with fail
  clear q1 g1
  refine (markVers_as _ base ys x.vs _ _ HYZ.out.1 l2 d2 p1 (by rw [HK2.out]; exact e1) V1).mono ?_
  rw [HK2.out]
  rintro e w2 ⟨rfl, ⟨ys2, V2, hy2, sy2⟩, o2⟩
  have R2 : Hid (w2.ownsRow base 116 3 (.slice a.da x.ds.length a.dc) x.ds.length (flat3 (markL k x.ds.length))) := o2.row R1.out (fun j hj hs => HX.out.1 j hj hs)
  have W2 := o2.ownV W1 (fun j hj hs => HX.out.2.2.2.1 j hs hj)
  have P2 : Hid (RowD w2 base (.slice a.oa x.os.length a.oc) x.os) := o2.row P1.out (fun j hj hs => HX.out.2.2.2.2.1 j hs hj)
  have A2 := o2.blk A1 (fun hs => Nat.lt_irrefl _ (hlt.out _ (HI.out.2.1 _ hs)))
  have O2 := O1.trans (o2.wide fun j hj => .inr (HI.out.2.1 j hj))
  have HY2 : Hid (ys2.map XV.v = markVs (k + 3 * x.ds.length) x.vs ∧ ∀ b, inV (.slice a.va x.vs.length a.vc) ys2 b → inV (.slice a.va x.vs.length a.vc) ys b) := ⟨hy2, sy2⟩
  clear o2 V1 W1 P1 A1 O1 R1 hy2 sy2
  obtain ⟨q1, g1⟩ := A2.rules
  go_wp2_with fail
  clear q1 g1
  refine (markVers_as _ base zs x.ws _ _ HYZ.out.2 l3 d3 p2 (by rw [HK3.out]; exact e2) W2).mono ?_
  rw [HK3.out]
  rintro e w3 ⟨rfl, ⟨zs3, W3, hz3, sz3⟩, o3⟩
  have R3 : Hid (w3.ownsRow base 116 3 (.slice a.da x.ds.length a.dc) x.ds.length (flat3 (markL k x.ds.length))) := o3.row R2.out (fun j hj hs => HX.out.2.1 j hj hs)
  have V3 := o3.ownV V2 (fun j hj hs => HX.out.2.2.2.1 j (HY2.out.2 j hj) hs)
  have P3 : Hid (RowD w3 base (.slice a.oa x.os.length a.oc) x.os) := o3.row P2.out (fun j hj hs => HX.out.2.2.2.2.2 j hs hj)
  have A3 := o3.blk A2 (fun hs => Nat.lt_irrefl _ (hlt.out _ (HI.out.2.2.1 _ hs)))
  have O3 := O2.trans (o3.wide fun j hj => .inr (HI.out.2.2.1 j hj))
  have HZ3 : Hid (zs3.map XV.v = markVs k2 x.ws ∧ ∀ b, inV (.slice a.wa x.ws.length a.wc) zs3 b → inV (.slice a.wa x.ws.length a.wc) zs b) := ⟨hz3, sz3⟩
  clear o3 V2 W2 P2 A2 O2 R2 hz3 sz3
  obtain ⟨q1, g1⟩ := A3.rules
  go_wp2_with fail
  clear q1 g1
  refine (mark_any _ x.os.length base _ k3 _ l4 p3 (by omega) P3.out).mono ?_
  rintro e w4 ⟨rfl, p4, g4⟩
  have o4 := only_grown g4
  have R4 : Hid (w4.ownsRow base 116 3 (.slice a.da x.ds.length a.dc) x.ds.length (flat3 (markL k x.ds.length))) := o4.row R3.out (fun j hj hs => HX.out.2.2.1 j hj hs)
  have V4 := o4.ownV V3 (fun j hj hs => HX.out.2.2.2.2.1 j (HY2.out.2 j hj) hs)
  have W4 := o4.ownV W3 (fun j hj hs => HX.out.2.2.2.2.2 j (HZ3.out.2 j hj) hs)
  have P4 : Hid (w4.ownsRow base 116 3 (.slice a.oa x.os.length a.oc) x.os.length (flat3 (markL k3 x.os.length))) := p4
  have O4 := O3.trans (o4.wide fun j hj => .inr (HI.out.2.2.2 j hj))
  have HF : Hid (InL w4 (markWd k x) a) := HM.out w4 (row_deps' (xs := markL k x.ds.length) (by rw [markL_len]; exact R4.out)) (V4.asV HY2.out.1) (W4.asV HZ3.out.1) (row_deps' (xs := markL k3 x.os.length) (by rw [markL_len]; exact P4.out))
  clear o4 V3 W3 P3 A3 O3 R3 p4 g4 R4 V4 W4 P4
  go_wp2_with fail
  go_ret
  exact ⟨by rw [HE.out]; rfl, HF.out, O4⟩

set_option maxHeartbeats 2000000 in
set_option maxRecDepth 20000 in
theorem heldWord_any (x : Wd) (a : Wa) (k : Int) (w : World) (hs : sizeW x ≤ 1048576) (hk0 : 0 ≤ k) (hk1 : endW k x ≤ 10000000) (h : InL w (markWd k x) a) :
    Calls Tryz.prog 20 #[wordV x a, .int .i64 k] w fun e w' => e = .returned (.int .i64 (endW k x)) ∧ Below w.heap.size w w' := by
  have b0 : Below w.heap.size w (w.alloc (.cells #[.int .i64 x.kind, .int .i64 x.fr, .int .i64 x.to, .int .i64 x.call, .int .i64 x.key, .int .i64 x.t, .int .i64 x.s, .int .i64 x.val, .bool x.yes, .slice a.da x.ds.length a.dc, .int .i64 x.slot, .int .i64 x.ep, .slice a.va x.vs.length a.vc, .slice a.wa x.ws.length a.wc, .slice a.oa x.os.length a.oc] 41)) := (Below.refl _ _).alloc (Nat.le_refl _) _
  have A0 := Blk.new w #[.int .i64 x.kind, .int .i64 x.fr, .int .i64 x.to, .int .i64 x.call, .int .i64 x.key, .int .i64 x.t, .int .i64 x.s, .int .i64 x.val, .bool x.yes, .slice a.da x.ds.length a.dc, .int .i64 x.slot, .int .i64 x.ep, .slice a.va x.vs.length a.vc, .slice a.wa x.ws.length a.wc, .slice a.oa x.os.length a.oc] 41
  obtain ⟨i1, i2, i3, i4⟩ := h.below b0
  have e2 : endV (endV (k + 3 * x.ds.length) x.vs) x.ws ≤ 10000000 := by unfold endW at hk1; omega
  have e1 : endV (k + 3 * x.ds.length) x.vs ≤ 10000000 := by
    have := endV_mono (endV (k + 3 * x.ds.length) x.vs) x.ws; omega
  have e0 : k + 3 * (x.ds.length : Int) ≤ 10000000 := by have := endV_mono (k + 3 * x.ds.length) x.vs; omega
  have p1 : 0 ≤ k + 3 * (x.ds.length : Int) := by omega
  have p2 : 0 ≤ endV (k + 3 * x.ds.length) x.vs := by have := endV_mono (k + 3 * x.ds.length) x.vs; omega
  have p3 : 0 ≤ endV (endV (k + 3 * x.ds.length) x.vs) x.ws := by have := endV_mono (endV (k + 3 * x.ds.length) x.vs) x.ws; omega
  have l1 : x.ds.length ≤ 1048576 := by unfold sizeW at hs; omega
  have l2 : x.vs.length ≤ 1048577 := by unfold sizeW at hs; omega
  have l3 : x.ws.length ≤ 1048577 := by unfold sizeW at hs; omega
  have l4 : x.os.length ≤ 1048576 := by unfold sizeW at hs; omega
  have d2 : ∀ v ∈ x.vs, v.ds.length ≤ 1048576 := fun v hv => by have := tot_mem hv; unfold sizeW at hs; omega
  have d3 : ∀ v ∈ x.ws, v.ds.length ≤ 1048576 := fun v hv => by have := tot_mem hv; unfold sizeW at hs; omega
  have HE : Hid (endW k x = endV (endV (k + 3 * x.ds.length) x.vs) x.ws + 3 * x.os.length) := rfl
  simp only [markWd] at i1 i2 i3 i4
  generalize endW k x = en at *
  obtain ⟨k2, hk2⟩ : ∃ k2, endV (k + 3 * x.ds.length) x.vs = k2 := ⟨_, rfl⟩
  rw [hk2] at e1 e2 p2 p3 HE i3 i4
  obtain ⟨k3, hk3⟩ : ∃ k3, endV k2 x.ws = k3 := ⟨_, rfl⟩
  rw [hk3] at e2 p3 HE i4
  have HK2 : Hid (endV (k + 3 * x.ds.length) x.vs = k2) := hk2
  have HK3 : Hid (endV k2 x.ws = k3) := hk3
  clear hk2 hk3 h hs hk1
  obtain ⟨q1, g1⟩ := A0.rules
  have hh1 := fun M h => held_any a.da x.ds.length a.dc k M l1 hk0 (by omega) h
  have hh2 := fun M h => heldVers_any a.va a.vc x.vs (k + 3 * x.ds.length) M l2 d2 p1 (by rw [HK2.out]; exact e1) h
  have hh3 := fun M h => heldVers_any a.wa a.wc x.ws k2 M l3 d3 p2 (by rw [HK3.out]; exact e2) h
  have hh4 := fun M h => held_any a.oa x.os.length a.oc k3 M l4 p3 (by omega) h
  rw [HK2.out] at hh2
  rw [HK3.out] at hh3
  have p4 : 0 ≤ k3 + 3 * (x.os.length : Int) := by omega
  have n1 : ¬ (k + 3 * (x.ds.length : Int)) < 0 := by omega
  go_enter Tryz.func20, Tryz.ntmps20
  go_wp2_with fail
  generalize (w.alloc (.cells #[.int .i64 x.kind, .int .i64 x.fr, .int .i64 x.to, .int .i64 x.call, .int .i64 x.key, .int .i64 x.t, .int .i64 x.s, .int .i64 x.val, .bool x.yes, .slice a.da x.ds.length a.dc, .int .i64 x.slot, .int .i64 x.ep, .slice a.va x.vs.length a.vc, .slice a.wa x.ws.length a.wc, .slice a.oa x.os.length a.oc] 41)) = w0 at *
  refine (hh1 _ i1).mono ?_
  rintro e w1 ⟨rfl, rfl⟩
  clear hh1
  go_wp2_with fail
  refine (hh2 _ i2).mono ?_
  rintro e w2 ⟨rfl, rfl⟩
  clear hh2
  go_wp2_with fail
  refine (hh3 _ i3).mono ?_
  rintro e w3 ⟨rfl, rfl⟩
  clear hh3
  go_wp2_with fail
  refine (hh4 _ i4).mono ?_
  rintro e w4 ⟨rfl, rfl⟩
  clear hh4
  go_wp2_with fail
  go_ret
  exact ⟨by rw [HE.out]; rfl, b0⟩
end Go.Proofs.YtpjidogilofppaaGreat

