/- The exact law of WordOk. -/
import Derived.Test.YtgdkoangpinieaaWCopy
import Derived.Test.YtgdkoangpinieaaWOkI
import Derived.Test.YtgdkoangpinieaaWOkS
import Derived.Test.YtgdkoangpinieaaGAQ
namespace Go.Proofs.Ytgdkoangpinieaa
open Go.ChangeShapes Go.WideShapes Go.ChangeAt Go.RowKit Go.Deep

theorem LenL.of {x : Wd} (h : sizeW x ≤ 1048576) : LenL x := by
  unfold sizeW at h
  exact ⟨by omega, by omega, by omega, by omega⟩
theorem InI.inL {W : World} {x : Wd} {a : Wa} (h : InI W x a) (hs : sizeW x ≤ 1048576) : InL W x a := by
  unfold sizeW at hs
  exact ⟨h.d, h.v.vers (fun v hv => by have := tot_mem hv; omega), h.w.vers (fun v hv => by have := tot_mem hv; omega), h.o⟩

set_option maxHeartbeats 4000000 in
set_option maxRecDepth 20000 in
theorem lawXWord (x : Wd) (a : Wa) (w : World) (h : InI w x a) :
    Calls Try.prog 16 #[wordV x a] w fun e w' => e = .returned (.bool true) ∧ Below w.heap.size w w' := by
  have b0 : Below w.heap.size w (w.alloc (.cells #[.int .i64 x.kind, .int .i64 x.fr, .int .i64 x.to, .int .i64 x.call, .int .i64 x.key, .int .i64 x.t, .int .i64 x.s, .int .i64 x.val, .bool x.yes, .slice a.da x.ds.length a.dc, .int .i64 x.slot, .int .i64 x.ep, .slice a.va x.vs.length a.vc, .slice a.wa x.ws.length a.wc, .slice a.oa x.os.length a.oc] 72)) := (Below.refl _ _).alloc (Nat.le_refl _) _
  have A0 := Blk.new w #[.int .i64 x.kind, .int .i64 x.fr, .int .i64 x.to, .int .i64 x.call, .int .i64 x.key, .int .i64 x.t, .int .i64 x.s, .int .i64 x.val, .bool x.yes, .slice a.da x.ds.length a.dc, .int .i64 x.slot, .int .i64 x.ep, .slice a.va x.vs.length a.vc, .slice a.wa x.ws.length a.wc, .slice a.oa x.os.length a.oc] 72
  have I0 := h.below b0
  go_enter Try.func16, Try.ntmps16
  go_wp2_with fail
  generalize w.alloc (.cells #[.int .i64 x.kind, .int .i64 x.fr, .int .i64 x.to, .int .i64 x.call, .int .i64 x.key, .int .i64 x.t, .int .i64 x.s, .int .i64 x.val, .bool x.yes, .slice a.da x.ds.length a.dc, .int .i64 x.slot, .int .i64 x.ep, .slice a.va x.vs.length a.vc, .slice a.wa x.ws.length a.wc, .slice a.oa x.os.length a.oc] 72) = w0 at *
  refine (szWord_any x a _ I0).mono ?_
  rintro e w1 ⟨r, rfl, hr, hb1⟩
  have A1 := A0.below hb1 A0.lt
  have I1 := I0.below hb1
  have B1 : Below w.heap.size w w1 := b0.trans (hb1.mono b0.size)
  clear A0 I0 b0 hb1
  rcases hr with hr | ⟨hr, hs⟩
  · have d1 : decide (r < 0) = true := by simpa using hr
    clear A1 I1 hr h
    go_wp2_with fail
    go_ret
    exact ⟨rfl, B1⟩
  have d1 : decide (r < 0) = false := by simp; omega
  have hL := LenL.of hs
  have L1 := I1.inL hs
  have h1 : x.ds.length ≤ 1048576 := by unfold sizeW at hs; omega
  have h2 : x.vs.length ≤ 1048576 := by unfold sizeW at hs; omega
  have h3 : x.ws.length ≤ 1048576 := by unfold sizeW at hs; omega
  have h4 : x.os.length ≤ 1048576 := by unfold sizeW at hs; omega
  have h5 : ∀ v ∈ x.vs, v.ds.length ≤ 1048576 := fun v hv => by have := tot_mem hv; unfold sizeW at hs; omega
  have h6 : ∀ v ∈ x.ws, v.ds.length ≤ 1048576 := fun v hv => by have := tot_mem hv; unfold sizeW at hs; omega
  have hT := fun W h => toWord_any x a W h h1 h2 h3 h4 h5 h6
  have hS := fun b W h => sWord_any x b W hL h
  have hI := fun b W h => iWord_any x b W hL h
  have hE := fun c b W h h' => eqWord_any x c b W h h' h1 h2 h3 h4 h5 h6
  generalize wordB x = q at *
  clear I1 h hs hL h1 h2 h3 h4 h5 h6
  obtain ⟨q1, g1⟩ := A1.rules
  go_wp2_with fail
  clear q1 g1 d1
  refine (hT _ L1).mono ?_
  rintro e w2 ⟨b, rfl, M2, hb2⟩
  have A2 := A1.below hb2 A1.lt
  have L2 := L1.below hb2
  have B2 : Below w.heap.size w w2 := B1.trans (hb2.mono B1.size)
  clear A1 L1 B1 hb2
  go_wp2_with fail
  refine (hS b _ M2).mono ?_
  rintro e w3 ⟨rfl, hb3⟩
  have A3 := A2.below hb3 A2.lt
  have L3 := L2.below hb3
  have B3 : Below w.heap.size w w3 := B2.trans (hb3.mono B2.size)
  clear A2 L2 B2 hb3 M2 hS
  obtain ⟨q1, g1⟩ := A3.rules
  go_wp2_with fail
  clear q1 g1
  refine (hT _ L3).mono ?_
  rintro e w4 ⟨b, rfl, M4, hb4⟩
  have b4 := (Below.refl _ w4).alloc (Nat.le_refl _) (.cells #[.int .i64 x.kind, .int .i64 x.fr, .int .i64 x.to, .int .i64 x.call, .int .i64 x.key, .int .i64 x.t, .int .i64 x.s, .int .i64 x.val, .bool x.yes, .slice b.da x.ds.length b.dc, .int .i64 x.slot, .int .i64 x.ep, .slice b.va x.vs.length b.vc, .slice b.wa x.ws.length b.wc, .slice b.oa x.os.length b.oc] 56)
  have bb4 := hb4.trans (b4.mono hb4.size)
  have A4 := A3.below bb4 A3.lt
  have L4 := L3.below bb4
  have M4' := M4.below b4
  have E4 := Blk.new w4 #[.int .i64 x.kind, .int .i64 x.fr, .int .i64 x.to, .int .i64 x.call, .int .i64 x.key, .int .i64 x.t, .int .i64 x.s, .int .i64 x.val, .bool x.yes, .slice b.da x.ds.length b.dc, .int .i64 x.slot, .int .i64 x.ep, .slice b.va x.vs.length b.vc, .slice b.wa x.ws.length b.wc, .slice b.oa x.os.length b.oc] 56
  have B4 : Below w.heap.size w (w4.alloc (.cells #[.int .i64 x.kind, .int .i64 x.fr, .int .i64 x.to, .int .i64 x.call, .int .i64 x.key, .int .i64 x.t, .int .i64 x.s, .int .i64 x.val, .bool x.yes, .slice b.da x.ds.length b.dc, .int .i64 x.slot, .int .i64 x.ep, .slice b.va x.vs.length b.vc, .slice b.wa x.ws.length b.wc, .slice b.oa x.os.length b.oc] 56)) := B3.trans (bb4.mono B3.size)
  clear A3 L3 B3 hb4 M4 b4 bb4
  obtain ⟨q1, g1⟩ := E4.rules
  go_wp2_with fail
  clear q1 g1
  generalize w4.alloc (.cells #[.int .i64 x.kind, .int .i64 x.fr, .int .i64 x.to, .int .i64 x.call, .int .i64 x.key, .int .i64 x.t, .int .i64 x.s, .int .i64 x.val, .bool x.yes, .slice b.da x.ds.length b.dc, .int .i64 x.slot, .int .i64 x.ep, .slice b.va x.vs.length b.vc, .slice b.wa x.ws.length b.wc, .slice b.oa x.os.length b.oc] 56) = w4' at *
  refine (hI b _ M4').mono ?_
  rintro e w5 ⟨rfl, hb5⟩
  have A5 := A4.below hb5 A4.lt
  have E5 := E4.below hb5 E4.lt
  have L5 := L4.below hb5
  have M5 := M4'.below hb5
  have B5 : Below w.heap.size w w5 := B4.trans (hb5.mono B4.size)
  have I5 : InV w5 w.heap.size w4.heap.size _ _ w5 := ⟨Below.refl _ _, ⟨A5.lt, A5.cell⟩, ⟨E5.lt, E5.cell⟩⟩
  clear A4 E4 L4 M4' B4 hb5 hI A5 E5
  go_wp2_with fail
  go_region_held3 (fun W => Below w5.heap.size w5 W ∧ (w.heap.size < W.heap.size ∧ ∀ j, W.cell? ⟨w.heap.size, j, none⟩ = #[.int .i64 x.kind, .int .i64 x.fr, .int .i64 x.to, .int .i64 x.call, .int .i64 x.key, .int .i64 x.t, .int .i64 x.s, .int .i64 x.val, .bool x.yes, .slice a.da x.ds.length a.dc, .int .i64 x.slot, .int .i64 x.ep, .slice a.va x.vs.length a.vc, .slice a.wa x.ws.length a.wc, .slice a.oa x.os.length a.oc][j]?) ∧ (w4.heap.size < W.heap.size ∧ ∀ j, W.cell? ⟨w4.heap.size, j, none⟩ = #[.int .i64 x.kind, .int .i64 x.fr, .int .i64 x.to, .int .i64 x.call, .int .i64 x.key, .int .i64 x.t, .int .i64 x.s, .int .i64 x.val, .bool x.yes, .slice b.da x.ds.length b.dc, .int .i64 x.slot, .int .i64 x.ep, .slice b.va x.vs.length b.vc, .slice b.wa x.ws.length b.wc, .slice b.oa x.os.length b.oc][j]?)) (first | exact InV.drew (by assumption) | exact InV.below (by assumption) (by assumption)) (first | (go_at_call 62; refine (hT _ (L5.below (InV.drew I5).1)).mono ?_; rintro e w6 ⟨c, rfl, M6, h6⟩) | (go_at_call 63; refine (hE b c _ ((M5.below (InV.drew I5).1).below h6) M6).mono ?_; rintro e w7 ⟨rfl, h7⟩))
  rename_i I7
  have BB : Below w.heap.size w w7 := B5.trans (I7.1.mono B5.size)
  clear I7 I5 M5 M6 h6 h7 L5 B5 hT hE
  go_wp2_with fail
  go_ret
  exact ⟨by simp, BB⟩

set_option maxRecDepth 100000 in
/-- A word that came in. -/
theorem word_open {H : Type} {enc : TypeId × Value → H} {W : World} {base b0 : Nat} {r : Reach} {spare : Nat → Bool} {v : Value} {d : DataW H} {p : List MemPlace} (hv : Value.okWide Try.prog W r b0 72 v)
    (h : DataW.Trod enc Try.prog W base spare true 72 v d p) : ∃ (x : Wd) (a : Wa), v = wordV x a ∧ InI W x a := by
  obtain ⟨cs, rfl, hsz⟩ := okWide_struct Try.underlying72 hv
  obtain ⟨fuel, hf⟩ := h
  have hc15 : Try.prog.cellsOf 72 = 15 := by kernel_rfl
  have hc2 : Try.prog.cellsOf 68 = 2 := by kernel_rfl
  have hci : Try.prog.cellsOf 3 = 1 := by kernel_rfl
  have hcb : Try.prog.cellsOf 4 = 1 := by kernel_rfl
  have hcs : Try.prog.cellsOf 69 = 1 := by kernel_rfl
  have hcv : Try.prog.cellsOf 70 = 1 := by kernel_rfl
  rw [hc15] at hsz
  obtain ⟨c0, c1, c2, c3, c4, c5, c6, c7, c8, c9, c10, c11, c12, c13, c14, rfl⟩ : ∃ c0 c1 c2 c3 c4 c5 c6 c7 c8 c9 c10 c11 c12 c13 c14, cs = #[c0, c1, c2, c3, c4, c5, c6, c7, c8, c9, c10, c11, c12, c13, c14] := by
    obtain ⟨l⟩ := cs
    match l, hsz with
    | [c0, c1, c2, c3, c4, c5, c6, c7, c8, c9, c10, c11, c12, c13, c14], _ => exact ⟨c0, c1, c2, c3, c4, c5, c6, c7, c8, c9, c10, c11, c12, c13, c14, rfl⟩
  obtain ⟨ys, n, _, _, hl, hlen, hfs⟩ := DataW.trod_struct Try.underlying72 hf
  match ys, hlen with
  | [y0, y1, y2, y3, y4, y5, y6, y7, y8, y9, y10, y11, y12, y13], _ =>
    have h0 := hfs 0 _ rfl
    have h1 := hfs 1 _ rfl
    have h2 := hfs 2 _ rfl
    have h3 := hfs 3 _ rfl
    have h4 := hfs 4 _ rfl
    have h5 := hfs 5 _ rfl
    have h6 := hfs 6 _ rfl
    have h7 := hfs 7 _ rfl
    have h8 := hfs 8 _ rfl
    have h9 := hfs 9 _ rfl
    have h10 := hfs 10 _ rfl
    have h11 := hfs 11 _ rfl
    have h12 := hfs 12 _ rfl
    have h13 := hfs 13 _ rfl
    simp [Value.cells, hci, hc2, hcs, hcb, hcv] at h0 h1 h2 h3 h4 h5 h6 h7 h8 h9 h10 h11 h12 h13
    obtain ⟨kind, e0, _, _⟩ := DataW.trod_int Try.underlying3 h0
    obtain ⟨fr, e1, _, _⟩ := DataW.trod_int Try.underlying3 h1
    obtain ⟨to, e2, _, _⟩ := DataW.trod_int Try.underlying3 h2
    obtain ⟨call, e3, _, _⟩ := DataW.trod_int Try.underlying3 h3
    obtain ⟨key, e4, _, _⟩ := DataW.trod_int Try.underlying3 h4
    obtain ⟨z0, z1, n2, _, hlen2, i0, i1⟩ := trod_struct2 Try.underlying68 h5
    simp [hci] at i0 i1
    obtain ⟨t, e5, _, _⟩ := DataW.trod_int Try.underlying3 i0
    obtain ⟨s, e6, _, _⟩ := DataW.trod_int Try.underlying3 i1
    obtain ⟨val, e7, _, _⟩ := DataW.trod_int Try.underlying3 h6
    obtain ⟨yes, e8, _⟩ := DataW.trod_bool Try.underlying4 h7
    obtain ⟨slot, e10, _, _⟩ := DataW.trod_int Try.underlying3 h9
    obtain ⟨ep, e11, _, _⟩ := DataW.trod_int Try.underlying3 h10
    simp at e0 e1 e2 e3 e4 e5 e6 e7 e8 e10 e11
    have sl : ∀ {T E : TypeId} (_ : Try.prog.underlying T = some (.slice E)) {c : Value} {y : DataW H × List MemPlace}, DataW.trod enc Try.prog W base spare true n T [c] = some y → (∃ a len cap, c = Value.slice a len cap) ∧ DataW.Trod enc Try.prog W base spare true T c y.1 y.2 := by
      intro T E hT c y hy
      have hsl : ∃ a len cap, c = Value.slice a len cap := by
        rcases open_slice hT hy with ⟨hcs, _⟩ | ⟨x, l, c, m, n, DD, Pl, hcs, _⟩
        · simp at hcs; exact ⟨_, _, _, hcs⟩
        · simp at hcs; exact ⟨_, _, _, hcs⟩
      refine ⟨hsl, ?_⟩
      obtain ⟨a, len, cap, rfl⟩ := hsl
      exact ⟨n, by simpa [Value.cells] using hy⟩
    obtain ⟨s8, t8⟩ := sl Try.underlying69 h8
    obtain ⟨s11, t11⟩ := sl Try.underlying70 h11
    obtain ⟨s12, t12⟩ := sl Try.underlying70 h12
    obtain ⟨s13, t13⟩ := sl Try.underlying69 h13
    obtain ⟨da, dc, ds, e9, dl, hD⟩ := deps_open s8 t8
    obtain ⟨va, vc, vs, e12, vl, hV⟩ := vers_open s11 t11
    obtain ⟨wa, wc, ws, e13, wl, hW⟩ := vers_open s12 t12
    obtain ⟨oa, oc, os, e14, ol, hO⟩ := deps_open s13 t13
    exact ⟨⟨kind, fr, to, call, key, t, s, val, yes, ds, slot, ep, vs, ws, os⟩, ⟨da, dc, va, vc, wa, wc, oa, oc⟩, by rw [e0, e1, e2, e3, e4, e5, e6, e7, e8, e9, e10, e11, e12, e13, e14], ⟨hD, hV, hW, hO, dl, vl, wl, ol⟩⟩
end Go.Proofs.Ytgdkoangpinieaa
