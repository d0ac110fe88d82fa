/- Draws of versions and one more. -/
import Derived.Test.YtgdkoangpinieaaGAA
namespace Go.Proofs.Ytgdkoangpinieaa
open Go.ChangeShapes Go.WideShapes Go.ChangeAt Go.RowKit

theorem Rd.drw {w : World} {B : Nat} {p : Int} (h : Rd w B p) : Rd w.drew B p := h.of_block (Nat.le_refl _) fun _ _ => rfl
theorem OwnV.fill {w : World} {base Z : Nat} {v : Value} {ys : List XV} {v0 v1 v2 v3 v4 v5 v6 : Value} (h : OwnV w base v ys) (hZ : Z < base) : OwnV (((((((w.setCell ⟨Z, 0, none⟩ v0).setCell ⟨Z, 1, none⟩ v1).setCell ⟨Z, 2, none⟩ v2).setCell ⟨Z, 3, none⟩ v3).setCell ⟨Z, 4, none⟩ v4).setCell ⟨Z, 5, none⟩ v5).setCell ⟨Z, 6, none⟩ v6) base v ys :=
  ⟨row_fill7 h.row (fun j hj => by have := (h.row.lt j hj).1; omega), fun y hy => ⟨row_fill7 (h.deps y hy).1 (fun j hj => by have := ((h.deps y hy).1.lt j hj).1; omega), (h.deps y hy).2⟩, h.apart⟩
/-- One of them, with the row of its deps. -/
theorem OwnV.one {w : World} {base : Nat} {u : Value} {ys : List XV} {vs : List V} (h : OwnV w base u ys) (hy : ys.map XV.v = vs) {j : Nat} (hj : j < vs.length) : ∃ b cap da dc, u = .slice (some ⟨b, 0, none⟩) vs.length cap ∧ VAt w b (0 + j * 7) vs[j] da dc ∧ RowD w base (.slice da vs[j].ds.length dc) vs[j].ds := by
  subst hy
  have hj' : j < ys.length := by simpa using hj
  rcases h.row.2 with ⟨rfl, hn⟩ | ⟨b, cap, cur, rfl, hb, hg, hr⟩
  · omega
  · obtain ⟨f0, f1, f2, f3, f4, f5, f6⟩ := flat7_at ys j hj'
    have hd := h.deps ys[j] (List.getElem_mem hj')
    obtain ⟨da, dc, hp, hD, hl⟩ := good_of_row hd.1 hd.2
    rw [hp] at f6
    have hc : ∀ (i : Nat) (x : Value), (flat7 ys)[i]? = some x → w.cell? ⟨b, 0 + i, none⟩ = some x := fun i x hx => by
      have := h.row.cells (g := b) rfl i x hx
      rwa [addr_add] at this
    refine ⟨b, cap, da, dc, by rw [List.length_map], ?_, ?_⟩
    · simp only [List.getElem_map]
      exact ⟨hc _ _ f0, hc _ _ f1, hc _ _ f2, hc _ _ f3, hc _ _ f4, hc _ _ f5, hc _ _ f6, hD, hl⟩
    · simp only [List.getElem_map]
      rw [← hp]; exact hd.1

set_option maxHeartbeats 4000000 in
theorem drawCPut (w : World) (a : Option Addr) (len cap : Nat) (h : Code w a len cap) :
    Calls Try.prog 28 #[.slice a len cap] w fun e w' => ∃ (u : Value) (ys : List XV) (vs : List V) (x : V) (da : Option Addr) (dc : Nat), e = .returned (.tuple #[u, verV x.k x.t x.s x.val x.cl x.ca da x.ds.length dc]) ∧ OwnV w' w.heap.size u ys ∧ ys.map XV.v = vs ∧ Few 81 vs ∧ x.ds.length ≤ 6 ∧ Deps w' da x.ds ∧ Below w.heap.size w w' := by
  have k0 : Below w.heap.size w (w.alloc (.cells #[.int .i64 0, .int .i64 0, .int .i64 0, .int .i64 0, .int .i64 0, .int .i64 0, .slice none 0 0] 28)) := (Below.refl _ _).alloc (Nat.le_refl _) _
  go_enter Try.func28, Try.ntmps28
  go_wp2_with fail
  refine (open_any _ a len cap (h.below k0)).mono ?_
  rintro e w1 ⟨rfl, hr, hb, hs⟩
  have Z1 := (Blk.new w _ _).below hb (by simp)
  simp only [World.size_alloc] at hr hs ⊢
  have n0 : w.heap.size ≠ w.heap.size + 1 := by omega
  have B1 : Below w.heap.size w w1 := k0.trans (hb.mono (by simp))
  clear hb h k0
  go_wp2_with fail
  refine (drawChain _ 0 9 w1 hr (by omega) (by omega) (by omega)).mono ?_
  rintro e w2 ⟨v, ys, vs, p2, rfl, hO, hy, hF, hp2, hr2, hs2⟩
  obtain ⟨va, vc, rfl, _⟩ := hO.asD hy
  have Z2 := Z1.stp hs2 n0
  have B2 : Below w.heap.size w w2 := hs2.below B1 (by omega)
  have O2 := hO.mono (base' := w.heap.size + 1 + 1) (by omega)
  have hvl : vs.length ≤ 81 := hF.1
  clear hs2 hr Z1 B1 hO
  suffices T : ∀ (w3 : World) (p3 : Int), p3 ≤ 2001 → Rd w3 (w.heap.size + 1) p3 → Blk w3 w.heap.size #[.int .i64 0, .int .i64 0, .int .i64 0, .int .i64 0, .int .i64 0, .int .i64 0, .slice none 0 0] 28 → Below w.heap.size w w3 → OwnV w3 (w.heap.size + 1 + 1) (.slice va vs.length vc) ys →
      Calls Try.prog 93 #[.pointer (some ⟨w.heap.size + 1, 0, none⟩)] w3 fun e w4 => ∃ (x : V) (da : Option Addr) (dc : Nat), e = .returned (verV x.k x.t x.s x.val x.cl x.ca da x.ds.length dc) ∧ x.ds.length ≤ 6 ∧ RowD w4 (w.heap.size + 1 + 1) (.slice da x.ds.length dc) x.ds ∧ Blk w4 w.heap.size #[.int .i64 0, .int .i64 0, .int .i64 0, .int .i64 0, .int .i64 0, .int .i64 0, .slice none 0 0] 28 ∧ Below w.heap.size w w4 ∧ OwnV w4 (w.heap.size + 1 + 1) (.slice va vs.length vc) ys by
    by_cases h0 : (0 : Int) < vs.length
    · go_wp2_with fail
      refine (pick_any _ p2 4 _ hr2 (by omega) (by omega)).mono ?_
      rintro e w3 ⟨c, rfl, c0, c1, hr3, hs3, hz3⟩
      have Z3 := Z2.stp hs3 n0
      have B3 : Below w.heap.size w w3 := hs3.below B2 (by omega)
      have O3 := O2.step hs3 (by omega)
      clear hs3 hr2 hz3 Z2 B2 O2
      by_cases hc : c = 0
      · subst hc
        clear T
        go_wp2_with fail
        go_region_with
          (first
            | (go_at_call 92
               refine (pick_any _ _ vs.length _ (hr3.drw) (by omega) (by omega)).mono ?_
               rintro e w4 ⟨i, rfl, i0, i1, hr4, hs4, hz4⟩
               obtain ⟨j, rfl⟩ := Int.eq_ofNat_of_zero_le i0
               have hj : j < vs.length := by omega
               have O4 := (O3.below (Below.refl _ _).drew (Nat.le_refl _)).step hs4 (by omega)
               obtain ⟨b, cp, da, dc, e', hv, R4⟩ := O4.one hy hj
               injection e' with e1 e2 e3
               subst e1 e3
               have c0 := hv.c0
               have c1 := hv.c1
               have c2 := hv.c2
               have c3 := hv.c3
               have c4 := hv.c4
               have c5 := hv.c5
               have c6 := hv.c6
               simp only [Nat.zero_add] at c0 c1 c2 c3 c4 c5 c6
               have hxl := hF.2 vs[j] (List.getElem_mem hj)
               have B4 : Below w.heap.size w w4 := hs4.below (B3.trans ((Below.refl _ _).drew.mono B3.size)) (by omega)
               have Z4 := Blk.stp (w := w3.drew) Z3 hs4 n0
               obtain ⟨q1, g1⟩ := Z4.rules
               clear hv e2 hr4 hs4 hz4))
        all_goals
          generalize vs[j] = x at *
          go_wp2_with fail
          refine bodyPost_ret (v := .tuple #[.slice (some ⟨b, 0, none⟩) vs.length vc, verV x.k x.t x.s x.val x.cl x.ca da x.ds.length dc]) ?_ rfl ⟨_, ys, vs, x, da, dc, rfl, (O4.fill (by omega)).mono (by omega), hy, hF, hxl, row_deps' (row_fill7 R4 (fun j hj => by have := (R4.lt j hj).1; omega)), fill7_below B4 (by omega)⟩
          refine Blk.gen (B := w.heap.size) (vs := #[.int .i64 x.k, .int .i64 x.t, .int .i64 x.s, .int .i64 x.val, .int .i64 x.cl, .int .i64 x.ca, .slice da x.ds.length dc]) (T := 28) ?_ (P := fun W => (results Try.f28 _).run Try.prog W = .ok _ W) ?_
          · exact Blk.fill7 Z4
          intro W hW
          obtain ⟨k, f⟩ := hW.rules
          simp [results, Try.results28, go_sem, k]
      · have hc' : (c == 0) = false := by simpa using hc
        go_wp2_with fail
        refine (T w3 _ (by omega) hr3 Z3 B3 O3).mono ?_
        rintro e w4 ⟨x, da, dc, rfl, hxl, R4, Z4, B4, O4⟩
        obtain ⟨q1, g1⟩ := Z4.rules
        clear T Z3 B3 O3 hr3
        go_wp2_with fail
        refine bodyPost_ret (v := .tuple #[.slice va vs.length vc, verV x.k x.t x.s x.val x.cl x.ca da x.ds.length dc]) ?_ rfl ⟨_, ys, vs, x, da, dc, rfl, (O4.fill (by omega)).mono (by omega), hy, hF, hxl, row_deps' (row_fill7 R4 (fun j hj => by have := (R4.lt j hj).1; omega)), fill7_below B4 (by omega)⟩
        refine Blk.gen (B := w.heap.size) (vs := #[.int .i64 x.k, .int .i64 x.t, .int .i64 x.s, .int .i64 x.val, .int .i64 x.cl, .int .i64 x.ca, .slice da x.ds.length dc]) (T := 28) ?_ (P := fun W => (results Try.f28 _).run Try.prog W = .ok _ W) ?_
        · exact Blk.fill7 Z4
        intro W hW
        obtain ⟨k, f⟩ := hW.rules
        simp [results, Try.results28, go_sem, k]
    · go_wp2_with fail
      refine (T w2 _ (by omega) hr2 Z2 B2 O2).mono ?_
      rintro e w4 ⟨x, da, dc, rfl, hxl, R4, Z4, B4, O4⟩
      obtain ⟨q1, g1⟩ := Z4.rules
      clear T Z2 B2 O2 hr2
      go_wp2_with fail
      refine bodyPost_ret (v := .tuple #[.slice va vs.length vc, verV x.k x.t x.s x.val x.cl x.ca da x.ds.length dc]) ?_ rfl ⟨_, ys, vs, x, da, dc, rfl, (O4.fill (by omega)).mono (by omega), hy, hF, hxl, row_deps' (row_fill7 R4 (fun j hj => by have := (R4.lt j hj).1; omega)), fill7_below B4 (by omega)⟩
      refine Blk.gen (B := w.heap.size) (vs := #[.int .i64 x.k, .int .i64 x.t, .int .i64 x.s, .int .i64 x.val, .int .i64 x.cl, .int .i64 x.ca, .slice da x.ds.length dc]) (T := 28) ?_ (P := fun W => (results Try.f28 _).run Try.prog W = .ok _ W) ?_
      · exact Blk.fill7 Z4
      intro W hW
      obtain ⟨k, f⟩ := hW.rules
      simp [results, Try.results28, go_sem, k]
  intro w3 p3 hp3 hr3 Z3 B3 O3
  refine (drawVer _ p3 _ hr3 (by omega)).mono ?_
  rintro e w4 ⟨vk, vt, vS, vval, vcl, vca, da, dc, ds, q4, rfl, hdl, hrow, hq4, hR4, hS4⟩
  exact ⟨⟨vk, vt, vS, vval, vcl, vca, ds⟩, da, dc, rfl, hdl, row_mono hrow (by have := hr3.1; omega), Z3.stp hS4 n0, hS4.below B3 (by omega), O3.step hS4 (by omega)⟩
end Go.Proofs.Ytgdkoangpinieaa
