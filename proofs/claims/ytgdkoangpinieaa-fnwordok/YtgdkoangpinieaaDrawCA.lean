/- Draws of versions, a key and a stamp. -/
import Derived.Test.YtgdkoangpinieaaDrawCP
namespace Go.Proofs.Ytgdkoangpinieaa
open Go.ChangeShapes Go.WideShapes Go.ChangeAt Go.RowKit

theorem OwnV.fill2 {w : World} {base Z : Nat} {v : Value} {ys : List XV} {v0 v1 : Value} (h : OwnV w base v ys) (hZ : Z < base) : OwnV ((w.setCell ⟨Z, 0, none⟩ v0).setCell ⟨Z, 1, none⟩ v1) base v ys :=
  ⟨row_set (row_set h.row (fun j hj => by have := (h.row.lt j hj).1; omega) v0) (fun j hj => by have := (h.row.lt j hj).1; omega) v1, fun y hy => ⟨row_set (row_set (h.deps y hy).1 (fun j hj => by have := ((h.deps y hy).1.lt j hj).1; omega) v0) (fun j hj => by have := ((h.deps y hy).1.lt j hj).1; omega) v1, (h.deps y hy).2⟩, h.apart⟩

set_option maxHeartbeats 4000000 in
theorem drawCAt (w : World) (a : Option Addr) (len cap : Nat) (h : Code w a len cap) :
    Calls Try.prog 40 #[.slice a len cap] w fun e w' => ∃ (u : Value) (ys : List XV) (vs : List V) (k t s : Int), e = .returned (.tuple #[u, .int .i64 k, stampV t s]) ∧ OwnV w' w.heap.size u ys ∧ ys.map XV.v = vs ∧ Few 81 vs ∧ (0 ≤ k ∧ k ≤ 5 ∨ ∃ v ∈ vs, v.k = k) ∧ Below w.heap.size w w' := by
  have k0 : Below w.heap.size w (w.alloc (.cells #[.int .i64 0, .int .i64 0] 25)) := (Below.refl _ _).alloc (Nat.le_refl _) _
  go_enter Try.func40, Try.ntmps40
  go_wp2_with fail
  refine (open_any _ a len cap (h.below k0)).mono ?_
  rintro e w1 ⟨rfl, hr, hb, hs⟩
  have Z1 := (Blk.new w _ _).below hb (by simp)
  simp only [World.size_alloc] at hr hs ⊢
  have n0 : w.heap.size ≠ w.heap.size + 1 := by omega
  have B1 : Below w.heap.size w w1 := k0.trans (hb.mono (by simp))
  clear hb h k0
  go_wp2_with fail
  refine (drawChain _ 0 12 w1 hr (by omega) (by omega) (by omega)).mono ?_
  rintro e w2 ⟨v, ys, vs, p2, rfl, hO, hy, hF, hp2, hr2, hs2⟩
  obtain ⟨va, vc, rfl, _⟩ := hO.asD hy
  have Z2 := Z1.stp hs2 n0
  have B2 : Below w.heap.size w w2 := hs2.below B1 (by omega)
  have O2 := hO.mono (base' := w.heap.size + 1 + 1) (by omega)
  have hvl : vs.length ≤ 81 := hF.1
  clear hs2 hr Z1 B1 hO
  by_cases h0 : (0 : Int) < vs.length
  · go_wp2_with fail
    refine (pick_any _ p2 2 _ hr2 (by omega) (by omega)).mono ?_
    rintro e w3 ⟨c, rfl, c0, c1, hr3, hs3, hz3⟩
    have Z3 := Z2.stp hs3 n0
    have B3 : Below w.heap.size w w3 := hs3.below B2 (by omega)
    have O3 := O2.step hs3 (by omega)
    clear hs3 hr2 hz3 Z2 B2 O2
    by_cases hc : c = 0
    · subst hc
      go_wp2_with fail
      refine (pick_any _ _ vs.length _ hr3 (by omega) (by omega)).mono ?_
      rintro e w4 ⟨i, rfl, i0, i1, hr4, hs4, hz4⟩
      obtain ⟨j, rfl⟩ := Int.eq_ofNat_of_zero_le i0
      have hj : j < vs.length := by omega
      have O4 := O3.step hs4 (by omega)
      obtain ⟨b, cp, da, dc, e', hv, R4⟩ := O4.one hy hj
      injection e' with e1 e2 e3
      subst e1 e3
      have c0 := hv.c0
      have c1 := hv.c1
      have c2 := hv.c2
      have c3 := hv.c3
      have c4 := hv.c4
      have c5 := hv.c5
      have c6 := hv.c6
      simp only [Nat.zero_add] at c0 c1 c2 c3 c4 c5 c6
      have B4 : Below w.heap.size w w4 := hs4.below B3 (by omega)
      have Z4 := Blk.stp (w := w3) Z3 hs4 n0
      have hm : ∃ v ∈ vs, v.k = vs[j].k := ⟨_, List.getElem_mem hj, rfl⟩
      clear hv e2 hr4 hs4 hz4 hr3 Z3 O3 B3 R4
      have HM : Hid (∃ v ∈ vs, v.k = vs[j].k) := hm
      clear hm
      generalize vs[j] = x at *
      have Z5 := Z4.alloc (.cells #[.int .i64 x.k, .int .i64 x.t, .int .i64 x.s, .int .i64 x.val, .int .i64 x.cl, .int .i64 x.ca, .slice da x.ds.length dc] 28)
      have O5 := O4.alloc (.cells #[.int .i64 x.k, .int .i64 x.t, .int .i64 x.s, .int .i64 x.val, .int .i64 x.cl, .int .i64 x.ca, .slice da x.ds.length dc] 28)
      have B5 := B4.alloc B4.size (.cells #[.int .i64 x.k, .int .i64 x.t, .int .i64 x.s, .int .i64 x.val, .int .i64 x.cl, .int .i64 x.ca, .slice da x.ds.length dc] 28)
      have A5 := Blk.new w4 #[.int .i64 x.k, .int .i64 x.t, .int .i64 x.s, .int .i64 x.val, .int .i64 x.cl, .int .i64 x.ca, .slice da x.ds.length dc] 28
      obtain ⟨q1, g1⟩ := A5.rules
      obtain ⟨q2, g2⟩ := Z5.rules
      go_wp2_with fail
      clear c0 c1 c2 c3 c4 c5 c6 O4 Z4 B4
      generalize w4.alloc (.cells #[.int .i64 x.k, .int .i64 x.t, .int .i64 x.s, .int .i64 x.val, .int .i64 x.cl, .int .i64 x.ca, .slice da x.ds.length dc] 28) = w5 at *
      go_region
      all_goals
        go_wp2_with fail
        refine bodyPost_ret (v := .tuple #[.slice (some ⟨b, 0, none⟩) vs.length vc, .int .i64 x.k, stampV x.t x.s]) ?_ rfl ⟨_, ys, vs, x.k, x.t, x.s, rfl, ((O5.fill2 (by omega)).below (Below.refl _ _).drew (Nat.le_refl _)).mono (by omega), hy, hF, .inr HM.out, ((B5.setCell (by simp) _).setCell (by simp) _).drew⟩
        refine Blk.gen (B := w.heap.size) (vs := #[.int .i64 x.t, .int .i64 x.s]) (T := 25) ?_ (P := fun W => (results Try.f40 _).run Try.prog W = .ok _ W) ?_
        · exact Blk.fill2 Z5
        intro W hW
        obtain ⟨k, f⟩ := hW.rules
        simp [results, Try.results40, go_sem, k]
    · have hc' : (c == 0) = false := by simpa using hc
      go_wp2_with fail
      refine (pick_any _ _ 6 _ hr3 (by omega) (by omega)).mono ?_
      rintro e w4 ⟨k, rfl, i0, i1, hr4, hs4, hz4⟩
      have O4 := O3.step hs4 (by omega)
      have B4 : Below w.heap.size w w4 := hs4.below B3 (by omega)
      have Z4 := Blk.stp (w := w3) Z3 hs4 n0
      clear hr3 hs4 hz4 O3 B3 Z3
      go_wp2_with fail
      refine (drawStamp _ _ _ hr4 (by omega)).mono ?_
      rintro e w5 ⟨t, s, p5, rfl, _, _, _, _, _, _, hr5, hs5⟩
      have O5 := O4.step hs5 (by omega)
      have B5 : Below w.heap.size w w5 := hs5.below B4 (by omega)
      have Z5 := Blk.stp (w := w4) Z4 hs5 n0
      clear hr4 hr5 hs5 O4 B4 Z4
      obtain ⟨q1, g1⟩ := Z5.rules
      go_wp2_with fail
      refine bodyPost_ret (v := .tuple #[.slice va vs.length vc, .int .i64 k, stampV t s]) ?_ rfl ⟨_, ys, vs, k, t, s, rfl, (O5.fill2 (by omega)).mono (by omega), hy, hF, .inl ⟨by omega, by omega⟩, (B5.setCell (by simp) _).setCell (by simp) _⟩
      refine Blk.gen (B := w.heap.size) (vs := #[.int .i64 t, .int .i64 s]) (T := 25) ?_ (P := fun W => (results Try.f40 _).run Try.prog W = .ok _ W) ?_
      · exact Blk.fill2 Z5
      intro W hW
      obtain ⟨k, f⟩ := hW.rules
      simp [results, Try.results40, go_sem, k]
  · go_wp2_with fail
    refine (pick_any _ _ 6 _ hr2 (by omega) (by omega)).mono ?_
    rintro e w4 ⟨k, rfl, i0, i1, hr4, hs4, hz4⟩
    have O4 := O2.step hs4 (by omega)
    have B4 : Below w.heap.size w w4 := hs4.below B2 (by omega)
    have Z4 := Blk.stp (w := w2) Z2 hs4 n0
    clear hr2 hs4 hz4 O2 B2 Z2
    go_wp2_with fail
    refine (drawStamp _ _ _ hr4 (by omega)).mono ?_
    rintro e w5 ⟨t, s, p5, rfl, _, _, _, _, _, _, hr5, hs5⟩
    have O5 := O4.step hs5 (by omega)
    have B5 : Below w.heap.size w w5 := hs5.below B4 (by omega)
    have Z5 := Blk.stp (w := w4) Z4 hs5 n0
    clear hr4 hr5 hs5 O4 B4 Z4
    obtain ⟨q1, g1⟩ := Z5.rules
    go_wp2_with fail
    refine bodyPost_ret (v := .tuple #[.slice va vs.length vc, .int .i64 k, stampV t s]) ?_ rfl ⟨_, ys, vs, k, t, s, rfl, (O5.fill2 (by omega)).mono (by omega), hy, hF, .inl ⟨by omega, by omega⟩, (B5.setCell (by simp) _).setCell (by simp) _⟩
    refine Blk.gen (B := w.heap.size) (vs := #[.int .i64 t, .int .i64 s]) (T := 25) ?_ (P := fun W => (results Try.f40 _).run Try.prog W = .ok _ W) ?_
    · exact Blk.fill2 Z5
    intro W hW
    obtain ⟨k, f⟩ := hW.rules
    simp [results, Try.results40, go_sem, k]
end Go.Proofs.Ytgdkoangpinieaa
