/- Deps and one more are drawn. -/
import Derived.Test.YtmbjfgebcpjigaaDrawD
namespace Go.Proofs.Ytmbjfgebcpjigaa
open Go.ChangeShapes Go.WideShapes Go.ChangeAt Go.RowKit

/-- The dep that was drawn lies in the block E. -/
def InE (B E : Nat) (k t s : Int) (W : World) : Prop := E ≠ B ∧ E < W.heap.size ∧ W.cell? ⟨E, 0, none⟩ = some (.int .i64 k) ∧ W.cell? ⟨E, 1, none⟩ = some (.int .i64 t) ∧ W.cell? ⟨E, 2, none⟩ = some (.int .i64 s)
theorem InE.stp {B E : Nat} {k t s : Int} {W W' : World} (h : InE B E k t s W) (hs : Stp B W W') : InE B E k t s W' := by
  obtain ⟨h1, h2, h3, h4, h5⟩ := h
  exact ⟨h1, Nat.lt_of_lt_of_le h2 hs.size, (hs.cell h2 h1).trans h3, (hs.cell h2 h1).trans h4, (hs.cell h2 h1).trans h5⟩
theorem InE.drew {B E : Nat} {k t s : Int} {W : World} (h : InE B E k t s W) : InE B E k t s W.drew := h

theorem InE.fill {B E A : Nat} {k t s : Int} {W : World} {x y z : Value} (h : InE B E k t s W) (hA : E ≠ A) : InE B E k t s (((W.setCell ⟨A, 0, none⟩ x).setCell ⟨A, 1, none⟩ y).setCell ⟨A, 2, none⟩ z) := by
  obtain ⟨h1, h2, h3, h4, h5⟩ := h
  have keep : (((W.setCell ⟨A, 0, none⟩ x).setCell ⟨A, 1, none⟩ y).setCell ⟨A, 2, none⟩ z).heap[E]? = W.heap[E]? := ((Below.heap_setCell _ _ _ _ hA).trans (Below.heap_setCell _ _ _ _ hA)).trans (Below.heap_setCell _ _ _ _ hA)
  have kc : ∀ j, (((W.setCell ⟨A, 0, none⟩ x).setCell ⟨A, 1, none⟩ y).setCell ⟨A, 2, none⟩ z).cell? ⟨E, j, none⟩ = W.cell? ⟨E, j, none⟩ := fun j => World.cell?_of_block (w := W) keep
  exact ⟨h1, by simpa [World.setCell] using h2, (kc _).trans h3, (kc _).trans h4, (kc _).trans h5⟩
theorem row_fill3 {w : World} {base B n : Nat} {e : TypeId} {size : Nat} {v x y z : Value} {xs : List Value} (h : w.ownsRow base e size v n xs) (hB : B < base) : (((w.setCell ⟨B, 0, none⟩ x).setCell ⟨B, 1, none⟩ y).setCell ⟨B, 2, none⟩ z).ownsRow base e size v n xs := by
  have keep : ∀ k, k ≠ B → (((w.setCell ⟨B, 0, none⟩ x).setCell ⟨B, 1, none⟩ y).setCell ⟨B, 2, none⟩ z).heap[k]? = w.heap[k]? := fun k hk => ((Below.heap_setCell _ _ _ _ hk).trans (Below.heap_setCell _ _ _ _ hk)).trans (Below.heap_setCell _ _ _ _ hk)
  refine ⟨h.1, ?_⟩
  rcases h.2 with hn | ⟨g, cap, cur, rfl, hb, hg, rest⟩
  · exact .inl hn
  · exact .inr ⟨g, cap, cur, rfl, hb, (keep g (by omega)).trans hg, rest⟩

set_option maxHeartbeats 2000000 in
theorem drawDPut (w : World) (a : Option Addr) (len cap : Nat) (h : Code w a len cap) :
    Calls Try.prog 26 #[.slice a len cap] w fun e w' => ∃ (v : Value) (xs : List D) (d : D), e = .returned (.tuple #[v, depV d.k d.t d.s]) ∧ xs.length ≤ 7 ∧ w'.ownsRow w.heap.size 32 3 v xs.length (flat3 xs) ∧ Below w.heap.size w w' := by
  have k : Below w.heap.size w (w.alloc (.cells #[.int .i64 0, .int .i64 0, .int .i64 0] 32)) := (Below.refl _ _).alloc (Nat.le_refl _) _
  go_enter Try.func26, Try.ntmps26
  go_wp2_with fail
  refine (open_any _ a len cap (h.below k)).mono ?_
  rintro e w1 ⟨rfl, hr, hb, hs⟩
  have Z1 := (Blk.new w _ _).below hb (by simp)
  have B1 : Below w.heap.size w w1 := k.trans (hb.mono (by simp))
  simp only [World.size_alloc] at hs hr
  have n0 : w.heap.size ≠ w.heap.size + 1 := by omega
  clear hb k
  go_wp2_with fail
  refine (drawDep _ 0 w1 hr (by omega)).mono ?_
  rintro e w2 ⟨d, rfl, _, hr2, hs2⟩
  have Z2 := Z1.stp hs2 n0
  have B2 : Below w.heap.size w w2 := hs2.below B1 (by omega)
  have z2 := hr2.1
  clear hs2 hr Z1 B1
  go_wp2_with fail
  refine (pick_any _ _ 12 _ (hr2.alloc _) (by omega) (by omega)).mono ?_
  rintro e w3 ⟨c, rfl, c0, c1, hr3, hs3, hz3⟩
  have n1 : w2.heap.size ≠ w.heap.size + 1 := by omega
  have Z3 := (Z2.alloc _).stp hs3 n0
  have E3 := (Blk.new w2 _ _).stp hs3 n1
  have B3 : Below w.heap.size w w3 := hs3.below (B2.alloc B2.size _) (by omega)
  have y2 := Z2.lt
  clear hs3 hr2 Z2 B2 hz3
  by_cases hc : c = 0
  · subst hc
    obtain ⟨k3, f3⟩ := E3.rules
    go_wp2_with fail
    refine (drawStamp _ _ _ hr3 (by omega)).mono ?_
    rintro e w4 ⟨t, s, p4, rfl, _, _, _, _, q1, q2, hr4, hs4⟩
    have Z4 := Z3.stp hs4 n0
    have E4 := E3.stp hs4 n1
    have B4 : Below w.heap.size w w4 := hs4.below B3 (by omega)
    clear hs4 hr3 Z3 E3 B3 k3 f3
    have E5 : Blk ((w4.setCell ⟨w2.heap.size, 1, none⟩ (.int .i64 t)).setCell ⟨w2.heap.size, 2, none⟩ (.int .i64 s)) w2.heap.size #[.int .i64 d.k, .int .i64 t, .int .i64 s] 32 := by have := (E4.set 1 (.int .i64 t)).set 2 (.int .i64 s); simpa using this
    have Z5' : Blk ((w4.setCell ⟨w2.heap.size, 1, none⟩ (.int .i64 t)).setCell ⟨w2.heap.size, 2, none⟩ (.int .i64 s)) w.heap.size #[.int .i64 0, .int .i64 0, .int .i64 0] 32 := (Z4.other (by simp; omega) _).other (by simp; omega) _
    have B5 : Below w.heap.size w ((w4.setCell ⟨w2.heap.size, 1, none⟩ (.int .i64 t)).setCell ⟨w2.heap.size, 2, none⟩ (.int .i64 s)) := (B4.setCell (by simp; omega) _).setCell (by simp; omega) _
    have R5 : Rd ((w4.setCell ⟨w2.heap.size, 1, none⟩ (.int .i64 t)).setCell ⟨w2.heap.size, 2, none⟩ (.int .i64 s)) (w.heap.size + 1) p4 := (hr4.setNew (by simp; omega) _).setNew (by simp; omega) _
    obtain ⟨k4, f4⟩ := E4.rules
    clear hr4 Z4 E4 B4
    go_wp2_with fail
    generalize ((w4.setCell ⟨w2.heap.size, 1, none⟩ (.int .i64 t)).setCell ⟨w2.heap.size, 2, none⟩ (.int .i64 s)) = W4 at *
    clear k4 f4
    have I : InE (w.heap.size + 1) w2.heap.size (d.k) (t) (s) W4 := ⟨n1, E5.lt, (E5.cell 0).trans rfl, (E5.cell 1).trans rfl, (E5.cell 2).trans rfl⟩
    go_wp2_with fail
    go_region_held3 (fun W => w2.heap.size ≠ w.heap.size + 1 ∧ w2.heap.size < W.heap.size ∧ W.cell? ⟨w2.heap.size, 0, none⟩ = some (.int .i64 (d.k)) ∧ W.cell? ⟨w2.heap.size, 1, none⟩ = some (.int .i64 (t)) ∧ W.cell? ⟨w2.heap.size, 2, none⟩ = some (.int .i64 (s))) (first | exact InE.drew (by assumption) | exact InE.stp (by assumption) (by assumption) | exact InE.fill (by assumption) (by omega)) (first | (go_at_call 63; refine (drawDeps _ _ _ (Rd.drew R5) (by omega)).mono ?_; rintro e w5 ⟨v, xs, p5, rfl, hl, hrow, _, hr5, hs5⟩; have Z5 := Blk.stp (w := W4.drew) Z5' hs5 n0; obtain ⟨q1, q2⟩ := Z5.rules; obtain ⟨va, vc, rfl, _⟩ := row_slice hrow))
    have hB5 : Below w.heap.size w w5 := hs5.below (B5.trans ((Below.refl _ _).drew.mono B5.size)) (by omega)
    have hrow5 := row_mono hrow (base' := w.heap.size + 1) (by have := Z5'.lt; have := B5.size; simp; omega)
    clear hrow hs5 hr5
    go_wp2_with fail
    refine bodyPost_ret (v := .tuple #[.slice va xs.length vc, depV (d.k) (t) (s)]) ?_ rfl ⟨_, xs, ⟨d.k, t, s⟩, rfl, hl, ?_, ((hB5.setCell (by simp) _).setCell (by simp) _).setCell (by simp) _⟩
    · refine Blk.gen (B := w.heap.size) (vs := #[.int .i64 (d.k), .int .i64 (t), .int .i64 (s)]) (T := 32) ?_ (P := fun W => (results Try.f26 _).run Try.prog W = .ok _ W) ?_
      · exact Blk.fill3 Z5
      intro W hW
      obtain ⟨k, f⟩ := hW.rules
      simp [results, Try.results26, go_sem, k]
    · exact row_mono (row_fill3 hrow5 (Nat.lt_succ_self _)) (by omega)
  · have hc' : (c == 0) = false := by simpa using hc
    have I : InE (w.heap.size + 1) w2.heap.size (d.k) (d.t) (d.s) w3 := ⟨n1, E3.lt, (E3.cell 0).trans rfl, (E3.cell 1).trans rfl, (E3.cell 2).trans rfl⟩
    go_wp2_with fail
    go_region_held3 (fun W => w2.heap.size ≠ w.heap.size + 1 ∧ w2.heap.size < W.heap.size ∧ W.cell? ⟨w2.heap.size, 0, none⟩ = some (.int .i64 (d.k)) ∧ W.cell? ⟨w2.heap.size, 1, none⟩ = some (.int .i64 (d.t)) ∧ W.cell? ⟨w2.heap.size, 2, none⟩ = some (.int .i64 (d.s))) (first | exact InE.drew (by assumption) | exact InE.stp (by assumption) (by assumption) | exact InE.fill (by assumption) (by omega)) (first | (go_at_call 63; refine (drawDeps _ _ _ (Rd.drew hr3) (by omega)).mono ?_; rintro e w5 ⟨v, xs, p5, rfl, hl, hrow, _, hr5, hs5⟩; have Z5 := Blk.stp (w := w3.drew) Z3 hs5 n0; obtain ⟨q1, q2⟩ := Z5.rules; obtain ⟨va, vc, rfl, _⟩ := row_slice hrow))
    have hB5 : Below w.heap.size w w5 := hs5.below (B3.trans ((Below.refl _ _).drew.mono B3.size)) (by omega)
    have hrow5 := row_mono hrow (base' := w.heap.size + 1) (by have := Z3.lt; have := B3.size; simp; omega)
    clear hrow hs5 hr5
    go_wp2_with fail
    refine bodyPost_ret (v := .tuple #[.slice va xs.length vc, depV (d.k) (d.t) (d.s)]) ?_ rfl ⟨_, xs, ⟨d.k, d.t, d.s⟩, rfl, hl, ?_, ((hB5.setCell (by simp) _).setCell (by simp) _).setCell (by simp) _⟩
    · refine Blk.gen (B := w.heap.size) (vs := #[.int .i64 (d.k), .int .i64 (d.t), .int .i64 (d.s)]) (T := 32) ?_ (P := fun W => (results Try.f26 _).run Try.prog W = .ok _ W) ?_
      · exact Blk.fill3 Z5
      intro W hW
      obtain ⟨k, f⟩ := hW.rules
      simp [results, Try.results26, go_sem, k]
    · exact row_mono (row_fill3 hrow5 (Nat.lt_succ_self _)) (by omega)
end Go.Proofs.Ytmbjfgebcpjigaa
