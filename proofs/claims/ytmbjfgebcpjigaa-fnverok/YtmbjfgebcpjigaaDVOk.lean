/- What the law of versions draws. -/
import Derived.Test.YtmbjfgebcpjigaaDrawVer
namespace Go.Proofs.Ytmbjfgebcpjigaa
open Go.ChangeShapes Go.WideShapes Go.ChangeAt Go.RowKit

theorem below_fill7 {a w : World} {Z : Nat} {v0 v1 v2 v3 v4 v5 v6 : Value} (h : Below a.heap.size a w) (hZ : a.heap.size ≤ Z) : Below a.heap.size a (((((((w.setCell ⟨Z, 0, none⟩ v0).setCell ⟨Z, 1, none⟩ v1).setCell ⟨Z, 2, none⟩ v2).setCell ⟨Z, 3, none⟩ v3).setCell ⟨Z, 4, none⟩ v4).setCell ⟨Z, 5, none⟩ v5).setCell ⟨Z, 6, none⟩ v6) :=
  ((((((h.setCell (by simpa using hZ) _).setCell (by simpa using hZ) _).setCell (by simpa using hZ) _).setCell (by simpa using hZ) _).setCell (by simpa using hZ) _).setCell (by simpa using hZ) _).setCell (by simpa using hZ) _

set_option maxHeartbeats 1000000 in
set_option maxRecDepth 100000 in
theorem drawVOk (w : World) (a : Option Addr) (len cap : Nat) (h : Code w a len cap) :
    Calls Try.prog 19 #[.slice a len cap] w fun e w' => ∃ (k t s val cl ca : Int) (a : Option Addr) (cap : Nat) (xs : List D), e = .returned (verV k t s val cl ca a xs.length cap) ∧ xs.length ≤ 6 ∧ w'.ownsRow w.heap.size 32 3 (.slice a xs.length cap) xs.length (flat3 xs) ∧ Below w.heap.size w w' := by
  have kb : Below w.heap.size w (w.alloc (.cells #[.int .i64 0, .int .i64 0, .int .i64 0, .int .i64 0, .int .i64 0, .int .i64 0, .slice none 0 0] 27)) := (Below.refl _ _).alloc (Nat.le_refl _) _
  go_enter Try.func19, Try.ntmps19
  go_wp2_with fail
  refine (open_any _ a len cap (h.below kb)).mono ?_
  rintro e w1 ⟨rfl, hr, hb, hs⟩
  have Z1 := (Blk.new w _ _).below hb (by simp)
  have B1 : Below w.heap.size w w1 := kb.trans (hb.mono (by simp))
  simp only [World.size_alloc] at hs hr
  have n0 : w.heap.size ≠ w.heap.size + 1 := by omega
  clear hb kb h
  go_wp2_with fail
  refine (drawVer _ 0 w1 hr (by omega)).mono ?_
  rintro e w2 ⟨k, t, s, val, cl, ca, ua, uc, xs, p', rfl, hl, hrow, _, hr2, hs2⟩
  have hB : Below w.heap.size w w2 := hs2.below B1 (by omega)
  have hrow2 := row_mono hrow (base' := w.heap.size + 1) (by omega)
  have Z2 := Z1.stp hs2 n0
  clear hs2 hr2 hr B1 hrow Z1
  obtain ⟨q2, g2⟩ := Z2.rules
  go_wp2_with fail
  refine bodyPost_ret (v := verV k t s val cl ca ua xs.length uc) ?_ rfl ⟨_, _, _, _, _, _, ua, uc, xs, rfl, hl, row_mono (row_fill7 hrow2 (fun j hj => by have := (hrow2.lt j hj).1; omega)) (by omega), below_fill7 hB (Nat.le_refl _)⟩
  refine Blk.gen (B := w.heap.size) (vs := #[.int .i64 k, .int .i64 t, .int .i64 s, .int .i64 val, .int .i64 cl, .int .i64 ca, .slice ua xs.length uc]) (T := 27) ?_ (P := fun W => (results Try.f19 _).run Try.prog W = .ok _ W) ?_
  · exact Blk.fill7 Z2
  intro W hW
  obtain ⟨k, f⟩ := hW.rules
  simp [results, Try.results19, go_sem, k]
end Go.Proofs.Ytmbjfgebcpjigaa
