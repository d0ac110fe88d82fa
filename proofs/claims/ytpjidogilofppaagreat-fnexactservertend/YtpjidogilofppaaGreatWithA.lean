/- A table with a dep: the keys 0 and 1. -/
import Derived.Test.YtpjidogilofppaaGreatZA
namespace Go.Proofs.YtpjidogilofppaaGreat
open Go.ChangeShapes Go.WideShapes Go.ChangeAt Go.RowKit

set_option maxHeartbeats 4000000 in
theorem with0 (b0 b1 b2 b3 b4 b5 : Bool) (c0 c1 c2 c3 c4 c5 t s : Int) (w : World) (h : 0 ≤ t ∧ t ≤ 100000 ∧ -10 ≤ s ∧ s ≤ 100000) :
    Calls Tryz.prog 258 #[.agg #[.bool b0, .int .i64 c0, .bool b1, .int .i64 c1, .bool b2, .int .i64 c2, .bool b3, .int .i64 c3, .bool b4, .int .i64 c4, .bool b5, .int .i64 c5], .agg #[.int .i64 0, .int .i64 t, .int .i64 s]] w fun e w' => e = .returned (.agg #[.bool true, .int .i64 (if b0 = true ∧ ¬ c0 < t * 4 + s then c0 else t * 4 + s), .bool b1, .int .i64 c1, .bool b2, .int .i64 c2, .bool b3, .int .i64 c3, .bool b4, .int .i64 c4, .bool b5, .int .i64 c5]) ∧ Below w.heap.size w w' := by
  obtain ⟨h1, h2, h3, h4⟩ := h
  rcases hbk : b0 with _ | _
  · rw [if_neg (by simp)]
    subst hbk
    go_enter Tryz.func258, Tryz.ntmps258
    go_wp2_with fail
    refine (code_any t s _ ⟨h1, h2, h3, h4⟩).mono ?_
    rintro e w1 ⟨rfl, hb⟩
    have hB : Below w.heap.size w w1 := ((((Below.refl _ _).alloc (Nat.le_refl _) _).alloc (by simp) _).alloc (by simp; omega) _).trans (hb.mono (by simp; omega))
    have B0 := (((Blk.new w _ _).alloc _).alloc _).below hb (by simp; omega)
    have B1 := ((Blk.new _ _ _).alloc _).below hb (by simp)
    have B2 := (Blk.new _ _ _).below hb (by simp)
    simp only [World.size_alloc] at B1 B2
    obtain ⟨k0, f0⟩ := B0.rules
    obtain ⟨k1, f1⟩ := B1.rules
    obtain ⟨k2, f2⟩ := B2.rules
    clear hb
    go_wp2_with fail
    refine bodyPost_ret (v := .agg #[.bool true, .int .i64 (t * 4 + s), .bool b1, .int .i64 c1, .bool b2, .int .i64 c2, .bool b3, .int .i64 c3, .bool b4, .int .i64 c4, .bool b5, .int .i64 c5]) ?_ rfl ⟨rfl, ?_⟩
    · refine Blk.gen (Blk.fill ((B2.other (by simp; omega) _).other (by simp; omega) _)) (P := fun W => (results Tryz.f258 _).run Tryz.prog W = .ok _ W) ?_
      intro W hW
      obtain ⟨k, f⟩ := hW.rules
      simp [results, Tryz.results258, go_sem, k]
    · exact fill_below ((hB.setCell (by simp) _).setCell (by simp) _) (by omega)
  · by_cases hc : c0 < t * 4 + s
    · rw [if_neg (by simp [hc])]
      subst hbk
      go_enter Tryz.func258, Tryz.ntmps258
      go_wp2_with fail
      refine (code_any t s _ ⟨h1, h2, h3, h4⟩).mono ?_
      rintro e w1 ⟨rfl, hb⟩
      have hB : Below w.heap.size w w1 := ((((Below.refl _ _).alloc (Nat.le_refl _) _).alloc (by simp) _).alloc (by simp; omega) _).trans (hb.mono (by simp; omega))
      have B0 := (((Blk.new w _ _).alloc _).alloc _).below hb (by simp; omega)
      have B1 := ((Blk.new _ _ _).alloc _).below hb (by simp)
      have B2 := (Blk.new _ _ _).below hb (by simp)
      simp only [World.size_alloc] at B1 B2
      obtain ⟨k0, f0⟩ := B0.rules
      obtain ⟨k1, f1⟩ := B1.rules
      obtain ⟨k2, f2⟩ := B2.rules
      clear hb
      go_wp2_with fail
      refine bodyPost_ret (v := .agg #[.bool true, .int .i64 (t * 4 + s), .bool b1, .int .i64 c1, .bool b2, .int .i64 c2, .bool b3, .int .i64 c3, .bool b4, .int .i64 c4, .bool b5, .int .i64 c5]) ?_ rfl ⟨rfl, ?_⟩
      · refine Blk.gen (Blk.fill ((B2.other (by simp; omega) _).other (by simp; omega) _)) (P := fun W => (results Tryz.f258 _).run Tryz.prog W = .ok _ W) ?_
        intro W hW
        obtain ⟨k, f⟩ := hW.rules
        simp [results, Tryz.results258, go_sem, k]
      · exact fill_below ((hB.setCell (by simp) _).setCell (by simp) _) (by omega)
    · rw [if_pos ⟨rfl, hc⟩]
      subst hbk
      go_enter Tryz.func258, Tryz.ntmps258
      go_wp2_with fail
      refine (code_any t s _ ⟨h1, h2, h3, h4⟩).mono ?_
      rintro e w1 ⟨rfl, hb⟩
      have hB : Below w.heap.size w w1 := ((((Below.refl _ _).alloc (Nat.le_refl _) _).alloc (by simp) _).alloc (by simp; omega) _).trans (hb.mono (by simp; omega))
      have B0 := (((Blk.new w _ _).alloc _).alloc _).below hb (by simp; omega)
      have B1 := ((Blk.new _ _ _).alloc _).below hb (by simp)
      have B2 := (Blk.new _ _ _).below hb (by simp)
      simp only [World.size_alloc] at B1 B2
      obtain ⟨k0, f0⟩ := B0.rules
      obtain ⟨k1, f1⟩ := B1.rules
      obtain ⟨k2, f2⟩ := B2.rules
      clear hb
      go_wp2_with fail
      refine bodyPost_ret (v := .agg #[.bool true, .int .i64 c0, .bool b1, .int .i64 c1, .bool b2, .int .i64 c2, .bool b3, .int .i64 c3, .bool b4, .int .i64 c4, .bool b5, .int .i64 c5]) ?_ rfl ⟨rfl, ?_⟩
      · refine Blk.gen (Blk.fill B2) (P := fun W => (results Tryz.f258 _).run Tryz.prog W = .ok _ W) ?_
        intro W hW
        obtain ⟨k, f⟩ := hW.rules
        simp [results, Tryz.results258, go_sem, k]
      · exact fill_below hB (by omega)

set_option maxHeartbeats 4000000 in
theorem with1 (b0 b1 b2 b3 b4 b5 : Bool) (c0 c1 c2 c3 c4 c5 t s : Int) (w : World) (h : 0 ≤ t ∧ t ≤ 100000 ∧ -10 ≤ s ∧ s ≤ 100000) :
    Calls Tryz.prog 258 #[.agg #[.bool b0, .int .i64 c0, .bool b1, .int .i64 c1, .bool b2, .int .i64 c2, .bool b3, .int .i64 c3, .bool b4, .int .i64 c4, .bool b5, .int .i64 c5], .agg #[.int .i64 1, .int .i64 t, .int .i64 s]] w fun e w' => e = .returned (.agg #[.bool b0, .int .i64 c0, .bool true, .int .i64 (if b1 = true ∧ ¬ c1 < t * 4 + s then c1 else t * 4 + s), .bool b2, .int .i64 c2, .bool b3, .int .i64 c3, .bool b4, .int .i64 c4, .bool b5, .int .i64 c5]) ∧ Below w.heap.size w w' := by
  obtain ⟨h1, h2, h3, h4⟩ := h
  rcases hbk : b1 with _ | _
  · rw [if_neg (by simp)]
    subst hbk
    go_enter Tryz.func258, Tryz.ntmps258
    go_wp2_with fail
    refine (code_any t s _ ⟨h1, h2, h3, h4⟩).mono ?_
    rintro e w1 ⟨rfl, hb⟩
    have hB : Below w.heap.size w w1 := ((((Below.refl _ _).alloc (Nat.le_refl _) _).alloc (by simp) _).alloc (by simp; omega) _).trans (hb.mono (by simp; omega))
    have B0 := (((Blk.new w _ _).alloc _).alloc _).below hb (by simp; omega)
    have B1 := ((Blk.new _ _ _).alloc _).below hb (by simp)
    have B2 := (Blk.new _ _ _).below hb (by simp)
    simp only [World.size_alloc] at B1 B2
    obtain ⟨k0, f0⟩ := B0.rules
    obtain ⟨k1, f1⟩ := B1.rules
    obtain ⟨k2, f2⟩ := B2.rules
    clear hb
    go_wp2_with fail
    refine bodyPost_ret (v := .agg #[.bool b0, .int .i64 c0, .bool true, .int .i64 (t * 4 + s), .bool b2, .int .i64 c2, .bool b3, .int .i64 c3, .bool b4, .int .i64 c4, .bool b5, .int .i64 c5]) ?_ rfl ⟨rfl, ?_⟩
    · refine Blk.gen (Blk.fill ((B2.other (by simp; omega) _).other (by simp; omega) _)) (P := fun W => (results Tryz.f258 _).run Tryz.prog W = .ok _ W) ?_
      intro W hW
      obtain ⟨k, f⟩ := hW.rules
      simp [results, Tryz.results258, go_sem, k]
    · exact fill_below ((hB.setCell (by simp) _).setCell (by simp) _) (by omega)
  · by_cases hc : c1 < t * 4 + s
    · rw [if_neg (by simp [hc])]
      subst hbk
      go_enter Tryz.func258, Tryz.ntmps258
      go_wp2_with fail
      refine (code_any t s _ ⟨h1, h2, h3, h4⟩).mono ?_
      rintro e w1 ⟨rfl, hb⟩
      have hB : Below w.heap.size w w1 := ((((Below.refl _ _).alloc (Nat.le_refl _) _).alloc (by simp) _).alloc (by simp; omega) _).trans (hb.mono (by simp; omega))
      have B0 := (((Blk.new w _ _).alloc _).alloc _).below hb (by simp; omega)
      have B1 := ((Blk.new _ _ _).alloc _).below hb (by simp)
      have B2 := (Blk.new _ _ _).below hb (by simp)
      simp only [World.size_alloc] at B1 B2
      obtain ⟨k0, f0⟩ := B0.rules
      obtain ⟨k1, f1⟩ := B1.rules
      obtain ⟨k2, f2⟩ := B2.rules
      clear hb
      go_wp2_with fail
      refine bodyPost_ret (v := .agg #[.bool b0, .int .i64 c0, .bool true, .int .i64 (t * 4 + s), .bool b2, .int .i64 c2, .bool b3, .int .i64 c3, .bool b4, .int .i64 c4, .bool b5, .int .i64 c5]) ?_ rfl ⟨rfl, ?_⟩
      · refine Blk.gen (Blk.fill ((B2.other (by simp; omega) _).other (by simp; omega) _)) (P := fun W => (results Tryz.f258 _).run Tryz.prog W = .ok _ W) ?_
        intro W hW
        obtain ⟨k, f⟩ := hW.rules
        simp [results, Tryz.results258, go_sem, k]
      · exact fill_below ((hB.setCell (by simp) _).setCell (by simp) _) (by omega)
    · rw [if_pos ⟨rfl, hc⟩]
      subst hbk
      go_enter Tryz.func258, Tryz.ntmps258
      go_wp2_with fail
      refine (code_any t s _ ⟨h1, h2, h3, h4⟩).mono ?_
      rintro e w1 ⟨rfl, hb⟩
      have hB : Below w.heap.size w w1 := ((((Below.refl _ _).alloc (Nat.le_refl _) _).alloc (by simp) _).alloc (by simp; omega) _).trans (hb.mono (by simp; omega))
      have B0 := (((Blk.new w _ _).alloc _).alloc _).below hb (by simp; omega)
      have B1 := ((Blk.new _ _ _).alloc _).below hb (by simp)
      have B2 := (Blk.new _ _ _).below hb (by simp)
      simp only [World.size_alloc] at B1 B2
      obtain ⟨k0, f0⟩ := B0.rules
      obtain ⟨k1, f1⟩ := B1.rules
      obtain ⟨k2, f2⟩ := B2.rules
      clear hb
      go_wp2_with fail
      refine bodyPost_ret (v := .agg #[.bool b0, .int .i64 c0, .bool true, .int .i64 c1, .bool b2, .int .i64 c2, .bool b3, .int .i64 c3, .bool b4, .int .i64 c4, .bool b5, .int .i64 c5]) ?_ rfl ⟨rfl, ?_⟩
      · refine Blk.gen (Blk.fill B2) (P := fun W => (results Tryz.f258 _).run Tryz.prog W = .ok _ W) ?_
        intro W hW
        obtain ⟨k, f⟩ := hW.rules
        simp [results, Tryz.results258, go_sem, k]
      · exact fill_below hB (by omega)

end Go.Proofs.YtpjidogilofppaaGreat
