/- The exact law of VerOk. -/
import Derived.Test.YtgdkoangpinieaaSVer
import Derived.Test.YtgdkoangpinieaaGAH
namespace Go.Proofs.Ytgdkoangpinieaa
open Go.ChangeShapes Go.WideShapes Go.ChangeAt Go.RowKit

theorem szVer_any (k t s val cl ca : Int) (a : Option Addr) (n cap : Nat) (w : World) (hn : n ≤ maxLen) :
    Calls Try.prog 79 #[verV k t s val cl ca a n cap, .int .i64 1048576] w fun e w' => e = .returned (.int .i64 (if (1048576 : Int) < (n : Int) then -1 else 1048576 - n)) ∧ Below w.heap.size w w' := by
  have hz := fun w => szDeps_any a n cap 1048576 w hn (by omega) (by omega)
  by_cases h : (1048576 : Int) < (n : Int)
  · rw [if_pos h] at hz
    rw [if_pos h]
    go_enter Try.func79, Try.ntmps79
    go_wp2_with fail
    refine (hz _).mono ?_
    rintro e w1 ⟨rfl, rfl⟩
    clear hz
    go_wp2_with fail
    go_ret
    exact ⟨rfl, (Below.refl _ _).alloc (Nat.le_refl _) _⟩
  · rw [if_neg h] at hz
    rw [if_neg h]
    go_enter Try.func79, Try.ntmps79
    go_wp2_with fail
    refine (hz _).mono ?_
    rintro e w1 ⟨rfl, rfl⟩
    clear hz
    go_wp2_with fail
    go_ret
    exact ⟨rfl, (Below.refl _ _).alloc (Nat.le_refl _) _⟩

theorem Blk.fill7 {w : World} {B : Nat} {x0 x1 x2 x3 x4 x5 x6 v0 v1 v2 v3 v4 v5 v6 : Value} {T : TypeId} (h : Blk w B #[x0, x1, x2, x3, x4, x5, x6] T) : Blk (((((((w.setCell ⟨B, 0, none⟩ v0).setCell ⟨B, 1, none⟩ v1).setCell ⟨B, 2, none⟩ v2).setCell ⟨B, 3, none⟩ v3).setCell ⟨B, 4, none⟩ v4).setCell ⟨B, 5, none⟩ v5).setCell ⟨B, 6, none⟩ v6) B #[v0, v1, v2, v3, v4, v5, v6] T := by
  have := ((((((h.set 0 v0).set 1 v1).set 2 v2).set 3 v3).set 4 v4).set 5 v5).set 6 v6
  simpa using this
theorem row_fill7 {w : World} {base B n : Nat} {e : TypeId} {size : Nat} {v v0 v1 v2 v3 v4 v5 v6 : Value} {xs : List Value} (h : w.ownsRow base e size v n xs) (hB : ∀ j, v.ownBlock = some j → j ≠ B) : (((((((w.setCell ⟨B, 0, none⟩ v0).setCell ⟨B, 1, none⟩ v1).setCell ⟨B, 2, none⟩ v2).setCell ⟨B, 3, none⟩ v3).setCell ⟨B, 4, none⟩ v4).setCell ⟨B, 5, none⟩ v5).setCell ⟨B, 6, none⟩ v6).ownsRow base e size v n xs := by
  have keep : ∀ k, k ≠ B → (((((((w.setCell ⟨B, 0, none⟩ v0).setCell ⟨B, 1, none⟩ v1).setCell ⟨B, 2, none⟩ v2).setCell ⟨B, 3, none⟩ v3).setCell ⟨B, 4, none⟩ v4).setCell ⟨B, 5, none⟩ v5).setCell ⟨B, 6, none⟩ v6).heap[k]? = w.heap[k]? := fun k hk =>
    ((((((Below.heap_setCell _ _ _ _ hk).trans (Below.heap_setCell _ _ _ _ hk)).trans (Below.heap_setCell _ _ _ _ hk)).trans (Below.heap_setCell _ _ _ _ hk)).trans (Below.heap_setCell _ _ _ _ hk)).trans (Below.heap_setCell _ _ _ _ hk)).trans (Below.heap_setCell _ _ _ _ hk)
  refine ⟨h.1, ?_⟩
  rcases h.2 with hn | ⟨g, cap, cur, rfl, hb, hg, rest⟩
  · exact .inl hn
  · exact .inr ⟨g, cap, cur, rfl, hb, (keep g (hB g rfl)).trans hg, rest⟩

set_option maxHeartbeats 2000000 in
theorem toVer_any (k t s val cl ca : Int) (a : Option Addr) (cap : Nat) (xs : List D) (w : World) (hn : xs.length ≤ 1048576) (h : Deps w a xs) :
    Calls Try.prog 80 #[verV k t s val cl ca a xs.length cap] w fun e w' => ∃ b, e = .returned (verV k t s val cl ca (some ⟨b, 0, none⟩) xs.length xs.length) ∧ w'.ownsRow w.heap.size 51 3 (.slice (some ⟨b, 0, none⟩) xs.length xs.length) xs.length (flat3 xs) ∧ Below w.heap.size w w' := by
  go_enter Try.func80, Try.ntmps80
  go_wp2_with fail
  refine (toStamp_any t s _).mono ?_
  rintro e w1 ⟨rfl, hb⟩
  have hB : Below w.heap.size w w1 := ((((Below.refl _ _).alloc (Nat.le_refl _) _).alloc (by simp) _).alloc (by simp; omega) _).trans (hb.mono (by simp; omega))
  have A1 := (((Blk.new w _ _).alloc _).alloc _).below hb (by simp; omega)
  have Z1 := ((Blk.new _ _ _).alloc _).below hb (by simp)
  have O1 := (Blk.new _ _ _).below hb (by simp)
  simp only [World.size_alloc] at Z1 O1
  obtain ⟨q1, g1⟩ := A1.rules
  obtain ⟨q2, g2⟩ := O1.rules
  have hz := O1.lt
  clear hb
  have O2 : Blk (((((w1.setCell ⟨w.heap.size + 1 + 1, 1, none⟩ (.int .i64 t)).setCell ⟨w.heap.size + 1 + 1, 2, none⟩ (.int .i64 s)).setCell ⟨w.heap.size + 1 + 1, 3, none⟩ (.int .i64 val)).setCell ⟨w.heap.size + 1 + 1, 4, none⟩ (.int .i64 cl)).setCell ⟨w.heap.size + 1 + 1, 5, none⟩ (.int .i64 ca)) (w.heap.size + 1 + 1) #[.int .i64 k, .int .i64 t, .int .i64 s, .int .i64 val, .int .i64 cl, .int .i64 ca, .slice none 0 0] 28 := by
    have := ((((O1.set 1 (.int .i64 t)).set 2 (.int .i64 s)).set 3 (.int .i64 val)).set 4 (.int .i64 cl)).set 5 (.int .i64 ca)
    simpa using this
  have Z2 := ((((Z1.other (a := ⟨w.heap.size + 1 + 1, 1, none⟩) (by simp) (.int .i64 t)).other (a := ⟨w.heap.size + 1 + 1, 2, none⟩) (by simp) (.int .i64 s)).other (a := ⟨w.heap.size + 1 + 1, 3, none⟩) (by simp) (.int .i64 val)).other (a := ⟨w.heap.size + 1 + 1, 4, none⟩) (by simp) (.int .i64 cl)).other (a := ⟨w.heap.size + 1 + 1, 5, none⟩) (by simp) (.int .i64 ca)
  have B2 : Below w.heap.size w (((((w1.setCell ⟨w.heap.size + 1 + 1, 1, none⟩ (.int .i64 t)).setCell ⟨w.heap.size + 1 + 1, 2, none⟩ (.int .i64 s)).setCell ⟨w.heap.size + 1 + 1, 3, none⟩ (.int .i64 val)).setCell ⟨w.heap.size + 1 + 1, 4, none⟩ (.int .i64 cl)).setCell ⟨w.heap.size + 1 + 1, 5, none⟩ (.int .i64 ca)) := ((((hB.setCell (by simp; omega) _).setCell (by simp; omega) _).setCell (by simp; omega) _).setCell (by simp; omega) _).setCell (by simp; omega) _
  clear A1 Z1 O1 hB
  go_wp2_with fail
  generalize (((((w1.setCell ⟨w.heap.size + 1 + 1, 1, none⟩ (.int .i64 t)).setCell ⟨w.heap.size + 1 + 1, 2, none⟩ (.int .i64 s)).setCell ⟨w.heap.size + 1 + 1, 3, none⟩ (.int .i64 val)).setCell ⟨w.heap.size + 1 + 1, 4, none⟩ (.int .i64 cl)).setCell ⟨w.heap.size + 1 + 1, 5, none⟩ (.int .i64 ca)) = W at *
  clear q1 g1 q2 g2 hz w1
  refine (toDeps_any a cap xs _ hn (h.below B2)).mono ?_
  rintro e w3 ⟨b, rfl, hbW, R3, hb3⟩
  have O3 := O2.below hb3 O2.lt
  have Z3 := Z2.below hb3 Z2.lt
  have B3 : Below w.heap.size w w3 := B2.trans (hb3.mono B2.size)
  have bO := O2.lt
  clear hb3 O2 Z2
  obtain ⟨q1, g1⟩ := O3.rules
  obtain ⟨q2, g2⟩ := Z3.rules
  have O4 := O3.set 6 (.slice (some ⟨b, 0, none⟩) xs.length xs.length)
  have Z4 := Z3.other (a := ⟨w.heap.size + 1 + 1, 6, none⟩) (by simp) (.slice (some ⟨b, 0, none⟩) xs.length xs.length)
  have B4 := B3.setCell (p := ⟨w.heap.size + 1 + 1, 6, none⟩) (by simp; omega) (.slice (some ⟨b, 0, none⟩) xs.length xs.length)
  have R4 := row_set R3 (A := w.heap.size + 1 + 1) (i := 6) (fun j hj => by have := (R3.lt j hj).1; omega) (.slice (some ⟨b, 0, none⟩) xs.length xs.length)
  have bR : ∀ j, (Value.slice (some ⟨b, 0, none⟩) xs.length xs.length).ownBlock = some j → j ≠ w.heap.size + 1 := fun j hj => by have := (R3.lt j hj).1; omega
  go_wp2_with fail
  refine bodyPost_ret (v := verV k t s val cl ca (some ⟨b, 0, none⟩) xs.length xs.length) ?_ rfl ⟨b, rfl, row_mono (row_fill7 R4 bR) (by have := B2.size; omega), ?_⟩
  · refine Blk.gen (B := w.heap.size + 1) (vs := #[.int .i64 k, .int .i64 t, .int .i64 s, .int .i64 val, .int .i64 cl, .int .i64 ca, .slice (some ⟨b, 0, none⟩) xs.length xs.length]) (T := 28) ?_ (P := fun W => (results Try.f80 _).run Try.prog W = .ok _ W) ?_
    · exact Blk.fill7 Z4
    intro W hW
    obtain ⟨k, f⟩ := hW.rules
    simp [results, Try.results80, go_sem, k]
  · exact ((((((B4.setCell (by simp) _).setCell (by simp) _).setCell (by simp) _).setCell (by simp) _).setCell (by simp) _).setCell (by simp) _).setCell (by simp) _

set_option maxHeartbeats 2000000 in
theorem eqVer_any (k t s val cl ca : Int) (a b : Option Addr) (cap cap' : Nat) (xs : List D) (w : World) (hn : xs.length ≤ 1048576) (h : Deps w a xs) (h' : Deps w b xs) :
    Calls Try.prog 81 #[verV k t s val cl ca a xs.length cap, verV k t s val cl ca b xs.length cap'] w fun e w' => e = .returned (.bool true) ∧ Below w.heap.size w w' := by
  go_enter Try.func81, Try.ntmps81
  go_wp2_with fail
  refine (eqStamp_any t s _).mono ?_
  rintro e w1 ⟨rfl, hb⟩
  have hB : Below w.heap.size w w1 := (((Below.refl _ _).alloc (Nat.le_refl _) _).alloc (by simp) _).trans (hb.mono (by simp; omega))
  have A1 := ((Blk.new w _ _).alloc _).below hb (by simp; omega)
  have Z1 := (Blk.new _ _ _).below hb (by simp)
  simp only [World.size_alloc] at Z1
  obtain ⟨q1, g1⟩ := A1.rules
  obtain ⟨q2, g2⟩ := Z1.rules
  clear hb
  go_wp2_with fail
  refine (eqDeps_any a b xs cap cap' _ hn (h.below hB) (h'.below hB)).mono ?_
  rintro e w2 ⟨rfl, hb2⟩
  have B2 : Below w.heap.size w w2 := hB.trans (hb2.mono hB.size)
  clear hb2 hB A1 Z1 q1 g1 q2 g2
  go_wp2_with fail
  go_ret
  exact ⟨rfl, B2⟩
end Go.Proofs.Ytgdkoangpinieaa
