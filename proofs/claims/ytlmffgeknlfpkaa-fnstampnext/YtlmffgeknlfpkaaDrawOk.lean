/- One stamp is drawn. -/
import Derived.Test.YtlmffgeknlfpkaaStamp
namespace Go.Proofs.Ytlmffgeknlfpkaa
open Go.ChangeShapes Go.WideShapes Go.ChangeAt Go.RowKit

/-- A number that is near. -/
def Near (t s : Int) : Prop := -1 ≤ t ∧ t ≤ 10000 ∧ -1 ≤ s ∧ s ≤ 4

theorem drawOk (w : World) (a : Option Addr) (len cap : Nat) (h : Code w a len cap) :
    Calls Try.prog 12 #[.slice a len cap] w fun e w' => ∃ t s : Int, e = .returned (stampV t s) ∧ Near t s ∧ Below w.heap.size w w' := by
  have k : Below w.heap.size w (w.alloc (.cells #[.int .i64 0, .int .i64 0] 24)) := (Below.refl _ _).alloc (Nat.le_refl _) _
  go_enter Try.func12, Try.ntmps12
  go_wp2_with fail
  refine (open_any _ a len cap (h.below k)).mono ?_
  rintro e w1 ⟨rfl, hr, hb, hs⟩
  simp only [World.size_alloc] at hs hr
  go_wp2_with fail
  refine (drawStamp _ 0 w1 hr (by omega)).mono ?_
  rintro e w2 ⟨t, s, p', rfl, b1, b2, b3, b4, _, _, hr2, hs2⟩
  have c2 : w2.cell? ⟨w.heap.size, 0, none⟩ = some (.int .i64 0) := by
    rw [hs2.cell (by omega) (by simp)]
    exact (hb.cell (p := ⟨w.heap.size, 0, none⟩) (by simp)).trans (by simp [go_sem])
  have c3 : w2.cell? ⟨w.heap.size, 1, none⟩ = some (.int .i64 0) := by
    rw [hs2.cell (by omega) (by simp)]
    exact (hb.cell (p := ⟨w.heap.size, 1, none⟩) (by simp)).trans (by simp [go_sem])
  have f2 : w2.frozen? ⟨w.heap.size, 0, none⟩ = false := by
    rw [hs2.frozen (by omega) (by simp)]
    exact (hb.frozen (p := ⟨w.heap.size, 0, none⟩) (by simp)).trans (by simp [go_sem])
  have f3 : w2.frozen? ⟨w.heap.size, 1, none⟩ = false := by
    rw [hs2.frozen (by omega) (by simp)]
    exact (hb.frozen (p := ⟨w.heap.size, 1, none⟩) (by simp)).trans (by simp [go_sem])
  have hB : Below w.heap.size w w2 := hs2.below (k.trans (hb.mono (by simp))) (by simp)
  clear hs2 hr2 hb hr k
  go_wp2
  exact bodyPost_ret (v := stampV t s) (by simp [results, Try.results12, go_sem, c2, c3]) rfl ⟨t, s, rfl, ⟨b1, b2, b3, b4⟩, (hB.setCell (by simp) _).setCell (by simp) _⟩

end Go.Proofs.Ytlmffgeknlfpkaa
