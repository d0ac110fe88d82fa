/- The exact laws of StampOk and StampLess. -/
import Derived.Test.YtlmffgeknlfpkasStampOk
import Derived.Test.YtlmffgeknlfpkasCmp
namespace Go.Proofs.Ytlmffgeknlfpkas
open Go.ChangeShapes Go.WideShapes Go.ChangeAt Go.RowKit

theorem toStamp_any (t s : Int) (w : World) : Calls Try.prog 7 #[stampV t s] w fun e w' => e = .returned (stampV t s) ∧ Below w.heap.size w w' := by
  go_enter Try.func7, Try.ntmps7
  go_wp2
  refine bodyPost_ret (v := stampV t s) (by simp [results, Try.results7, go_sem]) rfl ⟨rfl, ?_⟩
  exact (((Below.refl _ _).alloc (Nat.le_refl _) _).alloc (by simp) _).alloc (by simp; omega) _

theorem lawExactOk (t s : Int) (w : World) : Calls Try.prog 3 #[stampV t s] w fun e w' => e = .returned (.bool true) ∧ Below w.heap.size w w' := by
  go_enter Try.func3, Try.ntmps3
  go_wp2_with fail
  refine (toStamp_any _ _ _).mono ?_
  rintro e w1 ⟨rfl, hb1⟩
  have B1 : Below w.heap.size w w1 := ((Below.refl _ _).alloc (Nat.le_refl _) _).trans (hb1.mono (by simp))
  obtain ⟨c1, f1⟩ := bcell hb1
  go_wp2_with fail
  refine (sOk_any _ _ _).mono ?_
  rintro e w2 ⟨rfl, hb2⟩
  have hz : w.heap.size < w1.heap.size := by have := hb1.size; simp at this; omega
  obtain ⟨c2, f2⟩ := bcell hb2
  go_wp2_with fail
  refine (toStamp_any _ _ _).mono ?_
  rintro e w3 ⟨rfl, hb3⟩
  go_wp2_with fail
  refine (iOk_any _ _ _).mono ?_
  rintro e w4 ⟨rfl, hb4⟩
  have B2 : Below w.heap.size w w2 := B1.trans (hb2.mono B1.size)
  have B3 : Below w.heap.size w w3 := B2.trans (hb3.mono B2.size)
  have B4 : Below w.heap.size w w4 := B3.trans (hb4.mono B3.size)
  clear c1 f1 c2 f2 hb1 hb2 hb3 hb4 B1 B2 B3
  go_wp2
  go_ret
  exact ⟨rfl, B4⟩
end Go.Proofs.Ytlmffgeknlfpkas
