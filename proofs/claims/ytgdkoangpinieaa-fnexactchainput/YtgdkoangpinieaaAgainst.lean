/- The program's search among versions of a key. -/
import Derived.Test.YtgdkoangpinieaaGAN
namespace Go.Proofs.Ytgdkoangpinieaa
open Go.ChangeShapes Go.WideShapes Go.ChangeAt Go.RowKit

set_option maxHeartbeats 4000000 in
theorem against_any (v : V) (da : Option Addr) (n dc : Nat) (t s : Int) (w : World) :
    Calls Try.prog 170 #[verV v.k v.t v.s v.val v.cl v.ca da n dc, stampV t s] w fun e w' => e = .returned (.int .i64 (ordV v.t v.s t s)) ∧ Below w.heap.size w w' := by
  obtain ⟨k, t', s', val, cl, ca, ds⟩ := v
  go_enter Try.func170, Try.ntmps170
  go_wp2
  go_region_with (first | (go_at_call 109; refine (then_any _).mono ?_; rintro e w1 ⟨rfl, rfl⟩) | (go_at_call 168; refine (order_any _ _ _ _ _ _ _ ?_ ?_).mono ?_; go_simp; go_simp; rintro e w1 ⟨rfl, hb⟩))
  all_goals
    go_wp2
    go_ret
    exact ⟨rfl, ((((((Below.refl _ _).alloc (Nat.le_refl _) _).alloc (by simp) _).alloc (by simp; omega) _).alloc (by simp; omega) _).drew).trans (hb.mono (by simp; omega))⟩
end Go.Proofs.Ytgdkoangpinieaa
