/- The law of slots holds at every code; and the exact law of VerSlot. -/
import Derived.Test.YtmbjfgebcpjigaaOpen
import Derived.Test.YtmbjfgebcpjigaaCodes
namespace Go.Proofs.Ytmbjfgebcpjigaa
open Go.ChangeShapes Go.WideShapes Go.ChangeAt Go.RowKit

/-- The slot of a key. -/
def slotOf (n : Int) : Int := if inB n 0 5 = true then n * 3 / 6 else -1
theorem iSlot' (n : Int) (w : World) : Calls Try.prog 24 #[.int .i64 n] w fun e w' => e = .returned (.int .i64 (slotOf n)) ∧ w' = w := iSlot_any n w
theorem sSlot' (n : Int) (w : World) : Calls Try.prog 25 #[.int .i64 n] w fun e w' => e = .returned (.int .i64 (slotOf n)) ∧ w' = w := sSlot_any n w

theorem lawExactSlot (n : Int) (w : World) : Calls Try.prog 14 #[.int .i64 n] w fun e w' => e = .returned (.bool true) ∧ Below w.heap.size w w' := by
  go_enter Try.func14, Try.ntmps14
  go_wp2_with fail
  refine (sSlot' _ _).mono ?_
  rintro e w1 ⟨rfl, rfl⟩
  go_wp2_with fail
  refine (iSlot' _ _).mono ?_
  rintro e w2 ⟨rfl, rfl⟩
  go_wp2
  go_ret
  exact ⟨rfl, Below.refl _ _⟩

theorem drawSlot (w : World) (a : Option Addr) (len cap : Nat) (h : Code w a len cap) :
    Calls Try.prog 23 #[.slice a len cap] w fun e w' => ∃ n : Int, e = .returned (.int .i64 n) ∧ -1 ≤ n ∧ n < 8 ∧ Below w.heap.size w w' := by
  go_enter Try.func23, Try.ntmps23
  go_wp2_with fail
  refine (open_any w a len cap h).mono ?_
  rintro e w1 ⟨rfl, hr, hb, hs⟩
  go_wp2_with fail
  refine (pick_any _ 0 9 w1 hr (by omega) (by omega)).mono ?_
  rintro e w2 ⟨v, rfl, v0, v1, hr2, hs2, _⟩
  go_wp2
  go_ret
  exact ⟨v - 1, rfl, by omega, by omega, hs2.below hb (Nat.le_refl _)⟩

set_option maxHeartbeats 1000000 in
theorem lawSlot (w : World) (a : Option Addr) (len cap : Nat) (h : Code w a len cap) :
    Calls Try.prog 4 #[.slice a len cap] w fun e w' => e = .returned (.bool true) ∧ Below w.heap.size w w' := by
  have hm := h.2.1
  have hl := h.1
  unfold maxLen at hm
  have t0 : slotOf 0 = 0 := by decide
  have t1 : slotOf 1 = 0 := by decide
  have t2 : slotOf 2 = 1 := by decide
  have t3 : slotOf 3 = 1 := by decide
  have t4 : slotOf 4 = 2 := by decide
  have t5 : slotOf 5 = 2 := by decide
  have t6 : slotOf 6 = -1 := by decide
  have t7 : slotOf (-1) = -1 := by decide
  by_cases hc : 1048576 < (len : Int)
  · go_enter Try.func4, Try.ntmps4
    go_wp2
    go_ret
    exact ⟨rfl, Below.refl _ _⟩
  · go_enter Try.func4, Try.ntmps4
    go_wp2_with fail
    refine (drawSlot w a len cap h).mono ?_
    rintro e w1 ⟨n, rfl, n0, n1, hb⟩
    go_wp2_with (first | (go_at_call 24; refine (iSlot' _ _).mono ?_; rintro e w' ⟨rfl, rfl⟩) | (go_at_call 25; refine (sSlot' _ _).mono ?_; rintro e w' ⟨rfl, rfl⟩))
    refine wp_loop_rounds 7 ?_
    rw [rounds_succ]
    go_wp2_with (first | (go_at_call 24; refine (iSlot' _ _).mono ?_; rintro e w' ⟨rfl, rfl⟩))
    rw [rounds_succ]
    go_wp2_with (first | (go_at_call 24; refine (iSlot' _ _).mono ?_; rintro e w' ⟨rfl, rfl⟩))
    rw [rounds_succ]
    go_wp2_with (first | (go_at_call 24; refine (iSlot' _ _).mono ?_; rintro e w' ⟨rfl, rfl⟩))
    rw [rounds_succ]
    go_wp2_with (first | (go_at_call 24; refine (iSlot' _ _).mono ?_; rintro e w' ⟨rfl, rfl⟩))
    rw [rounds_succ]
    go_wp2_with (first | (go_at_call 24; refine (iSlot' _ _).mono ?_; rintro e w' ⟨rfl, rfl⟩))
    rw [rounds_succ]
    go_wp2_with (first | (go_at_call 24; refine (iSlot' _ _).mono ?_; rintro e w' ⟨rfl, rfl⟩))
    go_ret
    exact ⟨rfl, hb⟩
end Go.Proofs.Ytmbjfgebcpjigaa
