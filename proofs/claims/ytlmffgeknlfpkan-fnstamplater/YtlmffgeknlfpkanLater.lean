/- The law of the next stamp: it is one later than the latest. -/
import Derived.Test.YtlmffgeknlfpkanDrawNext
import Derived.Test.YtlmffgeknlfpkanSNext
import Derived.Test.YtlmffgeknlfpkanINext2
namespace Go.Proofs.Ytlmffgeknlfpkan
open Go.ChangeShapes Go.WideShapes Go.ChangeAt Go.RowKit

theorem sNext_any (site : Int) (a : Option Addr) (cap : Nat) (xs : List (Int × Int)) (w : World) (hn : xs.length ≤ 1099511627776) (h : Stamps w a xs) :
    Calls Try.prog 5 #[.int .i64 site, .slice a xs.length cap] w fun e w' => e = .returned (nextV site xs) ∧ Below w.heap.size w w' := by
  rcases hs : inB site 0 3 with _ | _
  · exact sNext_no site a _ cap xs w hs
  · exact sNext_yes site a cap xs w hs hn h

/-- What a law knows behind the two calls: the two stamps that were told, in memory, and the list. -/
theorem bothNext (b : Option Addr) (xs : List (Int × Int)) (w w1 : World) (t s : Int) (hB : Below w.heap.size w w1) (hS : Stamps w1 b xs) (w2 : World) (h2 : Below w1.heap.size w1 w2) (w3 : World)
    (h3 : Below (w2.heap.size + 1) (w2.alloc (.cells #[.int .i64 t, .int .i64 s] 27)) w3) :
    Below w.heap.size w (w3.alloc (.cells #[.int .i64 t, .int .i64 s] 27)) ∧ Stamps (w3.alloc (.cells #[.int .i64 t, .int .i64 s] 27)) b xs ∧
    w3.cell? ⟨w2.heap.size, 0, none⟩ = some (.int .i64 t) ∧ w3.cell? ⟨w2.heap.size, 1, none⟩ = some (.int .i64 s) ∧ w2.heap.size < w3.heap.size := by
  have k1 : Below w1.heap.size w1 (w2.alloc (.cells #[.int .i64 t, .int .i64 s] 27)) := h2.alloc h2.size _
  have k2 : Below w1.heap.size w1 w3 := k1.trans (h3.mono (by have := h2.size; omega))
  have k3 : Below w1.heap.size w1 (w3.alloc (.cells #[.int .i64 t, .int .i64 s] 27)) := k2.alloc k2.size _
  refine ⟨hB.trans (k3.mono hB.size), hS.below k3, ?_, ?_, by have := h3.size; simp at this; omega⟩
  · exact (h3.cell (p := ⟨w2.heap.size, 0, none⟩) (by simp)).trans (by simp [go_sem])
  · exact (h3.cell (p := ⟨w2.heap.size, 1, none⟩) (by simp)).trans (by simp [go_sem])

set_option maxHeartbeats 2000000 in
theorem lawLater (w : World) (a : Option Addr) (len cap : Nat) (h : Code w a len cap) :
    Calls Try.prog 3 #[.slice a len cap] w fun e w' => e = .returned (.bool true) ∧ Below w.heap.size w w' := by
  have hm := h.2.1
  have hl := h.1
  unfold maxLen at hm
  by_cases hc : 1048576 < (len : Int)
  · go_enter Try.func3, Try.ntmps3
    go_wp2
    go_ret
    exact ⟨rfl, Below.refl _ _⟩
  · go_enter Try.func3, Try.ntmps3
    go_wp2_with fail
    refine (drawNext w a len cap h).mono ?_
    rintro e w1 ⟨site, xs, b, cp, rfl, _, _, hx, hS, hB⟩
    have hx' : xs.length ≤ 1099511627776 := by omega
    clear h hm hl
    rcases hN : hasNext site xs with _ | _
    · have E := next_no hN
      go_wp2_with fail
      refine (sNext_any site b cp xs w1 hx' hS).mono ?_
      rw [E]
      rintro e w2 ⟨rfl, h2⟩
      go_wp2_with fail
      refine (iNext_any site b cp xs _ hx' ((hS.below h2).below ((Below.refl _ _).alloc (Nat.le_refl _) _))).mono ?_
      rw [E]
      rintro e w3 ⟨rfl, h3⟩
      obtain ⟨k1, k2, k3, k4, k5⟩ := bothNext b xs w w1 0 0 hB hS w2 h2 w3 (h3.mono (by simp))
      clear h2 h3 hS hB E
      go_wp2
      go_ret
      exact ⟨rfl, k1⟩
    · have E := next_yes hN
      go_wp2_with fail
      refine (sNext_any site b cp xs w1 hx' hS).mono ?_
      rw [E]
      rintro e w2 ⟨rfl, h2⟩
      go_wp2_with fail
      refine (iNext_any site b cp xs _ hx' ((hS.below h2).below ((Below.refl _ _).alloc (Nat.le_refl _) _))).mono ?_
      rw [E]
      rintro e w3 ⟨rfl, h3⟩
      obtain ⟨k1, k2, k3, k4, k5⟩ := bothNext b xs w w1 (maxT xs + 1) site hB hS w2 h2 w3 (h3.mono (by simp))
      have hmx : 0 ≤ maxT xs := maxT_nonneg xs
      have hmy : maxT xs < 9999 := by simp [hasNext] at hN; omega
      clear h2 h3 hS hB E
      go_wp2_with fail
      go_loop [9, 10] (fun t i => ∃ k : Nat, k ≤ xs.length ∧ i = .int .i64 k ∧ t = .int .i64 (maxT (xs.take k))) (fun _ i => xs.length - (intOf i).toNat)
      case atStart => exact ⟨0, Nat.zero_le _, rfl, rfl⟩
      case round =>
        obtain ⟨k, hk, rfl, rfl⟩ := hrel
        by_cases hlt : k < xs.length
        · rcases k2 with hE | ⟨bb, o, rfl, hbb, hS⟩
          · rw [hE] at hlt; simp at hlt
          · obtain ⟨e0, e1⟩ := hS k hlt
            have HT : Hid (xs.take (k + 1) = xs.take k ++ [xs[k]]) := take_more xs k hlt
            generalize hxk : xs[k] = x at *
            obtain ⟨t, s⟩ := x
            have HM : Hid (maxT (xs.take (k + 1)) = if maxT (xs.take k) < t then t else maxT (xs.take k)) := by show maxT (xs.take (k + 1)) = _; rw [HT.out]; exact maxT_snoc _ _ _
            clear hS HT hxk k1 k3 k4 e1
            by_cases hgt : maxT (xs.take k) < t
            · go_wp2
              go_round
              case rel => exact ⟨k + 1, by omega, by go_num, by rw [HM.out, if_pos (by omega)]⟩
              case measure => simp [intOf]; omega
            · go_wp2
              go_round
              case rel => exact ⟨k + 1, by omega, by go_num, by rw [HM.out, if_neg (by omega)]⟩
              case measure => simp [intOf]; omega
        · have hk2 : k = xs.length := by omega
          subst hk2
          rw [List.take_length] at *
          clear k2 k3 k4
          go_wp2
          go_ret
          exact ⟨rfl, k1⟩
end Go.Proofs.Ytlmffgeknlfpkan
