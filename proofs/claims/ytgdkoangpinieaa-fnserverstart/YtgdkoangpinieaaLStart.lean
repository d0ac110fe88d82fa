/- The law of a server at first. -/
import Derived.Test.YtgdkoangpinieaaSvStS
import Derived.Test.YtgdkoangpinieaaSvOwns
import Derived.Test.YtgdkoangpinieaaLiServ
import Derived.Test.YtgdkoangpinieaaGAC
namespace Go.Proofs.Ytgdkoangpinieaa
open Go.ChangeShapes Go.WideShapes Go.ChangeAt Go.RowKit

theorem drawStart (w : World) (a : Option Addr) (len cap : Nat) (h : Code w a len cap) :
    Calls Try.prog 54 #[.slice a len cap] w fun e w' => ∃ n : Int, e = .returned (.int .i64 n) ∧ -1 ≤ n ∧ n < 6 ∧ Below w.heap.size w w' := by
  go_enter Try.func54, Try.ntmps54
  go_wp2_with fail
  refine (open_any w a len cap h).mono ?_
  rintro e w1 ⟨rfl, hr, hb, hs⟩
  go_wp2_with fail
  refine (pick_any _ 0 7 w1 hr (by omega) (by omega)).mono ?_
  rintro e w2 ⟨v, rfl, v0, v1, hr2, hs2, _⟩
  go_wp2
  go_ret
  exact ⟨v - 1, rfl, by omega, by omega, hs2.below hb (Nat.le_refl _)⟩
theorem start_size' (n : Int) : sizeS (startX n) ≤ 1048576 := by
  unfold startX
  split
  · split <;> simp [sizeS, tot]
  · simp [sizeS, tot]
theorem start_zero (w : World) : Calls Try.prog 56 #[.int .i64 0] w fun e w' => ∃ b : Sa, e = .returned (.agg #[.int .i64 0, .bool true, .slice b.la 3 b.lc, .slice b.va 0 b.vc, .slice b.wa 0 b.wc, .slice b.oa 0 b.oc, .slice b.ka 0 b.kc]) ∧ Below w.heap.size w w' :=
  (iStart_any 0 w).mono fun _ _ ⟨b, he, _, hb⟩ => ⟨b, he.trans rfl, hb⟩
theorem owns_diff : ∀ k : Fin 6, ∀ s : Fin 2, (owB (startX (2 * (s.val : Int))) (k.val : Int) == owB (startX (2 * (s.val : Int) + 1)) (k.val : Int)) = false := by decide +kernel
theorem owns_unlike {k s : Nat} (hk : k < 6) (hs : s < 2) : (owB (startX (2 * (s : Int))) (k : Int) == owB (startX (2 * (s : Int) + 1)) (k : Int)) = false := owns_diff ⟨k, hk⟩ ⟨s, hs⟩

set_option maxHeartbeats 8000000 in
set_option maxRecDepth 20000 in
theorem lawStart (w : World) (a : Option Addr) (len cap : Nat) (h : Code w a len cap) :
    Calls Try.prog 11 #[.slice a len cap] w fun e w' => e = .returned (.bool true) ∧ Below w.heap.size w w' := by
  have hm := h.2.1
  have hl := h.1
  unfold maxLen at hm
  by_cases hc : 1048576 < (len : Int)
  · go_enter Try.func11, Try.ntmps11
    go_wp2
    go_ret
    exact ⟨rfl, Below.refl _ _⟩
  have hL := fun n c b W h h' => liServer_any (startX n) c b W (Fit.of (start_size' n)) h h'
  have hO := fun n b k W h => iOwns_any (startX n) b k W (Fit.of (start_size' n)).len h
  go_enter Try.func11, Try.ntmps11
  go_wp2_with fail
  refine (drawStart w a len cap h).mono ?_
  rintro e w1 ⟨n, rfl, n0, n1, hb1⟩
  clear h
  go_wp2_with fail
  refine (iStart_any n _).mono ?_
  rintro e w2 ⟨b, rfl, M2, hb2⟩
  go_wp2_with fail
  refine (sStart_any n _).mono ?_
  rintro e w3 ⟨c, rfl, M3, hb3⟩
  go_wp2_with fail
  refine (hL n b c _ (M2.inS.below hb3) M3.inS).mono ?_
  rintro e w4 ⟨rfl, hb4⟩
  have B4 : Below w.heap.size w w4 := ((hb1.trans (hb2.mono hb1.size)).trans (hb3.mono (by have := hb1.size; have := hb2.size; omega))).trans (hb4.mono (by have := hb1.size; have := hb2.size; have := hb3.size; omega))
  clear M2 M3 hb1 hb2 hb3 hb4 hL
  go_wp2_with fail
  go_loopw [4] (fun i wr => ∃ k : Nat, k ≤ 6 ∧ i = .int .i64 k ∧ Below w.heap.size w wr) (fun i _ => 6 - (intOf i).toNat)
  case atStart => exact ⟨0, by omega, rfl, B4⟩
  case round =>
    obtain ⟨k, hk, rfl, hB⟩ := hrel
    clear B4
    by_cases hlt : k < 6
    · have j1 : (k : Int) < 6 := by omega
      go_wp2_with fail
      go_loopw [5] (fun i wr => ∃ s : Nat, s ≤ 2 ∧ i = .int .i64 s ∧ Below w.heap.size w wr) (fun i _ => 2 - (intOf i).toNat)
      case atStart => exact ⟨0, by omega, rfl, hB⟩
      case round =>
        clear hB
        obtain ⟨s, hs, rfl, hB⟩ := hrel
        by_cases hls : s < 2
        · have j2 : (s : Int) < 2 := by omega
          have hd := owns_unlike hlt hls
          obtain ⟨r1, h1⟩ : ∃ r1, owB (startX (2 * (s : Int))) (k : Int) = r1 := ⟨_, rfl⟩
          obtain ⟨r2, h2⟩ : ∃ r2, owB (startX (2 * (s : Int) + 1)) (k : Int) = r2 := ⟨_, rfl⟩
          rw [h1, h2] at hd
          have H1 : Hid (owB (startX (2 * (s : Int))) (k : Int) = r1) := h1
          have H2 : Hid (owB (startX (2 * (s : Int) + 1)) (k : Int) = r2) := h2
          clear h1 h2
          go_wp2_with fail
          refine (iStart_any (2 * (s : Int)) _).mono ?_
          rintro e v1 ⟨b1, rfl, P1, c1⟩
          have D1 : Below w.heap.size w v1 := hB.trans (c1.mono hB.size)
          clear hB c1
          go_wp2_with fail
          refine (hO (2 * (s : Int)) b1 (k : Int) _ P1.inS).mono ?_
          rw [H1.out]
          rintro e v2 ⟨rfl, c2⟩
          have D2 : Below w.heap.size w v2 := D1.trans (c2.mono D1.size)
          clear D1 c2 P1
          go_wp2_with fail
          refine (iStart_any (2 * (s : Int) + 1) _).mono ?_
          rintro e v3 ⟨b3, rfl, P3, c3⟩
          have D3 : Below w.heap.size w v3 := D2.trans (c3.mono D2.size)
          clear D2 c3
          go_wp2_with fail
          refine (hO (2 * (s : Int) + 1) b3 (k : Int) _ P3.inS).mono ?_
          rw [H2.out]
          rintro e v4 ⟨rfl, c4⟩
          have D4 : Below w.heap.size w v4 := D3.trans (c4.mono D3.size)
          clear D3 c4 P3 H1 H2
          go_wp2_with fail
          go_roundw
          case rel => exact ⟨s + 1, by omega, by go_num, D4⟩
          case measure => simp [intOf]; omega
        · go_wp2_with fail
          go_roundw
          case rel => exact ⟨k + 1, by omega, by go_num, hB⟩
          case measure => simp [intOf]; omega
    · go_wp2_with fail
      refine (start_zero _).mono ?_
      rintro e v1 ⟨b1, rfl, c1⟩
      have D1 : Below w.heap.size w v1 := hB.trans (c1.mono hB.size)
      have i3 : ∀ W, (Instr.field 63 (.agg #[.int .i64 0, .bool true, .slice b1.la 3 b1.lc, .slice b1.va 0 b1.vc, .slice b1.wa 0 b1.wc, .slice b1.oa 0 b1.oc, .slice b1.ka 0 b1.kc]) 3).run Try.prog W = .ok (.slice b1.va 0 b1.vc) W := fun _ => by kernel_rfl
      clear hB c1
      go_wp2_with fail
      go_ret
      exact ⟨by simp, D1⟩
end Go.Proofs.Ytgdkoangpinieaa
