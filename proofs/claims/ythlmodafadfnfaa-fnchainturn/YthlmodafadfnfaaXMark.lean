/- The exact laws' marks: a row is written with numbers, and held against them. -/
import Derived.Test.YthlmodafadfnfaaXDeps
namespace Go.Proofs.Ythlmodafadfnfaa
open Go.ChangeShapes Go.WideShapes Go.ChangeAt Go.RowKit

/-- Marks: numbers from k on. -/
def markL (k : Int) (n : Nat) : List D := (List.range n).map fun (i : Nat) => ⟨k + 3 * (i : Int), k + 3 * (i : Int) + 1, k + 3 * (i : Int) + 2⟩
theorem markL_len (k : Int) (n : Nat) : (markL k n).length = n := by simp [markL]
theorem markL_succ (k : Int) (n : Nat) : markL k (n + 1) = markL k n ++ [⟨k + 3 * n, k + 3 * n + 1, k + 3 * n + 2⟩] := by simp [markL, List.range_succ]
theorem markL_at (k : Int) (n i : Nat) (h : i < (markL k n).length) : (markL k n)[i] = ⟨k + 3 * i, k + 3 * i + 1, k + 3 * i + 2⟩ := by simp [markL]
theorem grown_refl (w : World) (row : Option Nat) : w.grownBy w row := ⟨rfl, rfl, rfl, Nat.le_refl _, fun _ _ _ => rfl⟩
theorem grown_set {w w' : World} {g j : Nat} (h : w.grownBy w' (some g)) (v : Value) : w.grownBy (w'.setCell ⟨g, j, none⟩ v) (some g) :=
  ⟨h.os, h.tape, h.output, by have := h.size; simpa [World.setCell] using this, fun k hk hne => (Below.heap_setCell _ _ _ k (fun e => hne (by rw [e]))).trans (h.block k hk hne)⟩

set_option maxHeartbeats 2000000 in
theorem mark_some (g n cap base : Nat) (cs0 : List Value) (k : Int) (w : World) (hn : n ≤ 1048576) (hk0 : 0 ≤ k) (hk1 : k ≤ 10000000) (h : w.ownsRow base 51 3 (.slice (some ⟨g, 0, none⟩) n cap) n cs0) :
    Calls Try.prog 97 #[.slice (some ⟨g, 0, none⟩) n cap, .int .i64 k] w fun e w' => e = .returned (.int .i64 (k + 3 * n)) ∧ w'.ownsRow base 51 3 (.slice (some ⟨g, 0, none⟩) n cap) n (flat3 (markL k n)) ∧ w.grownBy w' (some g) := by
  go_enter Try.func97, Try.ntmps97
  go_wp2
  go_loopw [1, 5] (fun m i wr => ∃ (j : Nat) (cs : List Value), j ≤ n ∧ i = .int .i64 j ∧ m = .int .i64 (k + 3 * j) ∧ wr.ownsRow base 51 3 (.slice (some ⟨g, 0, none⟩) n cap) n cs ∧ cs.take (j * 3) = flat3 (markL k j) ∧ w.grownBy wr (some g)) (fun _ i _ => n - (intOf i).toNat)
  case atStart => exact ⟨0, cs0, Nat.zero_le _, rfl, by simp, h, by simp [markL, flat3], grown_refl _ _⟩
  case round =>
    obtain ⟨j, cs, hj, rfl, rfl, ho, hcs, hg⟩ := hrel
    clear h
    have hl2 : cs.length = n * 3 := ho.1
    by_cases hlt : j < n
    · have d0 : wr.cell? ⟨g, j * 3, none⟩ = some (cs[j * 3]'(by omega)) := by rw [ho.cellAt (j * 3) (by omega)]; exact List.getElem?_eq_getElem _
      have d1 : wr.cell? ⟨g, j * 3 + 1, none⟩ = some (cs[j * 3 + 1]'(by omega)) := by rw [ho.cellAt (j * 3 + 1) (by omega)]; exact List.getElem?_eq_getElem _
      have d2 : wr.cell? ⟨g, j * 3 + 2, none⟩ = some (cs[j * 3 + 2]'(by omega)) := by rw [ho.cellAt (j * 3 + 2) (by omega)]; exact List.getElem?_eq_getElem _
      have f0 : wr.frozen? ⟨g, j * 3, none⟩ = false := ho.frozenAt _
      have f1 : wr.frozen? ⟨g, j * 3 + 1, none⟩ = false := ho.frozenAt _
      have f2 : wr.frozen? ⟨g, j * 3 + 2, none⟩ = false := ho.frozenAt _
      generalize cs[j * 3]'(by omega) = u0 at *
      generalize cs[j * 3 + 1]'(by omega) = u1 at *
      generalize cs[j * 3 + 2]'(by omega) = u2 at *
      have ho4 := (((((ho.stored (j * 3) (.int .i64 (k + 3 * j))).1).stored (j * 3 + 1) (.int .i64 (k + 3 * j + 1))).1).stored (j * 3 + 2) (.int .i64 (k + 3 * j + 2))).1
      have HC : Hid ((((cs.set (j * 3) (.int .i64 (k + 3 * j))).set (j * 3 + 1) (.int .i64 (k + 3 * j + 1))).set (j * 3 + 2) (.int .i64 (k + 3 * j + 2))).take ((j + 1) * 3) = flat3 (markL k (j + 1))) := by
        show List.take _ _ = _
        rw [take_three cs j _ _ _ (by omega), hcs, markL_succ, flat3_snoc]
      have hg4 := grown_set (j := j * 3 + 2) (grown_set (j := j * 3 + 1) (grown_set (j := j * 3) hg (.int .i64 (k + 3 * j))) (.int .i64 (k + 3 * j + 1))) (.int .i64 (k + 3 * j + 2))
      have s1 : k + 3 * (j : Int) + 1 + 1 = k + 3 * j + 2 := by omega
      have HS : Hid (k + 3 * (j : Int) + 2 + 1 = k + 3 * ((j + 1 : Nat) : Int)) := by show k + 3 * (j : Int) + 2 + 1 = k + 3 * ((j + 1 : Nat) : Int); omega
      clear ho hcs hg
      go_wp2
      go_roundw
      case rel => exact ⟨j + 1, _, by omega, by go_num, by rw [← HS.out], ho4, HC.out, hg4⟩
      case measure => simp [intOf]; omega
    · have hk2 : j = n := by omega
      subst hk2
      rw [List.take_of_length_le (by omega)] at hcs
      subst hcs
      have HO : Hid _ := ho
      clear ho hl2
      go_wp2
      go_ret
      exact ⟨rfl, HO.out, hg⟩

theorem mark_nil (k : Int) (w : World) : Calls Try.prog 97 #[.slice none 0 0, .int .i64 k] w fun e w' => e = .returned (.int .i64 k) ∧ w' = w := by
  go_enter Try.func97, Try.ntmps97
  go_wp2
  go_loop [1, 5] (fun m i => m = .int .i64 k ∧ i = .int .i64 0) (fun _ _ => 0)
  case atStart => exact ⟨rfl, rfl⟩
  case round =>
    obtain ⟨rfl, rfl⟩ := hrel
    go_wp2
    go_ret
    exact ⟨rfl, rfl⟩

theorem mark_any (v : Value) (n base : Nat) (cs0 : List Value) (k : Int) (w : World) (hn : n ≤ 1048576) (hk0 : 0 ≤ k) (hk1 : k ≤ 10000000) (h : w.ownsRow base 51 3 v n cs0) :
    Calls Try.prog 97 #[v, .int .i64 k] w fun e w' => e = .returned (.int .i64 (k + 3 * n)) ∧ w'.ownsRow base 51 3 v n (flat3 (markL k n)) ∧ w.grownBy w' v.ownBlock := by
  rcases h.2 with ⟨rfl, rfl⟩ | ⟨g, cap, cur, rfl, _⟩
  · refine (mark_nil k w).mono ?_
    rintro e w' ⟨rfl, rfl⟩
    exact ⟨by simp, by simpa [markL, flat3] using World.ownsRow_nil _ _ _ _, grown_refl _ _⟩
  · exact mark_some g n cap base cs0 k w hn hk0 hk1 h

set_option maxHeartbeats 2000000 in
theorem held_any (a : Option Addr) (n cap : Nat) (k : Int) (w : World) (hn : n ≤ 1048576) (hk0 : 0 ≤ k) (hk1 : k ≤ 10000000) (h : Deps w a (markL k n)) :
    Calls Try.prog 98 #[.slice a n cap, .int .i64 k] w fun e w' => e = .returned (.int .i64 (k + 3 * n)) ∧ w' = w := by
  go_enter Try.func98, Try.ntmps98
  go_wp2
  go_loop [1, 5] (fun m i => ∃ j : Nat, j ≤ n ∧ i = .int .i64 j ∧ m = .int .i64 (k + 3 * j)) (fun _ i => n - (intOf i).toNat)
  case atStart => exact ⟨0, Nat.zero_le _, rfl, by simp⟩
  case round =>
    obtain ⟨j, hj, rfl, rfl⟩ := hrel
    by_cases hlt : j < n
    · obtain ⟨b, o, rfl, hbb, e0, e1, e2⟩ := h.at (k := j) (by rw [markL_len]; exact hlt)
      rw [markL_at] at e0 e1 e2
      simp only at e0 e1 e2
      have s1 : k + 3 * (j : Int) + 1 + 1 = k + 3 * j + 2 := by omega
      have HS : Hid (k + 3 * (j : Int) + 2 + 1 = k + 3 * ((j + 1 : Nat) : Int)) := by show k + 3 * (j : Int) + 2 + 1 = k + 3 * ((j + 1 : Nat) : Int); omega
      clear h
      go_wp2
      go_round
      case rel => exact ⟨j + 1, by omega, by go_num, by rw [← HS.out]⟩
      case measure => simp [intOf]; omega
    · have hk2 : j = n := by omega
      subst hk2
      clear h
      go_wp2
      go_ret
      exact ⟨rfl, rfl⟩
end Go.Proofs.Ythlmodafadfnfaa
