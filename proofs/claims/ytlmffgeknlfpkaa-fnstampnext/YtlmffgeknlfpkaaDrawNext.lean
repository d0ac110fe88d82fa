/- A site and stamps are drawn. -/
import Derived.Test.YtlmffgeknlfpkaaStamp
import Derived.Test.YtlmffgeknlfpkaaNextNum
namespace Go.Proofs.Ytlmffgeknlfpkaa
open Go.ChangeShapes Go.WideShapes Go.ChangeAt Go.RowKit

/-- Stamps as cells, one behind the other. -/
def flat (xs : List (Int × Int)) : List Value := xs.flatMap fun x => [.int .i64 x.1, .int .i64 x.2]
theorem flat_snoc (xs : List (Int × Int)) (t s : Int) : flat (xs ++ [(t, s)]) = flat xs ++ [.int .i64 t, .int .i64 s] := by simp [flat]
theorem flat_len (xs : List (Int × Int)) : (flat xs).length = xs.length * 2 := by
  induction xs with
  | nil => rfl
  | cons x xs ih => simp [flat] at *; omega
theorem flat_at (xs : List (Int × Int)) : ∀ k, (hk : k < xs.length) → (flat xs)[k * 2]? = some (.int .i64 xs[k].1) ∧ (flat xs)[k * 2 + 1]? = some (.int .i64 xs[k].2) := by
  induction xs with
  | nil => intro k hk; cases hk
  | cons x xs ih =>
    intro k hk
    have e : flat (x :: xs) = .int .i64 x.1 :: .int .i64 x.2 :: flat xs := rfl
    cases k with
    | zero => rw [e]; simp
    | succ k =>
      have := ih k (by simpa using hk)
      rw [e, show (k + 1) * 2 = k * 2 + 1 + 1 by omega]
      simpa using this
/-- A row of the call's own that holds stamps. -/
theorem stamps_of_row {w : World} {base : Nat} {e : TypeId} {v : Value} {xs : List (Int × Int)} (h : w.ownsRow base e 2 v xs.length (flat xs)) : ∃ a cap, v = .slice a xs.length cap ∧ Stamps w a xs := by
  rcases h.2 with ⟨rfl, hn⟩ | ⟨g, cap, cur, rfl, hb, hg, hr⟩
  · refine ⟨none, 0, by rw [hn], .inl (List.length_eq_zero_iff.1 hn)⟩
  · refine ⟨_, cap, rfl, .inr ⟨g, 0, rfl, (Array.getElem?_eq_some_iff.1 hg).1, fun k hk => ?_⟩⟩
    have c := h.cellAt
    have f := flat_at xs k hk
    refine ⟨?_, ?_⟩
    · rw [c (0 + k * 2) (by omega)]; simpa using f.1
    · rw [c (0 + k * 2 + 1) (by omega)]; simpa using f.2
theorem row_some {w : World} {base : Nat} {e : TypeId} {size : Nat} {v : Value} {n : Nat} {xs : List Value} (h : w.ownsRow base e size v n xs) (hv : v ≠ .slice none 0 0) : ∃ g cap, v = .slice (some ⟨g, 0, none⟩) n cap := by
  rcases h.2 with ⟨h, _⟩ | ⟨g, cap, cur, rfl, _⟩
  · exact absurd h hv
  · exact ⟨g, cap, rfl⟩
/-- The cells of stamps that lie in memory. -/
theorem stamps_cells {w : World} {b o : Nat} {xs : List (Int × Int)} (h : Stamps w (some ⟨b, o, none⟩) xs) : ∀ (j : Nat) (u : Value), (flat xs)[j]? = some u → w.cell? ((Addr.mk b o none).add j) = some u := by
  intro j u hj
  have hlt : j < (flat xs).length := (List.getElem?_eq_some_iff.1 hj).1
  rw [flat_len] at hlt
  have ha : (Addr.mk b o none).add j = ⟨b, o + j, none⟩ := by by_cases h : j = 0 <;> simp [Addr.add, h]
  rw [ha]
  rcases h with rfl | ⟨b', o', he, _, h⟩
  · simp at hlt
  · simp at he
    obtain ⟨rfl, rfl⟩ := he
    have hk : j / 2 < xs.length := by omega
    obtain ⟨c0, c1⟩ := h (j / 2) hk
    obtain ⟨f0, f1⟩ := flat_at xs (j / 2) hk
    rcases Nat.mod_two_eq_zero_or_one j with hm | hm
    · rw [show j / 2 * 2 = j by omega] at c0 f0
      rw [c0, ← f0, hj]
    · rw [show o + j / 2 * 2 + 1 = o + j by omega] at c1
      rw [show j / 2 * 2 + 1 = j by omega] at f1
      rw [c1, ← f1, hj]
theorem flat_one (xs : List (Int × Int)) : ∀ u ∈ flat xs, u.oneCell' = true := by
  intro u hu
  simp only [flat, List.mem_flatMap] at hu
  obtain ⟨x, _, hx⟩ := hu
  simp at hx
  rcases hx with rfl | rfl <;> rfl
theorem row_stp {B : Nat} {w w' : World} {e : TypeId} {size : Nat} {v : Value} {n : Nat} {xs : List Value} (h : w.ownsRow (B + 1) e size v n xs) (k : Stp B w w') : w'.ownsRow (B + 1) e size v n xs := by
  refine ⟨h.1, ?_⟩
  rcases h.2 with hn | ⟨g, cap, cur, rfl, hb, hg, rest⟩
  · exact .inl hn
  · exact .inr ⟨g, cap, cur, rfl, hb, (k.block g (Array.getElem?_eq_some_iff.1 hg).1 (by omega)).trans hg, rest⟩
theorem rd_grown {B : Nat} {w w' : World} {p : Int} {row : Option Nat} (h : Rd w B p) (g : w.grownBy w' row) (hr : ∀ k, row = some k → B + 1 ≤ k) : Rd w' B p :=
  h.of_block g.size fun k hk => g.block k (by have := h.1; omega) (fun e => by have := hr k e.symm; omega)

theorem info24 : (Try.prog.info? 24).map (fun i => (i.zero, i.size, i.bytes)) = some (some (.agg #[.int .i64 0, .int .i64 0]), 2, 16) := by kernel_rfl

set_option maxHeartbeats 2000000 in
theorem drawNext (w : World) (a : Option Addr) (len cap : Nat) (h : Code w a len cap) :
    Calls Try.prog 13 #[.slice a len cap] w fun e w' => ∃ (site : Int) (xs : List (Int × Int)) (g : Nat) (cap' : Nat), e = .returned (.tuple #[.int .i64 site, .slice (some ⟨g, 0, none⟩) xs.length cap']) ∧ -1 ≤ site ∧ site ≤ 5 ∧ xs.length ≤ 5 ∧ Stamps w' (some ⟨g, 0, none⟩) xs ∧ Below w.heap.size w w' := by
  obtain ⟨i0, hi, hz0, hz1, hz2⟩ := info_parts info24
  go_enter Try.func13, Try.ntmps13
  go_wp2_with fail
  refine (open_any w a len cap h).mono ?_
  rintro e w1 ⟨rfl, hr, hb, hs⟩
  go_wp2_with fail
  refine (pick_any _ 0 6 _ (hr.alloc _) (by omega) (by omega)).mono ?_
  rintro e w2 ⟨n, rfl, n0, n1, hr2, hs2, hz2⟩
  have hown0 : w2.ownsRow (w.heap.size + 1) 24 2 (.slice (some ⟨w.heap.size + 1, 0, none⟩) 0 0) 0 [] := by
    have := World.ownsRow_made (base := w.heap.size + 1) (e := 24) (size := 2) w1 #[] 0 (by omega) (by unfold maxLen; omega) rfl
    rw [hs] at this
    exact row_stp this hs2
  have hB2 : Below w.heap.size w w2 := hs2.below (hb.alloc hb.size _) (Nat.le_refl _)
  clear hb hr hs2 hs hz2
  obtain ⟨m, rfl⟩ := Int.eq_ofNat_of_zero_le n0
  have hm : m ≤ 5 := by omega
  clear n0 n1
  go_wp2_with fail
  go_loopw [5, 6] (fun v i wr => ∃ (k : Nat) (xs : List (Int × Int)) (p : Int), k + xs.length ≤ 5 ∧ i = .int .i64 k ∧ p ≤ 1 + 4 * xs.length ∧ wr.ownsRow (w.heap.size + 1) 24 2 v xs.length (flat xs) ∧ v ≠ .slice none 0 0 ∧ Rd wr w.heap.size p ∧ Below w.heap.size w wr) (fun _ i _ => (intOf i).toNat)
  case atStart => exact ⟨m, [], 1, by simpa using hm, rfl, by simp, hown0, by simp, hr2, hB2⟩
  case round =>
    obtain ⟨k, xs, p, hk, rfl, hp, hown, hnn, hR, hB⟩ := hrel
    have HNN : Hid _ := hnn
    clear hnn
    clear hown0 hr2 hB2 hm
    have hRB := hR.1
    by_cases hk0 : (0 : Int) < k
    · go_wp2_with fail
      refine (drawStamp _ p _ hR (by omega)).mono ?_
      rintro e w3 ⟨t, s, p', rfl, _, _, _, _, q1, q2, hr3, hs3⟩
      have hown3 := row_stp hown hs3
      have hB3 : Below w.heap.size w w3 := hs3.below hB (Nat.le_refl _)
      have hB3s := hr3.1
      clear hR hB hown hs3
      have L := xs.length
      go_wp2_with (first | (at_builtin; refine wpList_append_own _ rfl _ _ 32 rfl (w.heap.size + 1) 24 i0 (.agg #[.int .i64 0, .int .i64 0]) 2 16 Try.underlying32 hi hz0 hz1 hz2 rfl (by decide) _ _ _ rfl (hown3.alloc _) ⟨w3.heap.size, 0, none⟩ 1 1 [.int .i64 t, .int .i64 s] rfl rfl ?c1 ?c2 ?c3 ?c4 ?c5 ?_))
      case c1 =>
        intro j u hj
        match j, hj with
        | 0, hj => simp at hj; subst hj; simp [Addr.add, go_sem]
        | 1, hj => simp at hj; subst hj; simp [Addr.add, go_sem]
        | (j + 2), hj => simp at hj
      case c2 => intro u hu; simp at hu; rcases hu with rfl | rfl <;> rfl
      case c3 => unfold maxLen; omega
      case c4 => omega
      case c5 => simp; omega
      intro v' w4 hown4 hg4 hnil
      have hn4 : v' ≠ .slice none 0 0 := hnil
      clear hnil
      have hrow : ∀ j, (Value.ownBlock _) = some j → w.heap.size + 1 ≤ j := fun j hj => ((hown3.lt j hj).1)
      have hR4 := rd_grown (hr3.alloc (.cells #[.int .i64 t, .int .i64 s] 24)) hg4 hrow
      have hB4 : Below w.heap.size w w4 := (hB3.alloc hB3.size _).grown hg4 (by have := hB3.size; simp; omega) (fun j hj => by have := hrow j hj; omega)
      rw [← flat_snoc] at hown4
      clear hown3 hg4 hr3 hB3 hrow
      go_wp2
      go_roundw
      case rel => exact ⟨k - 1, xs ++ [(t, s)], p', by simp; omega, by go_num, by simp; omega, by simpa using hown4, hn4, hR4, hB4⟩
      case measure => simp [intOf]; omega
    · have hk1 : k = 0 := by omega
      subst hk1
      obtain ⟨g, cp, hv⟩ := row_some hown HNN.out
      subst hv
      go_wp2_with fail
      refine (pick_any _ p 7 _ hR (by omega) (by omega)).mono ?_
      rintro e w3 ⟨n, rfl, n0, n1, hr3, hs3, hz3⟩
      obtain ⟨b', cp', hv', hS3⟩ := stamps_of_row (row_stp hown hs3)
      simp at hv'
      obtain ⟨rfl, rfl⟩ := hv'
      have hB3 : Below w.heap.size w w3 := hs3.below hB (Nat.le_refl _)
      clear hR hB hown hs3 hz3 HNN
      go_wp2
      go_ret2
      exact ⟨n - 1, xs, _, _, rfl, by omega, by omega, by omega, hS3, hB3⟩
end Go.Proofs.Ytlmffgeknlfpkaa
