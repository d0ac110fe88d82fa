/- The exact law of StampNext: lists are copied, and held against each other. -/
import Derived.Test.YtlmffgeknlfpkasExactOk
import Derived.Test.YtlmffgeknlfpkasFlat
import Derived.Test.YtlmffgeknlfpkasSNext
import Derived.Test.YtlmffgeknlfpkasINext2
namespace Go.Proofs.Ytlmffgeknlfpkas
open Go.ChangeShapes Go.WideShapes Go.ChangeAt Go.RowKit

theorem sNext_any (site : Int) (a : Option Addr) (cap : Nat) (xs : List (Int × Int)) (w : World) (hn : xs.length ≤ 1099511627776) (h : Stamps w a xs) :
    Calls Try.prog 12 #[.int .i64 site, .slice a xs.length cap] w fun e w' => e = .returned (nextV site xs) ∧ Below w.heap.size w w' := by
  rcases hs : inB site 0 3 with _ | _
  · exact sNext_no site a _ cap xs w hs
  · exact sNext_yes site a cap xs w hs hn h

theorem sz_any (a : Option Addr) (n cap : Nat) (w : World) (hn : n ≤ maxLen) :
    Calls Try.prog 11 #[.slice a n cap, .int .i64 1048576] w fun e w' => e = .returned (.int .i64 (if 1048576 < (n : Int) then -1 else 1048576 - n)) ∧ w' = w := by
  unfold maxLen at hn
  by_cases h : 1048576 < (n : Int)
  · rw [if_pos h]
    go_enter Try.func11, Try.ntmps11
    go_wp2
    go_ret
    exact ⟨rfl, rfl⟩
  · rw [if_neg h]
    go_enter Try.func11, Try.ntmps11
    go_wp2
    go_ret
    exact ⟨rfl, rfl⟩

theorem take_two (cs : List Value) (k : Nat) (u v : Value) (h : k * 2 + 1 < cs.length) : ((cs.set (k * 2) u).set (k * 2 + 1) v).take ((k + 1) * 2) = cs.take (k * 2) ++ [u, v] := by
  apply List.ext_getElem?
  intro i
  simp only [List.getElem?_take, List.getElem?_set, List.getElem?_append, List.length_take, List.length_set]
  rcases Nat.lt_trichotomy i (k * 2) with hi | hi | hi
  · rw [if_pos (by omega), if_neg (by omega), if_neg (by omega), if_pos (by omega), if_pos (by omega)]
  · subst hi
    rw [if_pos (by omega), if_neg (by omega), if_pos rfl, if_pos (by omega), if_neg (by omega)]
    simp [show min (k * 2) cs.length = k * 2 by omega]
  · rcases Nat.lt_trichotomy i (k * 2 + 1) with hj | hj | hj
    · omega
    · subst hj
      rw [if_pos (by omega), if_pos rfl, if_pos (by omega), if_neg (by omega)]
      simp [show min (k * 2) cs.length = k * 2 by omega]
    · rw [if_neg (by omega), if_neg (by omega)]
      simp [show min (k * 2) cs.length = k * 2 by omega]
      omega

set_option maxHeartbeats 2000000 in
theorem toStamps_any (a : Option Addr) (cap : Nat) (xs : List (Int × Int)) (w : World) (hn : xs.length ≤ 1048576) (h : Stamps w a xs) :
    Calls Try.prog 13 #[.slice a xs.length cap] w fun e w' => ∃ b, e = .returned (.slice (some ⟨b, 0, none⟩) xs.length xs.length) ∧ Stamps w' (some ⟨b, 0, none⟩) xs ∧ Below w.heap.size w w' := by
  obtain ⟨i0, hi, hz0, hz1, hz2⟩ := info_parts info25
  go_enter Try.func13, Try.ntmps13
  go_wp2_with (first | (at_make; refine wpList_make_full _ rfl _ _ 34 rfl w.heap.size 25 i0 (.agg #[.int .i64 0, .int .i64 0]) 2 Try.underlying34 hi hz0 hz1 .i64 .i64 _ _ xs.length rfl rfl rfl rfl (by rw [hz2]; omega) (by unfold maxLen; omega) (Nat.le_refl _) ?_))
  intro w1 hown hg
  have B1 : Below w.heap.size w w1 := (Below.refl _ _).grown hg (Nat.le_refl _) (fun k hk => by cases hk)
  clear hg
  go_wp2_with fail
  go_loopw [4] (fun i wr => ∃ (k : Nat) (cs : List Value), k ≤ xs.length ∧ i = .int .i64 k ∧ wr.ownsRow w.heap.size 25 2 (.slice (some ⟨w.heap.size, 0, none⟩) xs.length xs.length) xs.length cs ∧ cs.take (k * 2) = flat (xs.take k) ∧ Below w.heap.size w wr) (fun i _ => xs.length - (intOf i).toNat)
  case atStart => exact ⟨0, _, Nat.zero_le _, rfl, hown, by simp [flat], B1⟩
  case round =>
    obtain ⟨k, cs, hk, rfl, ho, hcs, hB⟩ := hrel
    clear hown B1
    by_cases hlt : k < xs.length
    · rcases h.below hB with hS | ⟨b, o, rfl, hbb, hS⟩
      · rw [hS] at hlt; simp at hlt
      · obtain ⟨e0, e1⟩ := hS k hlt
        have HT : Hid (flat (xs.take (k + 1)) = flat (xs.take k) ++ [.int .i64 xs[k].1, .int .i64 xs[k].2]) := by
          show flat (xs.take (k + 1)) = _
          rw [take_more xs k hlt]; exact flat_snoc _ _ _
        generalize hx : xs[k] = x at *
        obtain ⟨t, s⟩ := x
        clear hS hx
        go_wp2_with fail
        refine (toStamp_any _ _ _).mono ?_
        rintro e w2 ⟨rfl, hb2⟩
        have ho2 := row_below ho hb2
        have hB2 : Below w.heap.size w w2 := hB.trans (hb2.mono hB.size)
        have hl2 : cs.length = xs.length * 2 := ho.1
        have d0 : w2.cell? ⟨w.heap.size, k * 2, none⟩ = some (cs[k * 2]'(by omega)) := by rw [ho2.cellAt (k * 2) (by omega)]; exact List.getElem?_eq_getElem _
        have d1 : w2.cell? ⟨w.heap.size, k * 2 + 1, none⟩ = some (cs[k * 2 + 1]'(by omega)) := by rw [ho2.cellAt (k * 2 + 1) (by omega)]; exact List.getElem?_eq_getElem _
        have f0 : w2.frozen? ⟨w.heap.size, k * 2, none⟩ = false := ho2.frozenAt _
        have f1 : w2.frozen? ⟨w.heap.size, k * 2 + 1, none⟩ = false := ho2.frozenAt _
        generalize cs[k * 2]'(by omega) = u0 at *
        generalize cs[k * 2 + 1]'(by omega) = u1 at *
        have ho4 := (((ho2.stored (k * 2) (.int .i64 t)).1).stored (k * 2 + 1) (.int .i64 s)).1
        have HC : Hid (((cs.set (k * 2) (.int .i64 t)).set (k * 2 + 1) (.int .i64 s)).take ((k + 1) * 2) = flat (xs.take (k + 1))) := by
          show List.take _ _ = _
          rw [take_two cs k _ _ (by omega), hcs, HT.out]
        clear ho ho2 hb2 hB e0 e1 hcs HT
        go_wp2
        go_roundw
        case rel => exact ⟨k + 1, _, by omega, by go_num, ho4, HC.out, (hB2.setCell (by simp) _).setCell (by simp) _⟩
        case measure => simp [intOf]; omega
    · have hk2 : k = xs.length := by omega
      subst hk2
      have hl2 : cs.length = xs.length * 2 := ho.1
      rw [List.take_length, List.take_of_length_le (by omega)] at hcs
      subst hcs
      obtain ⟨b', c', hv, hS⟩ := stamps_of_row ho
      simp at hv
      obtain ⟨rfl, rfl⟩ := hv
      clear ho hl2
      go_wp2
      go_ret
      exact ⟨_, rfl, hS, hB⟩

theorem eqStamp_any (t s : Int) (w : World) : Calls Try.prog 15 #[stampV t s, stampV t s] w fun e w' => e = .returned (.bool true) ∧ Below w.heap.size w w' := by
  go_enter Try.func15, Try.ntmps15
  go_wp2
  go_ret
  exact ⟨rfl, ((Below.refl _ _).alloc (Nat.le_refl _) _).alloc (by simp) _⟩

/-- What is known in a round of the comparison of two lists. -/
def Eq2 (w0 : World) (b c k : Nat) (xs : List (Int × Int)) (t s : Int) (w : World) : Prop :=
  Below w0.heap.size w0 w ∧ Stamps w (some ⟨b, 0, none⟩) xs ∧ Stamps w (some ⟨c, 0, none⟩) xs ∧ b < w.heap.size ∧ c < w.heap.size ∧ w.cell? ⟨b, k * 2, none⟩ = some (.int .i64 t) ∧ w.cell? ⟨b, k * 2 + 1, none⟩ = some (.int .i64 s) ∧ w.cell? ⟨c, k * 2, none⟩ = some (.int .i64 t) ∧ w.cell? ⟨c, k * 2 + 1, none⟩ = some (.int .i64 s)
theorem Eq2.below {w0 w w' : World} {b c k : Nat} {xs : List (Int × Int)} {t s : Int} (h : Eq2 w0 b c k xs t s w) (d : Below w.heap.size w w') : Eq2 w0 b c k xs t s w' := by
  obtain ⟨h1, h2, h3, h4, h5, h6, h7, h8, h9⟩ := h
  exact ⟨h1.trans (d.mono h1.size), h2.below d, h3.below d, Nat.lt_of_lt_of_le h4 d.size, Nat.lt_of_lt_of_le h5 d.size, (d.cell (p := ⟨b, _, none⟩) h4).trans h6, (d.cell (p := ⟨b, _, none⟩) h4).trans h7, (d.cell (p := ⟨c, _, none⟩) h5).trans h8, (d.cell (p := ⟨c, _, none⟩) h5).trans h9⟩
theorem Eq2.drew {w0 w : World} {b c k : Nat} {xs : List (Int × Int)} {t s : Int} (h : Eq2 w0 b c k xs t s w) : Eq2 w0 b c k xs t s w.drew := h.below (Below.refl _ _).drew
theorem eq2_of {w0 w : World} {b c k : Nat} {xs : List (Int × Int)} (h1 : Below w0.heap.size w0 w) (h2 : Stamps w (some ⟨b, 0, none⟩) xs) (h3 : Stamps w (some ⟨c, 0, none⟩) xs) (hk : k < xs.length) : Eq2 w0 b c k xs xs[k].1 xs[k].2 w := by
  have g2 := h2
  have g3 := h3
  rcases h2 with h2 | ⟨b', o', he, hb, h2⟩
  · rw [h2] at hk; simp at hk
  · rcases h3 with h3 | ⟨c', o2, he2, hc, h3⟩
    · rw [h3] at hk; simp at hk
    · simp at he he2
      obtain ⟨rfl, rfl⟩ := he
      obtain ⟨rfl, rfl⟩ := he2
      have k2 := h2 k hk
      have k3 := h3 k hk
      simp only [Nat.zero_add] at k2 k3
      exact ⟨h1, g2, g3, hb, hc, k2.1, k2.2, k3.1, k3.2⟩

set_option maxHeartbeats 2000000 in
theorem eqStamps_any (b c : Nat) (xs : List (Int × Int)) (cap cap' : Nat) (w : World) (hn : xs.length ≤ 1048576) (h2 : Stamps w (some ⟨b, 0, none⟩) xs) (h3 : Stamps w (some ⟨c, 0, none⟩) xs) :
    Calls Try.prog 16 #[.slice (some ⟨b, 0, none⟩) xs.length cap, .slice (some ⟨c, 0, none⟩) xs.length cap'] w fun e w' => e = .returned (.bool true) ∧ Below w.heap.size w w' := by
  go_enter Try.func16, Try.ntmps16
  go_wp2
  go_loopw [5] (fun i wr => ∃ k : Nat, k ≤ xs.length ∧ i = .int .i64 k ∧ Below w.heap.size w wr) (fun i _ => xs.length - (intOf i).toNat)
  case atStart => exact ⟨0, Nat.zero_le _, rfl, Below.refl _ _⟩
  case round =>
    obtain ⟨k, hk, rfl, hB⟩ := hrel
    by_cases hlt : k < xs.length
    · have R := eq2_of hB (h2.below hB) (h3.below hB) hlt
      generalize xs[k].1 = t at *
      generalize xs[k].2 = s at *
      clear hB h2 h3
      go_wp2_with fail
      go_region_held3 (fun W => Below w.heap.size w W ∧ Stamps W (some ⟨b, 0, none⟩) xs ∧ Stamps W (some ⟨c, 0, none⟩) xs ∧ b < W.heap.size ∧ c < W.heap.size ∧ W.cell? ⟨b, k * 2, none⟩ = some (.int .i64 t) ∧ W.cell? ⟨b, k * 2 + 1, none⟩ = some (.int .i64 s) ∧ W.cell? ⟨c, k * 2, none⟩ = some (.int .i64 t) ∧ W.cell? ⟨c, k * 2 + 1, none⟩ = some (.int .i64 s)) (first | exact Eq2.drew (by assumption) | exact Eq2.below (by assumption) (by assumption)) (first | (go_at_call 15; refine (eqStamp_any _ _ _).mono ?_; rintro e w5 ⟨rfl, hb5⟩))
      rename_i R2
      have I2 : Below w.heap.size w _ := R2.1
      clear R R2
      go_wp2
      go_roundw
      case rel => exact ⟨k + 1, by omega, by go_num, I2⟩
      case measure => simp [intOf]; omega
    · go_wp2
      go_ret
      exact ⟨rfl, hB⟩
end Go.Proofs.Ytlmffgeknlfpkas
