/- 6 texts in one: XSlot, XServ, XServM, XServE, XServT, OpenServ. -/
import Derived.Test.YtpjidogilofppaaGreatZN
import Derived.Test.YtpjidogilofppaaGreatGAH
import Derived.Test.YtpjidogilofppaaGreatGAK
import Derived.Test.YtpjidogilofppaaGreatZR
import Derived.Test.YtpjidogilofppaaGreatZC
import Derived.Test.YtpjidogilofppaaGreatGAQ
import Derived.ChangeOld
/- The exact laws' helpers: slots are copied, held against each other, and marked. -/
namespace Go.Proofs.YtpjidogilofppaaGreat
open Go.ChangeShapes Go.WideShapes Go.ChangeAt Go.RowKit

theorem szSlots_any (a : Option Addr) (n cap : Nat) (left : Int) (w : World) (hn : n ≤ maxLen) (h0 : 0 ≤ left) (h1 : left ≤ 1048576) :
    Calls Tryz.prog 39 #[.slice a n cap, .int .i64 left] w fun e w' => e = .returned (.int .i64 (if left < (n : Int) then -1 else left - n)) ∧ w' = w := by
  unfold maxLen at hn
  by_cases h : left < (n : Int)
  · rw [if_pos h]
    have h' : left - n < 0 := by omega
    go_enter Tryz.func39, Tryz.ntmps39
    go_wp2
    go_ret
    exact ⟨rfl, rfl⟩
  · rw [if_neg h]
    have h' : ¬ left - n < 0 := by omega
    go_enter Tryz.func39, Tryz.ntmps39
    go_wp2
    go_ret
    exact ⟨rfl, rfl⟩
theorem toSlot_any (x : Sl) (w : World) : Calls Tryz.prog 120 #[slotV x] w fun e w' => e = .returned (slotV x) ∧ Below w.heap.size w w' := by
  go_enter Tryz.func120, Tryz.ntmps120
  go_wp2
  refine bodyPost_ret (v := slotV x) (by simp [results, Tryz.results120, go_sem]) rfl ⟨rfl, ?_⟩
  exact (((Below.refl _ _).alloc (Nat.le_refl _) _).alloc (by simp) _).alloc (by simp; omega) _
theorem take_two2 (cs : List Value) (k : Nat) (u v : Value) (h : k * 2 + 1 < cs.length) : ((cs.set (k * 2) u).set (k * 2 + 1) v).take ((k + 1) * 2) = cs.take (k * 2) ++ [u, v] := by
  apply List.ext_getElem?
  intro i
  simp only [List.getElem?_take, List.getElem?_set, List.getElem?_append, List.length_take, List.length_set]
  rcases Nat.lt_trichotomy i (k * 2) with hi | hi | hi
  · rw [if_pos (by omega), if_neg (by omega), if_neg (by omega), if_pos (by omega), if_pos (by omega)]
  · subst hi
    rw [if_pos (by omega), if_neg (by omega), if_pos rfl, if_pos (by omega), if_neg (by omega)]
    simp [show min (k * 2) cs.length = k * 2 by omega]
  · rcases Nat.lt_trichotomy i (k * 2 + 1) with hj | hj | hj
    · omega
    · subst hj
      rw [if_pos (by omega), if_pos rfl, if_pos (by omega), if_neg (by omega)]
      simp [show min (k * 2) cs.length = k * 2 by omega]
    · rw [if_neg (by omega), if_neg (by omega)]
      simp [show min (k * 2) cs.length = k * 2 by omega]
      omega
theorem takeS (xs : List Sl) (k : Nat) (h : k < xs.length) : xs.take (k + 1) = xs.take k ++ [xs[k]] := by rw [List.take_succ_eq_append_getElem h]
theorem rowS_slots {w : World} {base n cap : Nat} {a : Option Addr} {xs : List Sl} (h : w.ownsRow base 84 2 (.slice a n cap) xs.length (flat2 xs)) : Slots w a xs := by
  obtain ⟨a', c, he, hD, _⟩ := slots_of_row h
  simp at he
  obtain ⟨rfl, _⟩ := he
  exact hD

set_option maxHeartbeats 2000000 in
theorem toSlots_any (a : Option Addr) (cap : Nat) (xs : List Sl) (w : World) (hn : xs.length ≤ 1048576) (h : Slots w a xs) :
    Calls Tryz.prog 45 #[.slice a xs.length cap] w fun e w' => ∃ b, e = .returned (.slice (some ⟨b, 0, none⟩) xs.length xs.length) ∧ w.heap.size ≤ b ∧ w'.ownsRow w.heap.size 84 2 (.slice (some ⟨b, 0, none⟩) xs.length xs.length) xs.length (flat2 xs) ∧ Below w.heap.size w w' := by
  obtain ⟨i0, hi, hz0, hz1, hz2⟩ := info_parts infoSlot
  go_enter Tryz.func45, Tryz.ntmps45
  go_wp2_with (first | (at_make; refine wpList_make_full _ rfl _ _ 28 rfl w.heap.size 84 i0 (.agg #[.int .i64 0, .int .i64 0]) 2 Tryz.underlying28 hi hz0 hz1 .i64 .i64 _ _ xs.length rfl rfl rfl rfl (by rw [hz2]; omega) (by unfold maxLen; omega) (Nat.le_refl _) ?_))
  intro w1 hown hg
  have B1 : Below w.heap.size w w1 := (Below.refl _ _).grown hg (Nat.le_refl _) (fun k hk => by cases hk)
  clear hg
  go_wp2_with fail
  go_loopw [4] (fun i wr => ∃ (k : Nat) (cs : List Value), k ≤ xs.length ∧ i = .int .i64 k ∧ wr.ownsRow w.heap.size 84 2 (.slice (some ⟨w.heap.size, 0, none⟩) xs.length xs.length) xs.length cs ∧ cs.take (k * 2) = flat2 (xs.take k) ∧ Below w.heap.size w wr) (fun i _ => xs.length - (intOf i).toNat)
  case atStart => exact ⟨0, _, Nat.zero_le _, rfl, hown, by simp [flat2], B1⟩
  case round =>
    obtain ⟨k, cs, hk, rfl, ho, hcs, hB⟩ := hrel
    clear hown B1
    by_cases hlt : k < xs.length
    · obtain ⟨b, o, rfl, hbb, e0, e1⟩ := (h.below hB).at hlt
      have HT : Hid (flat2 (xs.take (k + 1)) = flat2 (xs.take k) ++ [.int .i64 xs[k].ep, .int .i64 xs[k].st]) := by
        show flat2 (xs.take (k + 1)) = _
        rw [takeS xs k hlt]; exact flat2_snoc _ _
      generalize xs[k] = y at *
      go_wp2_with fail
      refine (toSlot_any y _).mono ?_
      rintro e w2 ⟨rfl, hb2⟩
      have ho2 := row_below ho hb2 (Nat.le_refl _)
      have hB2 : Below w.heap.size w w2 := hB.trans (hb2.mono hB.size)
      have hl2 : cs.length = xs.length * 2 := ho.1
      have d0 : w2.cell? ⟨w.heap.size, k * 2, none⟩ = some (cs[k * 2]'(by omega)) := by rw [ho2.cellAt (k * 2) (by omega)]; exact List.getElem?_eq_getElem _
      have d1 : w2.cell? ⟨w.heap.size, k * 2 + 1, none⟩ = some (cs[k * 2 + 1]'(by omega)) := by rw [ho2.cellAt (k * 2 + 1) (by omega)]; exact List.getElem?_eq_getElem _
      have f0 : w2.frozen? ⟨w.heap.size, k * 2, none⟩ = false := ho2.frozenAt _
      have f1 : w2.frozen? ⟨w.heap.size, k * 2 + 1, none⟩ = false := ho2.frozenAt _
      generalize cs[k * 2]'(by omega) = u0 at *
      generalize cs[k * 2 + 1]'(by omega) = u1 at *
      have ho4 := (((ho2.stored (k * 2) (.int .i64 y.ep)).1).stored (k * 2 + 1) (.int .i64 y.st)).1
      have HC : Hid (((cs.set (k * 2) (.int .i64 y.ep)).set (k * 2 + 1) (.int .i64 y.st)).take ((k + 1) * 2) = flat2 (xs.take (k + 1))) := by
        show List.take _ _ = _
        rw [take_two2 cs k _ _ (by omega), hcs, HT.out]
      clear ho ho2 hb2 hB e0 e1 hcs HT
      go_wp2
      go_roundw
      case rel => exact ⟨k + 1, _, by omega, by go_num, ho4, HC.out, (hB2.setCell (by simp) _).setCell (by simp) _⟩
      case measure => simp [intOf]; omega
    · have hk2 : k = xs.length := by omega
      subst hk2
      have hl2 : cs.length = xs.length * 2 := ho.1
      rw [List.take_length, List.take_of_length_le (by omega)] at hcs
      subst hcs
      have HO : Hid _ := ho
      clear ho hl2
      go_wp2
      go_ret
      exact ⟨_, rfl, Nat.le_refl _, HO.out, hB⟩

theorem eqSlot_any (x : Sl) (w : World) : Calls Tryz.prog 133 #[slotV x, slotV x] w fun e w' => e = .returned (.bool true) ∧ Below w.heap.size w w' := by
  go_enter Tryz.func133, Tryz.ntmps133
  go_wp2
  go_ret
  exact ⟨rfl, ((Below.refl _ _).alloc (Nat.le_refl _) _).alloc (by simp) _⟩
set_option maxHeartbeats 2000000 in
theorem eqSlots_any (a c : Option Addr) (xs : List Sl) (cap cap' : Nat) (w : World) (hn : xs.length ≤ 1048576) (h : Slots w a xs) (h' : Slots w c xs) :
    Calls Tryz.prog 51 #[.slice a xs.length cap, .slice c xs.length cap'] w fun e w' => e = .returned (.bool true) ∧ Below w.heap.size w w' := by
  go_enter Tryz.func51, Tryz.ntmps51
  go_wp2
  go_loopw [5] (fun i wr => ∃ k : Nat, k ≤ xs.length ∧ i = .int .i64 k ∧ Below w.heap.size w wr) (fun i _ => xs.length - (intOf i).toNat)
  case atStart => exact ⟨0, Nat.zero_le _, rfl, Below.refl _ _⟩
  case round =>
    obtain ⟨k, hk, rfl, hB⟩ := hrel
    by_cases hlt : k < xs.length
    · obtain ⟨b, o, rfl, hbb, e0, e1⟩ := (h.below hB).at hlt
      obtain ⟨b', o', rfl, hbb', e3, e4⟩ := (h'.below hB).at hlt
      generalize xs[k] = y at *
      have r0 := since_cell e0
      have r1 := since_cell e1
      have r3 := since_cell e3
      have r4 := since_cell e4
      have ne := since_ne wr
      clear e0 e1 e3 e4 h h'
      go_wp2_with fail
      refine wp_region_class (S := Since wr) (by kernel_rfl) (by kernel_rfl) (Below.refl _ _).drew ?_
      repeat (go_big_quiet_step ((rename_i n; first | (go_at_call 133; exact Calls.inClass (eqSlot_any y _) Since.keep))))
      refine wpQuiet_nil ?_
      rintro W ⟨n, hnW⟩
      have R2 := n.h
      rw [← hnW] at R2
      have hB2 : Below w.heap.size w W := hB.trans (R2.mono hB.size)
      clear R2 r0 r1 r3 r4 ne hnW n hB
      go_wp2
      go_roundw
      case rel => exact ⟨k + 1, by omega, by go_num, hB2⟩
      case measure => simp [intOf]; omega
    · go_wp2
      go_ret
      exact ⟨rfl, hB⟩

/-- Marks: numbers from k on. -/
def mark2 (k : Int) (n : Nat) : List Sl := (List.range n).map fun (i : Nat) => ⟨k + 2 * (i : Int), k + 2 * (i : Int) + 1⟩
theorem mark2_len (k : Int) (n : Nat) : (mark2 k n).length = n := by simp [mark2]
theorem mark2_succ (k : Int) (n : Nat) : mark2 k (n + 1) = mark2 k n ++ [⟨k + 2 * n, k + 2 * n + 1⟩] := by simp [mark2, List.range_succ]
theorem mark2_at (k : Int) (n i : Nat) (h : i < (mark2 k n).length) : (mark2 k n)[i] = ⟨k + 2 * i, k + 2 * i + 1⟩ := by simp [mark2]
set_option maxHeartbeats 2000000 in
theorem markSl_some (g n cap base : Nat) (cs0 : List Value) (k : Int) (w : World) (hn : n ≤ 1048576) (hk0 : 0 ≤ k) (hk1 : k ≤ 10000000) (h : w.ownsRow base 84 2 (.slice (some ⟨g, 0, none⟩) n cap) n cs0) :
    Calls Tryz.prog 54 #[.slice (some ⟨g, 0, none⟩) n cap, .int .i64 k] w fun e w' => e = .returned (.int .i64 (k + 2 * n)) ∧ w'.ownsRow base 84 2 (.slice (some ⟨g, 0, none⟩) n cap) n (flat2 (mark2 k n)) ∧ w.grownBy w' (some g) := by
  go_enter Tryz.func54, Tryz.ntmps54
  go_wp2
  go_loopw [1, 5] (fun m i wr => ∃ (j : Nat) (cs : List Value), j ≤ n ∧ i = .int .i64 j ∧ m = .int .i64 (k + 2 * j) ∧ wr.ownsRow base 84 2 (.slice (some ⟨g, 0, none⟩) n cap) n cs ∧ cs.take (j * 2) = flat2 (mark2 k j) ∧ w.grownBy wr (some g)) (fun _ i _ => n - (intOf i).toNat)
  case atStart => exact ⟨0, cs0, Nat.zero_le _, rfl, by simp, h, by simp [mark2, flat2], grown_refl _ _⟩
  case round =>
    obtain ⟨j, cs, hj, rfl, rfl, ho, hcs, hg⟩ := hrel
    clear h
    have hl2 : cs.length = n * 2 := ho.1
    by_cases hlt : j < n
    · have d0 : wr.cell? ⟨g, j * 2, none⟩ = some (cs[j * 2]'(by omega)) := by rw [ho.cellAt (j * 2) (by omega)]; exact List.getElem?_eq_getElem _
      have d1 : wr.cell? ⟨g, j * 2 + 1, none⟩ = some (cs[j * 2 + 1]'(by omega)) := by rw [ho.cellAt (j * 2 + 1) (by omega)]; exact List.getElem?_eq_getElem _
      have f0 : wr.frozen? ⟨g, j * 2, none⟩ = false := ho.frozenAt _
      have f1 : wr.frozen? ⟨g, j * 2 + 1, none⟩ = false := ho.frozenAt _
      generalize cs[j * 2]'(by omega) = u0 at *
      generalize cs[j * 2 + 1]'(by omega) = u1 at *
      have ho4 := (((ho.stored (j * 2) (.int .i64 (k + 2 * j))).1).stored (j * 2 + 1) (.int .i64 (k + 2 * j + 1))).1
      have HC : Hid (((cs.set (j * 2) (.int .i64 (k + 2 * j))).set (j * 2 + 1) (.int .i64 (k + 2 * j + 1))).take ((j + 1) * 2) = flat2 (mark2 k (j + 1))) := by
        show List.take _ _ = _
        rw [take_two2 cs j _ _ (by omega), hcs, mark2_succ, flat2_snoc]
      have hg4 := grown_set (j := j * 2 + 1) (grown_set (j := j * 2) hg (.int .i64 (k + 2 * j))) (.int .i64 (k + 2 * j + 1))
      have HS : Hid (k + 2 * (j : Int) + 1 + 1 = k + 2 * ((j + 1 : Nat) : Int)) := by show k + 2 * (j : Int) + 1 + 1 = k + 2 * ((j + 1 : Nat) : Int); omega
      clear ho hcs hg
      go_wp2
      go_roundw
      case rel => exact ⟨j + 1, _, by omega, by go_num, by rw [← HS.out], ho4, HC.out, hg4⟩
      case measure => simp [intOf]; omega
    · have hk2 : j = n := by omega
      subst hk2
      rw [List.take_of_length_le (by omega)] at hcs
      subst hcs
      have HO : Hid _ := ho
      clear ho hl2
      go_wp2
      go_ret
      exact ⟨rfl, HO.out, hg⟩
theorem markSl_nil (k : Int) (w : World) : Calls Tryz.prog 54 #[.slice none 0 0, .int .i64 k] w fun e w' => e = .returned (.int .i64 k) ∧ w' = w := by
  go_enter Tryz.func54, Tryz.ntmps54
  go_wp2
  go_loop [1, 5] (fun m i => m = .int .i64 k ∧ i = .int .i64 0) (fun _ _ => 0)
  case atStart => exact ⟨rfl, rfl⟩
  case round =>
    obtain ⟨rfl, rfl⟩ := hrel
    go_wp2
    go_ret
    exact ⟨rfl, rfl⟩
theorem markSl_any (v : Value) (n base : Nat) (cs0 : List Value) (k : Int) (w : World) (hn : n ≤ 1048576) (hk0 : 0 ≤ k) (hk1 : k ≤ 10000000) (h : w.ownsRow base 84 2 v n cs0) :
    Calls Tryz.prog 54 #[v, .int .i64 k] w fun e w' => e = .returned (.int .i64 (k + 2 * n)) ∧ w'.ownsRow base 84 2 v n (flat2 (mark2 k n)) ∧ w.grownBy w' v.ownBlock := by
  rcases h.2 with ⟨rfl, rfl⟩ | ⟨g, cap, cur, rfl, _⟩
  · refine (markSl_nil k w).mono ?_
    rintro e w' ⟨rfl, rfl⟩
    exact ⟨by simp, by simpa [mark2, flat2] using World.ownsRow_nil _ _ _ _, grown_refl _ _⟩
  · exact markSl_some g n cap base cs0 k w hn hk0 hk1 h
set_option maxHeartbeats 2000000 in
theorem heldSl_any (a : Option Addr) (n cap : Nat) (k : Int) (w : World) (hn : n ≤ 1048576) (hk0 : 0 ≤ k) (hk1 : k ≤ 10000000) (h : Slots w a (mark2 k n)) :
    Calls Tryz.prog 57 #[.slice a n cap, .int .i64 k] w fun e w' => e = .returned (.int .i64 (k + 2 * n)) ∧ w' = w := by
  go_enter Tryz.func57, Tryz.ntmps57
  go_wp2
  go_loop [1, 5] (fun m i => ∃ j : Nat, j ≤ n ∧ i = .int .i64 j ∧ m = .int .i64 (k + 2 * j)) (fun _ i => n - (intOf i).toNat)
  case atStart => exact ⟨0, Nat.zero_le _, rfl, by simp⟩
  case round =>
    obtain ⟨j, hj, rfl, rfl⟩ := hrel
    by_cases hlt : j < n
    · obtain ⟨b, o, rfl, hbb, e0, e1⟩ := h.at (k := j) (by rw [mark2_len]; exact hlt)
      rw [mark2_at] at e0 e1
      simp only at e0 e1
      have HS : Hid (k + 2 * (j : Int) + 1 + 1 = k + 2 * ((j + 1 : Nat) : Int)) := by show k + 2 * (j : Int) + 1 + 1 = k + 2 * ((j + 1 : Nat) : Int); omega
      clear h
      go_wp2
      go_round
      case rel => exact ⟨j + 1, by omega, by go_num, by rw [← HS.out]⟩
      case measure => simp [intOf]; omega
    · have hk2 : j = n := by omega
      subst hk2
      clear h
      go_wp2
      go_ret
      exact ⟨rfl, rfl⟩
end Go.Proofs.YtpjidogilofppaaGreat

/- Servers of a call's own: their rows, all apart; they are marked, and held against the marks. -/
namespace Go.Proofs.YtpjidogilofppaaGreat
open Go.ChangeShapes Go.WideShapes Go.ChangeAt Go.RowKit

/-- Rows of unlike elements lie in two blocks. -/
theorem row_type {w : World} {b1 b2 n1 n2 : Nat} {e1 e2 : TypeId} {v p : Value} {s1 s2 : Nat} {xs ys : List Value} (h : w.ownsRow b1 e1 s1 v n1 xs) (k : w.ownsRow b2 e2 s2 p n2 ys) (he : e1 ≠ e2) : ApartV v p := by
  intro j hv hp
  rcases h.2 with ⟨rfl, _⟩ | ⟨g, cap, cur, rfl, _, hg, _⟩
  · simp [Value.ownBlock] at hv
  · rcases k.2 with ⟨rfl, _⟩ | ⟨g', cap', cur', rfl, _, hg', _⟩
    · simp [Value.ownBlock] at hp
    · simp [Value.ownBlock] at hv hp
      subst hv hp
      rw [hg] at hg'
      simp at hg'
      exact he hg'.2
/-- A server's rows. -/
structure OwnS (W : World) (base : Nat) (x : Sv) (a : Sa) (ys zs : List XV) : Prop where
  l : RowS W base (.slice a.la x.sl.length a.lc) x.sl
  v : OwnV W base (.slice a.va x.vs.length a.vc) ys
  w : OwnV W base (.slice a.wa x.ws.length a.wc) zs
  o : RowD W base (.slice a.oa x.os.length a.oc) x.os
  k : RowD W base (.slice a.ka x.kn.length a.kc) x.kn
  hy : ys.map XV.v = x.vs
  hz : zs.map XV.v = x.ws
  vw : ∀ b, inV (.slice a.va x.vs.length a.vc) ys b → ¬ inV (.slice a.wa x.ws.length a.wc) zs b
  vo : ∀ b, inV (.slice a.va x.vs.length a.vc) ys b → (Value.slice a.oa x.os.length a.oc).ownBlock ≠ some b
  vk : ∀ b, inV (.slice a.va x.vs.length a.vc) ys b → (Value.slice a.ka x.kn.length a.kc).ownBlock ≠ some b
  wo : ∀ b, inV (.slice a.wa x.ws.length a.wc) zs b → (Value.slice a.oa x.os.length a.oc).ownBlock ≠ some b
  wk : ∀ b, inV (.slice a.wa x.ws.length a.wc) zs b → (Value.slice a.ka x.kn.length a.kc).ownBlock ≠ some b
  ok : ∀ b, (Value.slice a.oa x.os.length a.oc).ownBlock = some b → (Value.slice a.ka x.kn.length a.kc).ownBlock ≠ some b
/-- The blocks of a server. -/
def inSv (x : Sv) (a : Sa) (ys zs : List XV) (b : Nat) : Prop := (Value.slice a.la x.sl.length a.lc).ownBlock = some b ∨ inV (.slice a.va x.vs.length a.vc) ys b ∨ inV (.slice a.wa x.ws.length a.wc) zs b ∨ (Value.slice a.oa x.os.length a.oc).ownBlock = some b ∨ (Value.slice a.ka x.kn.length a.kc).ownBlock = some b
theorem OwnS.below {w w' : World} {base : Nat} {x : Sv} {a : Sa} {ys zs : List XV} (h : OwnS w base x a ys zs) {m : Nat} (k : Below m w w') (hm : w.heap.size ≤ m) : OwnS w' base x a ys zs :=
  ⟨row_below h.l k hm, h.v.below k hm, h.w.below k hm, row_below h.o k hm, row_below h.k k hm, h.hy, h.hz, h.vw, h.vo, h.vk, h.wo, h.wk, h.ok⟩
theorem OwnS.mono {w : World} {base base' : Nat} {x : Sv} {a : Sa} {ys zs : List XV} (h : OwnS w base x a ys zs) (hb : base' ≤ base) : OwnS w base' x a ys zs :=
  ⟨row_mono h.l hb, h.v.mono hb, h.w.mono hb, row_mono h.o hb, row_mono h.k hb, h.hy, h.hz, h.vw, h.vo, h.vk, h.wo, h.wk, h.ok⟩
theorem OwnV.asV {w : World} {base : Nat} {a : Option Addr} {n cap : Nat} {ys : List XV} {vs : List V} (h : OwnV w base (.slice a n cap) ys) (hy : ys.map XV.v = vs) : Vers w a vs := by
  obtain ⟨a', c', e, V, _⟩ := h.vers
  subst hy
  injection e with e1 e2 e3
  subst e1; exact V
theorem OwnS.inS {w : World} {base : Nat} {x : Sv} {a : Sa} {ys zs : List XV} (h : OwnS w base x a ys zs) : InS w x a :=
  ⟨rowS_slots h.l, h.v.asV h.hy, h.w.asV h.hz, row_deps' h.o, row_deps' h.k⟩
theorem OwnS.lt {w : World} {base : Nat} {x : Sv} {a : Sa} {ys zs : List XV} (h : OwnS w base x a ys zs) {j : Nat} (hj : inSv x a ys zs j) : base ≤ j ∧ j < w.heap.size := by
  rcases hj with hj | hj | hj | hj | hj
  · exact h.l.lt j hj
  · exact h.v.lt hj
  · exact h.w.lt hj
  · exact h.o.lt j hj
  · exact h.k.lt j hj
theorem Only.ownS {w w' : World} {S : Nat → Prop} (o : Only w w' S) {base : Nat} {x : Sv} {a : Sa} {ys zs : List XV} (h : OwnS w base x a ys zs) (hS : ∀ j, inSv x a ys zs j → ¬ S j) : OwnS w' base x a ys zs :=
  ⟨o.row h.l (fun j hj => hS j (.inl hj)), o.ownV h.v (fun j hj => hS j (.inr (.inl hj))), o.ownV h.w (fun j hj => hS j (.inr (.inr (.inl hj)))), o.row h.o (fun j hj => hS j (.inr (.inr (.inr (.inl hj))))), o.row h.k (fun j hj => hS j (.inr (.inr (.inr (.inr hj))))), h.hy, h.hz, h.vw, h.vo, h.vk, h.wo, h.wk, h.ok⟩
theorem Only.trans {a b c : World} {S : Nat → Prop} (h : Only a b S) (k : Only b c S) : Only a c S :=
  ⟨k.os.trans h.os, k.tape.trans h.tape, k.output.trans h.output, Nat.le_trans h.size k.size, fun j hj hS => (k.block j (Nat.lt_of_lt_of_le hj h.size) hS).trans (h.block j hj hS)⟩
theorem Only.wide {a b : World} {S T : Nat → Prop} (h : Only a b S) (k : ∀ j, S j → T j) : Only a b T := ⟨h.os, h.tape, h.output, h.size, fun j hj hT => h.block j hj fun hS => hT (k j hS)⟩
theorem only_grown {w w' : World} {row : Option Nat} (g : w.grownBy w' row) : Only w w' (fun b => row = some b) := (Only.refl w _).grown g fun _ h => h
theorem only_alloc (w : World) (o : Obj) : Only w (w.alloc o) (fun b => w.heap.size ≤ b) := ⟨rfl, rfl, rfl, by simp, fun k hk _ => (((Below.refl w.heap.size w).alloc (Nat.le_refl _) o).block k hk)⟩

/-- A server's marks, from k on. -/
def endS (k : Int) (x : Sv) : Int := endV (endV (k + 2 * x.sl.length) x.vs) x.ws + 3 * x.os.length + 3 * x.kn.length
def markSv (k : Int) (x : Sv) : Sv := ⟨x.site, x.up, mark2 k x.sl.length, markVs (k + 2 * x.sl.length) x.vs, markVs (endV (k + 2 * x.sl.length) x.vs) x.ws, markL (endV (endV (k + 2 * x.sl.length) x.vs) x.ws) x.os.length, markL (endV (endV (k + 2 * x.sl.length) x.vs) x.ws + 3 * x.os.length) x.kn.length⟩
/-- How much there is of a server. -/
def sizeS (x : Sv) : Int := (x.sl.length : Int) + ((x.vs.length : Int) + tot x.vs) + ((x.ws.length : Int) + tot x.ws) + x.os.length + x.kn.length
end Go.Proofs.YtpjidogilofppaaGreat

/- Servers are marked, held against the marks, and against each other. -/
namespace Go.Proofs.YtpjidogilofppaaGreat
open Go.ChangeShapes Go.WideShapes Go.ChangeAt Go.RowKit

theorem Only.blk {w w' : World} {S : Nat → Prop} (o : Only w w' S) {B : Nat} {vs : Array Value} {T : TypeId} (h : Blk w B vs T) (hS : ¬ S B) : Blk w' B vs T := (o.block B h.lt hS).trans h
theorem slot_apart {w : World} {b1 b2 n : Nat} {l v : Value} {cs : List Value} {ys : List XV} (h : w.ownsRow b1 84 2 l n cs) (k : OwnV w b2 v ys) : ∀ b, l.ownBlock = some b → ¬ inV v ys b := by
  intro b hb hi
  rcases hi with hi | ⟨y, hy, hi⟩
  · exact row_type h k.row (by decide) b hb hi
  · exact row_type h (k.deps y hy).1 (by decide) b hb hi
theorem slot_apartD {w : World} {b1 b2 n m : Nat} {l v : Value} {cs ds : List Value} (h : w.ownsRow b1 84 2 l n cs) (k : w.ownsRow b2 116 3 v m ds) : ∀ b, l.ownBlock = some b → v.ownBlock ≠ some b := row_type h k (by decide)
theorem endV_mono (k : Int) (vs : List V) : k ≤ endV k vs := by unfold endV; omega

set_option maxHeartbeats 4000000 in
theorem markServer_any (x : Sv) (a : Sa) (ys zs : List XV) (base : Nat) (k : Int) (w : World) (hs : sizeS x ≤ 1048576) (hk0 : 0 ≤ k) (hk1 : endS k x ≤ 10000000) (h : OwnS w base x a ys zs) :
    Calls Tryz.prog 14 #[servV x a, .int .i64 k] w fun e w' => e = .returned (.int .i64 (endS k x)) ∧ InS w' (markSv k x) a ∧ Only w w' (fun b => w.heap.size ≤ b ∨ inSv x a ys zs b) := by
  have hlt : Hid (∀ b, inSv x a ys zs b → b < w.heap.size) := by show ∀ b, _; intro b hb; exact (h.lt hb).2
  have dlv : Hid (∀ b, (Value.slice a.la x.sl.length a.lc).ownBlock = some b → ¬ inV (.slice a.va x.vs.length a.vc) ys b) := slot_apart h.l h.v
  have dlw : Hid (∀ b, (Value.slice a.la x.sl.length a.lc).ownBlock = some b → ¬ inV (.slice a.wa x.ws.length a.wc) zs b) := slot_apart h.l h.w
  have dlo : Hid (∀ b, (Value.slice a.la x.sl.length a.lc).ownBlock = some b → (Value.slice a.oa x.os.length a.oc).ownBlock ≠ some b) := slot_apartD h.l h.o
  have dlk : Hid (∀ b, (Value.slice a.la x.sl.length a.lc).ownBlock = some b → (Value.slice a.ka x.kn.length a.kc).ownBlock ≠ some b) := slot_apartD h.l h.k
  have b0 : Below w.heap.size w (w.alloc (.cells #[.int .i64 x.site, .bool x.up, .slice a.la x.sl.length a.lc, .slice a.va x.vs.length a.vc, .slice a.wa x.ws.length a.wc, .slice a.oa x.os.length a.oc, .slice a.ka x.kn.length a.kc] 32)) := (Below.refl _ _).alloc (Nat.le_refl _) _
  have A0 := Blk.new w #[.int .i64 x.site, .bool x.up, .slice a.la x.sl.length a.lc, .slice a.va x.vs.length a.vc, .slice a.wa x.ws.length a.wc, .slice a.oa x.os.length a.oc, .slice a.ka x.kn.length a.kc] 32
  have h0 := h.below b0 (Nat.le_refl _)
  have O0 : Only w (w.alloc (.cells #[.int .i64 x.site, .bool x.up, .slice a.la x.sl.length a.lc, .slice a.va x.vs.length a.vc, .slice a.wa x.ws.length a.wc, .slice a.oa x.os.length a.oc, .slice a.ka x.kn.length a.kc] 32)) (fun b => w.heap.size ≤ b ∨ inSv x a ys zs b) := (only_alloc w _).wide fun j hj => .inl hj
  have e1 : endV (k + 2 * x.sl.length) x.vs ≤ 10000000 := by
    have := endV_mono (endV (k + 2 * x.sl.length) x.vs) x.ws; unfold endS at hk1; omega
  have e2 : endV (endV (k + 2 * x.sl.length) x.vs) x.ws ≤ 10000000 := by unfold endS at hk1; omega
  have e0 : k + 2 * (x.sl.length : Int) ≤ 10000000 := by have := endV_mono (k + 2 * x.sl.length) x.vs; omega
  have p1 : 0 ≤ k + 2 * (x.sl.length : Int) := by omega
  have p2 : 0 ≤ endV (k + 2 * x.sl.length) x.vs := by have := endV_mono (k + 2 * x.sl.length) x.vs; omega
  have p3 : 0 ≤ endV (endV (k + 2 * x.sl.length) x.vs) x.ws := by have := endV_mono (endV (k + 2 * x.sl.length) x.vs) x.ws; omega
  have e3 : endV (endV (k + 2 * x.sl.length) x.vs) x.ws + 3 * (x.os.length : Int) ≤ 10000000 := by unfold endS at hk1; omega
  have l1 : x.sl.length ≤ 1048576 := by unfold sizeS at hs; omega
  have l2 : x.vs.length ≤ 1048577 := by unfold sizeS at hs; omega
  have l3 : x.ws.length ≤ 1048577 := by unfold sizeS at hs; omega
  have l4 : x.os.length ≤ 1048576 := by unfold sizeS at hs; omega
  have l5 : x.kn.length ≤ 1048576 := by unfold sizeS at hs; omega
  have d2 : ∀ v ∈ x.vs, v.ds.length ≤ 1048576 := fun v hv => by have := tot_mem hv; unfold sizeS at hs; omega
  have d3 : ∀ v ∈ x.ws, v.ds.length ≤ 1048576 := fun v hv => by have := tot_mem hv; unfold sizeS at hs; omega
  have HE : Hid (endS k x = endV (endV (k + 2 * x.sl.length) x.vs) x.ws + 3 * x.os.length + 3 * x.kn.length) := rfl
  have HM : Hid (∀ W, Slots W a.la (mark2 k x.sl.length) → Vers W a.va (markVs (k + 2 * x.sl.length) x.vs) → Vers W a.wa (markVs (endV (k + 2 * x.sl.length) x.vs) x.ws) → Deps W a.oa (markL (endV (endV (k + 2 * x.sl.length) x.vs) x.ws) x.os.length) → Deps W a.ka (markL (endV (endV (k + 2 * x.sl.length) x.vs) x.ws + 3 * x.os.length) x.kn.length) → InS W (markSv k x) a) := by
    show ∀ W, _; intro W i1 i2 i3 i4 i5; exact ⟨i1, i2, i3, i4, i5⟩
  obtain ⟨hl0, hv0, hw0, ho0, hk0', hy, hz, vw, vo, vk, wo, wk, ok⟩ := h0
  have HX : Hid ((∀ b, inV (.slice a.va x.vs.length a.vc) ys b → ¬ inV (.slice a.wa x.ws.length a.wc) zs b) ∧ (∀ b, inV (.slice a.va x.vs.length a.vc) ys b → (Value.slice a.oa x.os.length a.oc).ownBlock ≠ some b) ∧ (∀ b, inV (.slice a.va x.vs.length a.vc) ys b → (Value.slice a.ka x.kn.length a.kc).ownBlock ≠ some b) ∧ (∀ b, inV (.slice a.wa x.ws.length a.wc) zs b → (Value.slice a.oa x.os.length a.oc).ownBlock ≠ some b) ∧ (∀ b, inV (.slice a.wa x.ws.length a.wc) zs b → (Value.slice a.ka x.kn.length a.kc).ownBlock ≠ some b) ∧ (∀ b, (Value.slice a.oa x.os.length a.oc).ownBlock = some b → (Value.slice a.ka x.kn.length a.kc).ownBlock ≠ some b)) := ⟨vw, vo, vk, wo, wk, ok⟩
  have HI : Hid ((∀ b, (Value.slice a.la x.sl.length a.lc).ownBlock = some b → inSv x a ys zs b) ∧ (∀ b, inV (.slice a.va x.vs.length a.vc) ys b → inSv x a ys zs b) ∧ (∀ b, inV (.slice a.wa x.ws.length a.wc) zs b → inSv x a ys zs b) ∧ (∀ b, (Value.slice a.oa x.os.length a.oc).ownBlock = some b → inSv x a ys zs b) ∧ (∀ b, (Value.slice a.ka x.kn.length a.kc).ownBlock = some b → inSv x a ys zs b)) := ⟨fun b hb => .inl hb, fun b hb => .inr (.inl hb), fun b hb => .inr (.inr (.inl hb)), fun b hb => .inr (.inr (.inr (.inl hb))), fun b hb => .inr (.inr (.inr (.inr hb)))⟩
  have HYZ : Hid (ys.map XV.v = x.vs ∧ zs.map XV.v = x.ws) := ⟨hy, hz⟩
  generalize endS k x = en at *
  obtain ⟨k2, hk2⟩ : ∃ k2, endV (k + 2 * x.sl.length) x.vs = k2 := ⟨_, rfl⟩
  rw [hk2] at e1 e2 p2 p3 e3 HE HM
  obtain ⟨k3, hk3⟩ : ∃ k3, endV k2 x.ws = k3 := ⟨_, rfl⟩
  rw [hk3] at e2 p3 e3 HE HM
  have HK2 : Hid (endV (k + 2 * x.sl.length) x.vs = k2) := hk2
  have HK3 : Hid (endV k2 x.ws = k3) := hk3
  clear hk2 hk3
  clear vw vo vk wo wk ok hy hz h b0 hs hk1
  have HV0 : Hid (RowS _ base _ x.sl) := hl0
  have ho1 : Hid (RowD _ base _ x.os) := ho0
  have hk1 : Hid (RowD _ base _ x.kn) := hk0'
  clear hl0 ho0 hk0'
  go_enter Tryz.func14, Tryz.ntmps14
  go_wp2_with fail
  generalize (w.alloc (.cells #[.int .i64 x.site, .bool x.up, .slice a.la x.sl.length a.lc, .slice a.va x.vs.length a.vc, .slice a.wa x.ws.length a.wc, .slice a.oa x.os.length a.oc, .slice a.ka x.kn.length a.kc] 32)) = w0 at *
  refine (markSl_any _ x.sl.length base _ k _ l1 hk0 (by omega) HV0.out).mono ?_
  rintro e w1 ⟨rfl, r1, g1⟩
  have o1 := only_grown g1
  have R1 : Hid (w1.ownsRow base 84 2 (.slice a.la x.sl.length a.lc) x.sl.length (flat2 (mark2 k x.sl.length))) := r1
  have V1 := o1.ownV hv0 (fun j hj hs => dlv.out j hs hj)
  have W1 := o1.ownV hw0 (fun j hj hs => dlw.out j hs hj)
  have P1 : Hid (RowD w1 base (.slice a.oa x.os.length a.oc) x.os) := o1.row ho1.out (fun j hj hs => dlo.out j hs hj)
  have K1 : Hid (RowD w1 base (.slice a.ka x.kn.length a.kc) x.kn) := o1.row hk1.out (fun j hj hs => dlk.out j hs hj)
  have A1 := o1.blk A0 (fun hs => Nat.lt_irrefl _ (hlt.out _ (HI.out.1 _ hs)))
  have O1 := O0.trans (o1.wide fun j hj => .inr (HI.out.1 j hj))
  clear r1 g1 o1 hv0 hw0 ho1 hk1 A0 O0 HV0
  obtain ⟨q1, g1⟩ := A1.rules
  go_wp2_with fail
  clear q1 g1
  refine (markVers_as _ base ys x.vs _ _ HYZ.out.1 l2 d2 p1 (by rw [HK2.out]; exact e1) V1).mono ?_
  rw [HK2.out]
  rintro e w2 ⟨rfl, ⟨ys2, V2, hy2, sy2⟩, o2⟩
  have R2 : Hid (w2.ownsRow base 84 2 (.slice a.la x.sl.length a.lc) x.sl.length (flat2 (mark2 k x.sl.length))) := o2.row R1.out (fun j hj hs => dlv.out j hj hs)
  have W2 := o2.ownV W1 (fun j hj hs => HX.out.1 j hs hj)
  have P2 : Hid (RowD w2 base (.slice a.oa x.os.length a.oc) x.os) := o2.row P1.out (fun j hj hs => HX.out.2.1 j hs hj)
  have K2 : Hid (RowD w2 base (.slice a.ka x.kn.length a.kc) x.kn) := o2.row K1.out (fun j hj hs => HX.out.2.2.1 j hs hj)
  have A2 := o2.blk A1 (fun hs => Nat.lt_irrefl _ (hlt.out _ (HI.out.2.1 _ hs)))
  have O2 := O1.trans (o2.wide fun j hj => .inr (HI.out.2.1 j hj))
  have HY2 : Hid (ys2.map XV.v = markVs (k + 2 * x.sl.length) x.vs ∧ ∀ b, inV (.slice a.va x.vs.length a.vc) ys2 b → inV (.slice a.va x.vs.length a.vc) ys b) := ⟨hy2, sy2⟩
  clear o2 V1 W1 P1 K1 A1 O1 R1 hy2 sy2
  obtain ⟨q1, g1⟩ := A2.rules
  go_wp2_with fail
  clear q1 g1
  refine (markVers_as _ base zs x.ws _ _ HYZ.out.2 l3 d3 p2 (by rw [HK3.out]; exact e2) W2).mono ?_
  rw [HK3.out]
  rintro e w3 ⟨rfl, ⟨zs3, W3, hz3, sz3⟩, o3⟩
  have R3 : Hid (w3.ownsRow base 84 2 (.slice a.la x.sl.length a.lc) x.sl.length (flat2 (mark2 k x.sl.length))) := o3.row R2.out (fun j hj hs => dlw.out j hj hs)
  have V3 := o3.ownV V2 (fun j hj hs => HX.out.1 j (HY2.out.2 j hj) hs)
  have P3 : Hid (RowD w3 base (.slice a.oa x.os.length a.oc) x.os) := o3.row P2.out (fun j hj hs => HX.out.2.2.2.1 j hs hj)
  have K3 : Hid (RowD w3 base (.slice a.ka x.kn.length a.kc) x.kn) := o3.row K2.out (fun j hj hs => HX.out.2.2.2.2.1 j hs hj)
  have A3 := o3.blk A2 (fun hs => Nat.lt_irrefl _ (hlt.out _ (HI.out.2.2.1 _ hs)))
  have O3 := O2.trans (o3.wide fun j hj => .inr (HI.out.2.2.1 j hj))
  have HZ3 : Hid (zs3.map XV.v = markVs k2 x.ws ∧ ∀ b, inV (.slice a.wa x.ws.length a.wc) zs3 b → inV (.slice a.wa x.ws.length a.wc) zs b) := ⟨hz3, sz3⟩
  clear o3 V2 W2 P2 K2 A2 O2 R2 hz3 sz3
  obtain ⟨q1, g1⟩ := A3.rules
  go_wp2_with fail
  clear q1 g1
  refine (mark_any _ x.os.length base _ k3 _ l4 p3 (by omega) P3.out).mono ?_
  rintro e w4 ⟨rfl, p4, g4⟩
  have o4 := only_grown g4
  have R4 : Hid (w4.ownsRow base 84 2 (.slice a.la x.sl.length a.lc) x.sl.length (flat2 (mark2 k x.sl.length))) := o4.row R3.out (fun j hj hs => dlo.out j hj hs)
  have V4 := o4.ownV V3 (fun j hj hs => HX.out.2.1 j (HY2.out.2 j hj) hs)
  have W4 := o4.ownV W3 (fun j hj hs => HX.out.2.2.2.1 j (HZ3.out.2 j hj) hs)
  have P4 : Hid (w4.ownsRow base 116 3 (.slice a.oa x.os.length a.oc) x.os.length (flat3 (markL k3 x.os.length))) := p4
  have K4 : Hid (RowD w4 base (.slice a.ka x.kn.length a.kc) x.kn) := o4.row K3.out (fun j hj hs => HX.out.2.2.2.2.2 j hs hj)
  have A4 := o4.blk A3 (fun hs => Nat.lt_irrefl _ (hlt.out _ (HI.out.2.2.2.1 _ hs)))
  have O4 := O3.trans (o4.wide fun j hj => .inr (HI.out.2.2.2.1 j hj))
  clear o4 V3 W3 P3 K3 A3 O3 R3 p4 g4
  obtain ⟨q1, g1⟩ := A4.rules
  go_wp2_with fail
  clear q1 g1
  refine (mark_any _ x.kn.length base _ (k3 + 3 * (x.os.length : Int)) _ l5 (by omega) (by omega) K4.out).mono ?_
  rintro e w5 ⟨rfl, p5, g5⟩
  have o5 := only_grown g5
  have R5 : Hid (w5.ownsRow base 84 2 (.slice a.la x.sl.length a.lc) x.sl.length (flat2 (mark2 k x.sl.length))) := o5.row R4.out (fun j hj hs => dlk.out j hj hs)
  have V5 := o5.ownV V4 (fun j hj hs => HX.out.2.2.1 j (HY2.out.2 j hj) hs)
  have W5 := o5.ownV W4 (fun j hj hs => HX.out.2.2.2.2.1 j (HZ3.out.2 j hj) hs)
  have P5 : Hid (w5.ownsRow base 116 3 (.slice a.oa x.os.length a.oc) x.os.length (flat3 (markL k3 x.os.length))) := o5.row P4.out (fun j hj hs => HX.out.2.2.2.2.2 j hj hs)
  have K5 : Hid (w5.ownsRow base 116 3 (.slice a.ka x.kn.length a.kc) x.kn.length (flat3 (markL (k3 + 3 * (x.os.length : Int)) x.kn.length))) := p5
  have O5 := O4.trans (o5.wide fun j hj => .inr (HI.out.2.2.2.2 j hj))
  have HF : Hid (InS w5 (markSv k x) a) := HM.out w5 (rowS_slots (xs := mark2 k x.sl.length) (by rw [mark2_len]; exact R5.out)) (V5.asV HY2.out.1) (W5.asV HZ3.out.1) (row_deps' (xs := markL k3 x.os.length) (by rw [markL_len]; exact P5.out)) (row_deps' (xs := markL (k3 + 3 * (x.os.length : Int)) x.kn.length) (by rw [markL_len]; exact K5.out))
  clear o5 V4 W4 P4 K4 A4 O4 R4 p5 g5 R5 V5 W5 P5 K5
  have hp5 : 0 ≤ k3 + 3 * (x.os.length : Int) + 3 * (x.kn.length : Int) := by omega
  go_wp2_with fail
  go_ret
  exact ⟨by rw [HE.out]; rfl, HF.out, O5⟩

set_option maxHeartbeats 2000000 in
theorem heldServer_any (x : Sv) (a : Sa) (k : Int) (w : World) (hs : sizeS x ≤ 1048576) (hk0 : 0 ≤ k) (hk1 : endS k x ≤ 10000000) (h : InS w (markSv k x) a) :
    Calls Tryz.prog 15 #[servV x a, .int .i64 k] w fun e w' => e = .returned (.int .i64 (endS k x)) ∧ Below w.heap.size w w' := by
  have b0 : Below w.heap.size w (w.alloc (.cells #[.int .i64 x.site, .bool x.up, .slice a.la x.sl.length a.lc, .slice a.va x.vs.length a.vc, .slice a.wa x.ws.length a.wc, .slice a.oa x.os.length a.oc, .slice a.ka x.kn.length a.kc] 32)) := (Below.refl _ _).alloc (Nat.le_refl _) _
  have A0 := Blk.new w #[.int .i64 x.site, .bool x.up, .slice a.la x.sl.length a.lc, .slice a.va x.vs.length a.vc, .slice a.wa x.ws.length a.wc, .slice a.oa x.os.length a.oc, .slice a.ka x.kn.length a.kc] 32
  obtain ⟨i1, i2, i3, i4, i5⟩ := h.below b0
  have e1 : endV (k + 2 * x.sl.length) x.vs ≤ 10000000 := by
    have := endV_mono (endV (k + 2 * x.sl.length) x.vs) x.ws; unfold endS at hk1; omega
  have e2 : endV (endV (k + 2 * x.sl.length) x.vs) x.ws ≤ 10000000 := by unfold endS at hk1; omega
  have e0 : k + 2 * (x.sl.length : Int) ≤ 10000000 := by have := endV_mono (k + 2 * x.sl.length) x.vs; omega
  have p1 : 0 ≤ k + 2 * (x.sl.length : Int) := by omega
  have p2 : 0 ≤ endV (k + 2 * x.sl.length) x.vs := by have := endV_mono (k + 2 * x.sl.length) x.vs; omega
  have p3 : 0 ≤ endV (endV (k + 2 * x.sl.length) x.vs) x.ws := by have := endV_mono (endV (k + 2 * x.sl.length) x.vs) x.ws; omega
  have e3 : endV (endV (k + 2 * x.sl.length) x.vs) x.ws + 3 * (x.os.length : Int) ≤ 10000000 := by unfold endS at hk1; omega
  have l1 : x.sl.length ≤ 1048576 := by unfold sizeS at hs; omega
  have l2 : x.vs.length ≤ 1048577 := by unfold sizeS at hs; omega
  have l3 : x.ws.length ≤ 1048577 := by unfold sizeS at hs; omega
  have l4 : x.os.length ≤ 1048576 := by unfold sizeS at hs; omega
  have l5 : x.kn.length ≤ 1048576 := by unfold sizeS at hs; omega
  have d2 : ∀ v ∈ x.vs, v.ds.length ≤ 1048576 := fun v hv => by have := tot_mem hv; unfold sizeS at hs; omega
  have d3 : ∀ v ∈ x.ws, v.ds.length ≤ 1048576 := fun v hv => by have := tot_mem hv; unfold sizeS at hs; omega
  have HE : Hid (endS k x = endV (endV (k + 2 * x.sl.length) x.vs) x.ws + 3 * x.os.length + 3 * x.kn.length) := rfl
  simp only [markSv] at i1 i2 i3 i4 i5
  generalize endS k x = en at *
  obtain ⟨k2, hk2⟩ : ∃ k2, endV (k + 2 * x.sl.length) x.vs = k2 := ⟨_, rfl⟩
  rw [hk2] at e1 e2 p2 p3 e3 HE i3 i4 i5
  obtain ⟨k3, hk3⟩ : ∃ k3, endV k2 x.ws = k3 := ⟨_, rfl⟩
  rw [hk3] at e2 p3 e3 HE i4 i5
  have HK2 : Hid (endV (k + 2 * x.sl.length) x.vs = k2) := hk2
  have HK3 : Hid (endV k2 x.ws = k3) := hk3
  clear hk2 hk3 h hs hk1
  obtain ⟨q1, g1⟩ := A0.rules
  have hh1 := fun W h => heldSl_any a.la x.sl.length a.lc k W l1 hk0 (by omega) h
  have hh2 := fun W h => heldVers_any a.va a.vc x.vs (k + 2 * x.sl.length) W l2 d2 p1 (by rw [HK2.out]; exact e1) h
  have hh3 := fun W h => heldVers_any a.wa a.wc x.ws k2 W l3 d3 p2 (by rw [HK3.out]; exact e2) h
  have hh4 := fun W h => held_any a.oa x.os.length a.oc k3 W l4 p3 (by omega) h
  have hh5 := fun W h => held_any a.ka x.kn.length a.kc (k3 + 3 * (x.os.length : Int)) W l5 (by omega) (by omega) h
  rw [HK2.out] at hh2
  rw [HK3.out] at hh3
  have p4 : 0 ≤ k3 + 3 * (x.os.length : Int) := by omega
  have p5 : 0 ≤ k3 + 3 * (x.os.length : Int) + 3 * (x.kn.length : Int) := by omega
  have n1 : ¬ (k + 2 * (x.sl.length : Int)) < 0 := by omega
  go_enter Tryz.func15, Tryz.ntmps15
  go_wp2_with fail
  generalize (w.alloc (.cells #[.int .i64 x.site, .bool x.up, .slice a.la x.sl.length a.lc, .slice a.va x.vs.length a.vc, .slice a.wa x.ws.length a.wc, .slice a.oa x.os.length a.oc, .slice a.ka x.kn.length a.kc] 32)) = w0 at *
  refine (hh1 _ i1).mono ?_
  rintro e w1 ⟨rfl, rfl⟩
  clear hh1
  go_wp2_with fail
  refine (hh2 _ i2).mono ?_
  rintro e w2 ⟨rfl, rfl⟩
  clear hh2
  go_wp2_with fail
  refine (hh3 _ i3).mono ?_
  rintro e w3 ⟨rfl, rfl⟩
  clear hh3
  go_wp2_with fail
  refine (hh4 _ i4).mono ?_
  rintro e w4 ⟨rfl, rfl⟩
  clear hh4
  go_wp2_with fail
  refine (hh5 _ i5).mono ?_
  rintro e w5 ⟨rfl, rfl⟩
  clear hh5
  go_wp2_with fail
  go_ret
  exact ⟨by rw [HE.out]; rfl, b0⟩
end Go.Proofs.YtpjidogilofppaaGreat

/- Servers that came in: their size, their copy; servers held against each other. -/
namespace Go.Proofs.YtpjidogilofppaaGreat
open Go.ChangeShapes Go.WideShapes Go.ChangeAt Go.RowKit

/-- The lists of a server are not too long. -/
structure Fit (x : Sv) : Prop where
  l : x.sl.length ≤ 1048576
  v : x.vs.length ≤ 1048576
  w : x.ws.length ≤ 1048576
  o : x.os.length ≤ 1048576
  k : x.kn.length ≤ 1048576
  dv : ∀ v ∈ x.vs, v.ds.length ≤ 1048576
  dw : ∀ v ∈ x.ws, v.ds.length ≤ 1048576
theorem Fit.of {x : Sv} (h : sizeS x ≤ 1048576) : Fit x := by
  unfold sizeS at h
  exact ⟨by omega, by omega, by omega, by omega, by omega, fun v hv => by have := tot_mem hv; omega, fun v hv => by have := tot_mem hv; omega⟩
theorem Fit.len {x : Sv} (h : Fit x) : LenS x := ⟨by have := h.l; omega, by have := h.v; omega, by have := h.w; omega, by have := h.o; omega, by have := h.k; omega⟩

set_option maxHeartbeats 4000000 in
theorem eqServer_any (x : Sv) (a b : Sa) (w : World) (hf : Fit x) (h : InS w x a) (h' : InS w x b) :
    Calls Tryz.prog 13 #[servV x a, servV x b] w fun e w' => e = .returned (.bool true) ∧ Below w.heap.size w w' := by
  have A0 : Blk ((w.alloc (.cells #[.int .i64 x.site, .bool x.up, .slice a.la x.sl.length a.lc, .slice a.va x.vs.length a.vc, .slice a.wa x.ws.length a.wc, .slice a.oa x.os.length a.oc, .slice a.ka x.kn.length a.kc] 32)).alloc (.cells #[.int .i64 x.site, .bool x.up, .slice b.la x.sl.length b.lc, .slice b.va x.vs.length b.vc, .slice b.wa x.ws.length b.wc, .slice b.oa x.os.length b.oc, .slice b.ka x.kn.length b.kc] 32)) w.heap.size #[.int .i64 x.site, .bool x.up, .slice a.la x.sl.length a.lc, .slice a.va x.vs.length a.vc, .slice a.wa x.ws.length a.wc, .slice a.oa x.os.length a.oc, .slice a.ka x.kn.length a.kc] 32 := (Blk.new w _ _).alloc _
  have Z0 : Blk ((w.alloc (.cells #[.int .i64 x.site, .bool x.up, .slice a.la x.sl.length a.lc, .slice a.va x.vs.length a.vc, .slice a.wa x.ws.length a.wc, .slice a.oa x.os.length a.oc, .slice a.ka x.kn.length a.kc] 32)).alloc (.cells #[.int .i64 x.site, .bool x.up, .slice b.la x.sl.length b.lc, .slice b.va x.vs.length b.vc, .slice b.wa x.ws.length b.wc, .slice b.oa x.os.length b.oc, .slice b.ka x.kn.length b.kc] 32)) (w.heap.size + 1) #[.int .i64 x.site, .bool x.up, .slice b.la x.sl.length b.lc, .slice b.va x.vs.length b.vc, .slice b.wa x.ws.length b.wc, .slice b.oa x.os.length b.oc, .slice b.ka x.kn.length b.kc] 32 := by have := Blk.new (w.alloc (.cells #[.int .i64 x.site, .bool x.up, .slice a.la x.sl.length a.lc, .slice a.va x.vs.length a.vc, .slice a.wa x.ws.length a.wc, .slice a.oa x.os.length a.oc, .slice a.ka x.kn.length a.kc] 32)) #[.int .i64 x.site, .bool x.up, .slice b.la x.sl.length b.lc, .slice b.va x.vs.length b.vc, .slice b.wa x.ws.length b.wc, .slice b.oa x.os.length b.oc, .slice b.ka x.kn.length b.kc] 32; simpa using this
  have B0 : Below w.heap.size w ((w.alloc (.cells #[.int .i64 x.site, .bool x.up, .slice a.la x.sl.length a.lc, .slice a.va x.vs.length a.vc, .slice a.wa x.ws.length a.wc, .slice a.oa x.os.length a.oc, .slice a.ka x.kn.length a.kc] 32)).alloc (.cells #[.int .i64 x.site, .bool x.up, .slice b.la x.sl.length b.lc, .slice b.va x.vs.length b.vc, .slice b.wa x.ws.length b.wc, .slice b.oa x.os.length b.oc, .slice b.ka x.kn.length b.kc] 32)) := ((Below.refl _ _).alloc (Nat.le_refl _) _).alloc (by simp) _
  have L0 := h.below B0
  have M0 := h'.below B0
  clear h h'
  go_enter Tryz.func13, Tryz.ntmps13
  go_wp2_with fail
  generalize ((w.alloc (.cells #[.int .i64 x.site, .bool x.up, .slice a.la x.sl.length a.lc, .slice a.va x.vs.length a.vc, .slice a.wa x.ws.length a.wc, .slice a.oa x.os.length a.oc, .slice a.ka x.kn.length a.kc] 32)).alloc (.cells #[.int .i64 x.site, .bool x.up, .slice b.la x.sl.length b.lc, .slice b.va x.vs.length b.vc, .slice b.wa x.ws.length b.wc, .slice b.oa x.os.length b.oc, .slice b.ka x.kn.length b.kc] 32)) = w0 at *
  refine (eqSlots_any a.la b.la x.sl a.lc b.lc _ hf.l L0.l M0.l).mono ?_
  rintro e w1 ⟨rfl, hb⟩
  have A1 := A0.below hb A0.lt
  have Z1 := Z0.below hb Z0.lt
  have L1 := L0.below hb
  have M1 := M0.below hb
  have B1 : Below w.heap.size w w1 := B0.trans (hb.mono B0.size)
  clear A0 Z0 L0 M0 B0 hb
  obtain ⟨q1, g1⟩ := A1.rules
  obtain ⟨q2, g2⟩ := Z1.rules
  go_wp2_with fail
  clear q1 g1 q2 g2
  refine (eqVers_any a.va b.va x.vs a.vc b.vc _ hf.v hf.dv L1.v M1.v).mono ?_
  rintro e w2 ⟨rfl, hb⟩
  have A2 := A1.below hb A1.lt
  have Z2 := Z1.below hb Z1.lt
  have L2 := L1.below hb
  have M2 := M1.below hb
  have B2 : Below w.heap.size w w2 := B1.trans (hb.mono B1.size)
  clear A1 Z1 L1 M1 B1 hb
  obtain ⟨q1, g1⟩ := A2.rules
  obtain ⟨q2, g2⟩ := Z2.rules
  go_wp2_with fail
  clear q1 g1 q2 g2
  refine (eqVers_any a.wa b.wa x.ws a.wc b.wc _ hf.w hf.dw L2.w M2.w).mono ?_
  rintro e w3 ⟨rfl, hb⟩
  have A3 := A2.below hb A2.lt
  have Z3 := Z2.below hb Z2.lt
  have L3 := L2.below hb
  have M3 := M2.below hb
  have B3 : Below w.heap.size w w3 := B2.trans (hb.mono B2.size)
  clear A2 Z2 L2 M2 B2 hb
  obtain ⟨q1, g1⟩ := A3.rules
  obtain ⟨q2, g2⟩ := Z3.rules
  go_wp2_with fail
  clear q1 g1 q2 g2
  refine (eqDeps_any a.oa b.oa x.os a.oc b.oc _ hf.o L3.o M3.o).mono ?_
  rintro e w4 ⟨rfl, hb⟩
  have A4 := A3.below hb A3.lt
  have Z4 := Z3.below hb Z3.lt
  have L4 := L3.below hb
  have M4 := M3.below hb
  have B4 : Below w.heap.size w w4 := B3.trans (hb.mono B3.size)
  clear A3 Z3 L3 M3 B3 hb
  obtain ⟨q1, g1⟩ := A4.rules
  obtain ⟨q2, g2⟩ := Z4.rules
  go_wp2_with fail
  clear q1 g1 q2 g2
  refine (eqDeps_any a.ka b.ka x.kn a.kc b.kc _ hf.k L4.k M4.k).mono ?_
  rintro e w5 ⟨rfl, hb⟩
  have B5 : Below w.heap.size w w5 := B4.trans (hb.mono B4.size)
  clear A4 Z4 L4 M4 B4 hb
  go_wp2_with fail
  go_ret
  exact ⟨rfl, B5⟩

/-- A server that came in. -/
structure InJ (W : World) (x : Sv) (a : Sa) : Prop where
  l : Slots W a.la x.sl
  v : VersI W a.va x.vs
  w : VersI W a.wa x.ws
  o : Deps W a.oa x.os
  k : Deps W a.ka x.kn
  ll : x.sl.length ≤ maxLen
  vl : x.vs.length ≤ maxLen
  wl : x.ws.length ≤ maxLen
  ol : x.os.length ≤ maxLen
  kl : x.kn.length ≤ maxLen
theorem InJ.below {w w' : World} {x : Sv} {a : Sa} (h : InJ w x a) (k : Below w.heap.size w w') : InJ w' x a := ⟨h.l.below k, h.v.below k, h.w.below k, h.o.below k, h.k.below k, h.ll, h.vl, h.wl, h.ol, h.kl⟩
theorem InJ.inS {W : World} {x : Sv} {a : Sa} (h : InJ W x a) (hs : sizeS x ≤ 1048576) : InS W x a := by
  unfold sizeS at hs
  exact ⟨h.l, h.v.vers (fun v hv => by have := tot_mem hv; omega), h.w.vers (fun v hv => by have := tot_mem hv; omega), h.o, h.k⟩

set_option maxHeartbeats 1000000 in
theorem szServer_any (x : Sv) (a : Sa) (w : World) (h : InJ w x a) : Calls Tryz.prog 9 #[servV x a, .int .i64 1048576] w fun e w' => ∃ r : Int, e = .returned (.int .i64 r) ∧ (r < 0 ∨ 0 ≤ r ∧ sizeS x ≤ 1048576) ∧ Below w.heap.size w w' := by
  have b0 : Below w.heap.size w (w.alloc (.cells #[.int .i64 x.site, .bool x.up, .slice a.la x.sl.length a.lc, .slice a.va x.vs.length a.vc, .slice a.wa x.ws.length a.wc, .slice a.oa x.os.length a.oc, .slice a.ka x.kn.length a.kc] 26)) := (Below.refl _ _).alloc (Nat.le_refl _) _
  have A0 := Blk.new w #[.int .i64 x.site, .bool x.up, .slice a.la x.sl.length a.lc, .slice a.va x.vs.length a.vc, .slice a.wa x.ws.length a.wc, .slice a.oa x.os.length a.oc, .slice a.ka x.kn.length a.kc] 26
  have I0 := h.below b0
  obtain ⟨r1, e1, c1⟩ := if_sum (l := 1048576) (n := (x.sl.length : Int))
  have s1 := fun W => szSlots_any a.la x.sl.length a.lc 1048576 W h.ll (by omega) (by omega)
  rw [e1] at s1
  have HS : Hid (sizeS x = (x.sl.length : Int) + ((x.vs.length : Int) + tot x.vs) + ((x.ws.length : Int) + tot x.ws) + x.os.length + x.kn.length) := rfl
  generalize sizeS x = sz at *
  have vl := h.vl
  have wl := h.wl
  have ol := h.ol
  have kl := h.kl
  clear h e1
  go_enter Tryz.func9, Tryz.ntmps9
  go_wp2_with fail
  generalize w.alloc (.cells #[.int .i64 x.site, .bool x.up, .slice a.la x.sl.length a.lc, .slice a.va x.vs.length a.vc, .slice a.wa x.ws.length a.wc, .slice a.oa x.os.length a.oc, .slice a.ka x.kn.length a.kc] 26) = w0 at *
  refine (s1 _).mono ?_
  rintro e w1 ⟨rfl, rfl⟩
  clear s1
  rcases c1 with ⟨c1, _⟩ | ⟨c1, n1⟩
  · have d1 : decide (r1 < 0) = true := by simpa using c1
    clear c1 A0 I0 HS
    go_wp2_with fail
    go_ret
    exact ⟨-1, rfl, .inl (by omega), b0⟩
  have H1 : Hid (r1 = 1048576 - (x.sl.length : Int)) := c1
  clear c1
  obtain ⟨r2, e2, c2⟩ := if_sum2 (l := r1) (n := (x.vs.length : Int)) (m := (tot x.vs : Int))
  have s2 := fun W h => szVersL_any a.va a.vc x.vs r1 W vl n1 (by have := H1.out; omega) h
  rw [e2] at s2
  have d1 : decide (r1 < 0) = false := by simp; omega
  obtain ⟨q1, g1⟩ := A0.rules
  clear e2
  go_wp2_with fail
  clear q1 g1 d1
  refine (s2 _ I0.v).mono ?_
  rintro e w2 ⟨rfl, hb2⟩
  have A2 := A0.below hb2 A0.lt
  have I2 := I0.below hb2
  have B2 : Below w.heap.size w w2 := b0.trans (hb2.mono b0.size)
  clear A0 I0 b0 hb2 s2
  rcases c2 with ⟨c2, _⟩ | ⟨c2, n2⟩
  · have d1 : decide (r2 < 0) = true := by simpa using c2
    clear A2 I2 HS c2
    go_wp2_with fail
    go_ret
    exact ⟨-1, rfl, .inl (by omega), B2⟩
  have H2 : Hid (r2 = r1 - (x.vs.length : Int) - (tot x.vs : Int)) := c2
  clear c2
  obtain ⟨r3, e3, c3⟩ := if_sum2 (l := r2) (n := (x.ws.length : Int)) (m := (tot x.ws : Int))
  have s3 := fun W h => szVersL_any a.wa a.wc x.ws r2 W wl n2 (by have := H1.out; have := H2.out; omega) h
  rw [e3] at s3
  have d1 : decide (r2 < 0) = false := by simp; omega
  obtain ⟨q1, g1⟩ := A2.rules
  clear e3
  go_wp2_with fail
  clear q1 g1 d1
  refine (s3 _ I2.w).mono ?_
  rintro e w3 ⟨rfl, hb3⟩
  have A3 := A2.below hb3 A2.lt
  have I3 := I2.below hb3
  have B3 : Below w.heap.size w w3 := B2.trans (hb3.mono B2.size)
  clear A2 I2 B2 hb3 s3
  rcases c3 with ⟨c3, _⟩ | ⟨c3, n3⟩
  · have d1 : decide (r3 < 0) = true := by simpa using c3
    clear A3 I3 HS c3
    go_wp2_with fail
    go_ret
    exact ⟨-1, rfl, .inl (by omega), B3⟩
  have H3 : Hid (r3 = r2 - (x.ws.length : Int) - (tot x.ws : Int)) := c3
  clear c3
  obtain ⟨r4, e4, c4⟩ := if_sum (l := r3) (n := (x.os.length : Int))
  have s4 := fun W => szDeps_any a.oa x.os.length a.oc r3 W ol n3 (by have := H1.out; have := H2.out; have := H3.out; omega)
  rw [e4] at s4
  have d1 : decide (r3 < 0) = false := by simp; omega
  obtain ⟨q1, g1⟩ := A3.rules
  clear e4
  go_wp2_with fail
  clear q1 g1 d1
  refine (s4 _).mono ?_
  rintro e w4 ⟨rfl, rfl⟩
  clear s4
  rcases c4 with ⟨c4, _⟩ | ⟨c4, n4⟩
  · have d1 : decide (r4 < 0) = true := by simpa using c4
    clear A3 HS c4
    go_wp2_with fail
    go_ret
    exact ⟨-1, rfl, .inl (by omega), B3⟩
  have H4 : Hid (r4 = r3 - (x.os.length : Int)) := c4
  clear c4
  obtain ⟨r5, e5, c5⟩ := if_sum (l := r4) (n := (x.kn.length : Int))
  have s5 := fun W => szDeps_any a.ka x.kn.length a.kc r4 W kl n4 (by have := H1.out; have := H2.out; have := H3.out; have := H4.out; omega)
  rw [e5] at s5
  have d1 : decide (r4 < 0) = false := by simp; omega
  obtain ⟨q1, g1⟩ := A3.rules
  clear e5
  go_wp2_with fail
  clear q1 g1 d1
  refine (s5 _).mono ?_
  rintro e w5 ⟨rfl, rfl⟩
  clear s5
  rcases c5 with ⟨c5, _⟩ | ⟨c5, n5⟩
  · have d1 : decide (r5 < 0) = true := by simpa using c5
    clear A3 HS c5
    go_wp2_with fail
    go_ret
    exact ⟨-1, rfl, .inl (by omega), B3⟩
  have H5 : Hid (r5 = r4 - (x.kn.length : Int)) := c5
  clear c5
  have d1 : decide (r5 < 0) = false := by simp; omega
  have HF : Hid (sz ≤ 1048576) := by
    have := H1.out; have := H2.out; have := H3.out; have := H4.out; have := H5.out; have := HS.out
    show _ ≤ _
    omega
  clear HS H1 H2 H3 H4 H5
  go_wp2_with fail
  go_ret
  exact ⟨r5, rfl, .inr ⟨n5, HF.out⟩, B3⟩
end Go.Proofs.YtpjidogilofppaaGreat

/- A server that came in is copied. -/
namespace Go.Proofs.YtpjidogilofppaaGreat
open Go.ChangeShapes Go.WideShapes Go.ChangeAt Go.RowKit

theorem rowSetB2 {w : World} {base Z j : Nat} {v u : Value} {xs : List Sl} (h : RowS w base v xs) (hZ : Z < base) : RowS (w.setCell ⟨Z, j, none⟩ u) base v xs := row_set h (fun i hi => by have := (h.lt i hi).1; omega) u
theorem OwnS.setB {w : World} {base Z j : Nat} {u : Value} {x : Sv} {a : Sa} {ys zs : List XV} (h : OwnS w base x a ys zs) (hZ : Z < base) : OwnS (w.setCell ⟨Z, j, none⟩ u) base x a ys zs :=
  ⟨rowSetB2 h.l hZ, h.v.setB hZ, h.w.setB hZ, rowSetB h.o hZ, rowSetB h.k hZ, h.hy, h.hz, h.vw, h.vo, h.vk, h.wo, h.wk, h.ok⟩
theorem OwnS.fill {w : World} {base Z : Nat} {v0 v1 v2 v3 v4 v5 v6 : Value} {x : Sv} {a : Sa} {ys zs : List XV} (h : OwnS w base x a ys zs) (hZ : Z < base) : OwnS (((((((w.setCell ⟨Z, 0, none⟩ v0).setCell ⟨Z, 1, none⟩ v1).setCell ⟨Z, 2, none⟩ v2).setCell ⟨Z, 3, none⟩ v3).setCell ⟨Z, 4, none⟩ v4).setCell ⟨Z, 5, none⟩ v5).setCell ⟨Z, 6, none⟩ v6) base x a ys zs :=
  ((((((h.setB hZ).setB hZ).setB hZ).setB hZ).setB hZ).setB hZ).setB hZ
/-- Four parts that were made one behind the other lie apart. -/
theorem OwnS.mk4 {W : World} {base : Nat} {x : Sv} {a : Sa} {ys zs : List XV} (l : RowS W base (.slice a.la x.sl.length a.lc) x.sl) (v : OwnV W base (.slice a.va x.vs.length a.vc) ys) (w : OwnV W base (.slice a.wa x.ws.length a.wc) zs) (o : RowD W base (.slice a.oa x.os.length a.oc) x.os) (k : RowD W base (.slice a.ka x.kn.length a.kc) x.kn) (hy : ys.map XV.v = x.vs) (hz : zs.map XV.v = x.ws) (n1 n2 n3 : Nat)
    (iv : ∀ b, inV (.slice a.va x.vs.length a.vc) ys b → b < n1) (iw : ∀ b, inV (.slice a.wa x.ws.length a.wc) zs b → n1 ≤ b ∧ b < n2) (io : ∀ b, (Value.slice a.oa x.os.length a.oc).ownBlock = some b → n2 ≤ b ∧ b < n3) (ik : ∀ b, (Value.slice a.ka x.kn.length a.kc).ownBlock = some b → n3 ≤ b) (h12 : n1 ≤ n2) (h23 : n2 ≤ n3) : OwnS W base x a ys zs :=
  ⟨l, v, w, o, k, hy, hz, fun b h h' => by have := iv b h; have := iw b h'; omega, fun b h h' => by have := iv b h; have := io b h'; omega, fun b h h' => by have := iv b h; have := ik b h'; omega, fun b h h' => by have := iw b h; have := io b h'; omega, fun b h h' => by have := iw b h; have := ik b h'; omega, fun b h h' => by have := io b h; have := ik b h'; omega⟩

set_option maxHeartbeats 8000000 in
set_option maxRecDepth 20000 in
theorem toServer_any (x : Sv) (a : Sa) (w : World) (hf : Fit x) (h : InS w x a) :
    Calls Tryz.prog 11 #[servV x a] w fun e w' => ∃ b ys zs, e = .returned (servV x b) ∧ OwnS w' w.heap.size x b ys zs ∧ Below w.heap.size w w' := by
  have W0 : Below w.heap.size w (((w.alloc (.cells #[.int .i64 x.site, .bool x.up, .slice a.la x.sl.length a.lc, .slice a.va x.vs.length a.vc, .slice a.wa x.ws.length a.wc, .slice a.oa x.os.length a.oc, .slice a.ka x.kn.length a.kc] 26)).alloc (.cells #[.int .i64 0, .bool false, .slice none 0 0, .slice none 0 0, .slice none 0 0, .slice none 0 0, .slice none 0 0] 32)).alloc (.cells #[.int .i64 x.site, .bool x.up, .slice none 0 0, .slice none 0 0, .slice none 0 0, .slice none 0 0, .slice none 0 0] 32)) := (((Below.refl _ _).alloc (Nat.le_refl _) _).alloc (by simp) _).alloc (by simp; omega) _
  have A0 : Blk (((w.alloc (.cells #[.int .i64 x.site, .bool x.up, .slice a.la x.sl.length a.lc, .slice a.va x.vs.length a.vc, .slice a.wa x.ws.length a.wc, .slice a.oa x.os.length a.oc, .slice a.ka x.kn.length a.kc] 26)).alloc (.cells #[.int .i64 0, .bool false, .slice none 0 0, .slice none 0 0, .slice none 0 0, .slice none 0 0, .slice none 0 0] 32)).alloc (.cells #[.int .i64 x.site, .bool x.up, .slice none 0 0, .slice none 0 0, .slice none 0 0, .slice none 0 0, .slice none 0 0] 32)) w.heap.size #[.int .i64 x.site, .bool x.up, .slice a.la x.sl.length a.lc, .slice a.va x.vs.length a.vc, .slice a.wa x.ws.length a.wc, .slice a.oa x.os.length a.oc, .slice a.ka x.kn.length a.kc] 26 := ((Blk.new w _ _).alloc _).alloc _
  have Z0 : Blk (((w.alloc (.cells #[.int .i64 x.site, .bool x.up, .slice a.la x.sl.length a.lc, .slice a.va x.vs.length a.vc, .slice a.wa x.ws.length a.wc, .slice a.oa x.os.length a.oc, .slice a.ka x.kn.length a.kc] 26)).alloc (.cells #[.int .i64 0, .bool false, .slice none 0 0, .slice none 0 0, .slice none 0 0, .slice none 0 0, .slice none 0 0] 32)).alloc (.cells #[.int .i64 x.site, .bool x.up, .slice none 0 0, .slice none 0 0, .slice none 0 0, .slice none 0 0, .slice none 0 0] 32)) (w.heap.size + 1) #[.int .i64 0, .bool false, .slice none 0 0, .slice none 0 0, .slice none 0 0, .slice none 0 0, .slice none 0 0] 32 := by have := (Blk.new (w.alloc (.cells #[.int .i64 x.site, .bool x.up, .slice a.la x.sl.length a.lc, .slice a.va x.vs.length a.vc, .slice a.wa x.ws.length a.wc, .slice a.oa x.os.length a.oc, .slice a.ka x.kn.length a.kc] 26)) #[.int .i64 0, .bool false, .slice none 0 0, .slice none 0 0, .slice none 0 0, .slice none 0 0, .slice none 0 0] 32).alloc (.cells #[.int .i64 x.site, .bool x.up, .slice none 0 0, .slice none 0 0, .slice none 0 0, .slice none 0 0, .slice none 0 0] 32); simpa using this
  have O0 : Blk (((w.alloc (.cells #[.int .i64 x.site, .bool x.up, .slice a.la x.sl.length a.lc, .slice a.va x.vs.length a.vc, .slice a.wa x.ws.length a.wc, .slice a.oa x.os.length a.oc, .slice a.ka x.kn.length a.kc] 26)).alloc (.cells #[.int .i64 0, .bool false, .slice none 0 0, .slice none 0 0, .slice none 0 0, .slice none 0 0, .slice none 0 0] 32)).alloc (.cells #[.int .i64 x.site, .bool x.up, .slice none 0 0, .slice none 0 0, .slice none 0 0, .slice none 0 0, .slice none 0 0] 32)) (w.heap.size + 1 + 1) #[.int .i64 x.site, .bool x.up, .slice none 0 0, .slice none 0 0, .slice none 0 0, .slice none 0 0, .slice none 0 0] 32 := by have := Blk.new ((w.alloc (.cells #[.int .i64 x.site, .bool x.up, .slice a.la x.sl.length a.lc, .slice a.va x.vs.length a.vc, .slice a.wa x.ws.length a.wc, .slice a.oa x.os.length a.oc, .slice a.ka x.kn.length a.kc] 26)).alloc (.cells #[.int .i64 0, .bool false, .slice none 0 0, .slice none 0 0, .slice none 0 0, .slice none 0 0, .slice none 0 0] 32)) #[.int .i64 x.site, .bool x.up, .slice none 0 0, .slice none 0 0, .slice none 0 0, .slice none 0 0, .slice none 0 0] 32; simpa using this
  have L : InS w x a := h
  have L0 := h.below W0
  clear h
  go_enter Tryz.func11, Tryz.ntmps11
  go_wp2_with fail
  generalize (((w.alloc (.cells #[.int .i64 x.site, .bool x.up, .slice a.la x.sl.length a.lc, .slice a.va x.vs.length a.vc, .slice a.wa x.ws.length a.wc, .slice a.oa x.os.length a.oc, .slice a.ka x.kn.length a.kc] 26)).alloc (.cells #[.int .i64 0, .bool false, .slice none 0 0, .slice none 0 0, .slice none 0 0, .slice none 0 0, .slice none 0 0] 32)).alloc (.cells #[.int .i64 x.site, .bool x.up, .slice none 0 0, .slice none 0 0, .slice none 0 0, .slice none 0 0, .slice none 0 0] 32)) = U0 at *
  have z0 := O0.lt
  refine (toSlots_any a.la a.lc x.sl _ hf.l L0.l).mono ?_
  rintro e w1 ⟨bl, rfl, _, RR, hb⟩
  have A1 := A0.below hb A0.lt
  have Z1 := Z0.below hb Z0.lt
  have O1 := O0.below hb O0.lt
  have L1 := L0.below hb
  have W1 : Below w.heap.size w w1 := W0.trans (hb.mono W0.size)
  have RL1 := row_mono RR (base' := (w.heap.size + 3)) (by omega)
  clear RR
  have n1 := hb.size
  have z1 := O1.lt
  clear hb A0 Z0 O0 L0 W0
  obtain ⟨qa, ga⟩ := A1.rules
  obtain ⟨qo, go⟩ := O1.rules
  have O1b : Blk (w1.setCell ⟨w.heap.size + 1 + 1, 2, none⟩ (.slice (some ⟨bl, 0, none⟩) x.sl.length x.sl.length)) (w.heap.size + 1 + 1) #[.int .i64 x.site, .bool x.up, .slice (some ⟨bl, 0, none⟩) x.sl.length x.sl.length, .slice none 0 0, .slice none 0 0, .slice none 0 0, .slice none 0 0] 32 := by
    have := O1.set 2 (.slice (some ⟨bl, 0, none⟩) x.sl.length x.sl.length)
    simpa using this
  have A1b := A1.other (a := ⟨w.heap.size + 1 + 1, 2, none⟩) (by simp; omega) (.slice (some ⟨bl, 0, none⟩) x.sl.length x.sl.length)
  have Z1b := Z1.other (a := ⟨w.heap.size + 1 + 1, 2, none⟩) (by simp) (.slice (some ⟨bl, 0, none⟩) x.sl.length x.sl.length)
  have k1 : Below w1.heap.size w1 w1 := Below.refl _ _
  have W1b := W1.setCell (p := ⟨w.heap.size + 1 + 1, 2, none⟩) (by simp; omega) (.slice (some ⟨bl, 0, none⟩) x.sl.length x.sl.length)
  have n1b : (w1.setCell ⟨w.heap.size + 1 + 1, 2, none⟩ (.slice (some ⟨bl, 0, none⟩) x.sl.length x.sl.length)).heap.size = w1.heap.size := by simp
  have RL1b := rowSetB2 RL1 (Z := w.heap.size + 1 + 1) (j := 2) (u := .slice (some ⟨bl, 0, none⟩) x.sl.length x.sl.length) (by omega)
  have L1b := L.below W1b
  go_wp2_with fail
  clear qa ga qo go A1 O1 Z1 W1 L1 k1 RL1
  generalize w1.setCell ⟨w.heap.size + 1 + 1, 2, none⟩ (.slice (some ⟨bl, 0, none⟩) x.sl.length x.sl.length) = U1 at *
  have z1b := O1b.lt
  have A1 := A1b
  have Z1 := Z1b
  have O1 := O1b
  have L1 := L1b
  have W1 := W1b
  have RL1 := RL1b
  clear A1b Z1b O1b L1b W1b RL1b
  refine (toVers_any a.va a.vc x.vs _ hf.v hf.dv L1.v).mono ?_
  rintro e w2 ⟨u, ys, rfl, OO, hy, hb⟩
  obtain ⟨va, vc, rfl, _⟩ := OO.asD hy
  have A2 := A1.below hb A1.lt
  have Z2 := Z1.below hb Z1.lt
  have O2 := O1.below hb O1.lt
  have L2 := L1.below hb
  have W2 : Below w.heap.size w w2 := W1.trans (hb.mono W1.size)
  have RL2 := row_below RL1 hb (Nat.le_refl _)
  have OV2 := OO.mono (base' := (w.heap.size + 3)) (by omega)
  have iv : Hid (∀ b, inV (.slice va x.vs.length vc) ys b → b < w2.heap.size) := by show ∀ b, _; intro b hb; exact (OO.lt hb).2
  have HY : Hid (ys.map XV.v = x.vs) := hy
  clear OO hy
  have n2 := hb.size
  have z2 := O2.lt
  clear hb A1 Z1 O1 L1 W1 RL1
  obtain ⟨qa, ga⟩ := A2.rules
  obtain ⟨qo, go⟩ := O2.rules
  have O2b : Blk (w2.setCell ⟨w.heap.size + 1 + 1, 3, none⟩ (.slice va x.vs.length vc)) (w.heap.size + 1 + 1) #[.int .i64 x.site, .bool x.up, .slice (some ⟨bl, 0, none⟩) x.sl.length x.sl.length, .slice va x.vs.length vc, .slice none 0 0, .slice none 0 0, .slice none 0 0] 32 := by
    have := O2.set 3 (.slice va x.vs.length vc)
    simpa using this
  have A2b := A2.other (a := ⟨w.heap.size + 1 + 1, 3, none⟩) (by simp; omega) (.slice va x.vs.length vc)
  have Z2b := Z2.other (a := ⟨w.heap.size + 1 + 1, 3, none⟩) (by simp) (.slice va x.vs.length vc)
  have k2 : Below w2.heap.size w2 w2 := Below.refl _ _
  have W2b := W2.setCell (p := ⟨w.heap.size + 1 + 1, 3, none⟩) (by simp; omega) (.slice va x.vs.length vc)
  have n2b : (w2.setCell ⟨w.heap.size + 1 + 1, 3, none⟩ (.slice va x.vs.length vc)).heap.size = w2.heap.size := by simp
  have RL2b := rowSetB2 RL2 (Z := w.heap.size + 1 + 1) (j := 3) (u := .slice va x.vs.length vc) (by omega)
  have OV2b := OwnV.setB OV2 (Z := w.heap.size + 1 + 1) (j := 3) (u := .slice va x.vs.length vc) (by omega)
  have L2b := L.below W2b
  go_wp2_with fail
  clear qa ga qo go A2 O2 Z2 W2 L2 k2 RL2 OV2
  generalize w2.setCell ⟨w.heap.size + 1 + 1, 3, none⟩ (.slice va x.vs.length vc) = U2 at *
  have z2b := O2b.lt
  have A2 := A2b
  have Z2 := Z2b
  have O2 := O2b
  have L2 := L2b
  have W2 := W2b
  have RL2 := RL2b
  have OV2 := OV2b
  clear A2b Z2b O2b L2b W2b RL2b OV2b
  refine (toVers_any a.wa a.wc x.ws _ hf.w hf.dw L2.w).mono ?_
  rintro e w3 ⟨u, zs, rfl, OO, hz, hb⟩
  obtain ⟨wa, wc, rfl, _⟩ := OO.asD hz
  have A3 := A2.below hb A2.lt
  have Z3 := Z2.below hb Z2.lt
  have O3 := O2.below hb O2.lt
  have L3 := L2.below hb
  have W3 : Below w.heap.size w w3 := W2.trans (hb.mono W2.size)
  have RL3 := row_below RL2 hb (Nat.le_refl _)
  have OV3 := OV2.below hb (Nat.le_refl _)
  have OW3 := OO.mono (base' := (w.heap.size + 3)) (by omega)
  have iw : Hid (∀ b, inV (.slice wa x.ws.length wc) zs b → U2.heap.size ≤ b ∧ b < w3.heap.size) := by show ∀ b, _; intro b hb; exact OO.lt hb
  have HZ : Hid (zs.map XV.v = x.ws) := hz
  clear OO hz
  have n3 := hb.size
  have z3 := O3.lt
  clear hb A2 Z2 O2 L2 W2 RL2 OV2
  obtain ⟨qa, ga⟩ := A3.rules
  obtain ⟨qo, go⟩ := O3.rules
  have O3b : Blk (w3.setCell ⟨w.heap.size + 1 + 1, 4, none⟩ (.slice wa x.ws.length wc)) (w.heap.size + 1 + 1) #[.int .i64 x.site, .bool x.up, .slice (some ⟨bl, 0, none⟩) x.sl.length x.sl.length, .slice va x.vs.length vc, .slice wa x.ws.length wc, .slice none 0 0, .slice none 0 0] 32 := by
    have := O3.set 4 (.slice wa x.ws.length wc)
    simpa using this
  have A3b := A3.other (a := ⟨w.heap.size + 1 + 1, 4, none⟩) (by simp; omega) (.slice wa x.ws.length wc)
  have Z3b := Z3.other (a := ⟨w.heap.size + 1 + 1, 4, none⟩) (by simp) (.slice wa x.ws.length wc)
  have k3 : Below w3.heap.size w3 w3 := Below.refl _ _
  have W3b := W3.setCell (p := ⟨w.heap.size + 1 + 1, 4, none⟩) (by simp; omega) (.slice wa x.ws.length wc)
  have n3b : (w3.setCell ⟨w.heap.size + 1 + 1, 4, none⟩ (.slice wa x.ws.length wc)).heap.size = w3.heap.size := by simp
  have RL3b := rowSetB2 RL3 (Z := w.heap.size + 1 + 1) (j := 4) (u := .slice wa x.ws.length wc) (by omega)
  have OV3b := OwnV.setB OV3 (Z := w.heap.size + 1 + 1) (j := 4) (u := .slice wa x.ws.length wc) (by omega)
  have OW3b := OwnV.setB OW3 (Z := w.heap.size + 1 + 1) (j := 4) (u := .slice wa x.ws.length wc) (by omega)
  have L3b := L.below W3b
  go_wp2_with fail
  clear qa ga qo go A3 O3 Z3 W3 L3 k3 RL3 OV3 OW3
  generalize w3.setCell ⟨w.heap.size + 1 + 1, 4, none⟩ (.slice wa x.ws.length wc) = U3 at *
  have z3b := O3b.lt
  have A3 := A3b
  have Z3 := Z3b
  have O3 := O3b
  have L3 := L3b
  have W3 := W3b
  have RL3 := RL3b
  have OV3 := OV3b
  have OW3 := OW3b
  clear A3b Z3b O3b L3b W3b RL3b OV3b OW3b
  refine (toDeps_any a.oa a.oc x.os _ hf.o L3.o).mono ?_
  rintro e w4 ⟨bo, rfl, _, RR, hb⟩
  have A4 := A3.below hb A3.lt
  have Z4 := Z3.below hb Z3.lt
  have O4 := O3.below hb O3.lt
  have L4 := L3.below hb
  have W4 : Below w.heap.size w w4 := W3.trans (hb.mono W3.size)
  have RL4 := row_below RL3 hb (Nat.le_refl _)
  have OV4 := OV3.below hb (Nat.le_refl _)
  have OW4 := OW3.below hb (Nat.le_refl _)
  have RO4 := row_mono RR (base' := (w.heap.size + 3)) (by omega)
  have io : Hid (∀ b, (Value.slice (some ⟨bo, 0, none⟩) x.os.length x.os.length).ownBlock = some b → U3.heap.size ≤ b ∧ b < w4.heap.size) := by show ∀ b, _; intro b hb; exact RR.lt b hb
  clear RR
  have n4 := hb.size
  have z4 := O4.lt
  clear hb A3 Z3 O3 L3 W3 RL3 OV3 OW3
  obtain ⟨qa, ga⟩ := A4.rules
  obtain ⟨qo, go⟩ := O4.rules
  have O4b : Blk (w4.setCell ⟨w.heap.size + 1 + 1, 5, none⟩ (.slice (some ⟨bo, 0, none⟩) x.os.length x.os.length)) (w.heap.size + 1 + 1) #[.int .i64 x.site, .bool x.up, .slice (some ⟨bl, 0, none⟩) x.sl.length x.sl.length, .slice va x.vs.length vc, .slice wa x.ws.length wc, .slice (some ⟨bo, 0, none⟩) x.os.length x.os.length, .slice none 0 0] 32 := by
    have := O4.set 5 (.slice (some ⟨bo, 0, none⟩) x.os.length x.os.length)
    simpa using this
  have A4b := A4.other (a := ⟨w.heap.size + 1 + 1, 5, none⟩) (by simp; omega) (.slice (some ⟨bo, 0, none⟩) x.os.length x.os.length)
  have Z4b := Z4.other (a := ⟨w.heap.size + 1 + 1, 5, none⟩) (by simp) (.slice (some ⟨bo, 0, none⟩) x.os.length x.os.length)
  have k4 : Below w4.heap.size w4 w4 := Below.refl _ _
  have W4b := W4.setCell (p := ⟨w.heap.size + 1 + 1, 5, none⟩) (by simp; omega) (.slice (some ⟨bo, 0, none⟩) x.os.length x.os.length)
  have n4b : (w4.setCell ⟨w.heap.size + 1 + 1, 5, none⟩ (.slice (some ⟨bo, 0, none⟩) x.os.length x.os.length)).heap.size = w4.heap.size := by simp
  have RL4b := rowSetB2 RL4 (Z := w.heap.size + 1 + 1) (j := 5) (u := .slice (some ⟨bo, 0, none⟩) x.os.length x.os.length) (by omega)
  have OV4b := OwnV.setB OV4 (Z := w.heap.size + 1 + 1) (j := 5) (u := .slice (some ⟨bo, 0, none⟩) x.os.length x.os.length) (by omega)
  have OW4b := OwnV.setB OW4 (Z := w.heap.size + 1 + 1) (j := 5) (u := .slice (some ⟨bo, 0, none⟩) x.os.length x.os.length) (by omega)
  have RO4b := rowSetB RO4 (Z := w.heap.size + 1 + 1) (j := 5) (u := .slice (some ⟨bo, 0, none⟩) x.os.length x.os.length) (by omega)
  have L4b := L.below W4b
  go_wp2_with fail
  clear qa ga qo go A4 O4 Z4 W4 L4 k4 RL4 OV4 OW4 RO4
  generalize w4.setCell ⟨w.heap.size + 1 + 1, 5, none⟩ (.slice (some ⟨bo, 0, none⟩) x.os.length x.os.length) = U4 at *
  have z4b := O4b.lt
  have A4 := A4b
  have Z4 := Z4b
  have O4 := O4b
  have L4 := L4b
  have W4 := W4b
  have RL4 := RL4b
  have OV4 := OV4b
  have OW4 := OW4b
  have RO4 := RO4b
  clear A4b Z4b O4b L4b W4b RL4b OV4b OW4b RO4b
  refine (toDeps_any a.ka a.kc x.kn _ hf.k L4.k).mono ?_
  rintro e w5 ⟨bk, rfl, _, RR, hb⟩
  have A5 := A4.below hb A4.lt
  have Z5 := Z4.below hb Z4.lt
  have O5 := O4.below hb O4.lt
  have L5 := L4.below hb
  have W5 : Below w.heap.size w w5 := W4.trans (hb.mono W4.size)
  have RL5 := row_below RL4 hb (Nat.le_refl _)
  have OV5 := OV4.below hb (Nat.le_refl _)
  have OW5 := OW4.below hb (Nat.le_refl _)
  have RO5 := row_below RO4 hb (Nat.le_refl _)
  have RK5 := row_mono RR (base' := (w.heap.size + 3)) (by omega)
  have ik : Hid (∀ b, (Value.slice (some ⟨bk, 0, none⟩) x.kn.length x.kn.length).ownBlock = some b → U4.heap.size ≤ b) := by show ∀ b, _; intro b hb; exact (RR.lt b hb).1
  clear RR
  have n5 := hb.size
  have z5 := O5.lt
  clear hb A4 Z4 O4 L4 W4 RL4 OV4 OW4 RO4
  obtain ⟨qo, go⟩ := O5.rules
  obtain ⟨qz, gz⟩ := Z5.rules
  have Z6 := Z5.other (a := ⟨w.heap.size + 1 + 1, 6, none⟩) (by simp) (.slice (some ⟨bk, 0, none⟩) x.kn.length x.kn.length)
  have W6 := W5.setCell (p := ⟨w.heap.size + 1 + 1, 6, none⟩) (by simp; omega) (.slice (some ⟨bk, 0, none⟩) x.kn.length x.kn.length)
  have RL6 := rowSetB2 RL5 (Z := w.heap.size + 1 + 1) (j := 6) (u := .slice (some ⟨bk, 0, none⟩) x.kn.length x.kn.length) (by omega)
  have OV6 := OwnV.setB OV5 (Z := w.heap.size + 1 + 1) (j := 6) (u := .slice (some ⟨bk, 0, none⟩) x.kn.length x.kn.length) (by omega)
  have OW6 := OwnV.setB OW5 (Z := w.heap.size + 1 + 1) (j := 6) (u := .slice (some ⟨bk, 0, none⟩) x.kn.length x.kn.length) (by omega)
  have RO6 := rowSetB RO5 (Z := w.heap.size + 1 + 1) (j := 6) (u := .slice (some ⟨bk, 0, none⟩) x.kn.length x.kn.length) (by omega)
  have RK6 := rowSetB RK5 (Z := w.heap.size + 1 + 1) (j := 6) (u := .slice (some ⟨bk, 0, none⟩) x.kn.length x.kn.length) (by omega)
  have S6 := (OwnS.mk4 (x := x) (a := ⟨some ⟨bl, 0, none⟩, x.sl.length, va, vc, wa, wc, some ⟨bo, 0, none⟩, x.os.length, some ⟨bk, 0, none⟩, x.kn.length⟩) RL6 OV6 OW6 RO6 RK6 HY.out HZ.out w2.heap.size w3.heap.size w4.heap.size iv.out (fun b hb => by have := iw.out b hb; omega) (fun b hb => by have := io.out b hb; omega) (fun b hb => by have := ik.out b hb; omega) (by omega) (by omega)).mono (base' := w.heap.size + 3) (Nat.le_refl _)
  clear A5 Z5 W5 L5 RL5 OV5 OW5 RO5 RK5 RL6 OV6 OW6 RO6 RK6 iv iw io ik HY HZ
  go_wp2_with fail
  refine bodyPost_ret (v := servV x ⟨some ⟨bl, 0, none⟩, x.sl.length, va, vc, wa, wc, some ⟨bo, 0, none⟩, x.os.length, some ⟨bk, 0, none⟩, x.kn.length⟩) ?_ rfl ⟨_, ys, zs, rfl, (S6.fill (by omega)).mono (by omega), fill7_below W6 (by omega)⟩
  refine Blk.gen (B := w.heap.size + 1) (vs := #[.int .i64 x.site, .bool x.up, .slice (some ⟨bl, 0, none⟩) x.sl.length x.sl.length, .slice va x.vs.length vc, .slice wa x.ws.length wc, .slice (some ⟨bo, 0, none⟩) x.os.length x.os.length, .slice (some ⟨bk, 0, none⟩) x.kn.length x.kn.length]) (T := 32) ?_ (P := fun W => (results Tryz.f11 _).run Tryz.prog W = .ok _ W) ?_
  · exact Blk.fill7 Z6
  intro W hW
  obtain ⟨k, f⟩ := hW.rules
  simp [results, Tryz.results11, go_sem, k]
end Go.Proofs.YtpjidogilofppaaGreat

/- A server that came in is opened. -/
namespace Go.Proofs.YtpjidogilofppaaGreat
open Go.ChangeShapes Go.WideShapes Go.ChangeAt Go.RowKit Go.Deep

set_option maxRecDepth 20000 in
/-- What a slice of slots that came in reads as. -/
theorem slots_open {H : Type} {enc : TypeId × Value → H} {W : World} {base : Nat} {spare : Nat → Bool} {v : Value} {d : DataW H} {p : List MemPlace} (hv : ∃ a len cap, v = .slice a len cap)
    (h : DataW.Trod enc Tryz.prog W base spare true 22 v d p) : ∃ a cap xs, v = .slice a xs.length cap ∧ xs.length ≤ maxLen ∧ Slots W a xs := by
  obtain ⟨a, len, cap, rfl⟩ := hv
  obtain ⟨fuel, hf⟩ := h
  rcases open_slice Tryz.underlying22 hf with ⟨hcs, _⟩ | ⟨x, l, c, m, n, D, Pl, hcs, _, hl, hm, hmm, _, hx⟩
  · simp [Value.cells] at hcs
    obtain ⟨rfl, rfl, rfl⟩ := hcs
    exact ⟨none, 0, [], rfl, Nat.zero_le _, .inl rfl⟩
  · simp [Value.cells] at hcs
    obtain ⟨rfl, rfl, rfl⟩ := hcs
    have hlm : len ≤ m := by rw [hmm]; split <;> omega
    have hc2 : Tryz.prog.cellsOf 155 = 2 := by kernel_rfl
    have one : ∀ i, i < len → ∃ y : Sl, W.cell? (x.add (i * 2)) = some (.int .i64 y.ep) ∧ W.cell? (x.add (i * 2 + 1)) = some (.int .i64 y.st) := by
      intro i hi
      obtain ⟨cs', hc, ht⟩ := hx i (by omega)
      rw [hc2] at hc
      obtain ⟨y0, y1, n', _, hlen, h0, h1⟩ := trod_struct2 Tryz.underlying155 ht
      have hs := World.cells?_some hc
      obtain ⟨t, e0, _, _⟩ := DataW.trod_int Tryz.underlying3 h0
      obtain ⟨s, e1, _, _⟩ := DataW.trod_int Tryz.underlying3 h1
      have hci : Tryz.prog.cellsOf 3 = 1 := by kernel_rfl
      simp only [hci] at e0 e1
      obtain ⟨_, hl2, hcell⟩ := hs
      match cs', hl2 with
      | [c0, c1], _ =>
        simp at e0 e1
        subst e0 e1
        refine ⟨⟨t, s⟩, ?_, ?_⟩
        · have := hcell 0 (by omega)
          rw [add_add] at this
          simpa using this
        · have := hcell 1 (by omega)
          rw [add_add] at this
          simpa using this
    haveI : Inhabited Sl := ⟨⟨0, 0⟩⟩
    obtain ⟨F, hF⟩ := choose_lt one
    refine ⟨some x, cap, (List.range len).map F, by simp, by simp; omega, ?_⟩
    by_cases h0 : len = 0
    · exact .inl (by simp [h0])
    · obtain ⟨b, o, spot⟩ := x
      have hc0 := (hF 0 (by omega)).1
      have hspot : spot = none := by simpa [Addr.add] using World.cell?_spot hc0
      subst hspot
      have ha : ∀ i, (Addr.mk b o none).add i = ⟨b, o + i, none⟩ := fun i => by by_cases h : i = 0 <;> simp [Addr.add, h]
      refine .inr ⟨b, o, rfl, by have := World.block_lt_of_cell? _ _ hc0; rw [ha] at this; exact this, fun k hk => ?_⟩
      have hk' : k < len := by simpa using hk
      have := hF k hk'
      rw [ha, ha] at this
      simpa [Nat.add_assoc] using this

set_option maxRecDepth 100000 in
/-- A server that came in. -/
theorem server_open {H : Type} {enc : TypeId × Value → H} {W : World} {base b0 : Nat} {r : Reach} {spare : Nat → Bool} {v : Value} {d : DataW H} {p : List MemPlace} (hv : Value.okWide Tryz.prog W r b0 26 v)
    (h : DataW.Trod enc Tryz.prog W base spare true 26 v d p) : ∃ (x : Sv) (a : Sa), v = servV x a ∧ InJ W x a := by
  obtain ⟨cs, rfl, hsz⟩ := okWide_struct Tryz.underlying26 hv
  obtain ⟨fuel, hf⟩ := h
  have hc7 : Tryz.prog.cellsOf 26 = 7 := by kernel_rfl
  have hci : Tryz.prog.cellsOf 3 = 1 := by kernel_rfl
  have hcb : Tryz.prog.cellsOf 4 = 1 := by kernel_rfl
  have hcs : Tryz.prog.cellsOf 24 = 1 := by kernel_rfl
  have hcv : Tryz.prog.cellsOf 23 = 1 := by kernel_rfl
  have hcl : Tryz.prog.cellsOf 22 = 1 := by kernel_rfl
  rw [hc7] at hsz
  obtain ⟨c0, c1, c2, c3, c4, c5, c6, rfl⟩ : ∃ c0 c1 c2 c3 c4 c5 c6, cs = #[c0, c1, c2, c3, c4, c5, c6] := by
    obtain ⟨l⟩ := cs
    match l, hsz with
    | [c0, c1, c2, c3, c4, c5, c6], _ => exact ⟨c0, c1, c2, c3, c4, c5, c6, rfl⟩
  obtain ⟨ys, n, _, _, hl, hlen, hfs⟩ := DataW.trod_struct Tryz.underlying26 hf
  match ys, hlen with
  | [y0, y1, y2, y3, y4, y5, y6], _ =>
    have h0 := hfs 0 _ rfl
    have h1 := hfs 1 _ rfl
    have h2 := hfs 2 _ rfl
    have h3 := hfs 3 _ rfl
    have h4 := hfs 4 _ rfl
    have h5 := hfs 5 _ rfl
    have h6 := hfs 6 _ rfl
    simp [Value.cells, hci, hcs, hcb, hcv, hcl] at h0 h1 h2 h3 h4 h5 h6
    obtain ⟨site, e0, _, _⟩ := DataW.trod_int Tryz.underlying3 h0
    obtain ⟨up, e1, _⟩ := DataW.trod_bool Tryz.underlying4 h1
    simp at e0 e1
    have sl : ∀ {T E : TypeId} (_ : Tryz.prog.underlying T = some (.slice E)) {c : Value} {y : DataW H × List MemPlace}, DataW.trod enc Tryz.prog W base spare true n T [c] = some y → (∃ a len cap, c = Value.slice a len cap) ∧ DataW.Trod enc Tryz.prog W base spare true T c y.1 y.2 := by
      intro T E hT c y hy
      have hsl : ∃ a len cap, c = Value.slice a len cap := by
        rcases open_slice hT hy with ⟨hcs, _⟩ | ⟨x, l, c, m, n, DD, Pl, hcs, _⟩
        · simp at hcs; exact ⟨_, _, _, hcs⟩
        · simp at hcs; exact ⟨_, _, _, hcs⟩
      refine ⟨hsl, ?_⟩
      obtain ⟨a, len, cap, rfl⟩ := hsl
      exact ⟨n, by simpa [Value.cells] using hy⟩
    obtain ⟨s2, t2⟩ := sl Tryz.underlying22 h2
    obtain ⟨s3, t3⟩ := sl Tryz.underlying23 h3
    obtain ⟨s4, t4⟩ := sl Tryz.underlying23 h4
    obtain ⟨s5, t5⟩ := sl Tryz.underlying24 h5
    obtain ⟨s6, t6⟩ := sl Tryz.underlying24 h6
    obtain ⟨la, lc, ls, e2, ll, hL⟩ := slots_open s2 t2
    obtain ⟨va, vc, vs, e3, vl, hV⟩ := vers_open s3 t3
    obtain ⟨wa, wc, ws, e4, wl, hW⟩ := vers_open s4 t4
    obtain ⟨oa, oc, os, e5, ol, hO⟩ := deps_open s5 t5
    obtain ⟨ka, kc, ks, e6, kl, hK⟩ := deps_open s6 t6
    exact ⟨⟨site, up, ls, vs, ws, os, ks⟩, ⟨la, lc, va, vc, wa, wc, oa, oc, ka, kc⟩, by rw [e0, e1, e2, e3, e4, e5, e6], ⟨hL, hV, hW, hO, hK, ll, vl, wl, ol, kl⟩⟩
end Go.Proofs.YtpjidogilofppaaGreat

