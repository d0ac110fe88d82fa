/- 2 texts in one: XDeps, RowSet. -/
import Derived.Test.YtpjidogilofppaaGreatGAE
/- The exact laws' helpers: deps are copied, held against each other, and marked. -/
namespace Go.Proofs.YtpjidogilofppaaGreat
open Go.ChangeShapes Go.WideShapes Go.ChangeAt Go.RowKit

/-- What lay in a world lies as it lay. -/
abbrev Since (w : World) : World → Prop := fun W => Below w.heap.size w W
theorem Since.keep {w : World} {W W' : World} (h : Since w W) (k : Below W.heap.size W W') : Since w W' := h.trans (k.mono h.size)
theorem since_cell {w : World} {b o : Nat} {v : Value} (h : w.cell? ⟨b, o, none⟩ = some v) : ∀ n : Wof (Since w), n.W.cell? ⟨b, o, none⟩ = some v := fun n => (n.h.cell (p := ⟨b, o, none⟩) (World.block_lt_of_cell? _ _ h)).trans h
theorem since_ne (w : World) : Nonempty (Wof (Since w)) := ⟨⟨w, Below.refl _ _⟩⟩

theorem szDeps_any (a : Option Addr) (n cap : Nat) (left : Int) (w : World) (hn : n ≤ maxLen) (h0 : 0 ≤ left) (h1 : left ≤ 1048576) :
    Calls Tryz.prog 41 #[.slice a n cap, .int .i64 left] w fun e w' => e = .returned (.int .i64 (if left < (n : Int) then -1 else left - n)) ∧ w' = w := by
  unfold maxLen at hn
  by_cases h : left < (n : Int)
  · rw [if_pos h]
    have h' : left - n < 0 := by omega
    go_enter Tryz.func41, Tryz.ntmps41
    go_wp2
    go_ret
    exact ⟨rfl, rfl⟩
  · rw [if_neg h]
    have h' : ¬ left - n < 0 := by omega
    go_enter Tryz.func41, Tryz.ntmps41
    go_wp2
    go_ret
    exact ⟨rfl, rfl⟩

theorem toStamp_any (t s : Int) (w : World) : Calls Tryz.prog 76 #[stampV t s] w fun e w' => e = .returned (stampV t s) ∧ Below w.heap.size w w' := by
  go_enter Tryz.func76, Tryz.ntmps76
  go_wp2
  refine bodyPost_ret (v := stampV t s) (by simp [results, Tryz.results76, go_sem]) rfl ⟨rfl, ?_⟩
  exact (((Below.refl _ _).alloc (Nat.le_refl _) _).alloc (by simp) _).alloc (by simp; omega) _

theorem Blk.fill3 {w : World} {B : Nat} {x0 x1 x2 v0 v1 v2 : Value} {T : TypeId} (h : Blk w B #[x0, x1, x2] T) : Blk (((w.setCell ⟨B, 0, none⟩ v0).setCell ⟨B, 1, none⟩ v1).setCell ⟨B, 2, none⟩ v2) B #[v0, v1, v2] T := by
  have := ((h.set 0 v0).set 1 v1).set 2 v2
  simpa using this

set_option maxHeartbeats 1000000 in
theorem toDep_any (k t s : Int) (w : World) : Calls Tryz.prog 122 #[depV k t s] w fun e w' => e = .returned (depV k t s) ∧ Below w.heap.size w w' := by
  go_enter Tryz.func122, Tryz.ntmps122
  go_wp2_with fail
  refine (toStamp_any t s _).mono ?_
  rintro e w1 ⟨rfl, hb⟩
  have hB : Below w.heap.size w w1 := ((((Below.refl _ _).alloc (Nat.le_refl _) _).alloc (by simp) _).alloc (by simp; omega) _).trans (hb.mono (by simp; omega))
  have B1 := ((Blk.new _ _ _).alloc _).below hb (by simp)
  have B2 := (Blk.new _ _ _).below hb (by simp)
  simp only [World.size_alloc] at B1 B2
  obtain ⟨k1, f1⟩ := B1.rules
  obtain ⟨k2, f2⟩ := B2.rules
  clear hb
  go_wp2_with fail
  refine bodyPost_ret (v := depV k t s) ?_ rfl ⟨rfl, ?_⟩
  · refine Blk.gen (B := w.heap.size + 1) (vs := #[.int .i64 k, .int .i64 t, .int .i64 s]) (T := 116) ?_ (P := fun W => (results Tryz.f122 _).run Tryz.prog W = .ok _ W) ?_
    · exact Blk.fill3 ((B1.other (by simp) _).other (by simp) _)
    intro W hW
    obtain ⟨k, f⟩ := hW.rules
    simp [results, Tryz.results122, go_sem, k]
  · exact ((((hB.setCell (by simp; omega) _).setCell (by simp; omega) _).setCell (by simp) _).setCell (by simp) _).setCell (by simp) _

theorem take_three (cs : List Value) (k : Nat) (u v x : Value) (h : k * 3 + 2 < cs.length) : (((cs.set (k * 3) u).set (k * 3 + 1) v).set (k * 3 + 2) x).take ((k + 1) * 3) = cs.take (k * 3) ++ [u, v, x] := by
  apply List.ext_getElem?
  intro i
  simp only [List.getElem?_take, List.getElem?_set, List.getElem?_append, List.length_take, List.length_set]
  by_cases h1 : i < k * 3
  · rw [if_pos (by omega), if_neg (by omega), if_neg (by omega), if_neg (by omega), if_pos (by omega), if_pos (by omega)]
  · by_cases h2 : i = k * 3
    · subst h2
      rw [if_pos (by omega), if_neg (by omega), if_neg (by omega), if_pos rfl, if_pos (by omega), if_neg (by omega)]
      simp [show min (k * 3) cs.length = k * 3 by omega]
    · by_cases h3 : i = k * 3 + 1
      · subst h3
        rw [if_pos (by omega), if_neg (by omega), if_pos rfl, if_pos (by omega), if_neg (by omega)]
        simp [show min (k * 3) cs.length = k * 3 by omega]
      · by_cases h4 : i = k * 3 + 2
        · subst h4
          rw [if_pos (by omega), if_pos rfl, if_pos (by omega), if_neg (by omega)]
          simp [show min (k * 3) cs.length = k * 3 by omega]
        · rw [if_neg (by omega), if_neg (by omega)]
          simp [show min (k * 3) cs.length = k * 3 by omega]
          omega

set_option maxHeartbeats 2000000 in
theorem toDeps_any (a : Option Addr) (cap : Nat) (xs : List D) (w : World) (hn : xs.length ≤ 1048576) (h : Deps w a xs) :
    Calls Tryz.prog 47 #[.slice a xs.length cap] w fun e w' => ∃ b, e = .returned (.slice (some ⟨b, 0, none⟩) xs.length xs.length) ∧ w.heap.size ≤ b ∧ w'.ownsRow w.heap.size 116 3 (.slice (some ⟨b, 0, none⟩) xs.length xs.length) xs.length (flat3 xs) ∧ Below w.heap.size w w' := by
  obtain ⟨i0, hi, hz0, hz1, hz2⟩ := info_parts infoDep
  go_enter Tryz.func47, Tryz.ntmps47
  go_wp2_with (first | (at_make; refine wpList_make_full _ rfl _ _ 30 rfl w.heap.size 116 i0 (.agg #[.int .i64 0, .int .i64 0, .int .i64 0]) 3 Tryz.underlying30 hi hz0 hz1 .i64 .i64 _ _ xs.length rfl rfl rfl rfl (by rw [hz2]; omega) (by unfold maxLen; omega) (Nat.le_refl _) ?_))
  intro w1 hown hg
  have B1 : Below w.heap.size w w1 := (Below.refl _ _).grown hg (Nat.le_refl _) (fun k hk => by cases hk)
  clear hg
  go_wp2_with fail
  go_loopw [4] (fun i wr => ∃ (k : Nat) (cs : List Value), k ≤ xs.length ∧ i = .int .i64 k ∧ wr.ownsRow w.heap.size 116 3 (.slice (some ⟨w.heap.size, 0, none⟩) xs.length xs.length) xs.length cs ∧ cs.take (k * 3) = flat3 (xs.take k) ∧ Below w.heap.size w wr) (fun i _ => xs.length - (intOf i).toNat)
  case atStart => exact ⟨0, _, Nat.zero_le _, rfl, hown, by simp [flat3], B1⟩
  case round =>
    obtain ⟨k, cs, hk, rfl, ho, hcs, hB⟩ := hrel
    clear hown B1
    by_cases hlt : k < xs.length
    · obtain ⟨b, o, rfl, hbb, e0, e1, e2⟩ := (h.below hB).at hlt
      have HT : Hid (flat3 (xs.take (k + 1)) = flat3 (xs.take k) ++ [.int .i64 xs[k].k, .int .i64 xs[k].t, .int .i64 xs[k].s]) := by
        show flat3 (xs.take (k + 1)) = _
        rw [takeD xs k hlt]; exact flat3_snoc _ _
      generalize xs[k] = y at *
      go_wp2_with fail
      refine (toDep_any _ _ _ _).mono ?_
      rintro e w2 ⟨rfl, hb2⟩
      have ho2 := row_below ho hb2 (Nat.le_refl _)
      have hB2 : Below w.heap.size w w2 := hB.trans (hb2.mono hB.size)
      have hl2 : cs.length = xs.length * 3 := ho.1
      have d0 : w2.cell? ⟨w.heap.size, k * 3, none⟩ = some (cs[k * 3]'(by omega)) := by rw [ho2.cellAt (k * 3) (by omega)]; exact List.getElem?_eq_getElem _
      have d1 : w2.cell? ⟨w.heap.size, k * 3 + 1, none⟩ = some (cs[k * 3 + 1]'(by omega)) := by rw [ho2.cellAt (k * 3 + 1) (by omega)]; exact List.getElem?_eq_getElem _
      have d2 : w2.cell? ⟨w.heap.size, k * 3 + 2, none⟩ = some (cs[k * 3 + 2]'(by omega)) := by rw [ho2.cellAt (k * 3 + 2) (by omega)]; exact List.getElem?_eq_getElem _
      have f0 : w2.frozen? ⟨w.heap.size, k * 3, none⟩ = false := ho2.frozenAt _
      have f1 : w2.frozen? ⟨w.heap.size, k * 3 + 1, none⟩ = false := ho2.frozenAt _
      have f2 : w2.frozen? ⟨w.heap.size, k * 3 + 2, none⟩ = false := ho2.frozenAt _
      generalize cs[k * 3]'(by omega) = u0 at *
      generalize cs[k * 3 + 1]'(by omega) = u1 at *
      generalize cs[k * 3 + 2]'(by omega) = u2 at *
      have ho4 := (((((ho2.stored (k * 3) (.int .i64 y.k)).1).stored (k * 3 + 1) (.int .i64 y.t)).1).stored (k * 3 + 2) (.int .i64 y.s)).1
      have HC : Hid ((((cs.set (k * 3) (.int .i64 y.k)).set (k * 3 + 1) (.int .i64 y.t)).set (k * 3 + 2) (.int .i64 y.s)).take ((k + 1) * 3) = flat3 (xs.take (k + 1))) := by
        show List.take _ _ = _
        rw [take_three cs k _ _ _ (by omega), hcs, HT.out]
      clear ho ho2 hb2 hB e0 e1 e2 hcs HT
      go_wp2
      go_roundw
      case rel => exact ⟨k + 1, _, by omega, by go_num, ho4, HC.out, ((hB2.setCell (by simp) _).setCell (by simp) _).setCell (by simp) _⟩
      case measure => simp [intOf]; omega
    · have hk2 : k = xs.length := by omega
      subst hk2
      have hl2 : cs.length = xs.length * 3 := ho.1
      rw [List.take_length, List.take_of_length_le (by omega)] at hcs
      subst hcs
      have HO : Hid _ := ho
      clear ho hl2
      go_wp2
      go_ret
      exact ⟨_, rfl, Nat.le_refl _, HO.out, hB⟩

theorem eqStamp_any (t s : Int) (w : World) : Calls Tryz.prog 64 #[stampV t s, stampV t s] w fun e w' => e = .returned (.bool true) ∧ Below w.heap.size w w' := by
  go_enter Tryz.func64, Tryz.ntmps64
  go_wp2
  go_ret
  exact ⟨rfl, ((Below.refl _ _).alloc (Nat.le_refl _) _).alloc (by simp) _⟩
theorem eqDep_any (k t s : Int) (w : World) : Calls Tryz.prog 135 #[depV k t s, depV k t s] w fun e w' => e = .returned (.bool true) ∧ Below w.heap.size w w' := by
  go_enter Tryz.func135, Tryz.ntmps135
  go_wp2_with fail
  refine (eqStamp_any t s _).mono ?_
  rintro e w1 ⟨rfl, hb⟩
  go_wp2_with fail
  go_ret
  exact ⟨rfl, (((Below.refl _ _).alloc (Nat.le_refl _) _).alloc (by simp) _).trans (hb.mono (by simp; omega))⟩

set_option maxHeartbeats 2000000 in
theorem eqDeps_any (a c : Option Addr) (xs : List D) (cap cap' : Nat) (w : World) (hn : xs.length ≤ 1048576) (h : Deps w a xs) (h' : Deps w c xs) :
    Calls Tryz.prog 53 #[.slice a xs.length cap, .slice c xs.length cap'] w fun e w' => e = .returned (.bool true) ∧ Below w.heap.size w w' := by
  go_enter Tryz.func53, Tryz.ntmps53
  go_wp2
  go_loopw [5] (fun i wr => ∃ k : Nat, k ≤ xs.length ∧ i = .int .i64 k ∧ Below w.heap.size w wr) (fun i _ => xs.length - (intOf i).toNat)
  case atStart => exact ⟨0, Nat.zero_le _, rfl, Below.refl _ _⟩
  case round =>
    obtain ⟨k, hk, rfl, hB⟩ := hrel
    by_cases hlt : k < xs.length
    · obtain ⟨b, o, rfl, hbb, e0, e1, e2⟩ := (h.below hB).at hlt
      obtain ⟨b', o', rfl, hbb', e3, e4, e5⟩ := (h'.below hB).at hlt
      generalize xs[k] = y at *
      have r0 := since_cell e0
      have r1 := since_cell e1
      have r2 := since_cell e2
      have r3 := since_cell e3
      have r4 := since_cell e4
      have r5 := since_cell e5
      have ne := since_ne wr
      clear e0 e1 e2 e3 e4 e5 h h'
      go_wp2_with fail
      refine wp_region_class (S := Since wr) (by kernel_rfl) (by kernel_rfl) (Below.refl _ _).drew ?_
      repeat (go_big_quiet_step ((rename_i n; first | (go_at_call 135; exact Calls.inClass (eqDep_any _ _ _ _) Since.keep))))
      refine wpQuiet_nil ?_
      rintro W ⟨n, hnW⟩
      have R2 := n.h
      rw [← hnW] at R2
      have hB2 : Below w.heap.size w W := hB.trans (R2.mono hB.size)
      clear R2 r0 r1 r2 r3 r4 r5 ne hnW n hB
      go_wp2
      go_roundw
      case rel => exact ⟨k + 1, by omega, by go_num, hB2⟩
      case measure => simp [intOf]; omega
    · go_wp2
      go_ret
      exact ⟨rfl, hB⟩

end Go.Proofs.YtpjidogilofppaaGreat

/- Rows, and what they read as. -/
namespace Go.Proofs.YtpjidogilofppaaGreat
open Go.ChangeShapes Go.WideShapes Go.ChangeAt Go.RowKit

theorem row_set {W : World} {base n : Nat} {e : TypeId} {size : Nat} {v : Value} {xs : List Value} (h : W.ownsRow base e size v n xs) {A i : Nat} (hA : ∀ j, v.ownBlock = some j → j ≠ A) (y : Value) : (W.setCell ⟨A, i, none⟩ y).ownsRow base e size v n xs := by
  refine ⟨h.1, ?_⟩
  rcases h.2 with hn | ⟨g, cap, cur, rfl, hb, hg, rest⟩
  · exact .inl hn
  · exact .inr ⟨g, cap, cur, rfl, hb, (Below.heap_setCell _ _ _ _ (hA g rfl)).trans hg, rest⟩
theorem row_deps {w : World} {base b n : Nat} {cap : Nat} {xs : List D} (h : w.ownsRow base 116 3 (.slice (some ⟨b, 0, none⟩) n cap) xs.length (flat3 xs)) : Deps w (some ⟨b, 0, none⟩) xs := by
  obtain ⟨a, c, he, hD, _⟩ := deps_of_row h
  simp at he
  obtain ⟨rfl, _⟩ := he
  exact hD
/-- A row's deps, whatever its form. -/
theorem row_deps' {w : World} {base n cap : Nat} {a : Option Addr} {xs : List D} (h : w.ownsRow base 116 3 (.slice a n cap) xs.length (flat3 xs)) : Deps w a xs := by
  obtain ⟨a', c, he, hD, _⟩ := deps_of_row h
  simp at he
  obtain ⟨rfl, _⟩ := he
  exact hD
/-- Two rows, the second made behind the first, lie apart. -/
theorem row_apart {w1 w2 : World} {b1 b2 s1 s2 n m : Nat} {e1 e2 : TypeId} {v1 v2 : Value} {xs ys : List Value} (h1 : w1.ownsRow b1 e1 s1 v1 n xs) (h2 : w2.ownsRow b2 e2 s2 v2 m ys) (hle : w1.heap.size ≤ b2) : (v2.ownBlock = none ∨ v2.ownBlock ≠ v1.ownBlock) ∧ (v1.ownBlock = none ∨ v1.ownBlock ≠ v2.ownBlock) := by
  rcases h : v2.ownBlock with _ | k2
  · exact ⟨.inl rfl, by rcases h' : v1.ownBlock with _ | k1; exact .inl rfl; exact .inr (by simp)⟩
  · have := (h2.lt k2 h).1
    rcases h' : v1.ownBlock with _ | k1
    · exact ⟨.inr (by simp), .inl rfl⟩
    · have := (h1.lt k1 h').2
      exact ⟨.inr (by simp; omega), .inr (by simp; omega)⟩
theorem below_row {w w1 w2 : World} {b e s n : Nat} {v : Value} {xs : List Value} (hB : Below w.heap.size w w1) (h : w1.ownsRow b e s v n xs) (hb : w.heap.size ≤ b) (hg : w1.grownBy w2 v.ownBlock) : Below w.heap.size w w2 :=
  hB.grown hg hB.size (fun j hj => by have := (h.lt j hj).1; omega)
end Go.Proofs.YtpjidogilofppaaGreat

