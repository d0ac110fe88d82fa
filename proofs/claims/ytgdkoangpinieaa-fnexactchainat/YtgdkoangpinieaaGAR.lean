/- 2 texts in one: XVs, XVs2. -/
import Derived.Test.YtgdkoangpinieaaGAJ
/- The exact laws' helpers: versions are counted, copied, and held against each other. -/
namespace Go.Proofs.Ytgdkoangpinieaa
open Go.ChangeShapes Go.WideShapes Go.ChangeAt Go.RowKit

/-- A list of versions that came in. -/
def VersI (w : World) (a : Option Addr) (vs : List V) : Prop :=
  vs = [] ∨ ∃ b o, a = some ⟨b, o, none⟩ ∧ b < w.heap.size ∧ ∀ i, (h : i < vs.length) → ∃ da dc, w.cell? ⟨b, o + i * 7, none⟩ = some (.int .i64 vs[i].k) ∧ w.cell? ⟨b, o + i * 7 + 1, none⟩ = some (.int .i64 vs[i].t) ∧ w.cell? ⟨b, o + i * 7 + 2, none⟩ = some (.int .i64 vs[i].s) ∧ w.cell? ⟨b, o + i * 7 + 3, none⟩ = some (.int .i64 vs[i].val) ∧ w.cell? ⟨b, o + i * 7 + 4, none⟩ = some (.int .i64 vs[i].cl) ∧ w.cell? ⟨b, o + i * 7 + 5, none⟩ = some (.int .i64 vs[i].ca) ∧ w.cell? ⟨b, o + i * 7 + 6, none⟩ = some (.slice da vs[i].ds.length dc) ∧ Deps w da vs[i].ds ∧ vs[i].ds.length ≤ maxLen
theorem VersI.below {w w' : World} {a : Option Addr} {vs : List V} (h : VersI w a vs) (k : Below w.heap.size w w') : VersI w' a vs := by
  rcases h with h | ⟨b, o, ha, hb, h⟩
  · exact .inl h
  · refine .inr ⟨b, o, ha, Nat.lt_of_lt_of_le hb k.size, fun i hi => ?_⟩
    obtain ⟨da, dc, c0, c1, c2, c3, c4, c5, c6, hd, hl⟩ := h i hi
    exact ⟨da, dc, (k.cell (p := ⟨b, _, none⟩) hb).trans c0, (k.cell (p := ⟨b, _, none⟩) hb).trans c1, (k.cell (p := ⟨b, _, none⟩) hb).trans c2, (k.cell (p := ⟨b, _, none⟩) hb).trans c3, (k.cell (p := ⟨b, _, none⟩) hb).trans c4, (k.cell (p := ⟨b, _, none⟩) hb).trans c5, (k.cell (p := ⟨b, _, none⟩) hb).trans c6, hd.below k, hl⟩
theorem VersI.vers {w : World} {a : Option Addr} {vs : List V} (h : VersI w a vs) (hl : ∀ v ∈ vs, v.ds.length ≤ 1099511627776) : Vers w a vs := by
  rcases h with h | ⟨b, o, ha, hb, h⟩
  · exact .inl h
  · refine .inr ⟨b, o, ha, hb, fun i hi => ?_⟩
    obtain ⟨da, dc, c0, c1, c2, c3, c4, c5, c6, hd, _⟩ := h i hi
    exact ⟨da, dc, c0, c1, c2, c3, c4, c5, c6, hd, hl _ (List.getElem_mem hi)⟩
/-- How many deps there are together. -/
def tot (vs : List V) : Nat := (vs.map fun v => v.ds.length).sum
theorem tot_snoc (vs : List V) (v : V) : tot (vs ++ [v]) = tot vs + v.ds.length := by simp [tot]
theorem tot_take {vs : List V} {k : Nat} (h : k < vs.length) : tot (vs.take (k + 1)) = tot (vs.take k) + vs[k].ds.length := by rw [takeV vs k h, tot_snoc]
theorem tot_mem {vs : List V} {v : V} (h : v ∈ vs) : v.ds.length ≤ tot vs := by
  induction vs with
  | nil => cases h
  | cons x xs ih =>
    have e : tot (x :: xs) = x.ds.length + tot xs := by simp [tot]
    rw [e]
    rcases List.mem_cons.1 h with rfl | h
    · omega
    · have := ih h; omega
theorem tot_le (vs : List V) (k : Nat) : tot (vs.take k) ≤ tot vs := by
  have e : tot vs = tot (vs.take k) + tot (vs.drop k) := by
    have e0 : vs.map (fun v => v.ds.length) = (vs.take k).map (fun v => v.ds.length) ++ (vs.drop k).map (fun v => v.ds.length) := by rw [← List.map_append, List.take_append_drop]
    unfold tot
    rw [e0, List.sum_append]
  omega

theorem szVerL_any (k t s val cl ca left : Int) (a : Option Addr) (n cap : Nat) (w : World) (hn : n ≤ maxLen) (h0 : 0 ≤ left) (h1 : left ≤ 1048576) :
    Calls Try.prog 79 #[verV k t s val cl ca a n cap, .int .i64 left] w fun e w' => e = .returned (.int .i64 (if left < (n : Int) then -1 else left - n)) ∧ Below w.heap.size w w' := by
  have hz := fun w => szDeps_any a n cap left w hn h0 h1
  by_cases h : left < (n : Int)
  · rw [if_pos h] at hz
    rw [if_pos h]
    go_enter Try.func79, Try.ntmps79
    go_wp2_with fail
    refine (hz _).mono ?_
    rintro e w1 ⟨rfl, rfl⟩
    clear hz
    go_wp2_with fail
    go_ret
    exact ⟨rfl, (Below.refl _ _).alloc (Nat.le_refl _) _⟩
  · rw [if_neg h] at hz
    rw [if_neg h]
    have h2 : 0 ≤ left - n := by omega
    go_enter Try.func79, Try.ntmps79
    go_wp2_with fail
    refine (hz _).mono ?_
    rintro e w1 ⟨rfl, rfl⟩
    clear hz
    go_wp2_with fail
    go_ret
    exact ⟨rfl, (Below.refl _ _).alloc (Nat.le_refl _) _⟩

set_option maxHeartbeats 2000000 in
theorem szVers_any (a : Option Addr) (cap : Nat) (vs : List V) (w : World) (hn : vs.length ≤ maxLen) (h : VersI w a vs) :
    Calls Try.prog 76 #[.slice a vs.length cap, .int .i64 1048576] w fun e w' => e = .returned (.int .i64 (if (1048576 : Int) < (vs.length : Int) + tot vs then -1 else 1048576 - vs.length - tot vs)) ∧ Below w.heap.size w w' := by
  unfold maxLen at hn
  by_cases hbig : (1048576 : Int) < (vs.length : Int)
  · rw [if_pos (by omega)]
    have h2 : (1048576 : Int) - vs.length < 0 := by omega
    go_enter Try.func76, Try.ntmps76
    go_wp2
    go_ret
    exact ⟨rfl, Below.refl _ _⟩
  obtain ⟨r, hr⟩ : ∃ r : Int, r = (if (1048576 : Int) < (vs.length : Int) + (tot vs : Int) then (-1 : Int) else (1048576 : Int) - (vs.length : Int) - (tot vs : Int)) := ⟨_, rfl⟩
  rw [← hr]
  have HR : Hid _ := hr
  have h2 : (0 : Int) ≤ 1048576 - vs.length := by omega
  clear hr
  go_enter Try.func76, Try.ntmps76
  go_wp2
  go_loopw [1, 5] (fun l i wr => ∃ k : Nat, k ≤ vs.length ∧ i = .int .i64 k ∧ l = .int .i64 (1048576 - vs.length - (tot (vs.take k) : Int)) ∧ (0 : Int) ≤ 1048576 - vs.length - (tot (vs.take k) : Int) ∧ Below w.heap.size w wr) (fun _ i _ => vs.length - (intOf i).toNat)
  case atStart => exact ⟨0, Nat.zero_le _, rfl, by simp [tot], by simp [tot]; omega, Below.refl _ _⟩
  case round =>
    obtain ⟨k, hk, rfl, rfl, h0, hB⟩ := hrel
    by_cases hlt : k < vs.length
    · rcases h.below hB with hx | ⟨b, o, rfl, hbb, hx⟩
      · rw [hx] at hlt; simp at hlt
      · obtain ⟨da, dc, c0, c1, c2, c3, c4, c5, c6, hd, hl⟩ := hx k hlt
        have ht := tot_take hlt
        have htl := tot_le vs (k + 1)
        have hz := fun w => szVerL_any vs[k].k vs[k].t vs[k].s vs[k].val vs[k].cl vs[k].ca (1048576 - vs.length - (tot (vs.take k) : Int)) da vs[k].ds.length dc w hl h0 (by omega)
        have HT : Hid (tot (vs.take (k + 1)) = tot (vs.take k) + vs[k].ds.length) := ht
        rw [HT.out] at htl
        clear ht hd hx
        generalize vs[k] = v at *
        generalize tot (vs.take k) = tk at *
        by_cases hs : (1048576 - vs.length - (tk : Int)) < (v.ds.length : Int)
        · have HN : Hid (r = -1) := by show r = -1; rw [HR.out, if_pos (by omega)]
          have hneg : (-1 : Int) < 0 := by omega
          simp only [if_pos hs] at hz
          go_wp2_with fail
          refine (hz _).mono ?_
          rintro e w2 ⟨rfl, hb2⟩
          clear hz
          go_wp2_with fail
          go_ret
          exact ⟨by rw [HN.out]; rfl, hB.trans (hb2.mono hB.size)⟩
        · simp only [if_neg hs] at hz
          have hpos : (0 : Int) ≤ 1048576 - vs.length - (tk : Int) - (v.ds.length : Int) := by omega
          have HE : Hid ((1048576 : Int) - vs.length - (tk : Int) - (v.ds.length : Int) = 1048576 - vs.length - ((tk + v.ds.length : Nat) : Int)) := by show _ = _; omega
          go_wp2_with fail
          refine (hz _).mono ?_
          rintro e w2 ⟨rfl, hb2⟩
          clear hz
          go_wp2_with fail
          go_roundw
          case rel => exact ⟨k + 1, by omega, by go_num, by rw [HT.out, ← HE.out], by rw [HT.out]; omega, hB.trans (hb2.mono hB.size)⟩
          case measure => simp [intOf]; omega
    · have hk2 : k = vs.length := by omega
      subst hk2
      rw [List.take_length] at h0 ⊢
      have HN : Hid (r = 1048576 - vs.length - (tot vs : Int)) := by show r = _; rw [HR.out, if_neg (by omega)]
      go_wp2
      go_ret
      exact ⟨by rw [HN.out]; rfl, hB⟩

theorem take_set_succ (l : List Value) (p : Nat) (v : Value) (h : p < l.length) : (l.set p v).take (p + 1) = l.take p ++ [v] := by
  rw [List.take_succ_eq_append_getElem (by simpa using h), List.getElem_set_self, List.take_set_of_le (Nat.le_refl _)]
theorem take_seven (cs : List Value) (k : Nat) (v0 v1 v2 v3 v4 v5 v6 : Value) (h : k * 7 + 6 < cs.length) : (((((((cs.set (k * 7) v0).set (k * 7 + 1) v1).set (k * 7 + 2) v2).set (k * 7 + 3) v3).set (k * 7 + 4) v4).set (k * 7 + 5) v5).set (k * 7 + 6) v6).take ((k + 1) * 7) = cs.take (k * 7) ++ [v0, v1, v2, v3, v4, v5, v6] := by
  rw [show (k + 1) * 7 = k * 7 + 6 + 1 by omega, take_set_succ _ _ _ (by simp; omega), take_set_succ _ _ _ (by simp; omega), take_set_succ _ _ _ (by simp; omega), take_set_succ _ _ _ (by simp; omega), take_set_succ _ _ _ (by simp; omega), take_set_succ _ _ _ (by simp; omega), take_set_succ _ _ _ (by omega)]
  simp
end Go.Proofs.Ytgdkoangpinieaa

/- The exact laws' helpers: versions are copied, and held against each other. -/
namespace Go.Proofs.Ytgdkoangpinieaa
open Go.ChangeShapes Go.WideShapes Go.ChangeAt Go.RowKit

theorem row_setV {w : World} {base B n : Nat} {v : Value} {xs : List Value} {j : Nat} {u : Value} (h : w.ownsRow base 51 3 v n xs) (hB : ∀ i, v.ownBlock = some i → i ≠ B) : (w.setCell ⟨B, j, none⟩ u).ownsRow base 51 3 v n xs := row_set h hB u

set_option maxHeartbeats 4000000 in
theorem toVers_any (a : Option Addr) (cap : Nat) (vs : List V) (w : World) (hn : vs.length ≤ 1048576) (hl : ∀ v ∈ vs, v.ds.length ≤ 1048576) (h : Vers w a vs) :
    Calls Try.prog 77 #[.slice a vs.length cap] w fun e w' => ∃ u ys, e = .returned u ∧ OwnV w' w.heap.size u ys ∧ ys.map XV.v = vs ∧ Below w.heap.size w w' := by
  obtain ⟨i0, hi, hz0, hz1, hz2⟩ := info_parts infoVer
  go_enter Try.func77, Try.ntmps77
  go_wp2_with (first | (at_make; refine wpList_make_full _ rfl _ _ 23 rfl w.heap.size 28 i0 (.agg #[.int .i64 0, .int .i64 0, .int .i64 0, .int .i64 0, .int .i64 0, .int .i64 0, .slice none 0 0]) 7 Try.underlying23 hi hz0 hz1 .i64 .i64 _ _ vs.length rfl rfl rfl rfl (by rw [hz2]; omega) (by unfold maxLen; omega) (Nat.le_refl _) ?_))
  intro w1 hown hg
  have B1 : Below w.heap.size w w1 := (Below.refl _ _).grown hg (Nat.le_refl _) (fun k hk => by cases hk)
  clear hg
  go_wp2_with fail
  go_loopw [4] (fun i wr => ∃ (k : Nat) (cs : List Value) (ys : List XV), k ≤ vs.length ∧ i = .int .i64 k ∧ wr.ownsRow w.heap.size 28 7 (.slice (some ⟨w.heap.size, 0, none⟩) vs.length vs.length) vs.length cs ∧ Hid (cs.take (k * 7) = flat7 ys ∧ ys.map XV.v = vs.take k) ∧ (∀ y ∈ ys, wr.ownsRow w.heap.size 51 3 y.p y.v.ds.length (flat3 y.v.ds) ∧ y.v.ds.length ≤ 1099511627776) ∧ ys.Pairwise (fun a b => ApartV a.p b.p) ∧ Below w.heap.size w wr) (fun i _ => vs.length - (intOf i).toNat)
  case atStart => exact ⟨0, _, [], Nat.zero_le _, rfl, hown, ⟨by simp [flat7], rfl⟩, fun _ h => (by cases h), List.Pairwise.nil, B1⟩
  case round =>
    obtain ⟨k, cs, ys, hk, rfl, ho, HC, hds, hap, hB⟩ := hrel
    clear hown B1
    by_cases hlt : k < vs.length
    · obtain ⟨b, o, da, dc, rfl, hbb, hv⟩ := (h.below hB).at hlt
      have HT : Hid (vs.take (k + 1) = vs.take k ++ [vs[k]]) := takeV vs k hlt
      have hvl := hl vs[k] (List.getElem_mem hlt)
      obtain ⟨c0, c1, c2, c3, c4, c5, c6, hd, hdl⟩ := hv
      generalize vs[k] = v at *
      go_wp2_with fail
      refine (toVer_any v.k v.t v.s v.val v.cl v.ca da dc v.ds _ hvl hd).mono ?_
      rintro e w2 ⟨pb, rfl, hrow, hb2⟩
      have ho2 := row_below ho hb2 (Nat.le_refl _)
      have hB2 : Below w.heap.size w w2 := hB.trans (hb2.mono hB.size)
      have hl2 : cs.length = vs.length * 7 := ho.1
      have hds2 : ∀ y ∈ ys, w2.ownsRow w.heap.size 51 3 y.p y.v.ds.length (flat3 y.v.ds) ∧ y.v.ds.length ≤ 1099511627776 := fun y hy => ⟨row_below (hds y hy).1 hb2 (Nat.le_refl _), (hds y hy).2⟩
      have hap2 : ∀ y ∈ ys, ApartV y.p (.slice (some ⟨pb, 0, none⟩) v.ds.length v.ds.length) := fun y hy => apart_new (hds y hy).1 hrow (Nat.le_refl _)
      have hrow2 := row_mono hrow hB.size
      have hBk : w.heap.size < wr.heap.size := (ho.lt w.heap.size rfl).2
      clear ho hb2 hB c0 c1 c2 c3 c4 c5 c6 hd hds
      have d0 : w2.cell? ⟨w.heap.size, k * 7, none⟩ = some (cs[k * 7]'(by omega)) := by rw [ho2.cellAt (k * 7) (by omega)]; exact List.getElem?_eq_getElem _
      have d1 : w2.cell? ⟨w.heap.size, k * 7 + 1, none⟩ = some (cs[k * 7 + 1]'(by omega)) := by rw [ho2.cellAt (k * 7 + 1) (by omega)]; exact List.getElem?_eq_getElem _
      have d2 : w2.cell? ⟨w.heap.size, k * 7 + 2, none⟩ = some (cs[k * 7 + 2]'(by omega)) := by rw [ho2.cellAt (k * 7 + 2) (by omega)]; exact List.getElem?_eq_getElem _
      have d3 : w2.cell? ⟨w.heap.size, k * 7 + 3, none⟩ = some (cs[k * 7 + 3]'(by omega)) := by rw [ho2.cellAt (k * 7 + 3) (by omega)]; exact List.getElem?_eq_getElem _
      have d4 : w2.cell? ⟨w.heap.size, k * 7 + 4, none⟩ = some (cs[k * 7 + 4]'(by omega)) := by rw [ho2.cellAt (k * 7 + 4) (by omega)]; exact List.getElem?_eq_getElem _
      have d5 : w2.cell? ⟨w.heap.size, k * 7 + 5, none⟩ = some (cs[k * 7 + 5]'(by omega)) := by rw [ho2.cellAt (k * 7 + 5) (by omega)]; exact List.getElem?_eq_getElem _
      have d6 : w2.cell? ⟨w.heap.size, k * 7 + 6, none⟩ = some (cs[k * 7 + 6]'(by omega)) := by rw [ho2.cellAt (k * 7 + 6) (by omega)]; exact List.getElem?_eq_getElem _
      have f0 : w2.frozen? ⟨w.heap.size, k * 7, none⟩ = false := ho2.frozenAt _
      have f1 : w2.frozen? ⟨w.heap.size, k * 7 + 1, none⟩ = false := ho2.frozenAt _
      have f2 : w2.frozen? ⟨w.heap.size, k * 7 + 2, none⟩ = false := ho2.frozenAt _
      have f3 : w2.frozen? ⟨w.heap.size, k * 7 + 3, none⟩ = false := ho2.frozenAt _
      have f4 : w2.frozen? ⟨w.heap.size, k * 7 + 4, none⟩ = false := ho2.frozenAt _
      have f5 : w2.frozen? ⟨w.heap.size, k * 7 + 5, none⟩ = false := ho2.frozenAt _
      have f6 : w2.frozen? ⟨w.heap.size, k * 7 + 6, none⟩ = false := ho2.frozenAt _
      generalize cs[k * 7]'(by omega) = u0 at *
      generalize cs[k * 7 + 1]'(by omega) = u1 at *
      generalize cs[k * 7 + 2]'(by omega) = u2 at *
      generalize cs[k * 7 + 3]'(by omega) = u3 at *
      generalize cs[k * 7 + 4]'(by omega) = u4 at *
      generalize cs[k * 7 + 5]'(by omega) = u5 at *
      generalize cs[k * 7 + 6]'(by omega) = u6 at *
      have ho4 := ((((((((((((((ho2).stored (k * 7) (.int .i64 v.k)).1).stored (k * 7 + 1) (.int .i64 v.t)).1).stored (k * 7 + 2) (.int .i64 v.s)).1).stored (k * 7 + 3) (.int .i64 v.val)).1).stored (k * 7 + 4) (.int .i64 v.cl)).1).stored (k * 7 + 5) (.int .i64 v.ca)).1).stored (k * 7 + 6) (.slice (some ⟨pb, 0, none⟩) v.ds.length v.ds.length)).1
      have hg7 : w2.grownBy (((((((w2.setCell ⟨w.heap.size, k * 7, none⟩ (.int .i64 v.k)).setCell ⟨w.heap.size, k * 7 + 1, none⟩ (.int .i64 v.t)).setCell ⟨w.heap.size, k * 7 + 2, none⟩ (.int .i64 v.s)).setCell ⟨w.heap.size, k * 7 + 3, none⟩ (.int .i64 v.val)).setCell ⟨w.heap.size, k * 7 + 4, none⟩ (.int .i64 v.cl)).setCell ⟨w.heap.size, k * 7 + 5, none⟩ (.int .i64 v.ca)).setCell ⟨w.heap.size, k * 7 + 6, none⟩ (.slice (some ⟨pb, 0, none⟩) v.ds.length v.ds.length)) (some w.heap.size) := (grown_set (j := k * 7 + 6) (grown_set (j := k * 7 + 5) (grown_set (j := k * 7 + 4) (grown_set (j := k * 7 + 3) (grown_set (j := k * 7 + 2) (grown_set (j := k * 7 + 1) (grown_set (j := k * 7) (grown_refl w2 (some w.heap.size)) (.int .i64 v.k)) (.int .i64 v.t)) (.int .i64 v.s)) (.int .i64 v.val)) (.int .i64 v.cl)) (.int .i64 v.ca)) (.slice (some ⟨pb, 0, none⟩) v.ds.length v.ds.length))
      have HC2 : Hid ((((((((cs.set (k * 7) (.int .i64 v.k)).set (k * 7 + 1) (.int .i64 v.t)).set (k * 7 + 2) (.int .i64 v.s)).set (k * 7 + 3) (.int .i64 v.val)).set (k * 7 + 4) (.int .i64 v.cl)).set (k * 7 + 5) (.int .i64 v.ca)).set (k * 7 + 6) (.slice (some ⟨pb, 0, none⟩) v.ds.length v.ds.length)).take ((k + 1) * 7) = flat7 (ys ++ [XV.mk v (.slice (some ⟨pb, 0, none⟩) v.ds.length v.ds.length)])) := by
        show List.take _ _ = _
        rw [take_seven cs k _ _ _ _ _ _ _ (by omega), HC.out.1, flat7_snoc]
      have keep : ∀ (p : Value) (n : Nat) (xs : List Value), w2.ownsRow w.heap.size 51 3 p n xs → ((((((((w2.setCell ⟨w.heap.size, k * 7, none⟩ (.int .i64 v.k)).setCell ⟨w.heap.size, k * 7 + 1, none⟩ (.int .i64 v.t)).setCell ⟨w.heap.size, k * 7 + 2, none⟩ (.int .i64 v.s)).setCell ⟨w.heap.size, k * 7 + 3, none⟩ (.int .i64 v.val)).setCell ⟨w.heap.size, k * 7 + 4, none⟩ (.int .i64 v.cl)).setCell ⟨w.heap.size, k * 7 + 5, none⟩ (.int .i64 v.ca)).setCell ⟨w.heap.size, k * 7 + 6, none⟩ (.slice (some ⟨pb, 0, none⟩) v.ds.length v.ds.length))).ownsRow w.heap.size 51 3 p n xs := fun p n xs hp => hp.kept hg7 (by
        have := row_other ho2 hp
        simpa [Value.ownBlock] using this)
      have hds4 : ∀ y ∈ ys ++ [XV.mk v (.slice (some ⟨pb, 0, none⟩) v.ds.length v.ds.length)], ((((((((w2.setCell ⟨w.heap.size, k * 7, none⟩ (.int .i64 v.k)).setCell ⟨w.heap.size, k * 7 + 1, none⟩ (.int .i64 v.t)).setCell ⟨w.heap.size, k * 7 + 2, none⟩ (.int .i64 v.s)).setCell ⟨w.heap.size, k * 7 + 3, none⟩ (.int .i64 v.val)).setCell ⟨w.heap.size, k * 7 + 4, none⟩ (.int .i64 v.cl)).setCell ⟨w.heap.size, k * 7 + 5, none⟩ (.int .i64 v.ca)).setCell ⟨w.heap.size, k * 7 + 6, none⟩ (.slice (some ⟨pb, 0, none⟩) v.ds.length v.ds.length))).ownsRow w.heap.size 51 3 y.p y.v.ds.length (flat3 y.v.ds) ∧ y.v.ds.length ≤ 1099511627776 := fun y hy => by
        rcases List.mem_append.1 hy with hy | hy
        · exact ⟨keep _ _ _ (hds2 y hy).1, (hds2 y hy).2⟩
        · simp at hy; subst hy; exact ⟨keep _ _ _ hrow2, hdl⟩
      have B4 : Below w.heap.size w ((((((((w2.setCell ⟨w.heap.size, k * 7, none⟩ (.int .i64 v.k)).setCell ⟨w.heap.size, k * 7 + 1, none⟩ (.int .i64 v.t)).setCell ⟨w.heap.size, k * 7 + 2, none⟩ (.int .i64 v.s)).setCell ⟨w.heap.size, k * 7 + 3, none⟩ (.int .i64 v.val)).setCell ⟨w.heap.size, k * 7 + 4, none⟩ (.int .i64 v.cl)).setCell ⟨w.heap.size, k * 7 + 5, none⟩ (.int .i64 v.ca)).setCell ⟨w.heap.size, k * 7 + 6, none⟩ (.slice (some ⟨pb, 0, none⟩) v.ds.length v.ds.length))) := (((((((hB2.setCell (p := ⟨w.heap.size, k * 7, none⟩) (Nat.le_refl _) (.int .i64 v.k)).setCell (p := ⟨w.heap.size, k * 7 + 1, none⟩) (Nat.le_refl _) (.int .i64 v.t)).setCell (p := ⟨w.heap.size, k * 7 + 2, none⟩) (Nat.le_refl _) (.int .i64 v.s)).setCell (p := ⟨w.heap.size, k * 7 + 3, none⟩) (Nat.le_refl _) (.int .i64 v.val)).setCell (p := ⟨w.heap.size, k * 7 + 4, none⟩) (Nat.le_refl _) (.int .i64 v.cl)).setCell (p := ⟨w.heap.size, k * 7 + 5, none⟩) (Nat.le_refl _) (.int .i64 v.ca)).setCell (p := ⟨w.heap.size, k * 7 + 6, none⟩) (Nat.le_refl _) (.slice (some ⟨pb, 0, none⟩) v.ds.length v.ds.length))
      have hap4 : (ys ++ [XV.mk v (.slice (some ⟨pb, 0, none⟩) v.ds.length v.ds.length)]).Pairwise (fun a b => ApartV a.p b.p) := List.pairwise_append.2 ⟨hap, List.pairwise_singleton _ _, fun x hx y hy => by simp at hy; subst hy; exact hap2 x hx⟩
      clear ho2 hg7 keep hds2 hap2 hrow hrow2 hB2
      go_wp2
      go_roundw
      case rel => exact ⟨k + 1, _, _, by omega, by go_num, ho4, ⟨HC2.out, by rw [HT.out, List.map_append, HC.out.2]; rfl⟩, hds4, hap4, B4⟩
      case measure => simp [intOf]; omega
    · have hk2 : k = vs.length := by omega
      subst hk2
      have hl2 : cs.length = vs.length * 7 := ho.1
      rw [List.take_length, List.take_of_length_le (by omega)] at HC
      have hyl : ys.length = vs.length := by rw [← HC.out.2, List.length_map]
      have HO : Hid (OwnV wr w.heap.size (.slice (some ⟨w.heap.size, 0, none⟩) vs.length vs.length) ys) := ⟨by rw [← HC.out.1, hyl]; exact ho, hds, hap⟩
      clear ho hl2 hyl hds hap
      go_wp2
      go_ret
      exact ⟨_, ys, rfl, HO.out, HC.out.2, hB⟩

set_option maxHeartbeats 4000000 in
theorem eqVers_any (a c : Option Addr) (vs : List V) (cap cap' : Nat) (w : World) (hn : vs.length ≤ 1048576) (hl : ∀ v ∈ vs, v.ds.length ≤ 1048576) (h : Vers w a vs) (h' : Vers w c vs) :
    Calls Try.prog 78 #[.slice a vs.length cap, .slice c vs.length cap'] w fun e w' => e = .returned (.bool true) ∧ Below w.heap.size w w' := by
  go_enter Try.func78, Try.ntmps78
  go_wp2
  go_loopw [5] (fun i wr => ∃ k : Nat, k ≤ vs.length ∧ i = .int .i64 k ∧ Below w.heap.size w wr) (fun i _ => vs.length - (intOf i).toNat)
  case atStart => exact ⟨0, Nat.zero_le _, rfl, Below.refl _ _⟩
  case round =>
    obtain ⟨k, hk, rfl, hB⟩ := hrel
    by_cases hlt : k < vs.length
    · obtain ⟨b, o, da, dc, rfl, hbb, hv⟩ := (h.below hB).at hlt
      obtain ⟨b', o', da', dc', rfl, hbb', hv'⟩ := (h'.below hB).at hlt
      obtain ⟨r0, r1, r2, r3, r4, r5, r6⟩ := hv.rules
      obtain ⟨q0, q1, q2, q3, q4, q5, q6⟩ := hv'.rules
      have hd := hv.ds
      have hd' := hv'.ds
      have hvl := hl vs[k] (List.getElem_mem hlt)
      have ne := since_ne wr
      clear hv hv' h h'
      generalize vs[k] = v at *
      go_wp2_with fail
      refine wp_region_class (S := Since wr) (by kernel_rfl) (by kernel_rfl) (Below.refl _ _).drew ?_
      repeat (go_big_quiet_step ((rename_i n; first | (go_at_call 81; exact Calls.inClass (eqVer_any _ _ _ _ _ _ _ _ _ _ _ _ hvl (hd.below n.h) (hd'.below n.h)) Since.keep))))
      refine wpQuiet_nil ?_
      rintro W ⟨n, hnW⟩
      have R2 := n.h
      rw [← hnW] at R2
      have hB2 : Below w.heap.size w W := hB.trans (R2.mono hB.size)
      clear R2 r0 r1 r2 r3 r4 r5 r6 q0 q1 q2 q3 q4 q5 q6 ne hnW n hB hd hd'
      go_wp2
      go_roundw
      case rel => exact ⟨k + 1, by omega, by go_num, hB2⟩
      case measure => simp [intOf]; omega
    · go_wp2
      go_ret
      exact ⟨rfl, hB⟩
end Go.Proofs.Ytgdkoangpinieaa

