/- 3 texts in one: XVs, XVs2, XMarkV. -/
import Derived.Test.YtpjidogilofppaaGreatGAJ
/- The exact laws' helpers: versions are counted, copied, and held against each other. -/
namespace Go.Proofs.YtpjidogilofppaaGreat
open Go.ChangeShapes Go.WideShapes Go.ChangeAt Go.RowKit

/-- A list of versions that came in. -/
def VersI (w : World) (a : Option Addr) (vs : List V) : Prop :=
  vs = [] ∨ ∃ b o, a = some ⟨b, o, none⟩ ∧ b < w.heap.size ∧ ∀ i, (h : i < vs.length) → ∃ da dc, w.cell? ⟨b, o + i * 7, none⟩ = some (.int .i64 vs[i].k) ∧ w.cell? ⟨b, o + i * 7 + 1, none⟩ = some (.int .i64 vs[i].t) ∧ w.cell? ⟨b, o + i * 7 + 2, none⟩ = some (.int .i64 vs[i].s) ∧ w.cell? ⟨b, o + i * 7 + 3, none⟩ = some (.int .i64 vs[i].val) ∧ w.cell? ⟨b, o + i * 7 + 4, none⟩ = some (.int .i64 vs[i].cl) ∧ w.cell? ⟨b, o + i * 7 + 5, none⟩ = some (.int .i64 vs[i].ca) ∧ w.cell? ⟨b, o + i * 7 + 6, none⟩ = some (.slice da vs[i].ds.length dc) ∧ Deps w da vs[i].ds ∧ vs[i].ds.length ≤ maxLen
theorem VersI.below {w w' : World} {a : Option Addr} {vs : List V} (h : VersI w a vs) (k : Below w.heap.size w w') : VersI w' a vs := by
  rcases h with h | ⟨b, o, ha, hb, h⟩
  · exact .inl h
  · refine .inr ⟨b, o, ha, Nat.lt_of_lt_of_le hb k.size, fun i hi => ?_⟩
    obtain ⟨da, dc, c0, c1, c2, c3, c4, c5, c6, hd, hl⟩ := h i hi
    exact ⟨da, dc, (k.cell (p := ⟨b, _, none⟩) hb).trans c0, (k.cell (p := ⟨b, _, none⟩) hb).trans c1, (k.cell (p := ⟨b, _, none⟩) hb).trans c2, (k.cell (p := ⟨b, _, none⟩) hb).trans c3, (k.cell (p := ⟨b, _, none⟩) hb).trans c4, (k.cell (p := ⟨b, _, none⟩) hb).trans c5, (k.cell (p := ⟨b, _, none⟩) hb).trans c6, hd.below k, hl⟩
theorem VersI.vers {w : World} {a : Option Addr} {vs : List V} (h : VersI w a vs) (hl : ∀ v ∈ vs, v.ds.length ≤ 1099511627776) : Vers w a vs := by
  rcases h with h | ⟨b, o, ha, hb, h⟩
  · exact .inl h
  · refine .inr ⟨b, o, ha, hb, fun i hi => ?_⟩
    obtain ⟨da, dc, c0, c1, c2, c3, c4, c5, c6, hd, _⟩ := h i hi
    exact ⟨da, dc, c0, c1, c2, c3, c4, c5, c6, hd, hl _ (List.getElem_mem hi)⟩
/-- How many deps there are together. -/
def tot (vs : List V) : Nat := (vs.map fun v => v.ds.length).sum
theorem tot_snoc (vs : List V) (v : V) : tot (vs ++ [v]) = tot vs + v.ds.length := by simp [tot]
theorem tot_take {vs : List V} {k : Nat} (h : k < vs.length) : tot (vs.take (k + 1)) = tot (vs.take k) + vs[k].ds.length := by rw [takeV vs k h, tot_snoc]
theorem tot_mem {vs : List V} {v : V} (h : v ∈ vs) : v.ds.length ≤ tot vs := by
  induction vs with
  | nil => cases h
  | cons x xs ih =>
    have e : tot (x :: xs) = x.ds.length + tot xs := by simp [tot]
    rw [e]
    rcases List.mem_cons.1 h with rfl | h
    · omega
    · have := ih h; omega
theorem tot_le (vs : List V) (k : Nat) : tot (vs.take k) ≤ tot vs := by
  have e : tot vs = tot (vs.take k) + tot (vs.drop k) := by
    have e0 : vs.map (fun v => v.ds.length) = (vs.take k).map (fun v => v.ds.length) ++ (vs.drop k).map (fun v => v.ds.length) := by rw [← List.map_append, List.take_append_drop]
    unfold tot
    rw [e0, List.sum_append]
  omega

theorem szVerL_any (k t s val cl ca left : Int) (a : Option Addr) (n cap : Nat) (w : World) (hn : n ≤ maxLen) (h0 : 0 ≤ left) (h1 : left ≤ 1048576) :
    Calls Tryz.prog 111 #[verV k t s val cl ca a n cap, .int .i64 left] w fun e w' => e = .returned (.int .i64 (if left < (n : Int) then -1 else left - n)) ∧ Below w.heap.size w w' := by
  have hz := fun w => szDeps_any a n cap left w hn h0 h1
  by_cases h : left < (n : Int)
  · rw [if_pos h] at hz
    rw [if_pos h]
    go_enter Tryz.func111, Tryz.ntmps111
    go_wp2_with fail
    refine (hz _).mono ?_
    rintro e w1 ⟨rfl, rfl⟩
    clear hz
    go_wp2_with fail
    go_ret
    exact ⟨rfl, (Below.refl _ _).alloc (Nat.le_refl _) _⟩
  · rw [if_neg h] at hz
    rw [if_neg h]
    have h2 : 0 ≤ left - n := by omega
    go_enter Tryz.func111, Tryz.ntmps111
    go_wp2_with fail
    refine (hz _).mono ?_
    rintro e w1 ⟨rfl, rfl⟩
    clear hz
    go_wp2_with fail
    go_ret
    exact ⟨rfl, (Below.refl _ _).alloc (Nat.le_refl _) _⟩

set_option maxHeartbeats 2000000 in
theorem szVers_any (a : Option Addr) (cap : Nat) (vs : List V) (w : World) (hn : vs.length ≤ maxLen) (h : VersI w a vs) :
    Calls Tryz.prog 40 #[.slice a vs.length cap, .int .i64 1048576] w fun e w' => e = .returned (.int .i64 (if (1048576 : Int) < (vs.length : Int) + tot vs then -1 else 1048576 - vs.length - tot vs)) ∧ Below w.heap.size w w' := by
  unfold maxLen at hn
  by_cases hbig : (1048576 : Int) < (vs.length : Int)
  · rw [if_pos (by omega)]
    have h2 : (1048576 : Int) - vs.length < 0 := by omega
    go_enter Tryz.func40, Tryz.ntmps40
    go_wp2
    go_ret
    exact ⟨rfl, Below.refl _ _⟩
  obtain ⟨r, hr⟩ : ∃ r : Int, r = (if (1048576 : Int) < (vs.length : Int) + (tot vs : Int) then (-1 : Int) else (1048576 : Int) - (vs.length : Int) - (tot vs : Int)) := ⟨_, rfl⟩
  rw [← hr]
  have HR : Hid _ := hr
  have h2 : (0 : Int) ≤ 1048576 - vs.length := by omega
  clear hr
  go_enter Tryz.func40, Tryz.ntmps40
  go_wp2
  go_loopw [1, 5] (fun l i wr => ∃ k : Nat, k ≤ vs.length ∧ i = .int .i64 k ∧ l = .int .i64 (1048576 - vs.length - (tot (vs.take k) : Int)) ∧ (0 : Int) ≤ 1048576 - vs.length - (tot (vs.take k) : Int) ∧ Below w.heap.size w wr) (fun _ i _ => vs.length - (intOf i).toNat)
  case atStart => exact ⟨0, Nat.zero_le _, rfl, by simp [tot], by simp [tot]; omega, Below.refl _ _⟩
  case round =>
    obtain ⟨k, hk, rfl, rfl, h0, hB⟩ := hrel
    by_cases hlt : k < vs.length
    · rcases h.below hB with hx | ⟨b, o, rfl, hbb, hx⟩
      · rw [hx] at hlt; simp at hlt
      · obtain ⟨da, dc, c0, c1, c2, c3, c4, c5, c6, hd, hl⟩ := hx k hlt
        have ht := tot_take hlt
        have htl := tot_le vs (k + 1)
        have hz := fun w => szVerL_any vs[k].k vs[k].t vs[k].s vs[k].val vs[k].cl vs[k].ca (1048576 - vs.length - (tot (vs.take k) : Int)) da vs[k].ds.length dc w hl h0 (by omega)
        have HT : Hid (tot (vs.take (k + 1)) = tot (vs.take k) + vs[k].ds.length) := ht
        rw [HT.out] at htl
        clear ht hd hx
        generalize vs[k] = v at *
        generalize tot (vs.take k) = tk at *
        by_cases hs : (1048576 - vs.length - (tk : Int)) < (v.ds.length : Int)
        · have HN : Hid (r = -1) := by show r = -1; rw [HR.out, if_pos (by omega)]
          have hneg : (-1 : Int) < 0 := by omega
          simp only [if_pos hs] at hz
          go_wp2_with fail
          refine (hz _).mono ?_
          rintro e w2 ⟨rfl, hb2⟩
          clear hz
          go_wp2_with fail
          go_ret
          exact ⟨by rw [HN.out]; rfl, hB.trans (hb2.mono hB.size)⟩
        · simp only [if_neg hs] at hz
          have hpos : (0 : Int) ≤ 1048576 - vs.length - (tk : Int) - (v.ds.length : Int) := by omega
          have HE : Hid ((1048576 : Int) - vs.length - (tk : Int) - (v.ds.length : Int) = 1048576 - vs.length - ((tk + v.ds.length : Nat) : Int)) := by show _ = _; omega
          go_wp2_with fail
          refine (hz _).mono ?_
          rintro e w2 ⟨rfl, hb2⟩
          clear hz
          go_wp2_with fail
          go_roundw
          case rel => exact ⟨k + 1, by omega, by go_num, by rw [HT.out, ← HE.out], by rw [HT.out]; omega, hB.trans (hb2.mono hB.size)⟩
          case measure => simp [intOf]; omega
    · have hk2 : k = vs.length := by omega
      subst hk2
      rw [List.take_length] at h0 ⊢
      have HN : Hid (r = 1048576 - vs.length - (tot vs : Int)) := by show r = _; rw [HR.out, if_neg (by omega)]
      go_wp2
      go_ret
      exact ⟨by rw [HN.out]; rfl, hB⟩

theorem take_set_succ (l : List Value) (p : Nat) (v : Value) (h : p < l.length) : (l.set p v).take (p + 1) = l.take p ++ [v] := by
  rw [List.take_succ_eq_append_getElem (by simpa using h), List.getElem_set_self, List.take_set_of_le (Nat.le_refl _)]
theorem take_seven (cs : List Value) (k : Nat) (v0 v1 v2 v3 v4 v5 v6 : Value) (h : k * 7 + 6 < cs.length) : (((((((cs.set (k * 7) v0).set (k * 7 + 1) v1).set (k * 7 + 2) v2).set (k * 7 + 3) v3).set (k * 7 + 4) v4).set (k * 7 + 5) v5).set (k * 7 + 6) v6).take ((k + 1) * 7) = cs.take (k * 7) ++ [v0, v1, v2, v3, v4, v5, v6] := by
  rw [show (k + 1) * 7 = k * 7 + 6 + 1 by omega, take_set_succ _ _ _ (by simp; omega), take_set_succ _ _ _ (by simp; omega), take_set_succ _ _ _ (by simp; omega), take_set_succ _ _ _ (by simp; omega), take_set_succ _ _ _ (by simp; omega), take_set_succ _ _ _ (by simp; omega), take_set_succ _ _ _ (by omega)]
  simp
end Go.Proofs.YtpjidogilofppaaGreat

/- The exact laws' helpers: versions are copied, and held against each other. -/
namespace Go.Proofs.YtpjidogilofppaaGreat
open Go.ChangeShapes Go.WideShapes Go.ChangeAt Go.RowKit

theorem row_setV {w : World} {base B n : Nat} {v : Value} {xs : List Value} {j : Nat} {u : Value} (h : w.ownsRow base 116 3 v n xs) (hB : ∀ i, v.ownBlock = some i → i ≠ B) : (w.setCell ⟨B, j, none⟩ u).ownsRow base 116 3 v n xs := row_set h hB u

set_option maxHeartbeats 4000000 in
theorem toVers_any (a : Option Addr) (cap : Nat) (vs : List V) (w : World) (hn : vs.length ≤ 1048576) (hl : ∀ v ∈ vs, v.ds.length ≤ 1048576) (h : Vers w a vs) :
    Calls Tryz.prog 46 #[.slice a vs.length cap] w fun e w' => ∃ u ys, e = .returned u ∧ OwnV w' w.heap.size u ys ∧ ys.map XV.v = vs ∧ Below w.heap.size w w' := by
  obtain ⟨i0, hi, hz0, hz1, hz2⟩ := info_parts infoVer
  go_enter Tryz.func46, Tryz.ntmps46
  go_wp2_with (first | (at_make; refine wpList_make_full _ rfl _ _ 29 rfl w.heap.size 107 i0 (.agg #[.int .i64 0, .int .i64 0, .int .i64 0, .int .i64 0, .int .i64 0, .int .i64 0, .slice none 0 0]) 7 Tryz.underlying29 hi hz0 hz1 .i64 .i64 _ _ vs.length rfl rfl rfl rfl (by rw [hz2]; omega) (by unfold maxLen; omega) (Nat.le_refl _) ?_))
  intro w1 hown hg
  have B1 : Below w.heap.size w w1 := (Below.refl _ _).grown hg (Nat.le_refl _) (fun k hk => by cases hk)
  clear hg
  go_wp2_with fail
  go_loopw [4] (fun i wr => ∃ (k : Nat) (cs : List Value) (ys : List XV), k ≤ vs.length ∧ i = .int .i64 k ∧ wr.ownsRow w.heap.size 107 7 (.slice (some ⟨w.heap.size, 0, none⟩) vs.length vs.length) vs.length cs ∧ Hid (cs.take (k * 7) = flat7 ys ∧ ys.map XV.v = vs.take k) ∧ (∀ y ∈ ys, wr.ownsRow w.heap.size 116 3 y.p y.v.ds.length (flat3 y.v.ds) ∧ y.v.ds.length ≤ 1099511627776) ∧ ys.Pairwise (fun a b => ApartV a.p b.p) ∧ Below w.heap.size w wr) (fun i _ => vs.length - (intOf i).toNat)
  case atStart => exact ⟨0, _, [], Nat.zero_le _, rfl, hown, ⟨by simp [flat7], rfl⟩, fun _ h => (by cases h), List.Pairwise.nil, B1⟩
  case round =>
    obtain ⟨k, cs, ys, hk, rfl, ho, HC, hds, hap, hB⟩ := hrel
    clear hown B1
    by_cases hlt : k < vs.length
    · obtain ⟨b, o, da, dc, rfl, hbb, hv⟩ := (h.below hB).at hlt
      have HT : Hid (vs.take (k + 1) = vs.take k ++ [vs[k]]) := takeV vs k hlt
      have hvl := hl vs[k] (List.getElem_mem hlt)
      obtain ⟨c0, c1, c2, c3, c4, c5, c6, hd, hdl⟩ := hv
      generalize vs[k] = v at *
      go_wp2_with fail
      refine (toVer_any v.k v.t v.s v.val v.cl v.ca da dc v.ds _ hvl hd).mono ?_
      rintro e w2 ⟨pb, rfl, hrow, hb2⟩
      have ho2 := row_below ho hb2 (Nat.le_refl _)
      have hB2 : Below w.heap.size w w2 := hB.trans (hb2.mono hB.size)
      have hl2 : cs.length = vs.length * 7 := ho.1
      have hds2 : ∀ y ∈ ys, w2.ownsRow w.heap.size 116 3 y.p y.v.ds.length (flat3 y.v.ds) ∧ y.v.ds.length ≤ 1099511627776 := fun y hy => ⟨row_below (hds y hy).1 hb2 (Nat.le_refl _), (hds y hy).2⟩
      have hap2 : ∀ y ∈ ys, ApartV y.p (.slice (some ⟨pb, 0, none⟩) v.ds.length v.ds.length) := fun y hy => apart_new (hds y hy).1 hrow (Nat.le_refl _)
      have hrow2 := row_mono hrow hB.size
      have hBk : w.heap.size < wr.heap.size := (ho.lt w.heap.size rfl).2
      clear ho hb2 hB c0 c1 c2 c3 c4 c5 c6 hd hds
      have d0 : w2.cell? ⟨w.heap.size, k * 7, none⟩ = some (cs[k * 7]'(by omega)) := by rw [ho2.cellAt (k * 7) (by omega)]; exact List.getElem?_eq_getElem _
      have d1 : w2.cell? ⟨w.heap.size, k * 7 + 1, none⟩ = some (cs[k * 7 + 1]'(by omega)) := by rw [ho2.cellAt (k * 7 + 1) (by omega)]; exact List.getElem?_eq_getElem _
      have d2 : w2.cell? ⟨w.heap.size, k * 7 + 2, none⟩ = some (cs[k * 7 + 2]'(by omega)) := by rw [ho2.cellAt (k * 7 + 2) (by omega)]; exact List.getElem?_eq_getElem _
      have d3 : w2.cell? ⟨w.heap.size, k * 7 + 3, none⟩ = some (cs[k * 7 + 3]'(by omega)) := by rw [ho2.cellAt (k * 7 + 3) (by omega)]; exact List.getElem?_eq_getElem _
      have d4 : w2.cell? ⟨w.heap.size, k * 7 + 4, none⟩ = some (cs[k * 7 + 4]'(by omega)) := by rw [ho2.cellAt (k * 7 + 4) (by omega)]; exact List.getElem?_eq_getElem _
      have d5 : w2.cell? ⟨w.heap.size, k * 7 + 5, none⟩ = some (cs[k * 7 + 5]'(by omega)) := by rw [ho2.cellAt (k * 7 + 5) (by omega)]; exact List.getElem?_eq_getElem _
      have d6 : w2.cell? ⟨w.heap.size, k * 7 + 6, none⟩ = some (cs[k * 7 + 6]'(by omega)) := by rw [ho2.cellAt (k * 7 + 6) (by omega)]; exact List.getElem?_eq_getElem _
      have f0 : w2.frozen? ⟨w.heap.size, k * 7, none⟩ = false := ho2.frozenAt _
      have f1 : w2.frozen? ⟨w.heap.size, k * 7 + 1, none⟩ = false := ho2.frozenAt _
      have f2 : w2.frozen? ⟨w.heap.size, k * 7 + 2, none⟩ = false := ho2.frozenAt _
      have f3 : w2.frozen? ⟨w.heap.size, k * 7 + 3, none⟩ = false := ho2.frozenAt _
      have f4 : w2.frozen? ⟨w.heap.size, k * 7 + 4, none⟩ = false := ho2.frozenAt _
      have f5 : w2.frozen? ⟨w.heap.size, k * 7 + 5, none⟩ = false := ho2.frozenAt _
      have f6 : w2.frozen? ⟨w.heap.size, k * 7 + 6, none⟩ = false := ho2.frozenAt _
      generalize cs[k * 7]'(by omega) = u0 at *
      generalize cs[k * 7 + 1]'(by omega) = u1 at *
      generalize cs[k * 7 + 2]'(by omega) = u2 at *
      generalize cs[k * 7 + 3]'(by omega) = u3 at *
      generalize cs[k * 7 + 4]'(by omega) = u4 at *
      generalize cs[k * 7 + 5]'(by omega) = u5 at *
      generalize cs[k * 7 + 6]'(by omega) = u6 at *
      have ho4 := ((((((((((((((ho2).stored (k * 7) (.int .i64 v.k)).1).stored (k * 7 + 1) (.int .i64 v.t)).1).stored (k * 7 + 2) (.int .i64 v.s)).1).stored (k * 7 + 3) (.int .i64 v.val)).1).stored (k * 7 + 4) (.int .i64 v.cl)).1).stored (k * 7 + 5) (.int .i64 v.ca)).1).stored (k * 7 + 6) (.slice (some ⟨pb, 0, none⟩) v.ds.length v.ds.length)).1
      have hg7 : w2.grownBy (((((((w2.setCell ⟨w.heap.size, k * 7, none⟩ (.int .i64 v.k)).setCell ⟨w.heap.size, k * 7 + 1, none⟩ (.int .i64 v.t)).setCell ⟨w.heap.size, k * 7 + 2, none⟩ (.int .i64 v.s)).setCell ⟨w.heap.size, k * 7 + 3, none⟩ (.int .i64 v.val)).setCell ⟨w.heap.size, k * 7 + 4, none⟩ (.int .i64 v.cl)).setCell ⟨w.heap.size, k * 7 + 5, none⟩ (.int .i64 v.ca)).setCell ⟨w.heap.size, k * 7 + 6, none⟩ (.slice (some ⟨pb, 0, none⟩) v.ds.length v.ds.length)) (some w.heap.size) := (grown_set (j := k * 7 + 6) (grown_set (j := k * 7 + 5) (grown_set (j := k * 7 + 4) (grown_set (j := k * 7 + 3) (grown_set (j := k * 7 + 2) (grown_set (j := k * 7 + 1) (grown_set (j := k * 7) (grown_refl w2 (some w.heap.size)) (.int .i64 v.k)) (.int .i64 v.t)) (.int .i64 v.s)) (.int .i64 v.val)) (.int .i64 v.cl)) (.int .i64 v.ca)) (.slice (some ⟨pb, 0, none⟩) v.ds.length v.ds.length))
      have HC2 : Hid ((((((((cs.set (k * 7) (.int .i64 v.k)).set (k * 7 + 1) (.int .i64 v.t)).set (k * 7 + 2) (.int .i64 v.s)).set (k * 7 + 3) (.int .i64 v.val)).set (k * 7 + 4) (.int .i64 v.cl)).set (k * 7 + 5) (.int .i64 v.ca)).set (k * 7 + 6) (.slice (some ⟨pb, 0, none⟩) v.ds.length v.ds.length)).take ((k + 1) * 7) = flat7 (ys ++ [XV.mk v (.slice (some ⟨pb, 0, none⟩) v.ds.length v.ds.length)])) := by
        show List.take _ _ = _
        rw [take_seven cs k _ _ _ _ _ _ _ (by omega), HC.out.1, flat7_snoc]
      have keep : ∀ (p : Value) (n : Nat) (xs : List Value), w2.ownsRow w.heap.size 116 3 p n xs → ((((((((w2.setCell ⟨w.heap.size, k * 7, none⟩ (.int .i64 v.k)).setCell ⟨w.heap.size, k * 7 + 1, none⟩ (.int .i64 v.t)).setCell ⟨w.heap.size, k * 7 + 2, none⟩ (.int .i64 v.s)).setCell ⟨w.heap.size, k * 7 + 3, none⟩ (.int .i64 v.val)).setCell ⟨w.heap.size, k * 7 + 4, none⟩ (.int .i64 v.cl)).setCell ⟨w.heap.size, k * 7 + 5, none⟩ (.int .i64 v.ca)).setCell ⟨w.heap.size, k * 7 + 6, none⟩ (.slice (some ⟨pb, 0, none⟩) v.ds.length v.ds.length))).ownsRow w.heap.size 116 3 p n xs := fun p n xs hp => hp.kept hg7 (by
        have := row_other ho2 hp
        simpa [Value.ownBlock] using this)
      have hds4 : ∀ y ∈ ys ++ [XV.mk v (.slice (some ⟨pb, 0, none⟩) v.ds.length v.ds.length)], ((((((((w2.setCell ⟨w.heap.size, k * 7, none⟩ (.int .i64 v.k)).setCell ⟨w.heap.size, k * 7 + 1, none⟩ (.int .i64 v.t)).setCell ⟨w.heap.size, k * 7 + 2, none⟩ (.int .i64 v.s)).setCell ⟨w.heap.size, k * 7 + 3, none⟩ (.int .i64 v.val)).setCell ⟨w.heap.size, k * 7 + 4, none⟩ (.int .i64 v.cl)).setCell ⟨w.heap.size, k * 7 + 5, none⟩ (.int .i64 v.ca)).setCell ⟨w.heap.size, k * 7 + 6, none⟩ (.slice (some ⟨pb, 0, none⟩) v.ds.length v.ds.length))).ownsRow w.heap.size 116 3 y.p y.v.ds.length (flat3 y.v.ds) ∧ y.v.ds.length ≤ 1099511627776 := fun y hy => by
        rcases List.mem_append.1 hy with hy | hy
        · exact ⟨keep _ _ _ (hds2 y hy).1, (hds2 y hy).2⟩
        · simp at hy; subst hy; exact ⟨keep _ _ _ hrow2, hdl⟩
      have B4 : Below w.heap.size w ((((((((w2.setCell ⟨w.heap.size, k * 7, none⟩ (.int .i64 v.k)).setCell ⟨w.heap.size, k * 7 + 1, none⟩ (.int .i64 v.t)).setCell ⟨w.heap.size, k * 7 + 2, none⟩ (.int .i64 v.s)).setCell ⟨w.heap.size, k * 7 + 3, none⟩ (.int .i64 v.val)).setCell ⟨w.heap.size, k * 7 + 4, none⟩ (.int .i64 v.cl)).setCell ⟨w.heap.size, k * 7 + 5, none⟩ (.int .i64 v.ca)).setCell ⟨w.heap.size, k * 7 + 6, none⟩ (.slice (some ⟨pb, 0, none⟩) v.ds.length v.ds.length))) := (((((((hB2.setCell (p := ⟨w.heap.size, k * 7, none⟩) (Nat.le_refl _) (.int .i64 v.k)).setCell (p := ⟨w.heap.size, k * 7 + 1, none⟩) (Nat.le_refl _) (.int .i64 v.t)).setCell (p := ⟨w.heap.size, k * 7 + 2, none⟩) (Nat.le_refl _) (.int .i64 v.s)).setCell (p := ⟨w.heap.size, k * 7 + 3, none⟩) (Nat.le_refl _) (.int .i64 v.val)).setCell (p := ⟨w.heap.size, k * 7 + 4, none⟩) (Nat.le_refl _) (.int .i64 v.cl)).setCell (p := ⟨w.heap.size, k * 7 + 5, none⟩) (Nat.le_refl _) (.int .i64 v.ca)).setCell (p := ⟨w.heap.size, k * 7 + 6, none⟩) (Nat.le_refl _) (.slice (some ⟨pb, 0, none⟩) v.ds.length v.ds.length))
      have hap4 : (ys ++ [XV.mk v (.slice (some ⟨pb, 0, none⟩) v.ds.length v.ds.length)]).Pairwise (fun a b => ApartV a.p b.p) := List.pairwise_append.2 ⟨hap, List.pairwise_singleton _ _, fun x hx y hy => by simp at hy; subst hy; exact hap2 x hx⟩
      clear ho2 hg7 keep hds2 hap2 hrow hrow2 hB2
      go_wp2
      go_roundw
      case rel => exact ⟨k + 1, _, _, by omega, by go_num, ho4, ⟨HC2.out, by rw [HT.out, List.map_append, HC.out.2]; rfl⟩, hds4, hap4, B4⟩
      case measure => simp [intOf]; omega
    · have hk2 : k = vs.length := by omega
      subst hk2
      have hl2 : cs.length = vs.length * 7 := ho.1
      rw [List.take_length, List.take_of_length_le (by omega)] at HC
      have hyl : ys.length = vs.length := by rw [← HC.out.2, List.length_map]
      have HO : Hid (OwnV wr w.heap.size (.slice (some ⟨w.heap.size, 0, none⟩) vs.length vs.length) ys) := ⟨by rw [← HC.out.1, hyl]; exact ho, hds, hap⟩
      clear ho hl2 hyl hds hap
      go_wp2
      go_ret
      exact ⟨_, ys, rfl, HO.out, HC.out.2, hB⟩

set_option maxHeartbeats 4000000 in
theorem eqVers_any (a c : Option Addr) (vs : List V) (cap cap' : Nat) (w : World) (hn : vs.length ≤ 1048576) (hl : ∀ v ∈ vs, v.ds.length ≤ 1048576) (h : Vers w a vs) (h' : Vers w c vs) :
    Calls Tryz.prog 52 #[.slice a vs.length cap, .slice c vs.length cap'] w fun e w' => e = .returned (.bool true) ∧ Below w.heap.size w w' := by
  go_enter Tryz.func52, Tryz.ntmps52
  go_wp2
  go_loopw [5] (fun i wr => ∃ k : Nat, k ≤ vs.length ∧ i = .int .i64 k ∧ Below w.heap.size w wr) (fun i _ => vs.length - (intOf i).toNat)
  case atStart => exact ⟨0, Nat.zero_le _, rfl, Below.refl _ _⟩
  case round =>
    obtain ⟨k, hk, rfl, hB⟩ := hrel
    by_cases hlt : k < vs.length
    · obtain ⟨b, o, da, dc, rfl, hbb, hv⟩ := (h.below hB).at hlt
      obtain ⟨b', o', da', dc', rfl, hbb', hv'⟩ := (h'.below hB).at hlt
      obtain ⟨r0, r1, r2, r3, r4, r5, r6⟩ := hv.rules
      obtain ⟨q0, q1, q2, q3, q4, q5, q6⟩ := hv'.rules
      have hd := hv.ds
      have hd' := hv'.ds
      have hvl := hl vs[k] (List.getElem_mem hlt)
      have ne := since_ne wr
      clear hv hv' h h'
      generalize vs[k] = v at *
      go_wp2_with fail
      refine wp_region_class (S := Since wr) (by kernel_rfl) (by kernel_rfl) (Below.refl _ _).drew ?_
      repeat (go_big_quiet_step ((rename_i n; first | (go_at_call 134; exact Calls.inClass (eqVer_any _ _ _ _ _ _ _ _ _ _ _ _ hvl (hd.below n.h) (hd'.below n.h)) Since.keep))))
      refine wpQuiet_nil ?_
      rintro W ⟨n, hnW⟩
      have R2 := n.h
      rw [← hnW] at R2
      have hB2 : Below w.heap.size w W := hB.trans (R2.mono hB.size)
      clear R2 r0 r1 r2 r3 r4 r5 r6 q0 q1 q2 q3 q4 q5 q6 ne hnW n hB hd hd'
      go_wp2
      go_roundw
      case rel => exact ⟨k + 1, by omega, by go_num, hB2⟩
      case measure => simp [intOf]; omega
    · go_wp2
      go_ret
      exact ⟨rfl, hB⟩
end Go.Proofs.YtpjidogilofppaaGreat

/- The exact laws' marks: versions are written with numbers, and held against them. -/
namespace Go.Proofs.YtpjidogilofppaaGreat
open Go.ChangeShapes Go.WideShapes Go.ChangeAt Go.RowKit

/-- The number behind a list's marks. -/
def endV (k : Int) (vs : List V) : Int := k + 6 * vs.length + 3 * (tot vs : Int)
def markV (k : Int) (v : V) : V := ⟨k, k + 1, k + 2, k + 3, k + 4, k + 5, markL (k + 6) v.ds.length⟩
def markVs : Int → List V → List V
  | _, [] => []
  | k, v :: vs => markV k v :: markVs (k + 6 + 3 * v.ds.length) vs
def markX : Int → List XV → List XV
  | _, [] => []
  | k, y :: ys => ⟨markV k y.v, y.p⟩ :: markX (k + 6 + 3 * y.v.ds.length) ys
theorem tot_cons (v : V) (vs : List V) : tot (v :: vs) = v.ds.length + tot vs := by simp [tot]
theorem markX_v (ys : List XV) : ∀ k, (markX k ys).map XV.v = markVs k (ys.map XV.v) := by
  induction ys with
  | nil => intro k; rfl
  | cons y ys ih => intro k; simp [markX, markVs, ih]
theorem markX_len (ys : List XV) : ∀ k, (markX k ys).length = ys.length := by
  induction ys with
  | nil => intro k; rfl
  | cons y ys ih => intro k; simp [markX, ih]
theorem markVs_len (vs : List V) : ∀ k, (markVs k vs).length = vs.length := by
  induction vs with
  | nil => intro k; rfl
  | cons y ys ih => intro k; simp [markVs, ih]
theorem markX_snoc (ys : List XV) (y : XV) : ∀ k, markX k (ys ++ [y]) = markX k ys ++ [⟨markV (endV k (ys.map XV.v)) y.v, y.p⟩] := by
  induction ys with
  | nil => intro k; simp [markX, endV, tot]
  | cons x xs ih =>
    intro k
    simp only [List.cons_append, markX, ih, List.map_cons]
    have : endV (k + 6 + 3 * x.v.ds.length) (xs.map XV.v) = endV k (x.v :: xs.map XV.v) := by simp only [endV, tot_cons, List.length_cons, List.length_map]; omega
    rw [this]
theorem markVs_at (vs : List V) : ∀ k j, (h : j < vs.length) → ∃ h' : j < (markVs k vs).length, (markVs k vs)[j] = markV (endV k (vs.take j)) vs[j] := by
  induction vs with
  | nil => intro k j h; cases h
  | cons x xs ih =>
    intro k j h
    refine ⟨by rw [markVs_len]; exact h, ?_⟩
    cases j with
    | zero => simp [markVs, endV, tot]
    | succ j =>
      obtain ⟨h', e⟩ := ih (k + 6 + 3 * x.ds.length) j (by simpa using h)
      simp only [markVs, List.getElem_cons_succ, List.take_succ_cons]
      rw [e]
      have : endV (k + 6 + 3 * x.ds.length) (xs.take j) = endV k (x :: xs.take j) := by simp only [endV, tot_cons, List.length_cons]; omega
      rw [this]
theorem endV_take {vs : List V} {k : Int} {j : Nat} (h : j < vs.length) : endV k (vs.take (j + 1)) = endV k (vs.take j) + 6 + 3 * (vs[j].ds.length : Int) := by
  unfold endV
  rw [tot_take h, List.length_take, List.length_take, Nat.min_eq_left (by omega), Nat.min_eq_left (by omega)]
  omega
theorem endV_le (vs : List V) (k : Int) (j : Nat) : endV k (vs.take j) ≤ endV k vs := by
  have := tot_le vs j
  unfold endV
  rw [List.length_take]
  omega
theorem flat7_set6 (zs : List XV) (u0 u1 u2 u3 u4 u5 : Int) (ds : List D) : ∀ j, (h : j < zs.length) → ((((((flat7 zs).set (j * 7) (.int .i64 u0)).set (j * 7 + 1) (.int .i64 u1)).set (j * 7 + 2) (.int .i64 u2)).set (j * 7 + 3) (.int .i64 u3)).set (j * 7 + 4) (.int .i64 u4)).set (j * 7 + 5) (.int .i64 u5) = flat7 (zs.set j ⟨⟨u0, u1, u2, u3, u4, u5, ds⟩, zs[j].p⟩) := by
  induction zs with
  | nil => intro j h; cases h
  | cons x xs ih =>
    intro j h
    cases j with
    | zero => simp [flat7_cons]
    | succ j =>
      have := ih j (by simpa using h)
      rw [show (j + 1) * 7 = j * 7 + 1 + 1 + 1 + 1 + 1 + 1 + 1 by omega]
      simp only [List.set_cons_succ, List.getElem_cons_succ, flat7_cons]
      rw [← this]

/-- Nothing has turned but some blocks. -/
structure Only (w w' : World) (S : Nat → Prop) : Prop where
  os : w'.os = w.os
  tape : w'.tape = w.tape
  output : w'.output = w.output
  size : w.heap.size ≤ w'.heap.size
  block : ∀ k, k < w.heap.size → ¬ S k → w'.heap[k]? = w.heap[k]?
theorem Only.refl (w : World) (S : Nat → Prop) : Only w w S := ⟨rfl, rfl, rfl, Nat.le_refl _, fun _ _ _ => rfl⟩
theorem Only.grown {a w w' : World} {S : Nat → Prop} {row : Option Nat} (h : Only a w S) (g : w.grownBy w' row) (hr : ∀ j, row = some j → S j) : Only a w' S :=
  ⟨g.os.trans h.os, g.tape.trans h.tape, g.output.trans h.output, Nat.le_trans h.size g.size, fun k hk hS => (g.block k (Nat.lt_of_lt_of_le hk h.size) (fun e => hS (hr k e.symm))).trans (h.block k hk hS)⟩
theorem Only.set {a w : World} {S : Nat → Prop} {A i : Nat} (h : Only a w S) (hA : S A) (u : Value) : Only a (w.setCell ⟨A, i, none⟩ u) S :=
  ⟨h.os, h.tape, h.output, by have := h.size; simpa [World.setCell] using this, fun k hk hS => (Below.heap_setCell _ _ _ k (fun e => hS (by have : k = A := e; rw [this]; exact hA))).trans (h.block k hk hS)⟩
theorem Only.row {w w' : World} {S : Nat → Prop} (o : Only w w' S) {base : Nat} {e : TypeId} {s n : Nat} {p : Value} {xs : List Value} (h : w.ownsRow base e s p n xs) (hS : ∀ j, p.ownBlock = some j → ¬ S j) : w'.ownsRow base e s p n xs := by
  rcases h with ⟨h1, ⟨rfl, rfl⟩ | ⟨g, cap, cur, rfl, hb, hg, hr⟩⟩
  · exact ⟨h1, .inl ⟨rfl, rfl⟩⟩
  · exact ⟨h1, .inr ⟨g, cap, cur, rfl, hb, (o.block g (Array.getElem?_eq_some_iff.1 hg).1 (hS g rfl)).trans hg, hr⟩⟩
/-- The blocks that versions of the call's own lie in. -/
def inV (v : Value) (ys : List XV) (b : Nat) : Prop := v.ownBlock = some b ∨ ∃ y ∈ ys, y.p.ownBlock = some b
theorem OwnV.lt {w : World} {base : Nat} {v : Value} {ys : List XV} (h : OwnV w base v ys) {j : Nat} (hj : inV v ys j) : base ≤ j ∧ j < w.heap.size := by
  rcases hj with hj | ⟨y, hy, hj⟩
  · exact h.row.lt j hj
  · exact (h.deps y hy).1.lt j hj
theorem Only.ownV {w w' : World} {S : Nat → Prop} (o : Only w w' S) {base : Nat} {v : Value} {ys : List XV} (h : OwnV w base v ys) (hS : ∀ j, inV v ys j → ¬ S j) : OwnV w' base v ys :=
  ⟨o.row h.row (fun j hj => hS j (.inl hj)), fun y hy => ⟨o.row (h.deps y hy).1 (fun j hj => hS j (.inr ⟨y, hy, hj⟩)), (h.deps y hy).2⟩, h.apart⟩
theorem Only.below {w w' : World} {S : Nat → Prop} (o : Only w w' S) {n : Nat} (hn : n ≤ w.heap.size) (hS : ∀ j, S j → n ≤ j) : Below n w w' :=
  ⟨o.os, o.tape, o.output, o.size, fun k hk => o.block k (by omega) (fun s => by have := hS k s; omega)⟩

/-- A version of the call's own is written anew. -/
theorem OwnV.write {w w1 w2 : World} {base : Nat} {v : Value} {zs : List XV} (h : OwnV w base v zs) {j : Nat} (hj : j < zs.length) (x : V) (hx : x.ds.length = zs[j].v.ds.length)
    (o1 : Only w w1 (fun b => v.ownBlock = some b)) (r1 : w1.ownsRow base 107 7 v zs.length (flat7 (zs.set j ⟨x, zs[j].p⟩))) (g2 : w1.grownBy w2 zs[j].p.ownBlock) (d2 : w2.ownsRow base 116 3 zs[j].p x.ds.length (flat3 x.ds)) : OwnV w2 base v (zs.set j ⟨x, zs[j].p⟩) := by
  have hne : ∀ y ∈ zs, ∀ b, y.p.ownBlock = some b → ¬ v.ownBlock = some b := fun y hy b hb hv => by
    rcases row_other h.row (h.deps y hy).1 with e | e
    · rw [hb] at e; cases e
    · exact e (hb.trans hv.symm)
  have hm : (zs.set j ⟨x, zs[j].p⟩).map XV.p = zs.map XV.p := by
    rw [List.map_set]
    apply List.ext_getElem?
    intro i
    rw [List.getElem?_set]
    split
    · rename_i e; subst e; simp [hj]
    · rfl
  refine ⟨?_, fun y hy => ?_, ?_⟩
  · rw [List.length_set]
    refine r1.kept g2 ?_
    by_cases hv : v.ownBlock = none
    · exact .inl hv
    · refine .inr fun e => ?_
      obtain ⟨b, hb⟩ := Option.ne_none_iff_exists'.1 hv
      exact hne zs[j] (List.getElem_mem hj) b (e.symm.trans hb) hb
  · obtain ⟨i, hi, rfl⟩ := List.mem_iff_getElem.1 hy
    rw [List.length_set] at hi
    rw [List.getElem_set]
    split
    · exact ⟨d2, by have := (h.deps zs[j] (List.getElem_mem hj)).2; simp only; omega⟩
    · rename_i hij
      refine ⟨(o1.row (h.deps zs[i] (List.getElem_mem hi)).1 (hne _ (List.getElem_mem hi))).kept g2 ?_, (h.deps zs[i] (List.getElem_mem hi)).2⟩
      by_cases hv : zs[i].p.ownBlock = none
      · exact .inl hv
      · refine .inr fun e => ?_
        obtain ⟨b, hb⟩ := Option.ne_none_iff_exists'.1 hv
        have hp := List.pairwise_iff_getElem.1 h.apart
        rcases Nat.lt_or_gt_of_ne hij with q | q
        · exact hp j i hj hi q b (e.symm.trans hb) hb
        · exact hp i j hi hj q b hb (e.symm.trans hb)
  · have := h.apart
    rw [← List.pairwise_map (f := XV.p) (R := ApartV)] at this ⊢
    rw [hm]; exact this

set_option maxHeartbeats 4000000 in
theorem markVers_some (g cap base : Nat) (ys : List XV) (k : Int) (w : World) (hn : ys.length ≤ 1048577) (hd : ∀ y ∈ ys, y.v.ds.length ≤ 1048576) (hk0 : 0 ≤ k) (hk1 : endV k (ys.map XV.v) ≤ 10000000) (h : OwnV w base (.slice (some ⟨g, 0, none⟩) ys.length cap) ys) :
    Calls Tryz.prog 55 #[.slice (some ⟨g, 0, none⟩) ys.length cap, .int .i64 k] w fun e w' => e = .returned (.int .i64 (endV k (ys.map XV.v))) ∧ OwnV w' base (.slice (some ⟨g, 0, none⟩) ys.length cap) (markX k ys) ∧ Only w w' (inV (.slice (some ⟨g, 0, none⟩) ys.length cap) ys) := by
  obtain ⟨n, hnn⟩ : ∃ n, n = ys.length := ⟨_, rfl⟩
  rw [← hnn] at h hn ⊢
  go_enter Tryz.func55, Tryz.ntmps55
  go_wp2
  go_loopw [1, 5] (fun m i wr => ∃ j : Nat, j ≤ n ∧ i = .int .i64 j ∧ m = .int .i64 (endV k ((ys.map XV.v).take j)) ∧ OwnV wr base (.slice (some ⟨g, 0, none⟩) n cap) (markX k (ys.take j) ++ ys.drop j) ∧ Only w wr (inV (.slice (some ⟨g, 0, none⟩) n cap) ys)) (fun _ i _ => n - (intOf i).toNat)
  case atStart => exact ⟨0, Nat.zero_le _, rfl, by simp [endV, tot], by simpa [markX] using h, Only.refl _ _⟩
  case round =>
    obtain ⟨j, hj, rfl, rfl, ho, hO⟩ := hrel
    clear h
    by_cases hlt : j < n
    · have hm1 : endV k ((ys.map XV.v).take j) ≤ 10000000 := Int.le_trans (endV_le _ _ _) hk1
      have hm0 : 0 ≤ endV k ((ys.map XV.v).take j) := by unfold endV; omega
      have hend := endV_take (vs := ys.map XV.v) (k := k) (j := j) (by simpa using (hnn ▸ hlt))
      have hys : j < ys.length := hnn ▸ hlt
      have hlen : (markX k (ys.take j)).length = j := by rw [markX_len, List.length_take]; omega
      have hdrop : ys.drop j = ys[j] :: ys.drop (j + 1) := (List.drop_eq_getElem_cons hys)
      have hsn : markX k (ys.take (j + 1)) ++ ys.drop (j + 1) = (markX k (ys.take j) ++ ys.drop j).set j ⟨markV (endV k ((ys.map XV.v).take j)) ys[j].v, ys[j].p⟩ := by
        rw [hdrop, List.set_append_right _ _ (by omega), hlen, Nat.sub_self, List.set_cons_zero, List.take_succ_eq_append_getElem hys, markX_snoc, List.map_take]
        simp
      simp only [List.getElem_map] at hend
      obtain ⟨zs, hzs⟩ : ∃ zs, zs = markX k (ys.take j) ++ ys.drop j := ⟨_, rfl⟩
      have hzl : zs.length = n := by rw [hzs, List.length_append, hlen, List.length_drop]; omega
      have hjz : j < zs.length := by omega
      have hzj : zs[j]'hjz = ys[j] := by
        have : zs[j]? = some ys[j] := by rw [hzs, List.getElem?_append_right (by omega), hlen, Nat.sub_self, hdrop]; rfl
        exact (List.getElem?_eq_some_iff.1 this).2
      rw [← hzs] at ho hsn
      obtain ⟨y, hy⟩ : ∃ y, y = ys[j] := ⟨_, rfl⟩
      have hin : inV (.slice (some ⟨g, 0, none⟩) n cap) ys g := .inl rfl
      have hiny : ∀ b, y.p.ownBlock = some b → inV (.slice (some ⟨g, 0, none⟩) n cap) ys b := fun b hb => .inr ⟨y, by rw [hy]; exact List.getElem_mem hys, hb⟩
      have hyl : y.v.ds.length ≤ 1048576 := hd y (by rw [hy]; exact List.getElem_mem hys)
      rw [← hy] at hsn hzj hend
      clear hy hdrop hlen hzs hd
      generalize endV k ((ys.map XV.v).take j) = m at *
      have hr : wr.ownsRow base 107 7 (.slice (some ⟨g, 0, none⟩) n cap) n (flat7 zs) := by have := ho.row; rwa [hzl] at this
      obtain ⟨d0, d1, d2, d3, d4, d5, d6⟩ : wr.cell? ⟨g, j * 7, none⟩ = some (.int .i64 y.v.k) ∧ wr.cell? ⟨g, j * 7 + 1, none⟩ = some (.int .i64 y.v.t) ∧ wr.cell? ⟨g, j * 7 + 2, none⟩ = some (.int .i64 y.v.s) ∧ wr.cell? ⟨g, j * 7 + 3, none⟩ = some (.int .i64 y.v.val) ∧ wr.cell? ⟨g, j * 7 + 4, none⟩ = some (.int .i64 y.v.cl) ∧ wr.cell? ⟨g, j * 7 + 5, none⟩ = some (.int .i64 y.v.ca) ∧ wr.cell? ⟨g, j * 7 + 6, none⟩ = some y.p := by
        obtain ⟨a0, a1, a2, a3, a4, a5, a6⟩ := flat7_at zs j hjz
        rw [hzj] at a0 a1 a2 a3 a4 a5 a6
        have hl7 := flat7_len zs
        rw [hzl] at hl7
        refine ⟨?_, ?_, ?_, ?_, ?_, ?_, ?_⟩
        · rw [hr.cellAt (j * 7) (by omega)]; exact a0
        · rw [hr.cellAt (j * 7 + 1) (by omega)]; exact a1
        · rw [hr.cellAt (j * 7 + 2) (by omega)]; exact a2
        · rw [hr.cellAt (j * 7 + 3) (by omega)]; exact a3
        · rw [hr.cellAt (j * 7 + 4) (by omega)]; exact a4
        · rw [hr.cellAt (j * 7 + 5) (by omega)]; exact a5
        · rw [hr.cellAt (j * 7 + 6) (by omega)]; exact a6
      have f0 : wr.frozen? ⟨g, j * 7, none⟩ = false := hr.frozenAt _
      have f1 : wr.frozen? ⟨g, j * 7 + 1, none⟩ = false := hr.frozenAt _
      have f2 : wr.frozen? ⟨g, j * 7 + 2, none⟩ = false := hr.frozenAt _
      have f3 : wr.frozen? ⟨g, j * 7 + 3, none⟩ = false := hr.frozenAt _
      have f4 : wr.frozen? ⟨g, j * 7 + 4, none⟩ = false := hr.frozenAt _
      have f5 : wr.frozen? ⟨g, j * 7 + 5, none⟩ = false := hr.frozenAt _
      obtain ⟨w6, hw6⟩ : ∃ w6, w6 = (((((wr.setCell ⟨g, j * 7, none⟩ (.int .i64 m)).setCell ⟨g, j * 7 + 1, none⟩ (.int .i64 (m + 1))).setCell ⟨g, j * 7 + 2, none⟩ (.int .i64 (m + 2))).setCell ⟨g, j * 7 + 3, none⟩ (.int .i64 (m + 3))).setCell ⟨g, j * 7 + 4, none⟩ (.int .i64 (m + 4))).setCell ⟨g, j * 7 + 5, none⟩ (.int .i64 (m + 5)) := ⟨_, rfl⟩
      have r6 := ((((((((((((hr.stored (j * 7) (.int .i64 m)).1).stored (j * 7 + 1) (.int .i64 (m + 1))).1).stored (j * 7 + 2) (.int .i64 (m + 2))).1).stored (j * 7 + 3) (.int .i64 (m + 3))).1).stored (j * 7 + 4) (.int .i64 (m + 4))).1).stored (j * 7 + 5) (.int .i64 (m + 5))).1)
      rw [← hw6, flat7_set6 zs m (m + 1) (m + 2) (m + 3) (m + 4) (m + 5) (markL (m + 6) y.v.ds.length) j hjz] at r6
      have o6 : Only wr w6 (fun b => (Value.slice (some ⟨g, 0, none⟩) n cap).ownBlock = some b) := by rw [hw6]; exact ((((((Only.refl wr (fun b => (Value.slice (some ⟨g, 0, none⟩) n cap).ownBlock = some b)).set (A := g) rfl _).set (A := g) rfl _).set (A := g) rfl _).set (A := g) rfl _).set (A := g) rfl _).set (A := g) rfl _
      have O6 : Only w w6 (inV (.slice (some ⟨g, 0, none⟩) n cap) ys) := by rw [hw6]; exact (((((hO.set (A := g) hin _).set (A := g) hin _).set (A := g) hin _).set (A := g) hin _).set (A := g) hin _).set (A := g) hin _
      have p6 : w6.ownsRow base 116 3 y.p y.v.ds.length (flat3 y.v.ds) := by
        have hd := (ho.deps (zs[j]'hjz) (List.getElem_mem hjz))
        rw [hzj] at hd
        refine o6.row hd.1 fun b hb hv => ?_
        rcases row_other ho.row hd.1 with e | e
        · rw [hb] at e; cases e
        · exact e (hb.trans hv.symm)
      have s1 : m + 1 + 1 = m + 2 := by omega
      have s2 : m + 2 + 1 = m + 3 := by omega
      have s3 : m + 3 + 1 = m + 4 := by omega
      have s4 : m + 4 + 1 = m + 5 := by omega
      have s5 : m + 5 + 1 = m + 6 := by omega
      have hm6 : m + 6 ≤ 10000000 := by have := endV_le (ys.map XV.v) k (j + 1); omega
      have HW : Hid (OwnV wr base (.slice (some ⟨g, 0, none⟩) n cap) zs) := ho
      have HE : Hid (endV k ((ys.map XV.v).take (j + 1)) = m + 6 + 3 * (y.v.ds.length : Int)) := hend
      have HSN : Hid (markX k (ys.take (j + 1)) ++ ys.drop (j + 1) = zs.set j ⟨markV m y.v, y.p⟩) := hsn
      have HZ : Hid (zs[j]'hjz = y) := hzj
      have HL : Hid (zs.length = n) := hzl
      have HR6 : Hid (w6.ownsRow base 107 7 (.slice (some ⟨g, 0, none⟩) n cap) n (flat7 (zs.set j ⟨⟨m, m + 1, m + 2, m + 3, m + 4, m + 5, markL (m + 6) y.v.ds.length⟩, (zs[j]'hjz).p⟩))) := r6
      have HB : Hid (n = ys.length ∧ endV k (ys.map XV.v) ≤ 10000000 ∧ 0 ≤ k) := ⟨hnn, hk1, hk0⟩
      clear ho hr hend hsn hzj hzl r6 hnn hk1 hk0 hO hys
      go_wp2_with fail
      rw [← hw6]
      refine (mark_any y.p y.v.ds.length base _ (m + 6) w6 hyl (by omega) hm6 p6).mono ?_
      rintro e w7 ⟨rfl, p7, g7⟩
      have O7 := O6.grown g7 hiny
      have N7 : OwnV w7 base (.slice (some ⟨g, 0, none⟩) n cap) (markX k (ys.take (j + 1)) ++ ys.drop (j + 1)) := by
        have := HW.out.write hjz (markV m y.v) (by rw [HZ.out]; simp [markV, markL_len]) o6 (by rw [HL.out]; exact HR6.out) (by rw [HZ.out]; exact g7) (by rw [HZ.out]; simpa [markV, markL_len] using p7)
        rw [HZ.out] at this
        rw [HSN.out]; exact this
      clear d0 d1 d2 d3 d4 d5 d6 f0 f1 f2 f3 f4 f5 hw6 o6 O6 p6 s1 s2 s3 s4 s5 HW HSN HZ HL HR6 p7 g7 hin hiny
      go_wp2
      go_roundw
      case rel => exact ⟨j + 1, by omega, by go_num, by rw [HE.out], N7, O7⟩
      case measure => simp [intOf]; omega
    · have hk2 : j = n := by omega
      subst hk2
      have HO : Hid (OwnV wr base (.slice (some ⟨g, 0, none⟩) j cap) (markX k ys)) := by
        show OwnV _ _ _ _
        rw [hnn] at ho ⊢
        simpa using ho
      have hE : (ys.map XV.v).take j = ys.map XV.v := by rw [hnn]; exact List.take_of_length_le (by simp)
      rw [hE]
      clear ho hE hd hnn
      go_wp2
      go_ret
      exact ⟨rfl, HO.out, hO⟩

theorem markVers_nil (k : Int) (w : World) : Calls Tryz.prog 55 #[.slice none 0 0, .int .i64 k] w fun e w' => e = .returned (.int .i64 k) ∧ w' = w := by
  go_enter Tryz.func55, Tryz.ntmps55
  go_wp2
  go_loop [1, 5] (fun m i => m = .int .i64 k ∧ i = .int .i64 0) (fun _ _ => 0)
  case atStart => exact ⟨rfl, rfl⟩
  case round =>
    obtain ⟨rfl, rfl⟩ := hrel
    go_wp2
    go_ret
    exact ⟨rfl, rfl⟩

theorem markVers_any (v : Value) (base : Nat) (ys : List XV) (k : Int) (w : World) (hn : ys.length ≤ 1048577) (hd : ∀ y ∈ ys, y.v.ds.length ≤ 1048576) (hk0 : 0 ≤ k) (hk1 : endV k (ys.map XV.v) ≤ 10000000) (h : OwnV w base v ys) :
    Calls Tryz.prog 55 #[v, .int .i64 k] w fun e w' => e = .returned (.int .i64 (endV k (ys.map XV.v))) ∧ OwnV w' base v (markX k ys) ∧ Only w w' (inV v ys) := by
  rcases h.row.2 with ⟨rfl, hz⟩ | ⟨g, cap, cur, rfl, _⟩
  · have : ys = [] := List.length_eq_zero_iff.1 hz
    subst this
    refine (markVers_nil k w).mono ?_
    rintro e w' ⟨rfl, rfl⟩
    exact ⟨by simp [endV, tot], by simpa [markX] using h, Only.refl _ _⟩
  · exact markVers_some g cap base ys k w hn hd hk0 hk1 h

theorem markVers_as (v : Value) (base : Nat) (ys : List XV) (vs : List V) (k : Int) (w : World) (hy : ys.map XV.v = vs) (hn : vs.length ≤ 1048577) (hd : ∀ v ∈ vs, v.ds.length ≤ 1048576) (hk0 : 0 ≤ k) (hk1 : endV k vs ≤ 10000000) (h : OwnV w base v ys) :
    Calls Tryz.prog 55 #[v, .int .i64 k] w fun e w' => e = .returned (.int .i64 (endV k vs)) ∧ (∃ zs, OwnV w' base v zs ∧ zs.map XV.v = markVs k vs ∧ ∀ b, inV v zs b → inV v ys b) ∧ Only w w' (inV v ys) := by
  subst hy
  refine (markVers_any v base ys k w (by simpa using hn) (fun y hy => hd y.v (List.mem_map_of_mem hy)) hk0 hk1 h).mono ?_
  rintro e w' ⟨rfl, h1, h2⟩
  refine ⟨rfl, ⟨_, h1, markX_v _ _, fun b hb => ?_⟩, h2⟩
  rcases hb with hb | ⟨y, hy, hb⟩
  · exact .inl hb
  · have : ∀ (ys : List XV) k, ∀ y ∈ markX k ys, ∃ z ∈ ys, z.p = y.p := by
      intro ys
      induction ys with
      | nil => intro k y hy; cases hy
      | cons x xs ih =>
        intro k y hy
        rcases List.mem_cons.1 hy with rfl | hy
        · exact ⟨x, by simp, rfl⟩
        · obtain ⟨z, hz, e⟩ := ih _ y hy
          exact ⟨z, by simp [hz], e⟩
    obtain ⟨z, hz, e⟩ := this ys k y hy
    exact .inr ⟨z, hz, by rw [e]; exact hb⟩

set_option maxHeartbeats 4000000 in
theorem heldVers_any (a : Option Addr) (cap : Nat) (vs : List V) (k : Int) (w : World) (hn : vs.length ≤ 1048577) (hd : ∀ v ∈ vs, v.ds.length ≤ 1048576) (hk0 : 0 ≤ k) (hk1 : endV k vs ≤ 10000000) (h : Vers w a (markVs k vs)) :
    Calls Tryz.prog 58 #[.slice a vs.length cap, .int .i64 k] w fun e w' => e = .returned (.int .i64 (endV k vs)) ∧ w' = w := by
  go_enter Tryz.func58, Tryz.ntmps58
  go_wp2
  go_loop [1, 5] (fun m i => ∃ j : Nat, j ≤ vs.length ∧ i = .int .i64 j ∧ m = .int .i64 (endV k (vs.take j))) (fun _ i => vs.length - (intOf i).toNat)
  case atStart => exact ⟨0, Nat.zero_le _, rfl, by simp [endV, tot]⟩
  case round =>
    obtain ⟨j, hj, rfl, rfl⟩ := hrel
    by_cases hlt : j < vs.length
    · obtain ⟨hq, eq⟩ := markVs_at vs k j hlt
      obtain ⟨b, o, da, dc, rfl, hbb, hv⟩ := h.at hq
      rw [eq] at hv
      have hm1 : endV k (vs.take j) ≤ 10000000 := Int.le_trans (endV_le _ _ _) hk1
      have hm0 : 0 ≤ endV k (vs.take j) := by unfold endV; omega
      have hend := endV_take (vs := vs) (k := k) (j := j) hlt
      have hm6 : endV k (vs.take j) + 6 ≤ 10000000 := by have := endV_le vs k (j + 1); omega
      have hyl := hd vs[j] (List.getElem_mem hlt)
      have HE : Hid (endV k (vs.take (j + 1)) = endV k (vs.take j) + 6 + 3 * (vs[j].ds.length : Int)) := hend
      clear h eq hend hd hq
      generalize endV k (vs.take j) = m at *
      generalize vs[j] = v at *
      have e0 := hv.c0
      have e1 := hv.c1
      have e2 := hv.c2
      have e3 := hv.c3
      have e4 := hv.c4
      have e5 := hv.c5
      have e6 := hv.c6
      have hD := hv.ds
      simp only [markV] at e0 e1 e2 e3 e4 e5 e6 hD
      rw [markL_len] at e6
      have s1 : m + 1 + 1 = m + 2 := by omega
      have s2 : m + 2 + 1 = m + 3 := by omega
      have s3 : m + 3 + 1 = m + 4 := by omega
      have s4 : m + 4 + 1 = m + 5 := by omega
      have s5 : m + 5 + 1 = m + 6 := by omega
      clear hv
      go_wp2_with fail
      refine (held_any da v.ds.length dc (m + 6) _ hyl (by omega) hm6 hD).mono ?_
      rintro e w7 ⟨rfl, rfl⟩
      clear e0 e1 e2 e3 e4 e5 e6 hD s1 s2 s3 s4 s5
      have hp : 0 ≤ m + 6 + 3 * (v.ds.length : Int) := by omega
      go_wp2
      go_round
      case rel => exact ⟨j + 1, by omega, by go_num, by rw [HE.out]⟩
      case measure => simp [intOf]; omega
    · have hk2 : j = vs.length := by omega
      subst hk2
      rw [List.take_length]
      clear h
      go_wp2
      go_ret
      exact ⟨rfl, rfl⟩

end Go.Proofs.YtpjidogilofppaaGreat

