/- The exact laws' helpers: versions are counted, copied, and held against each other. -/
import Derived.Test.YthlmodafadfnfaaCopyV
namespace Go.Proofs.Ythlmodafadfnfaa
open Go.ChangeShapes Go.WideShapes Go.ChangeAt Go.RowKit

/-- A list of versions that came in. -/
def VersI (w : World) (a : Option Addr) (vs : List V) : Prop :=
  vs = [] ∨ ∃ b o, a = some ⟨b, o, none⟩ ∧ b < w.heap.size ∧ ∀ i, (h : i < vs.length) → ∃ da dc, w.cell? ⟨b, o + i * 7, none⟩ = some (.int .i64 vs[i].k) ∧ w.cell? ⟨b, o + i * 7 + 1, none⟩ = some (.int .i64 vs[i].t) ∧ w.cell? ⟨b, o + i * 7 + 2, none⟩ = some (.int .i64 vs[i].s) ∧ w.cell? ⟨b, o + i * 7 + 3, none⟩ = some (.int .i64 vs[i].val) ∧ w.cell? ⟨b, o + i * 7 + 4, none⟩ = some (.int .i64 vs[i].cl) ∧ w.cell? ⟨b, o + i * 7 + 5, none⟩ = some (.int .i64 vs[i].ca) ∧ w.cell? ⟨b, o + i * 7 + 6, none⟩ = some (.slice da vs[i].ds.length dc) ∧ Deps w da vs[i].ds ∧ vs[i].ds.length ≤ maxLen
theorem VersI.below {w w' : World} {a : Option Addr} {vs : List V} (h : VersI w a vs) (k : Below w.heap.size w w') : VersI w' a vs := by
  rcases h with h | ⟨b, o, ha, hb, h⟩
  · exact .inl h
  · refine .inr ⟨b, o, ha, Nat.lt_of_lt_of_le hb k.size, fun i hi => ?_⟩
    obtain ⟨da, dc, c0, c1, c2, c3, c4, c5, c6, hd, hl⟩ := h i hi
    exact ⟨da, dc, (k.cell (p := ⟨b, _, none⟩) hb).trans c0, (k.cell (p := ⟨b, _, none⟩) hb).trans c1, (k.cell (p := ⟨b, _, none⟩) hb).trans c2, (k.cell (p := ⟨b, _, none⟩) hb).trans c3, (k.cell (p := ⟨b, _, none⟩) hb).trans c4, (k.cell (p := ⟨b, _, none⟩) hb).trans c5, (k.cell (p := ⟨b, _, none⟩) hb).trans c6, hd.below k, hl⟩
theorem VersI.vers {w : World} {a : Option Addr} {vs : List V} (h : VersI w a vs) (hl : ∀ v ∈ vs, v.ds.length ≤ 1099511627776) : Vers w a vs := by
  rcases h with h | ⟨b, o, ha, hb, h⟩
  · exact .inl h
  · refine .inr ⟨b, o, ha, hb, fun i hi => ?_⟩
    obtain ⟨da, dc, c0, c1, c2, c3, c4, c5, c6, hd, _⟩ := h i hi
    exact ⟨da, dc, c0, c1, c2, c3, c4, c5, c6, hd, hl _ (List.getElem_mem hi)⟩
/-- How many deps there are together. -/
def tot (vs : List V) : Nat := (vs.map fun v => v.ds.length).sum
theorem tot_snoc (vs : List V) (v : V) : tot (vs ++ [v]) = tot vs + v.ds.length := by simp [tot]
theorem tot_take {vs : List V} {k : Nat} (h : k < vs.length) : tot (vs.take (k + 1)) = tot (vs.take k) + vs[k].ds.length := by rw [takeV vs k h, tot_snoc]
theorem tot_mem {vs : List V} {v : V} (h : v ∈ vs) : v.ds.length ≤ tot vs := by
  induction vs with
  | nil => cases h
  | cons x xs ih =>
    have e : tot (x :: xs) = x.ds.length + tot xs := by simp [tot]
    rw [e]
    rcases List.mem_cons.1 h with rfl | h
    · omega
    · have := ih h; omega
theorem tot_le (vs : List V) (k : Nat) : tot (vs.take k) ≤ tot vs := by
  have e : tot vs = tot (vs.take k) + tot (vs.drop k) := by
    have e0 : vs.map (fun v => v.ds.length) = (vs.take k).map (fun v => v.ds.length) ++ (vs.drop k).map (fun v => v.ds.length) := by rw [← List.map_append, List.take_append_drop]
    unfold tot
    rw [e0, List.sum_append]
  omega

theorem szVerL_any (k t s val cl ca left : Int) (a : Option Addr) (n cap : Nat) (w : World) (hn : n ≤ maxLen) (h0 : 0 ≤ left) (h1 : left ≤ 1048576) :
    Calls Try.prog 48 #[verV k t s val cl ca a n cap, .int .i64 left] w fun e w' => e = .returned (.int .i64 (if left < (n : Int) then -1 else left - n)) ∧ Below w.heap.size w w' := by
  have hz := fun w => szDeps_any a n cap left w hn h0 h1
  by_cases h : left < (n : Int)
  · rw [if_pos h] at hz
    rw [if_pos h]
    go_enter Try.func48, Try.ntmps48
    go_wp2_with fail
    refine (hz _).mono ?_
    rintro e w1 ⟨rfl, rfl⟩
    clear hz
    go_wp2_with fail
    go_ret
    exact ⟨rfl, (Below.refl _ _).alloc (Nat.le_refl _) _⟩
  · rw [if_neg h] at hz
    rw [if_neg h]
    have h2 : 0 ≤ left - n := by omega
    go_enter Try.func48, Try.ntmps48
    go_wp2_with fail
    refine (hz _).mono ?_
    rintro e w1 ⟨rfl, rfl⟩
    clear hz
    go_wp2_with fail
    go_ret
    exact ⟨rfl, (Below.refl _ _).alloc (Nat.le_refl _) _⟩

set_option maxHeartbeats 2000000 in
theorem szVers_any (a : Option Addr) (cap : Nat) (vs : List V) (w : World) (hn : vs.length ≤ maxLen) (h : VersI w a vs) :
    Calls Try.prog 45 #[.slice a vs.length cap, .int .i64 1048576] w fun e w' => e = .returned (.int .i64 (if (1048576 : Int) < (vs.length : Int) + tot vs then -1 else 1048576 - vs.length - tot vs)) ∧ Below w.heap.size w w' := by
  unfold maxLen at hn
  by_cases hbig : (1048576 : Int) < (vs.length : Int)
  · rw [if_pos (by omega)]
    have h2 : (1048576 : Int) - vs.length < 0 := by omega
    go_enter Try.func45, Try.ntmps45
    go_wp2
    go_ret
    exact ⟨rfl, Below.refl _ _⟩
  obtain ⟨r, hr⟩ : ∃ r : Int, r = (if (1048576 : Int) < (vs.length : Int) + (tot vs : Int) then (-1 : Int) else (1048576 : Int) - (vs.length : Int) - (tot vs : Int)) := ⟨_, rfl⟩
  rw [← hr]
  have HR : Hid _ := hr
  have h2 : (0 : Int) ≤ 1048576 - vs.length := by omega
  clear hr
  go_enter Try.func45, Try.ntmps45
  go_wp2
  go_loopw [1, 5] (fun l i wr => ∃ k : Nat, k ≤ vs.length ∧ i = .int .i64 k ∧ l = .int .i64 (1048576 - vs.length - (tot (vs.take k) : Int)) ∧ (0 : Int) ≤ 1048576 - vs.length - (tot (vs.take k) : Int) ∧ Below w.heap.size w wr) (fun _ i _ => vs.length - (intOf i).toNat)
  case atStart => exact ⟨0, Nat.zero_le _, rfl, by simp [tot], by simp [tot]; omega, Below.refl _ _⟩
  case round =>
    obtain ⟨k, hk, rfl, rfl, h0, hB⟩ := hrel
    by_cases hlt : k < vs.length
    · rcases h.below hB with hx | ⟨b, o, rfl, hbb, hx⟩
      · rw [hx] at hlt; simp at hlt
      · obtain ⟨da, dc, c0, c1, c2, c3, c4, c5, c6, hd, hl⟩ := hx k hlt
        have ht := tot_take hlt
        have htl := tot_le vs (k + 1)
        have hz := fun w => szVerL_any vs[k].k vs[k].t vs[k].s vs[k].val vs[k].cl vs[k].ca (1048576 - vs.length - (tot (vs.take k) : Int)) da vs[k].ds.length dc w hl h0 (by omega)
        have HT : Hid (tot (vs.take (k + 1)) = tot (vs.take k) + vs[k].ds.length) := ht
        rw [HT.out] at htl
        clear ht hd hx
        generalize vs[k] = v at *
        generalize tot (vs.take k) = tk at *
        by_cases hs : (1048576 - vs.length - (tk : Int)) < (v.ds.length : Int)
        · have HN : Hid (r = -1) := by show r = -1; rw [HR.out, if_pos (by omega)]
          have hneg : (-1 : Int) < 0 := by omega
          simp only [if_pos hs] at hz
          go_wp2_with fail
          refine (hz _).mono ?_
          rintro e w2 ⟨rfl, hb2⟩
          clear hz
          go_wp2_with fail
          go_ret
          exact ⟨by rw [HN.out]; rfl, hB.trans (hb2.mono hB.size)⟩
        · simp only [if_neg hs] at hz
          have hpos : (0 : Int) ≤ 1048576 - vs.length - (tk : Int) - (v.ds.length : Int) := by omega
          have HE : Hid ((1048576 : Int) - vs.length - (tk : Int) - (v.ds.length : Int) = 1048576 - vs.length - ((tk + v.ds.length : Nat) : Int)) := by show _ = _; omega
          go_wp2_with fail
          refine (hz _).mono ?_
          rintro e w2 ⟨rfl, hb2⟩
          clear hz
          go_wp2_with fail
          go_roundw
          case rel => exact ⟨k + 1, by omega, by go_num, by rw [HT.out, ← HE.out], by rw [HT.out]; omega, hB.trans (hb2.mono hB.size)⟩
          case measure => simp [intOf]; omega
    · have hk2 : k = vs.length := by omega
      subst hk2
      rw [List.take_length] at h0 ⊢
      have HN : Hid (r = 1048576 - vs.length - (tot vs : Int)) := by show r = _; rw [HR.out, if_neg (by omega)]
      go_wp2
      go_ret
      exact ⟨by rw [HN.out]; rfl, hB⟩

theorem take_set_succ (l : List Value) (p : Nat) (v : Value) (h : p < l.length) : (l.set p v).take (p + 1) = l.take p ++ [v] := by
  rw [List.take_succ_eq_append_getElem (by simpa using h), List.getElem_set_self, List.take_set_of_le (Nat.le_refl _)]
theorem take_seven (cs : List Value) (k : Nat) (v0 v1 v2 v3 v4 v5 v6 : Value) (h : k * 7 + 6 < cs.length) : (((((((cs.set (k * 7) v0).set (k * 7 + 1) v1).set (k * 7 + 2) v2).set (k * 7 + 3) v3).set (k * 7 + 4) v4).set (k * 7 + 5) v5).set (k * 7 + 6) v6).take ((k + 1) * 7) = cs.take (k * 7) ++ [v0, v1, v2, v3, v4, v5, v6] := by
  rw [show (k + 1) * 7 = k * 7 + 6 + 1 by omega, take_set_succ _ _ _ (by simp; omega), take_set_succ _ _ _ (by simp; omega), take_set_succ _ _ _ (by simp; omega), take_set_succ _ _ _ (by simp; omega), take_set_succ _ _ _ (by simp; omega), take_set_succ _ _ _ (by simp; omega), take_set_succ _ _ _ (by omega)]
  simp
end Go.Proofs.Ythlmodafadfnfaa
