/- 5 texts in one: XMark, ChainNum, Vers, COk, ICOk. -/
import Derived.Test.YtpjidogilofppaaGreatGAH
import Derived.Test.YtpjidogilofppaaGreatZV
import Derived.Maps.AppendAt
import Derived.Test.YtpjidogilofppaaGreatCmp
/- The exact laws' marks: a row is written with numbers, and held against them. -/
namespace Go.Proofs.YtpjidogilofppaaGreat
open Go.ChangeShapes Go.WideShapes Go.ChangeAt Go.RowKit

/-- Marks: numbers from k on. -/
def markL (k : Int) (n : Nat) : List D := (List.range n).map fun (i : Nat) => ⟨k + 3 * (i : Int), k + 3 * (i : Int) + 1, k + 3 * (i : Int) + 2⟩
theorem markL_len (k : Int) (n : Nat) : (markL k n).length = n := by simp [markL]
theorem markL_succ (k : Int) (n : Nat) : markL k (n + 1) = markL k n ++ [⟨k + 3 * n, k + 3 * n + 1, k + 3 * n + 2⟩] := by simp [markL, List.range_succ]
theorem markL_at (k : Int) (n i : Nat) (h : i < (markL k n).length) : (markL k n)[i] = ⟨k + 3 * i, k + 3 * i + 1, k + 3 * i + 2⟩ := by simp [markL]
theorem grown_refl (w : World) (row : Option Nat) : w.grownBy w row := ⟨rfl, rfl, rfl, Nat.le_refl _, fun _ _ _ => rfl⟩
theorem grown_set {w w' : World} {g j : Nat} (h : w.grownBy w' (some g)) (v : Value) : w.grownBy (w'.setCell ⟨g, j, none⟩ v) (some g) :=
  ⟨h.os, h.tape, h.output, by have := h.size; simpa [World.setCell] using this, fun k hk hne => (Below.heap_setCell _ _ _ k (fun e => hne (by rw [e]))).trans (h.block k hk hne)⟩

set_option maxHeartbeats 2000000 in
theorem mark_some (g n cap base : Nat) (cs0 : List Value) (k : Int) (w : World) (hn : n ≤ 1048576) (hk0 : 0 ≤ k) (hk1 : k ≤ 10000000) (h : w.ownsRow base 116 3 (.slice (some ⟨g, 0, none⟩) n cap) n cs0) :
    Calls Tryz.prog 56 #[.slice (some ⟨g, 0, none⟩) n cap, .int .i64 k] w fun e w' => e = .returned (.int .i64 (k + 3 * n)) ∧ w'.ownsRow base 116 3 (.slice (some ⟨g, 0, none⟩) n cap) n (flat3 (markL k n)) ∧ w.grownBy w' (some g) := by
  go_enter Tryz.func56, Tryz.ntmps56
  go_wp2
  go_loopw [1, 5] (fun m i wr => ∃ (j : Nat) (cs : List Value), j ≤ n ∧ i = .int .i64 j ∧ m = .int .i64 (k + 3 * j) ∧ wr.ownsRow base 116 3 (.slice (some ⟨g, 0, none⟩) n cap) n cs ∧ cs.take (j * 3) = flat3 (markL k j) ∧ w.grownBy wr (some g)) (fun _ i _ => n - (intOf i).toNat)
  case atStart => exact ⟨0, cs0, Nat.zero_le _, rfl, by simp, h, by simp [markL, flat3], grown_refl _ _⟩
  case round =>
    obtain ⟨j, cs, hj, rfl, rfl, ho, hcs, hg⟩ := hrel
    clear h
    have hl2 : cs.length = n * 3 := ho.1
    by_cases hlt : j < n
    · have d0 : wr.cell? ⟨g, j * 3, none⟩ = some (cs[j * 3]'(by omega)) := by rw [ho.cellAt (j * 3) (by omega)]; exact List.getElem?_eq_getElem _
      have d1 : wr.cell? ⟨g, j * 3 + 1, none⟩ = some (cs[j * 3 + 1]'(by omega)) := by rw [ho.cellAt (j * 3 + 1) (by omega)]; exact List.getElem?_eq_getElem _
      have d2 : wr.cell? ⟨g, j * 3 + 2, none⟩ = some (cs[j * 3 + 2]'(by omega)) := by rw [ho.cellAt (j * 3 + 2) (by omega)]; exact List.getElem?_eq_getElem _
      have f0 : wr.frozen? ⟨g, j * 3, none⟩ = false := ho.frozenAt _
      have f1 : wr.frozen? ⟨g, j * 3 + 1, none⟩ = false := ho.frozenAt _
      have f2 : wr.frozen? ⟨g, j * 3 + 2, none⟩ = false := ho.frozenAt _
      generalize cs[j * 3]'(by omega) = u0 at *
      generalize cs[j * 3 + 1]'(by omega) = u1 at *
      generalize cs[j * 3 + 2]'(by omega) = u2 at *
      have ho4 := (((((ho.stored (j * 3) (.int .i64 (k + 3 * j))).1).stored (j * 3 + 1) (.int .i64 (k + 3 * j + 1))).1).stored (j * 3 + 2) (.int .i64 (k + 3 * j + 2))).1
      have HC : Hid ((((cs.set (j * 3) (.int .i64 (k + 3 * j))).set (j * 3 + 1) (.int .i64 (k + 3 * j + 1))).set (j * 3 + 2) (.int .i64 (k + 3 * j + 2))).take ((j + 1) * 3) = flat3 (markL k (j + 1))) := by
        show List.take _ _ = _
        rw [take_three cs j _ _ _ (by omega), hcs, markL_succ, flat3_snoc]
      have hg4 := grown_set (j := j * 3 + 2) (grown_set (j := j * 3 + 1) (grown_set (j := j * 3) hg (.int .i64 (k + 3 * j))) (.int .i64 (k + 3 * j + 1))) (.int .i64 (k + 3 * j + 2))
      have s1 : k + 3 * (j : Int) + 1 + 1 = k + 3 * j + 2 := by omega
      have HS : Hid (k + 3 * (j : Int) + 2 + 1 = k + 3 * ((j + 1 : Nat) : Int)) := by show k + 3 * (j : Int) + 2 + 1 = k + 3 * ((j + 1 : Nat) : Int); omega
      clear ho hcs hg
      go_wp2
      go_roundw
      case rel => exact ⟨j + 1, _, by omega, by go_num, by rw [← HS.out], ho4, HC.out, hg4⟩
      case measure => simp [intOf]; omega
    · have hk2 : j = n := by omega
      subst hk2
      rw [List.take_of_length_le (by omega)] at hcs
      subst hcs
      have HO : Hid _ := ho
      clear ho hl2
      go_wp2
      go_ret
      exact ⟨rfl, HO.out, hg⟩

theorem mark_nil (k : Int) (w : World) : Calls Tryz.prog 56 #[.slice none 0 0, .int .i64 k] w fun e w' => e = .returned (.int .i64 k) ∧ w' = w := by
  go_enter Tryz.func56, Tryz.ntmps56
  go_wp2
  go_loop [1, 5] (fun m i => m = .int .i64 k ∧ i = .int .i64 0) (fun _ _ => 0)
  case atStart => exact ⟨rfl, rfl⟩
  case round =>
    obtain ⟨rfl, rfl⟩ := hrel
    go_wp2
    go_ret
    exact ⟨rfl, rfl⟩

theorem mark_any (v : Value) (n base : Nat) (cs0 : List Value) (k : Int) (w : World) (hn : n ≤ 1048576) (hk0 : 0 ≤ k) (hk1 : k ≤ 10000000) (h : w.ownsRow base 116 3 v n cs0) :
    Calls Tryz.prog 56 #[v, .int .i64 k] w fun e w' => e = .returned (.int .i64 (k + 3 * n)) ∧ w'.ownsRow base 116 3 v n (flat3 (markL k n)) ∧ w.grownBy w' v.ownBlock := by
  rcases h.2 with ⟨rfl, rfl⟩ | ⟨g, cap, cur, rfl, _⟩
  · refine (mark_nil k w).mono ?_
    rintro e w' ⟨rfl, rfl⟩
    exact ⟨by simp, by simpa [markL, flat3] using World.ownsRow_nil _ _ _ _, grown_refl _ _⟩
  · exact mark_some g n cap base cs0 k w hn hk0 hk1 h

set_option maxHeartbeats 2000000 in
theorem held_any (a : Option Addr) (n cap : Nat) (k : Int) (w : World) (hn : n ≤ 1048576) (hk0 : 0 ≤ k) (hk1 : k ≤ 10000000) (h : Deps w a (markL k n)) :
    Calls Tryz.prog 59 #[.slice a n cap, .int .i64 k] w fun e w' => e = .returned (.int .i64 (k + 3 * n)) ∧ w' = w := by
  go_enter Tryz.func59, Tryz.ntmps59
  go_wp2
  go_loop [1, 5] (fun m i => ∃ j : Nat, j ≤ n ∧ i = .int .i64 j ∧ m = .int .i64 (k + 3 * j)) (fun _ i => n - (intOf i).toNat)
  case atStart => exact ⟨0, Nat.zero_le _, rfl, by simp⟩
  case round =>
    obtain ⟨j, hj, rfl, rfl⟩ := hrel
    by_cases hlt : j < n
    · obtain ⟨b, o, rfl, hbb, e0, e1, e2⟩ := h.at (k := j) (by rw [markL_len]; exact hlt)
      rw [markL_at] at e0 e1 e2
      simp only at e0 e1 e2
      have s1 : k + 3 * (j : Int) + 1 + 1 = k + 3 * j + 2 := by omega
      have HS : Hid (k + 3 * (j : Int) + 2 + 1 = k + 3 * ((j + 1 : Nat) : Int)) := by show k + 3 * (j : Int) + 2 + 1 = k + 3 * ((j + 1 : Nat) : Int); omega
      clear h
      go_wp2
      go_round
      case rel => exact ⟨j + 1, by omega, by go_num, by rw [← HS.out]⟩
      case measure => simp [intOf]; omega
    · have hk2 : j = n := by omega
      subst hk2
      clear h
      go_wp2
      go_ret
      exact ⟨rfl, rfl⟩
end Go.Proofs.YtpjidogilofppaaGreat

/- Plain facts on versions and chains. -/
namespace Go.Proofs.YtpjidogilofppaaGreat
open Go.ChangeShapes Go.WideShapes Go.ChangeAt Go.RowKit

/-- A version: its numbers, and its deps. -/
structure V where
  k : Int
  t : Int
  s : Int
  val : Int
  cl : Int
  ca : Int
  ds : List D
theorem V.ext' {a b : V} (h1 : a.k = b.k) (h2 : a.t = b.t) (h3 : a.s = b.s) (h4 : a.val = b.val) (h5 : a.cl = b.cl) (h6 : a.ca = b.ca) (h7 : a.ds = b.ds) : a = b := by cases a; cases b; simp_all

/-- Whether a version is ok. -/
def okV (v : V) : Bool := verB v.k v.t v.s v.val v.cl v.ca v.ds
/-- Whether a version stands ahead of another one. -/
def lessV (a b : V) : Bool := decide (a.k < b.k ∨ a.k = b.k ∧ (a.t < b.t ∨ a.t = b.t ∧ a.s < b.s))
theorem lessV_iff {a b : V} : lessV a b = true ↔ (a.k < b.k ∨ a.k = b.k ∧ (a.t < b.t ∨ a.t = b.t ∧ a.s < b.s)) := by unfold lessV; simp
theorem lessV_false {a b : V} : lessV a b = false ↔ ¬ (a.k < b.k ∨ a.k = b.k ∧ (a.t < b.t ∨ a.t = b.t ∧ a.s < b.s)) := by unfold lessV; simp
theorem lessV_stamp {a b : V} (h : a.k = b.k) : lessV a b = lessB a.t a.s b.t b.s := by
  unfold lessV lessB; rw [decide_eq_decide]; omega
theorem lessV_key {a b : V} (h : a.k < b.k) : lessV a b = true := by rw [lessV_iff]; omega
theorem lessV_keyno {a b : V} (h : b.k < a.k) : lessV a b = false := by rw [lessV_false]; omega
theorem lessV_trans {a b c : V} (h : lessV a b = true) (h' : lessV b c = true) : lessV a c = true := by
  rw [lessV_iff] at *; omega
theorem lessV_irr (a : V) : lessV a a = false := by rw [lessV_false]; omega
theorem lessV_asym {a b : V} (h : lessV a b = true) : lessV b a = false := by
  rw [lessV_iff] at h; rw [lessV_false]; omega
/-- Whether two bear one key and stamp. -/
def sameB (a : V) (k t s : Int) : Bool := decide (a.k = k ∧ a.t = t ∧ a.s = s)
theorem sameB_iff {a : V} {k t s : Int} : sameB a k t s = true ↔ a.k = k ∧ a.t = t ∧ a.s = s := by unfold sameB; simp
theorem lessV_tri {a b : V} (h : lessV a b = false) (h' : lessV b a = false) : sameB a b.k b.t b.s = true := by
  rw [lessV_false] at h h'; rw [sameB_iff]; omega

/-- Versions that ascend. -/
abbrev Asc (vs : List V) : Prop := vs.Pairwise (fun a b => lessV a b = true)
/-- All ok, ascending. -/
def chainP (vs : List V) : Prop := (∀ v ∈ vs, okV v = true) ∧ Asc vs
/-- Whether versions are in order. -/
def chainB (vs : List V) : Bool := decide (vs.length ≤ 80) && vs.all okV && decide (Asc vs)
theorem chainB_iff {vs : List V} : chainB vs = true ↔ vs.length ≤ 80 ∧ chainP vs := by unfold chainB chainP; simp [and_assoc]
theorem chainB_long {vs : List V} (h : 80 < vs.length) : chainB vs = false := by unfold chainB; simp; omega
theorem chainB_no {vs : List V} (h : ¬ chainP vs) : chainB vs = false := by
  cases hb : chainB vs
  · rfl
  · exact absurd (chainB_iff.1 hb).2 h
theorem chainB_yes {vs : List V} (hl : vs.length ≤ 80) (h : chainP vs) : chainB vs = true := chainB_iff.2 ⟨hl, h⟩
theorem chainP_nil : chainP [] := ⟨fun _ h => (by cases h), List.Pairwise.nil⟩
theorem chainB_nil : chainB [] = true := chainB_iff.2 ⟨by simp, chainP_nil⟩
theorem takeV {α : Type} (xs : List α) (k : Nat) (h : k < xs.length) : xs.take (k + 1) = xs.take k ++ [xs[k]] := by rw [List.take_succ_eq_append_getElem h]
theorem chainP_sub {vs us : List V} (h : chainP vs) (hs : us.Sublist vs) : chainP us := ⟨fun v hv => h.1 v (hs.subset hv), h.2.sublist hs⟩
theorem chainP_snoc {vs : List V} {v : V} (h : chainP vs) (hv : okV v = true) (hl : ∀ u ∈ vs, lessV u v = true) : chainP (vs ++ [v]) := by
  refine ⟨fun u hu => ?_, List.pairwise_append.2 ⟨h.2, List.pairwise_singleton _ _, fun a ha b hb => ?_⟩⟩
  · rcases List.mem_append.1 hu with hu | hu
    · exact h.1 u hu
    · simp at hu; subst hu; exact hv
  · simp at hb; subst hb; exact hl a ha
theorem chainP_step {vs : List V} {i : Nat} (hi : i < vs.length) (h : chainP (vs.take i)) (hv : okV vs[i] = true) (hl : i = 0 ∨ ∃ h : i - 1 < vs.length, lessV vs[i - 1] vs[i] = true) : chainP (vs.take (i + 1)) := by
  rw [takeV vs i hi]
  refine chainP_snoc h hv fun u hu => ?_
  rcases hl with rfl | ⟨h1, hl⟩
  · simp at hu
  · obtain ⟨j, hj, rfl⟩ := List.getElem_of_mem hu
    simp at hj
    simp only [List.getElem_take]
    by_cases e : j = i - 1
    · subst e; exact hl
    · refine lessV_trans ?_ hl
      have := List.pairwise_iff_getElem.1 h.2 j (i - 1) (by simp; omega) (by simp; omega) (by omega)
      simpa using this
theorem chainP_bad {vs : List V} {i : Nat} (hi : i < vs.length) (hv : okV vs[i] = false) : ¬ chainP vs := fun h => by
  have := h.1 vs[i] (List.getElem_mem hi); rw [hv] at this; cases this
theorem chainP_order {vs : List V} {i : Nat} (hi : i < vs.length) (h0 : 0 < i) (hl : lessV (vs[i - 1]'(by omega)) vs[i] = false) : ¬ chainP vs := fun h => by
  have := List.pairwise_iff_getElem.1 h.2 (i - 1) i (by omega) hi (by omega); rw [hl] at this; cases this

/-- The version of a key and stamp. -/
def cAt (vs : List V) (k t s : Int) : Option V := vs.find? fun v => sameB v k t s
/-- The newest one of a key. -/
def cTop (vs : List V) (k : Int) : Option V := vs.reverse.find? fun v => decide (v.k = k)
/-- Those of a key. -/
def grp (vs : List V) (k : Int) : List V := vs.filter fun v => decide (v.k = k)
/-- One more in its place. -/
def insV (v : V) : List V → List V
  | [] => [v]
  | x :: xs => if lessV v x = true then v :: x :: xs else x :: insV v xs
/-- Whether one more is taken. -/
def putB (vs : List V) (v : V) : Bool := okV v && (cAt vs v.k v.t v.s).isNone && decide (vs.length < 80)
/-- With one more, if it is taken. -/
def cPut (vs : List V) (v : V) : List V := if chainB vs = true then (if putB vs v = true then insV v vs else vs) else []
def cDid (vs : List V) (v : V) : Bool := chainB vs && putB vs v
/-- Whether all deps are there. -/
def cHas (vs : List V) (ds : List D) : Bool := chainB vs && depsOk ds && ds.all fun d => (cAt vs d.k d.t d.s).isSome

theorem cAt_mem {vs : List V} {k t s : Int} {v : V} (h : cAt vs k t s = some v) : v ∈ vs ∧ v.k = k ∧ v.t = t ∧ v.s = s :=
  ⟨List.mem_of_find?_eq_some h, sameB_iff.1 (List.find?_some (p := fun v => sameB v k t s) h)⟩
theorem cAt_none {vs : List V} {k t s : Int} (h : cAt vs k t s = none) : ∀ v ∈ vs, sameB v k t s = false := fun v hv => by
  have := List.find?_eq_none.1 h v hv; simpa using this
/-- In a chain each is found by its key and stamp. -/
theorem cAt_self {vs : List V} (h : Asc vs) : ∀ {v : V}, v ∈ vs → cAt vs v.k v.t v.s = some v := by
  induction vs with
  | nil => intro v hv; cases hv
  | cons x xs ih =>
    intro v hv
    have hp := List.pairwise_cons.1 h
    unfold cAt
    rw [List.find?_cons]
    rcases List.mem_cons.1 hv with rfl | hv
    · rw [sameB_iff.2 ⟨rfl, rfl, rfl⟩]
    · have hl := hp.1 v hv
      have : sameB x v.k v.t v.s = false := by
        rw [lessV_iff] at hl; unfold sameB; simp; omega
      rw [this]
      exact ih hp.2 hv
theorem cAt_some_iff {vs : List V} (h : Asc vs) {k t s : Int} {v : V} : cAt vs k t s = some v ↔ v ∈ vs ∧ v.k = k ∧ v.t = t ∧ v.s = s := by
  refine ⟨cAt_mem, ?_⟩
  rintro ⟨hv, rfl, rfl, rfl⟩
  exact cAt_self h hv

theorem insV_perm (v : V) (vs : List V) : (insV v vs).Perm (v :: vs) := by
  induction vs with
  | nil => exact .refl _
  | cons x xs ih =>
    unfold insV
    split
    · exact .refl _
    · exact (List.Perm.cons x ih).trans (List.Perm.swap v x xs)
theorem insV_mem {v u : V} {vs : List V} : u ∈ insV v vs ↔ u = v ∨ u ∈ vs := by rw [(insV_perm v vs).mem_iff, List.mem_cons]
theorem insV_len (v : V) (vs : List V) : (insV v vs).length = vs.length + 1 := by rw [(insV_perm v vs).length_eq, List.length_cons]
theorem insV_asc {v : V} {vs : List V} (h : Asc vs) (hn : cAt vs v.k v.t v.s = none) : Asc (insV v vs) := by
  induction vs with
  | nil => exact List.pairwise_singleton _ _
  | cons x xs ih =>
    have hp := List.pairwise_cons.1 h
    unfold insV
    split
    · rename_i hl
      exact List.pairwise_cons.2 ⟨fun y hy => by
        rcases List.mem_cons.1 hy with rfl | hy
        · exact hl
        · exact lessV_trans hl (hp.1 y hy), h⟩
    · rename_i hl
      have hl : lessV v x = false := by simpa using hl
      have hx := cAt_none hn x (by simp)
      have hxv : lessV x v = true := by
        cases hh : lessV x v
        · have := lessV_tri hh hl; rw [hx] at this; cases this
        · rfl
      refine List.pairwise_cons.2 ⟨fun y hy => ?_, ih hp.2 ?_⟩
      · rcases insV_mem.1 hy with rfl | hy
        · exact hxv
        · exact hp.1 y hy
      · unfold cAt at hn ⊢
        rw [List.find?_eq_none] at hn ⊢
        exact fun y hy => hn y (List.mem_cons_of_mem _ hy)
theorem asc_unique {us vs : List V} (hu : Asc us) (hv : Asc vs) (h : us.Perm vs) : us = vs :=
  h.eq_of_pairwise (fun a b _ _ h h' => by have := lessV_asym h; rw [h'] at this; cases this) hu hv
theorem filter_insV (p : V → Bool) {v : V} {vs : List V} (h : Asc vs) : (insV v vs).filter p = if p v = true then insV v (vs.filter p) else vs.filter p := by
  induction vs with
  | nil => by_cases hp : p v = true <;> simp [insV, hp]
  | cons x xs ih =>
    have hp := List.pairwise_cons.1 h
    by_cases hl : lessV v x = true
    · have e : insV v (x :: xs) = v :: x :: xs := by unfold insV; rw [if_pos hl]
      rw [e]
      by_cases hv : p v = true
      · rw [if_pos hv, List.filter_cons, if_pos hv]
        rcases hf : (x :: xs).filter p with _ | ⟨y, ys⟩
        · rfl
        · have hy : y ∈ x :: xs := (List.mem_filter.1 (by rw [hf]; simp : y ∈ (x :: xs).filter p)).1
          have hly : lessV v y = true := by
            rcases List.mem_cons.1 hy with rfl | hy
            · exact hl
            · exact lessV_trans hl (hp.1 y hy)
          unfold insV
          rw [if_pos hly]
      · rw [if_neg hv, List.filter_cons, if_neg hv]
    · have e : insV v (x :: xs) = x :: insV v xs := by rw [insV, if_neg hl]
      rw [e, List.filter_cons, ih hp.2]
      by_cases hx : p x = true
      · rw [if_pos hx]
        by_cases hv : p v = true
        · rw [if_pos hv, if_pos hv, List.filter_cons, if_pos hx, insV, if_neg hl]
        · rw [if_neg hv, if_neg hv, List.filter_cons, if_pos hx]
      · rw [if_neg hx]
        by_cases hv : p v = true
        · rw [if_pos hv, if_pos hv, List.filter_cons, if_neg hx]
        · rw [if_neg hv, if_neg hv, List.filter_cons, if_neg hx]

/-- The place of a stamp among versions of one key. -/
def plc : List V → Int → Int → Nat
  | [], _, _ => 0
  | x :: xs, t, s => if lessB x.t x.s t s = true then plc xs t s + 1 else 0
theorem plc_le (vs : List V) (t s : Int) : plc vs t s ≤ vs.length := by
  induction vs with
  | nil => exact Nat.le_refl _
  | cons x xs ih => unfold plc; split <;> simp <;> omega
theorem plc_eq (vs : List V) (t s : Int) : ∀ i, i ≤ vs.length → (∀ j, (hj : j < vs.length) → j < i → lessB vs[j].t vs[j].s t s = true) → (∀ h : i < vs.length, lessB vs[i].t vs[i].s t s = false) → plc vs t s = i := by
  induction vs with
  | nil => intro i hi _ _; simp at hi; subst hi; rfl
  | cons x xs ih =>
    intro i hi h1 h2
    cases i with
    | zero =>
      have := h2 (by simp)
      simp only [List.getElem_cons_zero] at this
      unfold plc; rw [this]; rfl
    | succ i =>
      have := h1 0 (by simp) (by omega)
      simp only [List.getElem_cons_zero] at this
      unfold plc; rw [if_pos this, ih i (by simpa using hi) (fun j hj hji => h1 (j + 1) (by simpa using hj) (by omega)) (fun h => h2 (by simpa using h))]
theorem insV_plc {v : V} {g : List V} (hk : ∀ x ∈ g, x.k = v.k) (hn : ∀ x ∈ g, sameB x v.k v.t v.s = false) : insV v g = g.take (plc g v.t v.s) ++ v :: g.drop (plc g v.t v.s) := by
  induction g with
  | nil => rfl
  | cons x xs ih =>
    have hx := hk x (by simp)
    have e1 : lessV v x = lessB v.t v.s x.t x.s := lessV_stamp hx.symm
    have hs := hn x (by simp)
    unfold sameB at hs
    by_cases hl : lessB x.t x.s v.t v.s = true
    · have hl2 : ¬ lessV v x = true := by
        rw [e1]; unfold lessB at hl ⊢; simp at hl ⊢; omega
      rw [insV, if_neg hl2, plc, if_pos hl, ih (fun y hy => hk y (by simp [hy])) (fun y hy => hn y (by simp [hy]))]
      simp
    · have hl2 : lessV v x = true := by
        rw [e1]; unfold lessB at hl ⊢; simp at hl hs ⊢; omega
      rw [insV, if_pos hl2, plc, if_neg hl]
      simp

theorem flatMap_same {α β : Type} {f g : α → List β} {l : List α} (h : ∀ x ∈ l, f x = g x) : l.flatMap f = l.flatMap g := by
  rw [List.flatMap, List.flatMap, List.map_congr_left h]
/-- All versions of a key, one key behind the other, are all. -/
theorem split_first {k : Int} {vs : List V} (h : vs.Pairwise (fun a b => a.k ≤ b.k)) (hk : ∀ v ∈ vs, k ≤ v.k) : vs = grp vs k ++ vs.filter (fun v => decide (v.k ≠ k)) := by
  induction vs with
  | nil => rfl
  | cons x xs ih =>
    have hp := List.pairwise_cons.1 h
    by_cases hx : x.k = k
    · have e1 : grp (x :: xs) k = x :: grp xs k := by unfold grp; rw [List.filter_cons, if_pos (by simpa using hx)]
      have e2 : (x :: xs).filter (fun v => decide (v.k ≠ k)) = xs.filter (fun v => decide (v.k ≠ k)) := by rw [List.filter_cons, if_neg (by simpa using hx)]
      rw [e1, e2, List.cons_append, ← ih hp.2 (fun v hv => hk v (by simp [hv]))]
    · have hxk := hk x (by simp)
      have e1 : grp (x :: xs) k = [] := by
        unfold grp; rw [List.filter_eq_nil_iff]
        intro v hv
        rcases List.mem_cons.1 hv with rfl | hv
        · simpa using hx
        · have := hp.1 v hv; simp; omega
      have e2 : (x :: xs).filter (fun v => decide (v.k ≠ k)) = x :: xs := by
        rw [List.filter_eq_self]
        intro v hv
        rcases List.mem_cons.1 hv with rfl | hv
        · simpa using hx
        · have := hp.1 v hv; simp; omega
      rw [e1, e2]; rfl
theorem told_keys (p : Int → Bool) : ∀ (ks : List Int) (vs : List V), vs.Pairwise (fun a b => a.k ≤ b.k) → ks.Pairwise (· < ·) → (∀ k, k ∈ ks ↔ grp vs k ≠ []) → (ks.flatMap fun k => if p k = true then grp vs k else []) = vs.filter fun v => p v.k := by
  intro ks
  induction ks with
  | nil =>
    intro vs _ _ hm
    rcases vs with _ | ⟨x, xs⟩
    · rfl
    · have := (hm x.k).2 (by unfold grp; simp)
      cases this
  | cons k ks ih =>
    intro vs hv hk hm
    have hp := List.pairwise_cons.1 hk
    have hall : ∀ v ∈ vs, v.k ∈ k :: ks := fun v hv => (hm v.k).2 (by
      intro h
      have := List.filter_eq_nil_iff.1 h v hv
      simp at this)
    have hge : ∀ v ∈ vs, k ≤ v.k := fun v hv => by
      rcases List.mem_cons.1 (hall v hv) with h | h
      · omega
      · have := hp.1 _ h; omega
    have hs := split_first hv hge
    have hv2 : (vs.filter (fun v => decide (v.k ≠ k))).Pairwise (fun a b => a.k ≤ b.k) := hv.sublist List.filter_sublist
    have hg2 : ∀ k', k' ≠ k → grp (vs.filter (fun v => decide (v.k ≠ k))) k' = grp vs k' := fun k' hk' => by
      unfold grp; rw [List.filter_filter]
      refine List.filter_congr fun v _ => ?_
      by_cases e : v.k = k'
      · simp [e, hk']
      · simp [e]
    have hm2 : ∀ k', k' ∈ ks ↔ grp (vs.filter (fun v => decide (v.k ≠ k))) k' ≠ [] := fun k' => by
      by_cases e : k' = k
      · subst e
        have h1 : k' ∉ ks := fun h => by have := hp.1 k' h; omega
        have h2 : grp (vs.filter (fun v => decide (v.k ≠ k'))) k' = [] := by
          unfold grp; rw [List.filter_eq_nil_iff]; intro v hv; have := (List.mem_filter.1 hv).2; simpa using this
        exact ⟨fun h => absurd h h1, fun h => absurd h2 h⟩
      · rw [hg2 k' e, ← hm k']; simp [e]
    have ih2 := ih _ hv2 hp.2 hm2
    rw [List.flatMap_cons]
    have e3 : (ks.flatMap fun k' => if p k' = true then grp vs k' else []) = ks.flatMap fun k' => if p k' = true then grp (vs.filter (fun v => decide (v.k ≠ k))) k' else [] := by
      refine flatMap_same fun k' hk' => ?_
      have : k' ≠ k := by have := hp.1 k' hk'; omega
      rw [hg2 k' this]
    rw [e3, ih2]
    conv => rhs; rw [hs, List.filter_append]
    congr 1
    by_cases hpk : p k = true
    · rw [if_pos hpk]
      symm
      rw [List.filter_eq_self]
      intro v hv
      have := (List.mem_filter.1 hv).2
      simp at this
      rw [this]; exact hpk
    · rw [if_neg hpk]
      symm
      rw [List.filter_eq_nil_iff]
      intro v hv
      have := (List.mem_filter.1 hv).2
      simp at this
      rw [this]; exact hpk
theorem asc_keys {vs : List V} (h : Asc vs) : vs.Pairwise (fun a b => a.k ≤ b.k) := h.imp fun h => by rw [lessV_iff] at h; omega
theorem top_grp (vs : List V) (k : Int) : cTop vs k = (grp vs k).getLast? := by
  unfold cTop grp
  rw [← List.head?_filter, List.filter_reverse, List.head?_reverse]
theorem at_grp (vs : List V) (k t s : Int) : cAt vs k t s = (grp vs k).find? fun v => decide (v.t = t ∧ v.s = s) := by
  unfold cAt grp
  rw [List.find?_filter]
  congr 1
  funext v
  unfold sameB
  by_cases h : v.k = k <;> simp [h]
theorem grp_asc {vs : List V} (h : Asc vs) (k : Int) : (grp vs k).Pairwise (fun a b => lessB a.t a.s b.t b.s = true) := by
  have h1 : (grp vs k).Pairwise (fun a b => lessV a b = true) := h.sublist List.filter_sublist
  refine (List.pairwise_iff_forall_sublist.2 fun {a b} hab => ?_)
  have h2 := List.pairwise_iff_forall_sublist.1 h1 hab
  have ha : a ∈ grp vs k := hab.subset (by simp)
  have hb : b ∈ grp vs k := hab.subset (by simp)
  have ka := (List.mem_filter.1 ha).2
  have kb := (List.mem_filter.1 hb).2
  simp at ka kb
  rw [← lessV_stamp (by omega)]; exact h2
theorem grp_insV {vs : List V} {v : V} (h : Asc vs) (hn : cAt vs v.k v.t v.s = none) (k : Int) : grp (insV v vs) k = if k = v.k then (grp vs k).take (plc (grp vs k) v.t v.s) ++ v :: (grp vs k).drop (plc (grp vs k) v.t v.s) else grp vs k := by
  unfold grp
  rw [filter_insV _ h]
  by_cases e : k = v.k
  · subst e
    rw [if_pos (by simp), if_pos rfl]
    refine insV_plc (fun x hx => by have := (List.mem_filter.1 hx).2; simpa using this) (fun x hx => cAt_none hn x (List.mem_filter.1 hx).1)
  · rw [if_neg (by simpa using fun h => e h.symm), if_neg e]
end Go.Proofs.YtpjidogilofppaaGreat

/- Versions in memory. -/
namespace Go.Proofs.YtpjidogilofppaaGreat
open Go.ChangeShapes Go.WideShapes Go.ChangeAt Go.RowKit

/-- A version lies at a place: its numbers, and the slice of its deps. -/
structure VAt (w : World) (b p : Nat) (v : V) (da : Option Addr) (dc : Nat) : Prop where
  c0 : w.cell? ⟨b, p, none⟩ = some (.int .i64 v.k)
  c1 : w.cell? ⟨b, p + 1, none⟩ = some (.int .i64 v.t)
  c2 : w.cell? ⟨b, p + 2, none⟩ = some (.int .i64 v.s)
  c3 : w.cell? ⟨b, p + 3, none⟩ = some (.int .i64 v.val)
  c4 : w.cell? ⟨b, p + 4, none⟩ = some (.int .i64 v.cl)
  c5 : w.cell? ⟨b, p + 5, none⟩ = some (.int .i64 v.ca)
  c6 : w.cell? ⟨b, p + 6, none⟩ = some (.slice da v.ds.length dc)
  ds : Deps w da v.ds
  len : v.ds.length ≤ 1099511627776
theorem VAt.below {w w' : World} {b p : Nat} {v : V} {da : Option Addr} {dc : Nat} (h : VAt w b p v da dc) (k : Below w.heap.size w w') : VAt w' b p v da dc := by
  have hb : b < w.heap.size := World.block_lt_of_cell? _ _ h.c0
  exact ⟨(k.cell (p := ⟨b, _, none⟩) hb).trans h.c0, (k.cell (p := ⟨b, _, none⟩) hb).trans h.c1, (k.cell (p := ⟨b, _, none⟩) hb).trans h.c2, (k.cell (p := ⟨b, _, none⟩) hb).trans h.c3, (k.cell (p := ⟨b, _, none⟩) hb).trans h.c4, (k.cell (p := ⟨b, _, none⟩) hb).trans h.c5, (k.cell (p := ⟨b, _, none⟩) hb).trans h.c6, h.ds.below k, h.len⟩
/-- A list of versions that lies in memory. -/
def Vers (w : World) (a : Option Addr) (vs : List V) : Prop :=
  vs = [] ∨ ∃ b o, a = some ⟨b, o, none⟩ ∧ b < w.heap.size ∧ ∀ i, (h : i < vs.length) → ∃ da dc, VAt w b (o + i * 7) vs[i] da dc
theorem Vers.below {w w' : World} {a : Option Addr} {vs : List V} (h : Vers w a vs) (k : Below w.heap.size w w') : Vers w' a vs := by
  rcases h with h | ⟨b, o, ha, hb, h⟩
  · exact .inl h
  · refine .inr ⟨b, o, ha, Nat.lt_of_lt_of_le hb k.size, fun i hi => ?_⟩
    obtain ⟨da, dc, h⟩ := h i hi
    exact ⟨da, dc, h.below k⟩
theorem Vers.at {w : World} {a : Option Addr} {vs : List V} (h : Vers w a vs) {k : Nat} (hk : k < vs.length) : ∃ b o da dc, a = some ⟨b, o, none⟩ ∧ b < w.heap.size ∧ VAt w b (o + k * 7) vs[k] da dc := by
  rcases h with h | ⟨b, o, ha, hb, h⟩
  · rw [h] at hk; simp at hk
  · obtain ⟨da, dc, h⟩ := h k hk
    exact ⟨b, o, da, dc, ha, hb, h⟩

/-- A version with the slice that its deps lie in. -/
structure XV where
  v : V
  p : Value
/-- Versions as cells, one behind the other. -/
def flat7 (xs : List XV) : List Value := xs.flatMap fun x => [.int .i64 x.v.k, .int .i64 x.v.t, .int .i64 x.v.s, .int .i64 x.v.val, .int .i64 x.v.cl, .int .i64 x.v.ca, x.p]
theorem flat7_nil : flat7 [] = [] := rfl
theorem flat7_cons (x : XV) (xs : List XV) : flat7 (x :: xs) = .int .i64 x.v.k :: .int .i64 x.v.t :: .int .i64 x.v.s :: .int .i64 x.v.val :: .int .i64 x.v.cl :: .int .i64 x.v.ca :: x.p :: flat7 xs := rfl
theorem flat7_append (xs ys : List XV) : flat7 (xs ++ ys) = flat7 xs ++ flat7 ys := by simp [flat7]
theorem flat7_snoc (xs : List XV) (x : XV) : flat7 (xs ++ [x]) = flat7 xs ++ [.int .i64 x.v.k, .int .i64 x.v.t, .int .i64 x.v.s, .int .i64 x.v.val, .int .i64 x.v.cl, .int .i64 x.v.ca, x.p] := by rw [flat7_append]; rfl
theorem flat7_len (xs : List XV) : (flat7 xs).length = xs.length * 7 := by
  induction xs with
  | nil => rfl
  | cons x xs ih => rw [flat7_cons]; simp only [List.length_cons, ih]; omega
theorem flat7_at (xs : List XV) : ∀ k, (hk : k < xs.length) → (flat7 xs)[k * 7]? = some (.int .i64 xs[k].v.k) ∧ (flat7 xs)[k * 7 + 1]? = some (.int .i64 xs[k].v.t) ∧ (flat7 xs)[k * 7 + 2]? = some (.int .i64 xs[k].v.s) ∧ (flat7 xs)[k * 7 + 3]? = some (.int .i64 xs[k].v.val) ∧ (flat7 xs)[k * 7 + 4]? = some (.int .i64 xs[k].v.cl) ∧ (flat7 xs)[k * 7 + 5]? = some (.int .i64 xs[k].v.ca) ∧ (flat7 xs)[k * 7 + 6]? = some xs[k].p := by
  induction xs with
  | nil => intro k hk; cases hk
  | cons x xs ih =>
    intro k hk
    rw [flat7_cons]
    cases k with
    | zero => simp
    | succ k =>
      have := ih k (by simpa using hk)
      rw [show (k + 1) * 7 = k * 7 + 1 + 1 + 1 + 1 + 1 + 1 + 1 by omega]
      simpa using this
theorem flat7_take (xs : List XV) (k : Nat) : (flat7 xs).take (k * 7) = flat7 (xs.take k) := by
  induction xs generalizing k with
  | nil => simp [flat7]
  | cons x xs ih =>
    cases k with
    | zero => simp [flat7]
    | succ k => rw [show (k + 1) * 7 = k * 7 + 1 + 1 + 1 + 1 + 1 + 1 + 1 by omega, flat7_cons]; simp [ih, flat7_cons]
theorem flat7_drop (xs : List XV) (k : Nat) : (flat7 xs).drop (k * 7) = flat7 (xs.drop k) := by
  induction xs generalizing k with
  | nil => simp [flat7]
  | cons x xs ih =>
    cases k with
    | zero => simp
    | succ k => rw [show (k + 1) * 7 = k * 7 + 1 + 1 + 1 + 1 + 1 + 1 + 1 by omega, flat7_cons]; simp [ih]
/-- The deps of a version lie where its slice says. -/
def GoodX (w : World) (x : XV) : Prop := ∃ da dc, x.p = .slice da x.v.ds.length dc ∧ Deps w da x.v.ds ∧ x.v.ds.length ≤ 1099511627776
theorem GoodX.below {w w' : World} {x : XV} (h : GoodX w x) (k : Below w.heap.size w w') : GoodX w' x := by
  obtain ⟨da, dc, h1, h2, h3⟩ := h
  exact ⟨da, dc, h1, h2.below k, h3⟩
theorem GoodX.one {w : World} {x : XV} (h : GoodX w x) : x.p.oneCell' = true := by
  obtain ⟨da, dc, h1, _⟩ := h
  rw [h1]; rfl
theorem flat7_one {xs : List XV} (h : ∀ x ∈ xs, x.p.oneCell' = true) : ∀ u ∈ flat7 xs, u.oneCell' = true := by
  intro u hu
  simp only [flat7, List.mem_flatMap] at hu
  obtain ⟨x, hx, hu⟩ := hu
  simp only [List.mem_cons, List.not_mem_nil, or_false] at hu
  rcases hu with rfl | rfl | rfl | rfl | rfl | rfl | rfl
  all_goals first | rfl | exact h x hx
theorem addr_add (b o j : Nat) : (Addr.mk b o none).add j = ⟨b, o + j, none⟩ := by by_cases h : j = 0 <;> simp [Addr.add, h]
/-- Cells that hold versions, with their slices: versions in memory. -/
theorem vers_of_cells {w : World} {b o : Nat} {xs : List XV} (hb : b < w.heap.size) (h : ∀ (j : Nat) (u : Value), (flat7 xs)[j]? = some u → w.cell? ⟨b, o + j, none⟩ = some u) (g : ∀ x ∈ xs, GoodX w x) : Vers w (some ⟨b, o, none⟩) (xs.map XV.v) := by
  refine .inr ⟨b, o, rfl, hb, fun i hi => ?_⟩
  simp only [List.length_map] at hi
  obtain ⟨f0, f1, f2, f3, f4, f5, f6⟩ := flat7_at xs i hi
  obtain ⟨da, dc, h1, h2, h3⟩ := g xs[i] (List.getElem_mem hi)
  rw [h1] at f6
  simp only [List.getElem_map]
  exact ⟨da, dc, h _ _ f0, h _ _ f1, h _ _ f2, h _ _ f3, h _ _ f4, h _ _ f5, h _ _ f6, h2, h3⟩
/-- A row of the call's own that holds versions. -/
theorem vers_of_row {w : World} {base : Nat} {e : TypeId} {v : Value} {xs : List XV} (h : w.ownsRow base e 7 v xs.length (flat7 xs)) (g : ∀ x ∈ xs, GoodX w x) : ∃ a cap, v = .slice a xs.length cap ∧ Vers w a (xs.map XV.v) ∧ (∀ x, a = some x → base ≤ x.block) := by
  rcases h.2 with ⟨rfl, hn⟩ | ⟨b, cap, cur, rfl, hb, hg, hr⟩
  · refine ⟨none, 0, by rw [hn], .inl ?_, fun x hx => (by cases hx)⟩
    rw [List.length_eq_zero_iff.1 hn]; rfl
  · refine ⟨_, cap, rfl, vers_of_cells (Array.getElem?_eq_some_iff.1 hg).1 (fun j u hj => ?_) g, fun x hx => by cases hx; exact hb⟩
    have := h.cells (g := b) rfl j u hj
    rwa [addr_add] at this
/-- Versions in memory, told with their slices. -/
theorem Vers.told {w : World} {a : Option Addr} {vs : List V} (h : Vers w a vs) : ∃ xs : List XV, xs.map XV.v = vs ∧ (∀ x ∈ xs, GoodX w x) ∧ (vs = [] ∨ ∃ b o, a = some ⟨b, o, none⟩ ∧ b < w.heap.size ∧ ∀ (j : Nat) (u : Value), (flat7 xs)[j]? = some u → w.cell? ⟨b, o + j, none⟩ = some u) := by
  rcases h with rfl | ⟨b, o, ha, hb, h⟩
  · exact ⟨[], rfl, fun _ h => (by cases h), .inl rfl⟩
  · suffices H : ∀ (us : List V) (q : Nat), (∀ i, (hi : i < us.length) → ∃ da dc, VAt w b (q + i * 7) us[i] da dc) → ∃ xs : List XV, xs.map XV.v = us ∧ (∀ x ∈ xs, GoodX w x) ∧ ∀ (j : Nat) (u : Value), (flat7 xs)[j]? = some u → w.cell? ⟨b, q + j, none⟩ = some u by
      obtain ⟨xs, h1, h2, h3⟩ := H vs o h
      exact ⟨xs, h1, h2, .inr ⟨b, o, ha, hb, h3⟩⟩
    intro us
    induction us with
    | nil => intro q _; exact ⟨[], rfl, fun _ h => (by cases h), fun j u hu => by simp [flat7] at hu⟩
    | cons y ys ih =>
      intro q hq
      obtain ⟨da, dc, hy⟩ := hq 0 (by simp)
      simp only [Nat.zero_mul, Nat.add_zero, List.getElem_cons_zero] at hy
      obtain ⟨xs, h1, h2, h3⟩ := ih (q + 7) fun i hi => by
        have := hq (i + 1) (by simpa using hi)
        rw [show q + (i + 1) * 7 = q + 7 + i * 7 by omega] at this
        exact this
      refine ⟨⟨y, .slice da y.ds.length dc⟩ :: xs, by simp [h1], fun x hx => ?_, fun j u hj => ?_⟩
      · rcases List.mem_cons.1 hx with rfl | hx
        · exact ⟨da, dc, rfl, hy.ds, hy.len⟩
        · exact h2 x hx
      · rw [flat7_cons] at hj
        match j with
        | 0 => simp at hj; subst hj; exact hy.c0
        | 1 => simp at hj; subst hj; exact hy.c1
        | 2 => simp at hj; subst hj; exact hy.c2
        | 3 => simp at hj; subst hj; exact hy.c3
        | 4 => simp at hj; subst hj; exact hy.c4
        | 5 => simp at hj; subst hj; exact hy.c5
        | 6 => simp at hj; subst hj; exact hy.c6
        | j + 7 =>
          have := h3 j u (by simpa using hj)
          rwa [show q + 7 + j = q + (j + 7) by omega] at this

/-- Two slices of the call's own that lie in no block together. -/
def ApartV (a b : Value) : Prop := ∀ j, a.ownBlock = some j → b.ownBlock ≠ some j
/-- Versions of the call's own: their row, and the rows of their deps, all apart. -/
structure OwnV (w : World) (base : Nat) (v : Value) (ys : List XV) : Prop where
  row : w.ownsRow base 107 7 v ys.length (flat7 ys)
  deps : ∀ y ∈ ys, w.ownsRow base 116 3 y.p y.v.ds.length (flat3 y.v.ds) ∧ y.v.ds.length ≤ 1099511627776
  apart : ys.Pairwise fun a b => ApartV a.p b.p
theorem good_of_row {w : World} {base : Nat} {x : XV} (h : w.ownsRow base 116 3 x.p x.v.ds.length (flat3 x.v.ds)) (hl : x.v.ds.length ≤ 1099511627776) : GoodX w x := by
  obtain ⟨a, cap, h1, h2, _⟩ := deps_of_row h
  exact ⟨a, cap, h1, h2, hl⟩
theorem OwnV.good {w : World} {base : Nat} {v : Value} {ys : List XV} (h : OwnV w base v ys) : ∀ y ∈ ys, GoodX w y := fun y hy => good_of_row (h.deps y hy).1 (h.deps y hy).2
theorem OwnV.vers {w : World} {base : Nat} {v : Value} {ys : List XV} (h : OwnV w base v ys) : ∃ a cap, v = .slice a ys.length cap ∧ Vers w a (ys.map XV.v) ∧ (∀ x, a = some x → base ≤ x.block) := vers_of_row h.row h.good
theorem OwnV.below {w w' : World} {base : Nat} {v : Value} {ys : List XV} (h : OwnV w base v ys) {m : Nat} (k : Below m w w') (hm : w.heap.size ≤ m) : OwnV w' base v ys :=
  ⟨row_below h.row k hm, fun y hy => ⟨row_below (h.deps y hy).1 k hm, (h.deps y hy).2⟩, h.apart⟩
theorem OwnV.mono {w : World} {base base' : Nat} {v : Value} {ys : List XV} (h : OwnV w base v ys) (hb : base' ≤ base) : OwnV w base' v ys :=
  ⟨row_mono h.row hb, fun y hy => ⟨row_mono (h.deps y hy).1 hb, (h.deps y hy).2⟩, h.apart⟩
theorem OwnV.nil (w : World) (base : Nat) : OwnV w base (.slice none 0 0) [] := ⟨World.ownsRow_nil _ _ _ _, fun _ h => (by cases h), .nil⟩
theorem OwnV.alloc {w : World} {base : Nat} {v : Value} {ys : List XV} (h : OwnV w base v ys) (o : Obj) : OwnV (w.alloc o) base v ys := h.below ((Below.refl _ w).alloc (Nat.le_refl _) o) (Nat.le_refl _)
/-- A row of versions and one of deps lie in two blocks. -/
theorem row_other {w : World} {b1 b2 n1 n2 : Nat} {v p : Value} {s1 s2 : Nat} {xs ys : List Value} (h : w.ownsRow b1 107 s1 v n1 xs) (k : w.ownsRow b2 116 s2 p n2 ys) : p.ownBlock = none ∨ p.ownBlock ≠ v.ownBlock := by
  rcases k.2 with ⟨rfl, _⟩ | ⟨g, cap, cur, rfl, _, hg, _⟩
  · exact .inl rfl
  · refine .inr fun e => ?_
    rcases h.2 with ⟨rfl, _⟩ | ⟨g', cap', cur', rfl, _, hg', _⟩
    · simp [Value.ownBlock] at e
    · simp [Value.ownBlock] at e
      subst e
      rw [hg] at hg'
      simp at hg'
/-- One more is appended, whose deps are new. -/
theorem OwnV.snoc {w w' : World} {base : Nat} {v v' : Value} {ys : List XV} {y : XV} (h : OwnV w base v ys) (hg : w.grownBy w' v.ownBlock) (hrow : w'.ownsRow base 107 7 v' (ys.length + 1) (flat7 ys ++ flat7 [y])) (hd : w.ownsRow base 116 3 y.p y.v.ds.length (flat3 y.v.ds)) (hl : y.v.ds.length ≤ 1099511627776) (ha : ∀ x ∈ ys, ApartV x.p y.p) : OwnV w' base v' (ys ++ [y]) := by
  refine ⟨by rw [flat7_append, List.length_append]; exact hrow, fun x hx => ?_, List.pairwise_append.2 ⟨h.apart, List.pairwise_singleton _ _, fun a ha' b hb => by simp at hb; subst hb; exact ha a ha'⟩⟩
  rcases List.mem_append.1 hx with hx | hx
  · exact ⟨(h.deps x hx).1.kept hg (row_other h.row (h.deps x hx).1), (h.deps x hx).2⟩
  · simp at hx; subst hx
    exact ⟨hd.kept hg (row_other h.row hd), hl⟩
/-- Others are appended, whose deps are new. -/
theorem OwnV.append {w w' : World} {base : Nat} {v v' : Value} {ys zs : List XV} (h : OwnV w base v ys) (hg : w.grownBy w' v.ownBlock) (hrow : w'.ownsRow base 107 7 v' (ys.length + zs.length) (flat7 ys ++ flat7 zs)) (hd : ∀ y ∈ zs, w.ownsRow base 116 3 y.p y.v.ds.length (flat3 y.v.ds) ∧ y.v.ds.length ≤ 1099511627776) (hz : zs.Pairwise fun a b => ApartV a.p b.p) (ha : ∀ x ∈ ys, ∀ y ∈ zs, ApartV x.p y.p) : OwnV w' base v' (ys ++ zs) := by
  refine ⟨by rw [flat7_append, List.length_append]; exact hrow, fun x hx => ?_, List.pairwise_append.2 ⟨h.apart, hz, ha⟩⟩
  rcases List.mem_append.1 hx with hx | hx
  · exact ⟨(h.deps x hx).1.kept hg (row_other h.row (h.deps x hx).1), (h.deps x hx).2⟩
  · exact ⟨(hd x hx).1.kept hg (row_other h.row (hd x hx).1), (hd x hx).2⟩
/-- What lay ahead and what is new are apart. -/
theorem apart_new {w w' : World} {b1 b2 n1 n2 : Nat} {e1 e2 : TypeId} {s1 s2 : Nat} {p q : Value} {xs ys : List Value} (h : w.ownsRow b1 e1 s1 p n1 xs) (k : w'.ownsRow b2 e2 s2 q n2 ys) (hb : w.heap.size ≤ b2) : ApartV p q := fun j hj hq => by
  have := (h.lt j hj).2; have := (k.lt j hq).1; omega
theorem infoVer : (Tryz.prog.info? 107).map (fun i => (i.zero, i.size, i.bytes)) = some (some (.agg #[.int .i64 0, .int .i64 0, .int .i64 0, .int .i64 0, .int .i64 0, .int .i64 0, .slice none 0 0]), 7, 72) := by kernel_rfl
/-- Seven cells of a new block. -/
theorem cells7 {w : World} {B : Nat} {x : XV} {T : TypeId} (h : Blk w B #[.int .i64 x.v.k, .int .i64 x.v.t, .int .i64 x.v.s, .int .i64 x.v.val, .int .i64 x.v.cl, .int .i64 x.v.ca, x.p] T) : ∀ (j : Nat) (u : Value), (flat7 [x])[j]? = some u → w.cell? ((Addr.mk B 0 none).add j) = some u := by
  intro j u hj
  rw [addr_add, Nat.zero_add, h.cell]
  simpa [flat7] using hj
end Go.Proofs.YtpjidogilofppaaGreat

/- Versions held against each other; whether they are in order. -/
namespace Go.Proofs.YtpjidogilofppaaGreat
open Go.ChangeShapes Go.WideShapes Go.ChangeAt Go.RowKit

theorem sVer_is {v : V} {r : Bool} (h : okV v = r) {da : Option Addr} {dc : Nat} {w : World} (hl : v.ds.length ≤ 1099511627776) (hd : Deps w da v.ds) :
    Calls Tryz.prog 183 #[verV v.k v.t v.s v.val v.cl v.ca da v.ds.length dc] w fun e w' => e = .returned (.bool r) ∧ Below w.heap.size w w' := by
  rw [← h]; exact sVer_any _ _ _ _ _ _ _ _ _ _ hl hd
theorem iVer_is {v : V} {r : Bool} (h : okV v = r) {da : Option Addr} {dc : Nat} {w : World} (hl : v.ds.length ≤ 1099511627776) (hd : Deps w da v.ds) :
    Calls Tryz.prog 245 #[verV v.k v.t v.s v.val v.cl v.ca da v.ds.length dc] w fun e w' => e = .returned (.bool r) ∧ Below w.heap.size w w' := by
  rw [← h]; exact iVer_any _ _ _ _ _ _ _ _ _ _ hl hd

set_option maxHeartbeats 1000000 in
theorem sLessV_any (u v : V) (ua va : Option Addr) (un uc vn vc : Nat) (w : World) :
    Calls Tryz.prog 184 #[verV u.k u.t u.s u.val u.cl u.ca ua un uc, verV v.k v.t v.s v.val v.cl v.ca va vn vc] w fun e w' => e = .returned (.bool (lessV u v)) ∧ Below w.heap.size w w' := by
  obtain ⟨k, t, s, val, cl, ca, xs⟩ := u
  obtain ⟨k', t', s', val', cl', ca', xs'⟩ := v
  by_cases h1 : k < k'
  · rw [lessV_key h1]
    have d1 : decide (k < k') = true := by simpa using h1
    go_enter Tryz.func184, Tryz.ntmps184
    go_wp2
    go_ret
    exact ⟨rfl, ((Below.refl _ _).alloc (Nat.le_refl _) _).alloc (by simp) _⟩
  have d1 : decide (k < k') = false := by simpa using h1
  by_cases h2 : k = k'
  · subst h2
    rw [lessV_stamp (a := ⟨k, t, s, val, cl, ca, xs⟩) (b := ⟨k, t', s', val', cl', ca', xs'⟩) rfl]
    go_enter Tryz.func184, Tryz.ntmps184
    go_wp2_with fail
    refine (sLess_any _ _ _ _ _).mono ?_
    rintro e w1 ⟨rfl, hb⟩
    go_wp2
    go_ret
    exact ⟨rfl, (((Below.refl _ _).alloc (Nat.le_refl _) _).alloc (by simp) _).trans (hb.mono (by simp; omega))⟩
  · rw [lessV_keyno (a := ⟨k, t, s, val, cl, ca, xs⟩) (b := ⟨k', t', s', val', cl', ca', xs'⟩) (show k' < k by omega)]
    have d2 : (k == k') = false := by simpa using h2
    go_enter Tryz.func184, Tryz.ntmps184
    go_wp2
    go_ret
    exact ⟨rfl, ((Below.refl _ _).alloc (Nat.le_refl _) _).alloc (by simp) _⟩

/-- A dep as a version of its key and stamp. -/
abbrev asV (k t s : Int) : V := ⟨k, t, s, 0, 0, 0, []⟩
/-- How two deps stand to each other: by key, then by stamp. -/
def dOrd (k t s k' t' s' : Int) : Int := if k = k' then ordV t s t' s' else cmpV k k'
theorem dOrd_less (k t s k' t' s' : Int) : decide (dOrd k t s k' t' s' < 0) = lessV (asV k t s) (asV k' t' s') := by
  unfold dOrd
  by_cases h : k = k'
  · rw [if_pos h, ord_less, lessV_stamp (a := asV k t s) (b := asV k' t' s') h]
  · rw [if_neg h]
    unfold cmpV lessV
    rw [decide_eq_decide]
    by_cases h1 : k < k' <;> by_cases h2 : k' < k <;> simp [*] <;> omega
set_option maxHeartbeats 4000000 in
theorem depAgainst_any (k t s k' t' s' : Int) (w : World) :
    Calls Tryz.prog 165 #[depV k t s, depV k' t' s'] w fun e w' => e = .returned (.int .i64 (dOrd k t s k' t' s')) ∧ Below w.heap.size w w' := by
  by_cases h2 : k = k'
  · subst h2
    have e0 : dOrd k t s k t' s' = ordV t s t' s' := by unfold dOrd; rw [if_pos rfl]
    rw [e0]
    clear e0
    go_enter Tryz.func165, Tryz.ntmps165
    go_wp2
    go_region_with (first | (go_at_call 219; refine (then_any _).mono ?_; rintro e w1 ⟨rfl, rfl⟩) | (go_at_call 257; refine (order_any _ _ _ _ _ _ _ ?_ ?_).mono ?_; go_simp; go_simp; rintro e w1 ⟨rfl, hb⟩))
    all_goals
      go_wp2
      go_ret
      exact ⟨rfl, ((((((Below.refl _ _).alloc (Nat.le_refl _) _).alloc (by simp) _).alloc (by simp; omega) _).alloc (by simp; omega) _).drew).trans (hb.mono (by simp; omega))⟩
  · have d2 : (k == k') = false := by simpa using h2
    have e0 : dOrd k t s k' t' s' = cmpV k k' := by unfold dOrd; rw [if_neg h2]
    rw [e0]
    clear e0
    go_enter Tryz.func165, Tryz.ntmps165
    go_wp2_with (first | (go_at_call 217; refine (compare_any _ _ _).mono ?_; rintro e w' ⟨rfl, rfl⟩))
    go_ret
    exact ⟨rfl, ((Below.refl _ _).alloc (Nat.le_refl _) _).alloc (by simp) _⟩
set_option maxHeartbeats 1000000 in
theorem iLessD_any (k t s k' t' s' : Int) (w : World) :
    Calls Tryz.prog 249 #[depV k t s, depV k' t' s'] w fun e w' => e = .returned (.bool (lessV (asV k t s) (asV k' t' s'))) ∧ Below w.heap.size w w' := by
  rw [← dOrd_less]
  have hA := fun W => depAgainst_any k t s k' t' s' W
  generalize dOrd k t s k' t' s' = r at *
  go_enter Tryz.func249, Tryz.ntmps249
  go_wp2_with fail
  refine (hA _).mono ?_
  rintro e w1 ⟨rfl, hb⟩
  go_wp2
  go_ret
  exact ⟨rfl, (((Below.refl _ _).alloc (Nat.le_refl _) _).alloc (by simp) _).trans (hb.mono (by simp; omega))⟩
theorem named_any (u : V) (ua : Option Addr) (un uc : Nat) (w : World) :
    Calls Tryz.prog 196 #[verV u.k u.t u.s u.val u.cl u.ca ua un uc] w fun e w' => e = .returned (depV u.k u.t u.s) ∧ Below w.heap.size w w' := by
  go_enter Tryz.func196, Tryz.ntmps196
  go_wp2
  refine bodyPost_ret (v := depV u.k u.t u.s) (by simp [results, Tryz.results196, go_sem]) rfl ⟨rfl, ?_⟩
  exact ((Below.refl _ _).alloc (Nat.le_refl _) _).alloc (by simp) _
set_option maxHeartbeats 2000000 in
set_option maxRecDepth 20000 in
theorem verOrder_any (u v : V) (ua va : Option Addr) (un uc vn vc : Nat) (w : World) :
    Calls Tryz.prog 195 #[verV u.k u.t u.s u.val u.cl u.ca ua un uc, verV v.k v.t v.s v.val v.cl v.ca va vn vc] w fun e w' => e = .returned (.int .i64 (dOrd u.k u.t u.s v.k v.t v.s)) ∧ Below w.heap.size w w' := by
  have A1 : Blk ((w.alloc (.cells #[.int .i64 u.k, .int .i64 u.t, .int .i64 u.s, .int .i64 u.val, .int .i64 u.cl, .int .i64 u.ca, .slice ua un uc] 107)).alloc (.cells #[.int .i64 v.k, .int .i64 v.t, .int .i64 v.s, .int .i64 v.val, .int .i64 v.cl, .int .i64 v.ca, .slice va vn vc] 107)) w.heap.size #[.int .i64 u.k, .int .i64 u.t, .int .i64 u.s, .int .i64 u.val, .int .i64 u.cl, .int .i64 u.ca, .slice ua un uc] 107 := (Blk.new w _ _).alloc _
  have A2 : Blk ((w.alloc (.cells #[.int .i64 u.k, .int .i64 u.t, .int .i64 u.s, .int .i64 u.val, .int .i64 u.cl, .int .i64 u.ca, .slice ua un uc] 107)).alloc (.cells #[.int .i64 v.k, .int .i64 v.t, .int .i64 v.s, .int .i64 v.val, .int .i64 v.cl, .int .i64 v.ca, .slice va vn vc] 107)) (w.heap.size + 1) #[.int .i64 v.k, .int .i64 v.t, .int .i64 v.s, .int .i64 v.val, .int .i64 v.cl, .int .i64 v.ca, .slice va vn vc] 107 := by have := Blk.new (w.alloc (.cells #[.int .i64 u.k, .int .i64 u.t, .int .i64 u.s, .int .i64 u.val, .int .i64 u.cl, .int .i64 u.ca, .slice ua un uc] 107)) #[.int .i64 v.k, .int .i64 v.t, .int .i64 v.s, .int .i64 v.val, .int .i64 v.cl, .int .i64 v.ca, .slice va vn vc] 107; simpa using this
  have b0 : Below w.heap.size w ((w.alloc (.cells #[.int .i64 u.k, .int .i64 u.t, .int .i64 u.s, .int .i64 u.val, .int .i64 u.cl, .int .i64 u.ca, .slice ua un uc] 107)).alloc (.cells #[.int .i64 v.k, .int .i64 v.t, .int .i64 v.s, .int .i64 v.val, .int .i64 v.cl, .int .i64 v.ca, .slice va vn vc] 107)) := ((Below.refl _ w).alloc (Nat.le_refl _) _).alloc (by simp) _
  have r1 : ∀ (n : Wof (Since ((w.alloc (.cells #[.int .i64 u.k, .int .i64 u.t, .int .i64 u.s, .int .i64 u.val, .int .i64 u.cl, .int .i64 u.ca, .slice ua un uc] 107)).alloc (.cells #[.int .i64 v.k, .int .i64 v.t, .int .i64 v.s, .int .i64 v.val, .int .i64 v.cl, .int .i64 v.ca, .slice va vn vc] 107)))) (j : Nat), n.W.cell? ⟨w.heap.size, j, none⟩ = #[.int .i64 u.k, .int .i64 u.t, .int .i64 u.s, .int .i64 u.val, .int .i64 u.cl, .int .i64 u.ca, .slice ua un uc][j]? := fun n j => (A1.below n.h A1.lt).cell j
  have r2 : ∀ (n : Wof (Since ((w.alloc (.cells #[.int .i64 u.k, .int .i64 u.t, .int .i64 u.s, .int .i64 u.val, .int .i64 u.cl, .int .i64 u.ca, .slice ua un uc] 107)).alloc (.cells #[.int .i64 v.k, .int .i64 v.t, .int .i64 v.s, .int .i64 v.val, .int .i64 v.cl, .int .i64 v.ca, .slice va vn vc] 107)))) (j : Nat), n.W.cell? ⟨w.heap.size + 1, j, none⟩ = #[.int .i64 v.k, .int .i64 v.t, .int .i64 v.s, .int .i64 v.val, .int .i64 v.cl, .int .i64 v.ca, .slice va vn vc][j]? := fun n j => (A2.below n.h A2.lt).cell j
  have ne := since_ne ((w.alloc (.cells #[.int .i64 u.k, .int .i64 u.t, .int .i64 u.s, .int .i64 u.val, .int .i64 u.cl, .int .i64 u.ca, .slice ua un uc] 107)).alloc (.cells #[.int .i64 v.k, .int .i64 v.t, .int .i64 v.s, .int .i64 v.val, .int .i64 v.cl, .int .i64 v.ca, .slice va vn vc] 107))
  have hL := fun W => depAgainst_any u.k u.t u.s v.k v.t v.s W
  generalize dOrd u.k u.t u.s v.k v.t v.s = r at *
  clear A1 A2
  go_enter Tryz.func195, Tryz.ntmps195
  go_wp2_with fail
  generalize ((w.alloc (.cells #[.int .i64 u.k, .int .i64 u.t, .int .i64 u.s, .int .i64 u.val, .int .i64 u.cl, .int .i64 u.ca, .slice ua un uc] 107)).alloc (.cells #[.int .i64 v.k, .int .i64 v.t, .int .i64 v.s, .int .i64 v.val, .int .i64 v.cl, .int .i64 v.ca, .slice va vn vc] 107)) = W2 at *
  refine wp_region_class (S := Since W2) (by kernel_rfl) (by kernel_rfl) (Below.refl _ _).drew ?_
  repeat (go_big_quiet_step ((rename_i n; first | (go_at_call 196; first | exact Calls.inClass (named_any u ua un uc _) Since.keep | exact Calls.inClass (named_any v va vn vc _) Since.keep) | (go_at_call 165; exact Calls.inClass (hL _) Since.keep))))
  refine wpQuiet_nil ?_
  rintro W ⟨n, hnW⟩
  have R2 := n.h
  rw [← hnW] at R2
  have B2 : Below w.heap.size w W := b0.trans (R2.mono b0.size)
  clear R2 r1 r2 ne hnW n b0
  go_wp2_with fail
  go_ret
  exact ⟨rfl, B2⟩
set_option maxHeartbeats 1000000 in
theorem iLessV_any (u v : V) (ua va : Option Addr) (un uc vn vc : Nat) (w : World) :
    Calls Tryz.prog 246 #[verV u.k u.t u.s u.val u.cl u.ca ua un uc, verV v.k v.t v.s v.val v.cl v.ca va vn vc] w fun e w' => e = .returned (.bool (lessV u v)) ∧ Below w.heap.size w w' := by
  have HL : Hid (lessV u v = decide (dOrd u.k u.t u.s v.k v.t v.s < 0)) := (dOrd_less u.k u.t u.s v.k v.t v.s).symm
  rw [HL.out]
  have hA := fun W => verOrder_any u v ua va un uc vn vc W
  clear HL
  generalize dOrd u.k u.t u.s v.k v.t v.s = r at *
  go_enter Tryz.func246, Tryz.ntmps246
  go_wp2_with fail
  refine (hA _).mono ?_
  rintro e w1 ⟨rfl, hb⟩
  go_wp2
  go_ret
  exact ⟨rfl, (((Below.refl _ _).alloc (Nat.le_refl _) _).alloc (by simp) _).trans (hb.mono (by simp; omega))⟩
theorem sLessV_is {u v : V} {r : Bool} (h : lessV u v = r) {ua va : Option Addr} {un uc vn vc : Nat} {w : World} :
    Calls Tryz.prog 184 #[verV u.k u.t u.s u.val u.cl u.ca ua un uc, verV v.k v.t v.s v.val v.cl v.ca va vn vc] w fun e w' => e = .returned (.bool r) ∧ Below w.heap.size w w' := by rw [← h]; exact sLessV_any _ _ _ _ _ _ _ _ _
theorem iLessV_is {u v : V} {r : Bool} (h : lessV u v = r) {ua va : Option Addr} {un uc vn vc : Nat} {w : World} :
    Calls Tryz.prog 246 #[verV u.k u.t u.s u.val u.cl u.ca ua un uc, verV v.k v.t v.s v.val v.cl v.ca va vn vc] w fun e w' => e = .returned (.bool r) ∧ Below w.heap.size w w' := by rw [← h]; exact iLessV_any _ _ _ _ _ _ _ _ _
/-- What a version's cells say, in whatever world that came of this one. -/
theorem VAt.rules {w : World} {b p : Nat} {v : V} {da : Option Addr} {dc : Nat} (h : VAt w b p v da dc) : (∀ n : Wof (Since w), n.W.cell? ⟨b, p, none⟩ = some (.int .i64 v.k)) ∧ (∀ n : Wof (Since w), n.W.cell? ⟨b, p + 1, none⟩ = some (.int .i64 v.t)) ∧ (∀ n : Wof (Since w), n.W.cell? ⟨b, p + 2, none⟩ = some (.int .i64 v.s)) ∧ (∀ n : Wof (Since w), n.W.cell? ⟨b, p + 3, none⟩ = some (.int .i64 v.val)) ∧ (∀ n : Wof (Since w), n.W.cell? ⟨b, p + 4, none⟩ = some (.int .i64 v.cl)) ∧ (∀ n : Wof (Since w), n.W.cell? ⟨b, p + 5, none⟩ = some (.int .i64 v.ca)) ∧ (∀ n : Wof (Since w), n.W.cell? ⟨b, p + 6, none⟩ = some (.slice da v.ds.length dc)) :=
  ⟨since_cell h.c0, since_cell h.c1, since_cell h.c2, since_cell h.c3, since_cell h.c4, since_cell h.c5, since_cell h.c6⟩

set_option maxHeartbeats 2000000 in
theorem sChainOk_any (a : Option Addr) (cap : Nat) (vs : List V) (w : World) (hn : vs.length ≤ 1099511627776) (h : Vers w a vs) :
    Calls Tryz.prog 113 #[.slice a vs.length cap] w fun e w' => e = .returned (.bool (chainB vs)) ∧ Below w.heap.size w w' := by
  by_cases hl : 80 < (vs.length : Int)
  · have HN : Hid (chainB vs = false) := chainB_long (by omega)
    go_enter Tryz.func113, Tryz.ntmps113
    go_wp2
    go_ret
    exact ⟨by rw [HN.out]; rfl, Below.refl _ _⟩
  have hl2 : (vs.length : Int) ≤ 80 := by omega
  have hl3 : vs.length ≤ 80 := by omega
  clear hl hn
  go_enter Tryz.func113, Tryz.ntmps113
  go_wp2
  go_loopw [3] (fun i wr => ∃ k : Nat, k ≤ vs.length ∧ i = .int .i64 k ∧ Hid (chainP (vs.take k)) ∧ Below w.heap.size w wr) (fun i _ => vs.length - (intOf i).toNat)
  case atStart => exact ⟨0, Nat.zero_le _, rfl, chainP_nil, Below.refl _ _⟩
  case round =>
    obtain ⟨k, hk, rfl, HC, hB⟩ := hrel
    by_cases hlt : k < vs.length
    · obtain ⟨b, o, da, dc, rfl, hbb, hv⟩ := (h.below hB).at hlt
      obtain ⟨r0, r1, r2, r3, r4, r5, r6⟩ := hv.rules
      have hd := hv.ds
      have hdl := hv.len
      have ne := since_ne wr
      rcases hok : okV vs[k] with _ | _
      · have HN : Hid (chainB vs = false) := chainB_no (chainP_bad hlt hok)
        clear HC hv h
        generalize vs[k] = v at *
        go_wp2_with fail
        refine wp_region_class (S := Since wr) (by kernel_rfl) (by kernel_rfl) (Below.refl _ _).drew ?_
        repeat (go_big_quiet_step ((rename_i n; first | (go_at_call 183; exact Calls.inClass (sVer_is hok hdl (hd.below n.h)) Since.keep))))
        refine wpQuiet_nil ?_
        rintro W ⟨n, hnW⟩
        have R2 := n.h
        rw [← hnW] at R2
        have hB2 : Below w.heap.size w W := hB.trans (R2.mono hB.size)
        clear R2 r0 r1 r2 r3 r4 r5 r6 ne hnW n hB hd
        go_wp2
        go_ret
        exact ⟨by rw [HN.out]; rfl, hB2⟩
      · rcases k with _ | j
        · have HO : Hid (chainP (vs.take (0 + 1))) := chainP_step hlt HC.out hok (.inl rfl)
          clear HC hv h
          simp only [Nat.zero_mul, Nat.add_zero] at r0 r1 r2 r3 r4 r5 r6
          generalize vs[0] = v at *
          go_wp2_with fail
          refine wp_region_class (S := Since wr) (by kernel_rfl) (by kernel_rfl) (Below.refl _ _).drew ?_
          repeat (go_big_quiet_step ((rename_i n; first | (go_at_call 183; exact Calls.inClass (sVer_is hok hdl (hd.below n.h)) Since.keep))))
          refine wpQuiet_nil ?_
          rintro W ⟨n, hnW⟩
          have R2 := n.h
          rw [← hnW] at R2
          have hB2 : Below w.heap.size w W := hB.trans (R2.mono hB.size)
          clear R2 r0 r1 r2 r3 r4 r5 r6 ne hnW n hB hd
          go_wp2
          go_roundw
          case rel => exact ⟨0 + 1, by omega, by go_num, HO, hB2⟩
          case measure => simp [intOf]; omega
        · obtain ⟨b', o', da', dc', he, _, hv'⟩ := (h.below hB).at (k := j) (by omega)
          simp at he
          obtain ⟨rfl, rfl⟩ := he
          obtain ⟨q0, q1, q2, q3, q4, q5, q6⟩ := hv'.rules
          rcases hls : lessV vs[j] vs[j + 1] with _ | _
          · have HN : Hid (chainB vs = false) := chainB_no (chainP_order hlt (by omega) hls)
            clear HC hv h hv'
            generalize vs[j + 1] = v at *
            generalize vs[j] = u at *
            go_wp2_with fail
            refine wp_region_class (S := Since wr) (by kernel_rfl) (by kernel_rfl) (Below.refl _ _).drew ?_
            repeat (go_big_quiet_step ((rename_i n; first | (go_at_call 183; exact Calls.inClass (sVer_is hok hdl (hd.below n.h)) Since.keep) | (go_at_call 184; exact Calls.inClass (sLessV_is hls) Since.keep))))
            refine wpQuiet_nil ?_
            rintro W ⟨n, hnW⟩
            have R2 := n.h
            rw [← hnW] at R2
            have hB2 : Below w.heap.size w W := hB.trans (R2.mono hB.size)
            clear R2 r0 r1 r2 r3 r4 r5 r6 ne hnW n hB hd q0 q1 q2 q3 q4 q5 q6
            go_wp2
            go_ret
            exact ⟨by rw [HN.out]; rfl, hB2⟩
          · have HO : Hid (chainP (vs.take (j + 1 + 1))) := chainP_step hlt HC.out hok (.inr ⟨by omega, hls⟩)
            clear HC hv h hv'
            generalize vs[j + 1] = v at *
            generalize vs[j] = u at *
            go_wp2_with fail
            refine wp_region_class (S := Since wr) (by kernel_rfl) (by kernel_rfl) (Below.refl _ _).drew ?_
            repeat (go_big_quiet_step ((rename_i n; first | (go_at_call 183; exact Calls.inClass (sVer_is hok hdl (hd.below n.h)) Since.keep) | (go_at_call 184; exact Calls.inClass (sLessV_is hls) Since.keep))))
            refine wpQuiet_nil ?_
            rintro W ⟨n, hnW⟩
            have R2 := n.h
            rw [← hnW] at R2
            have hB2 : Below w.heap.size w W := hB.trans (R2.mono hB.size)
            clear R2 r0 r1 r2 r3 r4 r5 r6 ne hnW n hB hd q0 q1 q2 q3 q4 q5 q6
            go_wp2
            go_roundw
            case rel => exact ⟨j + 1 + 1, by omega, by go_num, HO, hB2⟩
            case measure => simp [intOf]; omega
    · have hk2 : k = vs.length := by omega
      subst hk2
      rw [List.take_length] at HC
      have HY : Hid (chainB vs = true) := chainB_yes hl3 HC.out
      go_wp2
      go_ret
      exact ⟨by rw [HY.out]; rfl, hB⟩
end Go.Proofs.YtpjidogilofppaaGreat

/- The program's ChainOk. -/
namespace Go.Proofs.YtpjidogilofppaaGreat
open Go.ChangeShapes Go.WideShapes Go.ChangeAt Go.RowKit

theorem since_new {wr : World} {vs : Array Value} {T : TypeId} : ∀ (n : Wof (Since (wr.alloc (.cells vs T)))) (j : Nat), n.W.cell? ⟨wr.heap.size, j, none⟩ = vs[j]? := fun n j =>
  ((Blk.new wr vs T).below n.h (by simp)).cell j

set_option maxHeartbeats 2000000 in
theorem inOrderV_any (a : Option Addr) (cap : Nat) (vs : List V) (w : World) (hn : vs.length ≤ 1099511627776) (h : Vers w a vs) :
    Calls Tryz.prog 244 #[.slice a vs.length cap, .func (.func 245) #[] #[], .func (.func 246) #[] #[]] w fun e w' => e = .returned (.bool (chainB vs)) ∧ Below w.heap.size w w' := by
  by_cases hl : 80 < (vs.length : Int)
  · have HN : Hid (chainB vs = false) := chainB_long (by omega)
    go_enter Tryz.func244, Tryz.ntmps244
    go_wp2
    go_ret
    exact ⟨by rw [HN.out]; rfl, Below.refl _ _⟩
  have hl2 : (vs.length : Int) ≤ 80 := by omega
  have hl3 : vs.length ≤ 80 := by omega
  clear hl hn
  go_enter Tryz.func244, Tryz.ntmps244
  go_wp2
  go_loopw [14] (fun i wr => ∃ k : Nat, k ≤ vs.length ∧ i = .int .i64 k ∧ Hid (chainP (vs.take k)) ∧ Below w.heap.size w wr) (fun i _ => vs.length - (intOf i).toNat)
  case atStart => exact ⟨0, Nat.zero_le _, rfl, chainP_nil, Below.refl _ _⟩
  case round =>
    obtain ⟨k, hk, rfl, HC, hB⟩ := hrel
    by_cases hlt : k < vs.length
    · obtain ⟨b, o, da, dc, rfl, hbb, hv⟩ := (h.below hB).at hlt
      obtain ⟨c0, c1, c2, c3, c4, c5, c6, hd, hdl⟩ := hv
      rcases hok : okV vs[k] with _ | _
      · have HN : Hid (chainB vs = false) := chainB_no (chainP_bad hlt hok)
        clear HC h
        generalize vs[k] = v at *
        have r := since_new (wr := wr) (vs := #[.int .i64 v.k, .int .i64 v.t, .int .i64 v.s, .int .i64 v.val, .int .i64 v.cl, .int .i64 v.ca, .slice da v.ds.length dc]) (T := 107)
        have ne := since_ne (wr.alloc (.cells #[.int .i64 v.k, .int .i64 v.t, .int .i64 v.s, .int .i64 v.val, .int .i64 v.cl, .int .i64 v.ca, .slice da v.ds.length dc] 107))
        replace hd := hd.below ((Below.refl _ wr).alloc (Nat.le_refl _) (.cells #[.int .i64 v.k, .int .i64 v.t, .int .i64 v.s, .int .i64 v.val, .int .i64 v.cl, .int .i64 v.ca, .slice da v.ds.length dc] 107))
        go_wp2_with fail
        clear c0 c1 c2 c3 c4 c5 c6
        refine wp_region_class (S := Since (wr.alloc (.cells #[.int .i64 v.k, .int .i64 v.t, .int .i64 v.s, .int .i64 v.val, .int .i64 v.cl, .int .i64 v.ca, .slice da v.ds.length dc] 107))) (by kernel_rfl) (by kernel_rfl) (Below.refl _ _).drew ?_
        repeat (go_big_quiet_step ((rename_i n; first | (go_at_call 245; exact Calls.inClass (iVer_is hok hdl (hd.below n.h)) Since.keep))))
        refine wpQuiet_nil ?_
        rintro W ⟨n, hnW⟩
        have R2 := n.h
        rw [← hnW] at R2
        have hB1 := hB.alloc hB.size (.cells #[.int .i64 v.k, .int .i64 v.t, .int .i64 v.s, .int .i64 v.val, .int .i64 v.cl, .int .i64 v.ca, .slice da v.ds.length dc] 107)
        have hB2 : Below w.heap.size w W := hB1.trans (R2.mono hB1.size)
        clear R2 r ne hnW n hB hB1 hd
        go_wp2
        go_ret
        exact ⟨by rw [HN.out]; rfl, hB2⟩
      · rcases k with _ | j
        · have HO : Hid (chainP (vs.take (0 + 1))) := chainP_step hlt HC.out hok (.inl rfl)
          clear HC h
          simp only [Nat.zero_mul, Nat.add_zero] at c0 c1 c2 c3 c4 c5 c6
          generalize vs[0] = v at *
          have r := since_new (wr := wr) (vs := #[.int .i64 v.k, .int .i64 v.t, .int .i64 v.s, .int .i64 v.val, .int .i64 v.cl, .int .i64 v.ca, .slice da v.ds.length dc]) (T := 107)
          have ne := since_ne (wr.alloc (.cells #[.int .i64 v.k, .int .i64 v.t, .int .i64 v.s, .int .i64 v.val, .int .i64 v.cl, .int .i64 v.ca, .slice da v.ds.length dc] 107))
          replace hd := hd.below ((Below.refl _ wr).alloc (Nat.le_refl _) (.cells #[.int .i64 v.k, .int .i64 v.t, .int .i64 v.s, .int .i64 v.val, .int .i64 v.cl, .int .i64 v.ca, .slice da v.ds.length dc] 107))
          go_wp2_with fail
          clear c0 c1 c2 c3 c4 c5 c6
          refine wp_region_class (S := Since (wr.alloc (.cells #[.int .i64 v.k, .int .i64 v.t, .int .i64 v.s, .int .i64 v.val, .int .i64 v.cl, .int .i64 v.ca, .slice da v.ds.length dc] 107))) (by kernel_rfl) (by kernel_rfl) (Below.refl _ _).drew ?_
          repeat (go_big_quiet_step ((rename_i n; first | (go_at_call 245; exact Calls.inClass (iVer_is hok hdl (hd.below n.h)) Since.keep))))
          refine wpQuiet_nil ?_
          rintro W ⟨n, hnW⟩
          have R2 := n.h
          rw [← hnW] at R2
          have hB1 := hB.alloc hB.size (.cells #[.int .i64 v.k, .int .i64 v.t, .int .i64 v.s, .int .i64 v.val, .int .i64 v.cl, .int .i64 v.ca, .slice da v.ds.length dc] 107)
          have hB2 : Below w.heap.size w W := hB1.trans (R2.mono hB1.size)
          clear R2 r ne hnW n hB hB1 hd
          go_wp2
          go_roundw
          case rel => exact ⟨0 + 1, by omega, by go_num, HO, hB2⟩
          case measure => simp [intOf]; omega
        · obtain ⟨b', o', da', dc', he, _, hv'⟩ := (h.below hB).at (k := j) (by omega)
          simp at he
          obtain ⟨rfl, rfl⟩ := he
          rcases hls : lessV vs[j] vs[j + 1] with _ | _
          · have HN : Hid (chainB vs = false) := chainB_no (chainP_order hlt (by omega) hls)
            clear HC h
            generalize vs[j + 1] = v at *
            generalize vs[j] = u at *
            obtain ⟨q0, q1, q2, q3, q4, q5, q6⟩ := (hv'.below ((Below.refl _ wr).alloc (Nat.le_refl _) (.cells #[.int .i64 v.k, .int .i64 v.t, .int .i64 v.s, .int .i64 v.val, .int .i64 v.cl, .int .i64 v.ca, .slice da v.ds.length dc] 107))).rules
            clear hv'
            have r := since_new (wr := wr) (vs := #[.int .i64 v.k, .int .i64 v.t, .int .i64 v.s, .int .i64 v.val, .int .i64 v.cl, .int .i64 v.ca, .slice da v.ds.length dc]) (T := 107)
            have ne := since_ne (wr.alloc (.cells #[.int .i64 v.k, .int .i64 v.t, .int .i64 v.s, .int .i64 v.val, .int .i64 v.cl, .int .i64 v.ca, .slice da v.ds.length dc] 107))
            replace hd := hd.below ((Below.refl _ wr).alloc (Nat.le_refl _) (.cells #[.int .i64 v.k, .int .i64 v.t, .int .i64 v.s, .int .i64 v.val, .int .i64 v.cl, .int .i64 v.ca, .slice da v.ds.length dc] 107))
            go_wp2_with fail
            clear c0 c1 c2 c3 c4 c5 c6
            refine wp_region_class (S := Since (wr.alloc (.cells #[.int .i64 v.k, .int .i64 v.t, .int .i64 v.s, .int .i64 v.val, .int .i64 v.cl, .int .i64 v.ca, .slice da v.ds.length dc] 107))) (by kernel_rfl) (by kernel_rfl) (Below.refl _ _).drew ?_
            repeat (go_big_quiet_step ((rename_i n; first | (go_at_call 245; exact Calls.inClass (iVer_is hok hdl (hd.below n.h)) Since.keep) | (go_at_call 246; exact Calls.inClass (iLessV_is hls) Since.keep))))
            refine wpQuiet_nil ?_
            rintro W ⟨n, hnW⟩
            have R2 := n.h
            rw [← hnW] at R2
            have hB1 := hB.alloc hB.size (.cells #[.int .i64 v.k, .int .i64 v.t, .int .i64 v.s, .int .i64 v.val, .int .i64 v.cl, .int .i64 v.ca, .slice da v.ds.length dc] 107)
            have hB2 : Below w.heap.size w W := hB1.trans (R2.mono hB1.size)
            clear R2 r ne hnW n hB hB1 hd q0 q1 q2 q3 q4 q5 q6
            go_wp2
            go_ret
            exact ⟨by rw [HN.out]; rfl, hB2⟩
          · have HO : Hid (chainP (vs.take (j + 1 + 1))) := chainP_step hlt HC.out hok (.inr ⟨by omega, hls⟩)
            clear HC h
            generalize vs[j + 1] = v at *
            generalize vs[j] = u at *
            obtain ⟨q0, q1, q2, q3, q4, q5, q6⟩ := (hv'.below ((Below.refl _ wr).alloc (Nat.le_refl _) (.cells #[.int .i64 v.k, .int .i64 v.t, .int .i64 v.s, .int .i64 v.val, .int .i64 v.cl, .int .i64 v.ca, .slice da v.ds.length dc] 107))).rules
            clear hv'
            have r := since_new (wr := wr) (vs := #[.int .i64 v.k, .int .i64 v.t, .int .i64 v.s, .int .i64 v.val, .int .i64 v.cl, .int .i64 v.ca, .slice da v.ds.length dc]) (T := 107)
            have ne := since_ne (wr.alloc (.cells #[.int .i64 v.k, .int .i64 v.t, .int .i64 v.s, .int .i64 v.val, .int .i64 v.cl, .int .i64 v.ca, .slice da v.ds.length dc] 107))
            replace hd := hd.below ((Below.refl _ wr).alloc (Nat.le_refl _) (.cells #[.int .i64 v.k, .int .i64 v.t, .int .i64 v.s, .int .i64 v.val, .int .i64 v.cl, .int .i64 v.ca, .slice da v.ds.length dc] 107))
            go_wp2_with fail
            clear c0 c1 c2 c3 c4 c5 c6
            refine wp_region_class (S := Since (wr.alloc (.cells #[.int .i64 v.k, .int .i64 v.t, .int .i64 v.s, .int .i64 v.val, .int .i64 v.cl, .int .i64 v.ca, .slice da v.ds.length dc] 107))) (by kernel_rfl) (by kernel_rfl) (Below.refl _ _).drew ?_
            repeat (go_big_quiet_step ((rename_i n; first | (go_at_call 245; exact Calls.inClass (iVer_is hok hdl (hd.below n.h)) Since.keep) | (go_at_call 246; exact Calls.inClass (iLessV_is hls) Since.keep))))
            refine wpQuiet_nil ?_
            rintro W ⟨n, hnW⟩
            have R2 := n.h
            rw [← hnW] at R2
            have hB1 := hB.alloc hB.size (.cells #[.int .i64 v.k, .int .i64 v.t, .int .i64 v.s, .int .i64 v.val, .int .i64 v.cl, .int .i64 v.ca, .slice da v.ds.length dc] 107)
            have hB2 : Below w.heap.size w W := hB1.trans (R2.mono hB1.size)
            clear R2 r ne hnW n hB hB1 hd q0 q1 q2 q3 q4 q5 q6
            go_wp2
            go_roundw
            case rel => exact ⟨j + 1 + 1, by omega, by go_num, HO, hB2⟩
            case measure => simp [intOf]; omega
    · have hk2 : k = vs.length := by omega
      subst hk2
      rw [List.take_length] at HC
      have HY : Hid (chainB vs = true) := chainB_yes hl3 HC.out
      go_wp2
      go_ret
      exact ⟨by rw [HY.out]; rfl, hB⟩

theorem iChainOk_any (a : Option Addr) (cap : Nat) (vs : List V) (w : World) (hn : vs.length ≤ 1099511627776) (h : Vers w a vs) :
    Calls Tryz.prog 207 #[.slice a vs.length cap] w fun e w' => e = .returned (.bool (chainB vs)) ∧ Below w.heap.size w w' := by
  have hI := inOrderV_any a cap vs w hn h
  generalize chainB vs = r at *
  go_enter Tryz.func207, Tryz.ntmps207
  go_wp2_with fail
  refine hI.mono ?_
  rintro e w1 ⟨rfl, hb1⟩
  clear hI
  go_wp2_with fail
  go_ret
  exact ⟨rfl, hb1⟩
end Go.Proofs.YtpjidogilofppaaGreat

