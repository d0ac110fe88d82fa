/- 9 texts in one: Base, SideI, Blk, DepNum, StampOk, Codes, SlotN, PutNum, CopyK. -/
import Derived.Test.YtpjidogilofppaaGreatProg
import Derived.WalkKit
import Derived.ProofKit
import Derived.OpenShut
import Derived.Below
import Derived.WalkLawsBesides
import Derived.Deep.QuietTactic
import Derived.BigQuiet
import Derived.WalkSpells
import Derived.Deep.RegionWith
import Derived.Deep.RegionHeld3
import Derived.Shelf.Spec.SlicesInsertGrow
/- Plain facts, and what all texts of this seat share. -/
namespace Go.Proofs.YtpjidogilofppaaGreat
open Go.ChangeShapes Go.WideShapes Go.ChangeAt Go.RowKit

/-- The side of a site as a number. -/
def sideOf (n : Int) : Int := if n < 0 ∨ 4 ≤ n then -1 else n / 2

theorem side_out (n : Int) (h : n < 0 ∨ 4 ≤ n) : sideOf n = -1 := by unfold sideOf; rw [if_pos h]
theorem side_in (n : Int) (h0 : 0 ≤ n) (h1 : n < 4) : sideOf n = n / 2 := by unfold sideOf; rw [if_neg (by omega)]

/-- A stamp as a value. -/
abbrev stampV (t s : Int) : Value := .agg #[.int .i64 t, .int .i64 s]

/-- How two numbers stand to each other. -/
def cmpV (x y : Int) : Int := if x < y then -1 else if y < x then 1 else 0
theorem cmp_lt {x y : Int} (h : x < y) : cmpV x y = -1 := by unfold cmpV; rw [if_pos h]
theorem cmp_gt {x y : Int} (h : y < x) : cmpV x y = 1 := by unfold cmpV; rw [if_neg (by omega), if_pos h]
theorem cmp_eq (x : Int) : cmpV x x = 0 := by unfold cmpV; rw [if_neg (by omega), if_neg (by omega)]

/-- Whether a stamp is ahead of another one. -/
def lessB (t s t' s' : Int) : Bool := decide (t < t' ∨ t = t' ∧ s < s')

theorem bcell {W w1 : World} (hb : Below W.heap.size W w1) : (∀ b o, b < W.heap.size → w1.cell? ⟨b, o, none⟩ = W.cell? ⟨b, o, none⟩) ∧ (∀ b o, b < W.heap.size → w1.frozen? ⟨b, o, none⟩ = W.frozen? ⟨b, o, none⟩) :=
  ⟨fun b o h => hb.cell (p := ⟨b, o, none⟩) h, fun b o h => hb.frozen (p := ⟨b, o, none⟩) h⟩

/-- By time, and then by site. -/
def ordV (t s t' s' : Int) : Int := if cmpV t t' = 0 then cmpV s s' else cmpV t t'
theorem ord_less (t s t' s' : Int) : decide (ordV t s t' s' < 0) = lessB t s t' s' := by
  unfold ordV lessB cmpV
  rw [decide_eq_decide]
  by_cases h1 : t < t' <;> by_cases h2 : t' < t <;> by_cases h3 : s < s' <;> by_cases h4 : s' < s <;> simp [*] <;> omega

/-- Whether a stamp is ok. -/
def okB (t s : Int) : Bool := decide (1 ≤ t ∧ t ≤ 9999 ∧ 0 ≤ s ∧ s ≤ 3)

theorem side_ok (s : Int) : decide (0 ≤ sideOf s) = decide (0 ≤ s ∧ s ≤ 3) := by
  rw [decide_eq_decide]; unfold sideOf; split <;> omega

/-- Whether a number is in a range. -/
def inB (n lo hi : Int) : Bool := decide (lo ≤ n ∧ n ≤ hi)
end Go.Proofs.YtpjidogilofppaaGreat

/- The program's SiteSide. -/
namespace Go.Proofs.YtpjidogilofppaaGreat
open Go.ChangeShapes Go.WideShapes Go.ChangeAt Go.RowKit

theorem iSide_any (n : Int) (w : World) : Calls Tryz.prog 187 #[.int .i64 n] w fun e w' => e = .returned (.int .i64 (sideOf n)) ∧ w' = w := by
  by_cases h0 : n < 0
  · rw [side_out n (.inl h0)]
    go_enter Tryz.func187, Tryz.ntmps187
    go_wp2
    go_ret
    exact ⟨rfl, rfl⟩
  · by_cases h1 : 4 ≤ n
    · rw [side_out n (.inr h1)]
      go_enter Tryz.func187, Tryz.ntmps187
      go_wp2
      go_ret
      exact ⟨rfl, rfl⟩
    · have h0' : 0 ≤ n := by omega
      have h1' : n < 4 := by omega
      rw [side_in n h0' h1']
      go_enter Tryz.func187, Tryz.ntmps187
      go_wp2
      go_ret
      exact ⟨rfl, rfl⟩

end Go.Proofs.YtpjidogilofppaaGreat

/- A block of cells, and what becomes of it. -/
namespace Go.Proofs.YtpjidogilofppaaGreat
open Go.ChangeShapes Go.WideShapes Go.ChangeAt Go.RowKit

/-- The block B is cells that hold vs. -/
def Blk (w : World) (B : Nat) (vs : Array Value) (T : TypeId) : Prop := w.heap[B]? = some (.cells vs T (0, 0))
theorem Blk.lt {w : World} {B : Nat} {vs : Array Value} {T : TypeId} (h : Blk w B vs T) : B < w.heap.size := (Array.getElem?_eq_some_iff.1 h).1
theorem Blk.cell {w : World} {B : Nat} {vs : Array Value} {T : TypeId} (h : Blk w B vs T) (j : Nat) : w.cell? ⟨B, j, none⟩ = vs[j]? := by simp [World.cell?, show w.heap[B]? = _ from h]
theorem Blk.frozen {w : World} {B : Nat} {vs : Array Value} {T : TypeId} (h : Blk w B vs T) (j : Nat) : w.frozen? ⟨B, j, none⟩ = false := by simp [World.frozen?, show w.heap[B]? = _ from h]
theorem Blk.rules {w : World} {B : Nat} {vs : Array Value} {T : TypeId} (h : Blk w B vs T) : (∀ j, w.cell? ⟨B, j, none⟩ = vs[j]?) ∧ (∀ j, w.frozen? ⟨B, j, none⟩ = false) := ⟨h.cell, h.frozen⟩
theorem Blk.new (w : World) (vs : Array Value) (T : TypeId) : Blk (w.alloc (.cells vs T)) w.heap.size vs T := by unfold Blk World.alloc; simp
theorem Blk.below {w w' : World} {B : Nat} {vs : Array Value} {T : TypeId} (h : Blk w B vs T) {n : Nat} (k : Below n w w') (hn : B < n) : Blk w' B vs T := (k.block B hn).trans h
theorem Blk.alloc {w : World} {B : Nat} {vs : Array Value} {T : TypeId} (h : Blk w B vs T) (o : Obj) : Blk (w.alloc o) B vs T := (Below.heap_alloc _ _ _ h.lt).trans h
theorem Blk.draws {w : World} {B : Nat} {vs : Array Value} {T : TypeId} (h : Blk w B vs T) (m : Nat) : Blk (w.drewN m) B vs T := h
theorem Blk.other {w : World} {B : Nat} {vs : Array Value} {T : TypeId} (h : Blk w B vs T) {a : Addr} (ha : B ≠ a.block) (v : Value) : Blk (w.setCell a v) B vs T := (Below.heap_setCell _ _ _ _ ha).trans h
theorem Blk.set {w : World} {B : Nat} {vs : Array Value} {T : TypeId} (h : Blk w B vs T) (j : Nat) (v : Value) : Blk (w.setCell ⟨B, j, none⟩ v) B (vs.setIfInBounds j v) T := by
  obtain ⟨hlt, hk⟩ := Array.getElem?_eq_some_iff.1 h
  show (w.heap.modify B _)[B]? = _
  rw [Array.getElem?_eq_getElem (by rw [Array.size_modify]; exact hlt), Array.getElem_modify_self, hk]
  rfl
/-- What holds of every world in which the block lies so holds here. -/
theorem Blk.gen {W : World} {B : Nat} {vs : Array Value} {T : TypeId} (h : Blk W B vs T) {P : World → Prop} (k : ∀ W, Blk W B vs T → P W) : P W := k W h
/-- Twelve cells are written. -/
theorem Blk.fill {w : World} {B : Nat} {x0 x1 x2 x3 x4 x5 x6 x7 x8 x9 x10 x11 v0 v1 v2 v3 v4 v5 v6 v7 v8 v9 v10 v11 : Value} {T : TypeId} (h : Blk w B #[x0, x1, x2, x3, x4, x5, x6, x7, x8, x9, x10, x11] T) : Blk ((((((((((((w.setCell ⟨B, 0, none⟩ v0).setCell ⟨B, 1, none⟩ v1).setCell ⟨B, 2, none⟩ v2).setCell ⟨B, 3, none⟩ v3).setCell ⟨B, 4, none⟩ v4).setCell ⟨B, 5, none⟩ v5).setCell ⟨B, 6, none⟩ v6).setCell ⟨B, 7, none⟩ v7).setCell ⟨B, 8, none⟩ v8).setCell ⟨B, 9, none⟩ v9).setCell ⟨B, 10, none⟩ v10).setCell ⟨B, 11, none⟩ v11) B #[v0, v1, v2, v3, v4, v5, v6, v7, v8, v9, v10, v11] T := by
  have := ((((((((((((h.set 0 v0).set 1 v1).set 2 v2).set 3 v3).set 4 v4).set 5 v5).set 6 v6).set 7 v7).set 8 v8).set 9 v9).set 10 v10).set 11 v11)
  simpa using this
theorem Blk.fillOther {w : World} {B A : Nat} {vs : Array Value} {v0 v1 v2 v3 v4 v5 v6 v7 v8 v9 v10 v11 : Value} {T : TypeId} (h : Blk w A vs T) (hne : A ≠ B) : Blk ((((((((((((w.setCell ⟨B, 0, none⟩ v0).setCell ⟨B, 1, none⟩ v1).setCell ⟨B, 2, none⟩ v2).setCell ⟨B, 3, none⟩ v3).setCell ⟨B, 4, none⟩ v4).setCell ⟨B, 5, none⟩ v5).setCell ⟨B, 6, none⟩ v6).setCell ⟨B, 7, none⟩ v7).setCell ⟨B, 8, none⟩ v8).setCell ⟨B, 9, none⟩ v9).setCell ⟨B, 10, none⟩ v10).setCell ⟨B, 11, none⟩ v11) A vs T := ((((((((((((h.other (a := ⟨B, 0, none⟩) hne v0).other (a := ⟨B, 1, none⟩) hne v1).other (a := ⟨B, 2, none⟩) hne v2).other (a := ⟨B, 3, none⟩) hne v3).other (a := ⟨B, 4, none⟩) hne v4).other (a := ⟨B, 5, none⟩) hne v5).other (a := ⟨B, 6, none⟩) hne v6).other (a := ⟨B, 7, none⟩) hne v7).other (a := ⟨B, 8, none⟩) hne v8).other (a := ⟨B, 9, none⟩) hne v9).other (a := ⟨B, 10, none⟩) hne v10).other (a := ⟨B, 11, none⟩) hne v11)
theorem fill_below {w a : World} {B n : Nat} {v0 v1 v2 v3 v4 v5 v6 v7 v8 v9 v10 v11 : Value} (h : Below n a w) (hB : n ≤ B) : Below n a ((((((((((((w.setCell ⟨B, 0, none⟩ v0).setCell ⟨B, 1, none⟩ v1).setCell ⟨B, 2, none⟩ v2).setCell ⟨B, 3, none⟩ v3).setCell ⟨B, 4, none⟩ v4).setCell ⟨B, 5, none⟩ v5).setCell ⟨B, 6, none⟩ v6).setCell ⟨B, 7, none⟩ v7).setCell ⟨B, 8, none⟩ v8).setCell ⟨B, 9, none⟩ v9).setCell ⟨B, 10, none⟩ v10).setCell ⟨B, 11, none⟩ v11) := ((((((((((((h.setCell (p := ⟨B, 0, none⟩) hB v0).setCell (p := ⟨B, 1, none⟩) hB v1).setCell (p := ⟨B, 2, none⟩) hB v2).setCell (p := ⟨B, 3, none⟩) hB v3).setCell (p := ⟨B, 4, none⟩) hB v4).setCell (p := ⟨B, 5, none⟩) hB v5).setCell (p := ⟨B, 6, none⟩) hB v6).setCell (p := ⟨B, 7, none⟩) hB v7).setCell (p := ⟨B, 8, none⟩) hB v8).setCell (p := ⟨B, 9, none⟩) hB v9).setCell (p := ⟨B, 10, none⟩) hB v10).setCell (p := ⟨B, 11, none⟩) hB v11)
end Go.Proofs.YtpjidogilofppaaGreat

/- Plain facts on deps: a list in order is a table by key. -/
namespace Go.Proofs.YtpjidogilofppaaGreat
open Go.ChangeShapes Go.WideShapes Go.ChangeAt Go.RowKit

/-- A dep: its key, and its stamp's time and site. -/
structure D where
  k : Int
  t : Int
  s : Int

theorem D.ext' {a b : D} (h1 : a.k = b.k) (h2 : a.t = b.t) (h3 : a.s = b.s) : a = b := by cases a; cases b; simp_all

/-- A stamp as one number. -/
def codeD (d : D) : Int := d.t * 4 + d.s
/-- Whether a dep is ok. -/
def okD (d : D) : Bool := inB d.k 0 5 && okB d.t d.s
theorem okD_bounds {d : D} (h : okD d = true) : 0 ≤ d.k ∧ d.k ≤ 5 ∧ 1 ≤ d.t ∧ d.t ≤ 9999 ∧ 0 ≤ d.s ∧ d.s ≤ 3 := by
  simp [okD, okB, inB] at h; omega
theorem okD_mk {d : D} (h1 : inB d.k 0 5 = true) (h2 : okB d.t d.s = true) : okD d = true := by unfold okD; rw [h1, h2]; rfl
theorem okD_key {d : D} (h1 : inB d.k 0 5 = false) : okD d = false := by unfold okD; rw [h1]; rfl
theorem okD_stamp {d : D} (h1 : okB d.t d.s = false) : okD d = false := by unfold okD; rw [h1]; simp

/-- Deps that are ok: ascending by key, each ok. -/
def Ok (xs : List D) : Prop := xs.Pairwise (fun a b => a.k < b.k) ∧ ∀ d ∈ xs, okD d = true
/-- The same as a Bool. -/
def depsOk (xs : List D) : Bool := decide (xs.Pairwise (fun a b => a.k < b.k)) && xs.all okD
theorem ok_iff {xs : List D} : depsOk xs = true ↔ Ok xs := by simp [depsOk, Ok]
theorem Ok.nil : Ok [] := ⟨.nil, fun _ h => by cases h⟩
theorem ok_nil : depsOk [] = true := ok_iff.2 Ok.nil
/-- The last key, -1 if there is none. -/
def lastK (xs : List D) : Int := (xs.getLast?.map D.k).getD (-1)
theorem lastK_nil : lastK [] = -1 := rfl
theorem lastK_snoc (xs : List D) (d : D) : lastK (xs ++ [d]) = d.k := by simp [lastK]
theorem Ok.snoc {xs : List D} {d : D} (h : Ok xs) (hd : okD d = true) (hl : ∀ e ∈ xs, e.k < d.k) : Ok (xs ++ [d]) := by
  refine ⟨List.pairwise_append.2 ⟨h.1, List.pairwise_singleton _ _, fun a ha b hb => ?_⟩, fun e he => ?_⟩
  · simp at hb; subst hb; exact hl a ha
  · rcases List.mem_append.1 he with he | he
    · exact h.2 e he
    · simp at he; subst he; exact hd
theorem Ok.of_snoc {xs : List D} {d : D} (h : Ok (xs ++ [d])) : Ok xs ∧ okD d = true ∧ ∀ e ∈ xs, e.k < d.k := by
  obtain ⟨h1, h2⟩ := h
  obtain ⟨p, _, q⟩ := List.pairwise_append.1 h1
  exact ⟨⟨p, fun e he => h2 e (List.mem_append_left _ he)⟩, h2 d (by simp), fun e he => q e he d (by simp)⟩
theorem eq_nil_or_snoc (xs : List D) : xs = [] ∨ ∃ ys d, xs = ys ++ [d] := by
  rcases List.eq_nil_or_concat xs with h | ⟨ys, d, h⟩
  · exact .inl h
  · exact .inr ⟨ys, d, by rw [h, List.concat_eq_append]⟩
/-- All keys are up to the last one. -/
theorem Ok.last {xs : List D} (h : Ok xs) : -1 ≤ lastK xs ∧ lastK xs ≤ 5 ∧ ∀ e ∈ xs, e.k ≤ lastK xs := by
  rcases eq_nil_or_snoc xs with rfl | ⟨ys, d, rfl⟩
  · exact ⟨by rw [lastK_nil]; omega, by rw [lastK_nil]; omega, fun _ h => by cases h⟩
  · obtain ⟨_, hd, hl⟩ := h.of_snoc
    have := okD_bounds hd
    rw [lastK_snoc]
    refine ⟨by omega, by omega, fun e he => ?_⟩
    rcases List.mem_append.1 he with he | he
    · have := hl e he; omega
    · simp at he; subst he; omega
theorem snoc_yes {xs : List D} {d : D} (h : depsOk xs = true) (hd : okD d = true) (hl : lastK xs < d.k) : depsOk (xs ++ [d]) = true := by
  have h := ok_iff.1 h
  exact ok_iff.2 (h.snoc hd fun e he => by have := h.last.2.2 e he; omega)
theorem snoc_bad {xs : List D} {d : D} (hd : okD d = false) : depsOk (xs ++ [d]) = false := by
  rcases hb : depsOk (xs ++ [d]) with _ | _
  · rfl
  · have := (ok_iff.1 hb).of_snoc.2.1; rw [hd] at this; cases this
theorem snoc_order {xs : List D} {d : D} (hl : ¬ lastK xs < d.k) (h0 : 0 ≤ d.k) : depsOk (xs ++ [d]) = false := by
  rcases hb : depsOk (xs ++ [d]) with _ | _
  · rfl
  · have hk := (ok_iff.1 hb).of_snoc.2.2
    rcases eq_nil_or_snoc xs with rfl | ⟨ys, e, rfl⟩
    · rw [lastK_nil] at hl; omega
    · rw [lastK_snoc] at hl; have := hk e (by simp); omega
theorem prefix_bad {xs : List D} {k : Nat} (h : depsOk (xs.take k) = false) : depsOk xs = false := by
  rcases hb : depsOk xs with _ | _
  · rfl
  · have hb := ok_iff.1 hb
    have : Ok (xs.take k) := ⟨hb.1.sublist (List.take_sublist _ _), fun d hd => hb.2 d (List.mem_of_mem_take hd)⟩
    rw [ok_iff.2 this] at h; cases h
theorem takeD (xs : List D) (k : Nat) (h : k < xs.length) : xs.take (k + 1) = xs.take k ++ [xs[k]] := by rw [List.take_succ_eq_append_getElem h]
theorem lastK_take (xs : List D) (k : Nat) (h : k < xs.length) : lastK (xs.take (k + 1)) = xs[k].k := by rw [takeD xs k h, lastK_snoc]

/-- A table: for each key the stamp that is there. -/
abbrev Tbl := Int → Option Int
/-- Deps as a table. -/
def tab (xs : List D) : Tbl := fun k => (xs.find? fun d => d.k == k).map codeD
theorem tab_nil (k : Int) : tab [] k = none := rfl
theorem tab_snoc {xs : List D} {d : D} (hl : ∀ e ∈ xs, e.k < d.k) (k : Int) : tab (xs ++ [d]) k = if d.k = k then some (codeD d) else tab xs k := by
  unfold tab
  rw [List.find?_append]
  by_cases h : d.k = k
  · have : xs.find? (fun d => d.k == k) = none := by
      rw [List.find?_eq_none]; intro e he; have := hl e he; simp; omega
    rw [this]; simp [h]
  · simp [h]
theorem tab_cons {x : D} {xs : List D} (k : Int) : tab (x :: xs) k = if x.k = k then some (codeD x) else tab xs k := by
  unfold tab
  rw [List.find?_cons]
  by_cases h : x.k = k
  · simp [h]
  · have : (x.k == k) = false := by simpa using h
    rw [this, if_neg h]
theorem tab_none {xs : List D} {k : Int} (h : ∀ e ∈ xs, e.k ≠ k) : tab xs k = none := by
  unfold tab
  have : xs.find? (fun d => d.k == k) = none := by rw [List.find?_eq_none]; intro e he; simpa using h e he
  rw [this]; rfl
theorem tab_some {xs : List D} {k c : Int} (h : tab xs k = some c) : ∃ d ∈ xs, d.k = k ∧ codeD d = c := by
  unfold tab at h
  rcases hf : xs.find? (fun d => d.k == k) with _ | d
  · rw [hf] at h; cases h
  · rw [hf] at h
    exact ⟨d, List.mem_of_find?_eq_some hf, by simpa using List.find?_some hf, by simpa using h⟩
/-- In deps that are ok each is what the table tells. -/
theorem tab_mem {xs : List D} (h : Ok xs) : ∀ {d : D}, d ∈ xs → tab xs d.k = some (codeD d) := by
  induction xs with
  | nil => intro d hd; cases hd
  | cons x xs ih =>
    intro d hd
    have hp := List.pairwise_cons.1 h.1
    rw [tab_cons]
    rcases List.mem_cons.1 hd with rfl | hd
    · rw [if_pos rfl]
    · rw [if_neg (by have := hp.1 d hd; omega)]
      exact ih ⟨hp.2, fun e he => h.2 e (List.mem_cons_of_mem _ he)⟩ hd

/-- What a table tells, by key, from a key on. -/
def lstFrom (f : Tbl) (i : Int) : Nat → List D
  | 0 => []
  | n + 1 => match f i with
    | none => lstFrom f (i + 1) n
    | some c => ⟨i, c / 4, c % 4⟩ :: lstFrom f (i + 1) n
/-- What a table tells. -/
def lst (f : Tbl) : List D := lstFrom f 0 6
/-- One more. -/
def oneOf (f : Tbl) (k : Int) : List D := match f k with | none => [] | some c => [⟨k, c / 4, c % 4⟩]
theorem lstFrom_snoc (f : Tbl) (n : Nat) : ∀ i, lstFrom f i (n + 1) = lstFrom f i n ++ oneOf f (i + n) := by
  induction n with
  | zero => intro i; simp only [lstFrom, oneOf, Int.ofNat_zero, Int.add_zero, List.nil_append]
  | succ n ih =>
    intro i
    rw [lstFrom, ih (i + 1)]
    conv => rhs; rw [lstFrom]
    rw [show i + 1 + (n : Int) = i + ((n + 1 : Nat) : Int) by omega]
    split <;> simp
theorem lstFrom_len (f : Tbl) (n : Nat) : ∀ i, (lstFrom f i n).length ≤ n := by
  induction n with
  | zero => intro i; simp [lstFrom]
  | succ n ih => intro i; rw [lstFrom]; have := ih (i + 1); split <;> simp <;> omega
theorem lst_len (f : Tbl) : (lst f).length ≤ 6 := lstFrom_len f 6 0
theorem lstFrom_mem (f : Tbl) (n : Nat) : ∀ i, ∀ d ∈ lstFrom f i n, i ≤ d.k ∧ d.k < i + n ∧ ∃ c, f d.k = some c ∧ d = ⟨d.k, c / 4, c % 4⟩ := by
  induction n with
  | zero => intro i d hd; cases hd
  | succ n ih =>
    intro i d hd
    rw [lstFrom] at hd
    split at hd
    · have := ih (i + 1) d hd
      exact ⟨by omega, by omega, this.2.2⟩
    · rename_i c hc
      rcases List.mem_cons.1 hd with rfl | hd
      · exact ⟨by simp, by simp; omega, c, hc, rfl⟩
      · have := ih (i + 1) d hd
        exact ⟨by omega, by omega, this.2.2⟩
theorem lstFrom_sorted (f : Tbl) (n : Nat) : ∀ i, (lstFrom f i n).Pairwise (fun a b => a.k < b.k) := by
  induction n with
  | zero => intro i; exact .nil
  | succ n ih =>
    intro i
    rw [lstFrom]
    split
    · exact ih _
    · refine List.pairwise_cons.2 ⟨fun e he => ?_, ih _⟩
      have := lstFrom_mem f n (i + 1) e he
      simp; omega
theorem lstFrom_tab (f : Tbl) (n : Nat) : ∀ i k, tab (lstFrom f i n) k = if i ≤ k ∧ k < i + n then f k else none := by
  induction n with
  | zero => intro i k; rw [lstFrom, tab_nil, if_neg (by omega)]
  | succ n ih =>
    intro i k
    rw [lstFrom]
    split
    · rename_i hn
      rw [ih (i + 1) k]
      by_cases h : k = i
      · subst h; rw [if_neg (by omega), if_pos (by omega), hn]
      · by_cases h2 : i ≤ k ∧ k < i + (n + 1 : Nat)
        · rw [if_pos (by omega), if_pos h2]
        · rw [if_neg (by omega), if_neg h2]
    · rename_i c hc
      rw [tab_cons, ih (i + 1) k]
      by_cases h : i = k
      · subst h; rw [if_pos rfl, if_pos (by omega), hc]; simp [codeD]; omega
      · rw [if_neg h]
        by_cases h2 : i ≤ k ∧ k < i + (n + 1 : Nat)
        · rw [if_pos (by omega), if_pos h2]
        · rw [if_neg (by omega), if_neg h2]
theorem lst_tab (f : Tbl) (k : Int) (h0 : 0 ≤ k) (h5 : k ≤ 5) : tab (lst f) k = f k := by
  unfold lst; rw [lstFrom_tab, if_pos (by omega)]
theorem lstFrom_eq (n : Nat) : ∀ (i : Int) (xs : List D) (f : Tbl), Ok xs → (∀ d ∈ xs, i ≤ d.k ∧ d.k < i + n) → (∀ k, i ≤ k → k < i + n → f k = tab xs k) → lstFrom f i n = xs := by
  induction n with
  | zero =>
    intro i xs f _ h _
    cases xs with
    | nil => rfl
    | cons d xs => have := h d (by simp); omega
  | succ n ih =>
    intro i xs f hok h hf
    rw [lstFrom, hf i (by omega) (by omega)]
    cases xs with
    | nil =>
      rw [tab_nil]
      exact ih (i + 1) [] f Ok.nil (fun d hd => by cases hd) (fun k h1 h2 => hf k (by omega) (by omega))
    | cons d xs =>
      have hp := List.pairwise_cons.1 hok.1
      have hd := h d (by simp)
      have hk := okD_bounds (hok.2 d (by simp))
      rw [tab_cons]
      by_cases e : d.k = i
      · rw [if_pos e]
        have e1 : D.mk i (codeD d / 4) (codeD d % 4) = d := D.ext' e.symm (by simp only [codeD]; omega) (by simp only [codeD]; omega)
        rw [show (match some (codeD d) with | none => lstFrom f (i + 1) n | some c => D.mk i (c / 4) (c % 4) :: lstFrom f (i + 1) n) = D.mk i (codeD d / 4) (codeD d % 4) :: lstFrom f (i + 1) n from rfl, e1]
        congr 1
        refine ih (i + 1) xs f ⟨hp.2, fun e he => hok.2 e (List.mem_cons_of_mem _ he)⟩ (fun e' he => ?_) (fun k h1 h2 => ?_)
        · have := hp.1 e' he; have := h e' (List.mem_cons_of_mem _ he); omega
        · rw [hf k (by omega) (by omega), tab_cons, if_neg (by omega)]
      · rw [if_neg e, tab_none (fun e' he => by have := hp.1 e' he; omega)]
        refine ih (i + 1) (d :: xs) f hok (fun e' he => ?_) (fun k h1 h2 => hf k (by omega) (by omega))
        have h2 := h e' he
        rcases List.mem_cons.1 he with rfl | he
        · omega
        · have := hp.1 e' he; omega
/-- Deps that are ok are what their table tells. -/
theorem lst_of {xs : List D} (h : Ok xs) {f : Tbl} (hf : ∀ k, 0 ≤ k → k ≤ 5 → f k = tab xs k) : lst f = xs :=
  lstFrom_eq 6 0 xs f h (fun d hd => by have := okD_bounds (h.2 d hd); omega) (fun k h1 h2 => hf k h1 (by omega))
theorem lst_congr {f g : Tbl} (h : ∀ k, 0 ≤ k → k ≤ 5 → f k = g k) : lst f = lst g := by
  have : ∀ (n : Nat) (i : Int), 0 ≤ i → i + n ≤ 6 → lstFrom f i n = lstFrom g i n := by
    intro n
    induction n with
    | zero => intro i _ _; rfl
    | succ n ih => intro i h0 h1; rw [lstFrom, lstFrom, h i h0 (by omega), ih (i + 1) (by omega) (by omega)]
  exact this 6 0 (by omega) (by omega)

/-- A table of stamps that are ok. -/
def Good (f : Tbl) : Prop := ∀ k c, f k = some c → 4 ≤ c ∧ c ≤ 39999
theorem good_tab {xs : List D} (h : Ok xs) : Good (tab xs) := by
  intro k c hc
  obtain ⟨d, hd, _, rfl⟩ := tab_some hc
  have := okD_bounds (h.2 d hd)
  simp only [codeD]; omega
theorem lst_ok {f : Tbl} (h : Good f) : Ok (lst f) := by
  refine ⟨lstFrom_sorted f 6 0, fun d hd => ?_⟩
  obtain ⟨h0, h1, c, hc, e⟩ := lstFrom_mem f 6 0 d hd
  have := h _ _ hc
  generalize d.k = k at *
  subst e
  simp [okD, okB, inB]; omega

/-- The later one of two. -/
def omax : Option Int → Option Int → Option Int
  | none, b => b
  | some x, none => some x
  | some x, some y => some (if x < y then y else x)
theorem omax_none (a : Option Int) : omax a none = a := by cases a <;> rfl
theorem omax_self (a : Option Int) : omax a a = a := by cases a <;> simp [omax]
theorem omax_comm (a b : Option Int) : omax a b = omax b a := by
  cases a <;> cases b <;> simp [omax]; split <;> split <;> omega
theorem omax_assoc (a b c : Option Int) : omax (omax a b) c = omax a (omax b c) := by
  cases a <;> cases b <;> cases c <;> simp only [omax]
  congr 1; repeat' split
  all_goals omega
theorem omax_absorb (a b : Option Int) : omax (omax a b) a = omax a b := by rw [omax_comm, ← omax_assoc, omax_self]
theorem omax_absorb' (a b : Option Int) : omax (omax a b) b = omax a b := by rw [omax_assoc, omax_self]

/-- A table with a dep, if it is newer. -/
def withT (f : Tbl) (d : D) : Tbl := fun k => if d.k = k then omax (f k) (some (codeD d)) else f k
/-- Two tables as one. -/
def joinT (f g : Tbl) : Tbl := fun k => omax (f k) (g k)
theorem good_with {f : Tbl} (h : Good f) {d : D} (hd : okD d = true) : Good (withT f d) := by
  intro k c hc
  have hb := okD_bounds hd
  have hcd : 4 ≤ codeD d ∧ codeD d ≤ 39999 := by simp only [codeD]; omega
  unfold withT at hc
  split at hc
  · rcases hf : f k with _ | x
    · rw [hf] at hc; simp [omax] at hc; omega
    · rw [hf] at hc; have := h k x hf; simp [omax] at hc; split at hc <;> omega
  · exact h k c hc
theorem good_join {f g : Tbl} (h : Good f) (h' : Good g) : Good (joinT f g) := by
  intro k c hc
  unfold joinT at hc
  rcases hf : f k with _ | x
  · rw [hf] at hc; exact h' k c hc
  · rcases hg : g k with _ | y
    · rw [hf, hg] at hc; simp [omax] at hc; have := h k x hf; omega
    · rw [hf, hg] at hc; simp [omax] at hc; have := h k x hf; have := h' k y hg; split at hc <;> omega

/-- Deps with one more. -/
def putL (xs : List D) (d : D) : List D := if depsOk xs = true ∧ okD d = true then lst (withT (tab xs) d) else []
theorem putL_yes {xs : List D} {d : D} (h : depsOk xs = true) (hd : okD d = true) : putL xs d = lst (withT (tab xs) d) := if_pos ⟨h, hd⟩
theorem putL_no {xs : List D} {d : D} (h : depsOk xs = false ∨ okD d = false) : putL xs d = [] := if_neg (by rintro ⟨a, b⟩; rcases h with h | h <;> simp_all)
/-- Deps with others. -/
def joinL (xs ys : List D) : List D := if depsOk xs = true ∧ depsOk ys = true then lst (joinT (tab xs) (tab ys)) else []
theorem joinL_yes {xs ys : List D} (h : depsOk xs = true) (hd : depsOk ys = true) : joinL xs ys = lst (joinT (tab xs) (tab ys)) := if_pos ⟨h, hd⟩
theorem joinL_no {xs ys : List D} (h : depsOk xs = false ∨ depsOk ys = false) : joinL xs ys = [] := if_neg (by rintro ⟨a, b⟩; rcases h with h | h <;> simp_all)
theorem putL_len (xs : List D) (d : D) : (putL xs d).length ≤ 6 := by unfold putL; split; exact lst_len _; simp
theorem joinL_len (xs ys : List D) : (joinL xs ys).length ≤ 6 := by unfold joinL; split; exact lst_len _; simp
theorem putL_ok (xs : List D) (d : D) : depsOk (putL xs d) = true := by
  unfold putL; split
  · rename_i h; exact ok_iff.2 (lst_ok (good_with (good_tab (ok_iff.1 h.1)) h.2))
  · exact ok_nil
theorem joinL_ok (xs ys : List D) : depsOk (joinL xs ys) = true := by
  unfold joinL; split
  · rename_i h; exact ok_iff.2 (lst_ok (good_join (good_tab (ok_iff.1 h.1)) (good_tab (ok_iff.1 h.2))))
  · exact ok_nil
end Go.Proofs.YtpjidogilofppaaGreat

/- Whether a stamp is ok. -/
namespace Go.Proofs.YtpjidogilofppaaGreat
open Go.ChangeShapes Go.WideShapes Go.ChangeAt Go.RowKit

theorem iOk_any (t s : Int) (w : World) : Calls Tryz.prog 206 #[stampV t s] w fun e w' => e = .returned (.bool (okB t s)) ∧ Below w.heap.size w w' := by
  by_cases h1 : 1 ≤ t
  · by_cases h2 : t ≤ 9999
    · have e : okB t s = decide (0 ≤ sideOf s) := by rw [side_ok]; unfold okB; rw [decide_eq_decide]; omega
      have d1 : decide (1 ≤ t) = true := by simpa using h1
      have d2 : decide (t ≤ 9999) = true := by simpa using h2
      rw [e]
      clear e
      go_enter Tryz.func206, Tryz.ntmps206
      go_wp2_with (first | (go_at_call 187; refine (iSide_any _ _).mono ?_; rintro e w' ⟨rfl, rfl⟩))
      go_ret
      exact ⟨rfl, (Below.refl _ _).alloc (Nat.le_refl _) _⟩
    · have e : okB t s = false := by unfold okB; simp; omega
      have d1 : decide (1 ≤ t) = true := by simpa using h1
      have d2 : decide (t ≤ 9999) = false := by simpa using h2
      rw [e]
      clear e
      go_enter Tryz.func206, Tryz.ntmps206
      go_wp2
      go_ret
      exact ⟨rfl, (Below.refl _ _).alloc (Nat.le_refl _) _⟩
  · have e : okB t s = false := by unfold okB; simp; omega
    have d1 : decide (1 ≤ t) = false := by simpa using h1
    rw [e]
    clear e
    go_enter Tryz.func206, Tryz.ntmps206
    go_wp2
    go_ret
    exact ⟨rfl, (Below.refl _ _).alloc (Nat.le_refl _) _⟩

theorem in_any (n lo hi : Int) (w : World) : Calls Tryz.prog 60 #[.int .i64 n, .int .i64 lo, .int .i64 hi] w fun e w' => e = .returned (.bool (inB n lo hi)) ∧ w' = w := by
  by_cases h1 : lo ≤ n
  · have d1 : decide (lo ≤ n) = true := by simpa using h1
    have e : inB n lo hi = decide (n ≤ hi) := by unfold inB; rw [decide_eq_decide]; omega
    rw [e]
    clear e
    go_enter Tryz.func60, Tryz.ntmps60
    go_wp2
    go_ret
    exact ⟨rfl, rfl⟩
  · have d1 : decide (lo ≤ n) = false := by simpa using h1
    have e : inB n lo hi = false := by unfold inB; simp; omega
    rw [e]
    clear e
    go_enter Tryz.func60, Tryz.ntmps60
    go_wp2
    go_ret
    exact ⟨rfl, rfl⟩

theorem site_any (n : Int) (w : World) : Calls Tryz.prog 112 #[.int .i64 n] w fun e w' => e = .returned (.bool (inB n 0 3)) ∧ w' = w := by
  go_enter Tryz.func112, Tryz.ntmps112
  go_wp2_with (first | (go_at_call 60; refine (in_any _ _ _ _).mono ?_; rintro e w' ⟨rfl, rfl⟩))
  go_ret
  exact ⟨rfl, rfl⟩
theorem sOk_any (t s : Int) (w : World) : Calls Tryz.prog 103 #[stampV t s] w fun e w' => e = .returned (.bool (okB t s)) ∧ Below w.heap.size w w' := by
  by_cases h : 1 ≤ t ∧ t ≤ 9999
  · have d1 : inB t 1 9999 = true := by unfold inB; simpa using h
    have e : okB t s = inB s 0 3 := by unfold okB inB; rw [decide_eq_decide]; omega
    rw [e]
    clear e h
    go_enter Tryz.func103, Tryz.ntmps103
    go_wp2_with (first | (go_at_call 60; refine (in_any _ _ _ _).mono ?_; rintro e w' ⟨rfl, rfl⟩) | (go_at_call 112; refine (site_any _ _).mono ?_; rintro e w' ⟨rfl, rfl⟩))
    go_ret
    exact ⟨rfl, (Below.refl _ _).alloc (Nat.le_refl _) _⟩
  · have d1 : inB t 1 9999 = false := by unfold inB; simp; omega
    have e : okB t s = false := by unfold okB; simp; omega
    rw [e]
    clear e h
    go_enter Tryz.func103, Tryz.ntmps103
    go_wp2_with (first | (go_at_call 60; refine (in_any _ _ _ _).mono ?_; rintro e w' ⟨rfl, rfl⟩) | (go_at_call 112; refine (site_any _ _).mono ?_; rintro e w' ⟨rfl, rfl⟩))
    go_ret
    exact ⟨rfl, (Below.refl _ _).alloc (Nat.le_refl _) _⟩

end Go.Proofs.YtpjidogilofppaaGreat

/- Stamps as one number each. -/
namespace Go.Proofs.YtpjidogilofppaaGreat
open Go.ChangeShapes Go.WideShapes Go.ChangeAt Go.RowKit

theorem code_any (t s : Int) (w : World) (h : 0 ≤ t ∧ t ≤ 100000 ∧ -10 ≤ s ∧ s ≤ 100000) : Calls Tryz.prog 273 #[stampV t s] w fun e w' => e = .returned (.int .i64 (t * 4 + s)) ∧ Below w.heap.size w w' := by
  obtain ⟨h1, h2, h3, h4⟩ := h
  go_enter Tryz.func273, Tryz.ntmps273
  go_wp2
  go_ret
  exact ⟨rfl, (Below.refl _ _).alloc (Nat.le_refl _) _⟩
theorem time_any (c : Int) (w : World) (h1 : 0 ≤ c) (h2 : c ≤ 1000000) : Calls Tryz.prog 340 #[.int .i64 c] w fun e w' => e = .returned (.int .i64 (c / 4)) ∧ w' = w := by
  go_enter Tryz.func340, Tryz.ntmps340
  go_wp2
  go_ret
  exact ⟨rfl, rfl⟩
theorem csite_any (c : Int) (w : World) (h1 : 0 ≤ c) (h2 : c ≤ 1000000) : Calls Tryz.prog 341 #[.int .i64 c] w fun e w' => e = .returned (.int .i64 (c % 4)) ∧ w' = w := by
  go_enter Tryz.func341, Tryz.ntmps341
  go_wp2
  go_ret
  exact ⟨rfl, rfl⟩
theorem stamp_any (c : Int) (w : World) (h1 : 0 ≤ c) (h2 : c ≤ 1000000) : Calls Tryz.prog 338 #[.int .i64 c] w fun e w' => e = .returned (stampV (c / 4) (c % 4)) ∧ Below w.heap.size w w' := by
  go_enter Tryz.func338, Tryz.ntmps338
  go_wp2_with (first | (go_at_call 340; refine (time_any _ _ h1 h2).mono ?_; rintro e w' ⟨rfl, rfl⟩) | (go_at_call 341; refine (csite_any _ _ h1 h2).mono ?_; rintro e w' ⟨rfl, rfl⟩))
  refine bodyPost_ret (v := stampV (c / 4) (c % 4)) (by simp [results, Tryz.results338, go_sem]) rfl ⟨rfl, ?_⟩
  exact (Below.refl _ _).alloc (Nat.le_refl _) _

theorem iKey_any (n : Int) (w : World) : Calls Tryz.prog 222 #[.int .i64 n] w fun e w' => e = .returned (.bool (inB n 0 5)) ∧ w' = w := by
  by_cases h1 : 0 ≤ n
  · have d1 : decide (0 ≤ n) = true := by simpa using h1
    have e : inB n 0 5 = decide (n < 6) := by unfold inB; rw [decide_eq_decide]; omega
    rw [e]
    clear e
    go_enter Tryz.func222, Tryz.ntmps222
    go_wp2
    go_ret
    exact ⟨rfl, rfl⟩
  · have d1 : decide (0 ≤ n) = false := by simpa using h1
    have e : inB n 0 5 = false := by unfold inB; simp; omega
    rw [e]
    clear e
    go_enter Tryz.func222, Tryz.ntmps222
    go_wp2
    go_ret
    exact ⟨rfl, rfl⟩
theorem sKey_any (n : Int) (w : World) : Calls Tryz.prog 141 #[.int .i64 n] w fun e w' => e = .returned (.bool (inB n 0 5)) ∧ w' = w := by
  go_enter Tryz.func141, Tryz.ntmps141
  go_wp2_with (first | (go_at_call 60; refine (in_any _ _ _ _).mono ?_; rintro e w' ⟨rfl, rfl⟩))
  go_ret
  exact ⟨rfl, rfl⟩
theorem iSlot_any (n : Int) (w : World) : Calls Tryz.prog 201 #[.int .i64 n] w fun e w' => e = .returned (.int .i64 (if inB n 0 5 = true then n * 3 / 6 else -1)) ∧ w' = w := by
  rcases h : inB n 0 5 with _ | _
  · rw [if_neg Bool.false_ne_true]
    go_enter Tryz.func201, Tryz.ntmps201
    go_wp2_with (first | (go_at_call 222; refine (iKey_any _ _).mono ?_; rintro e w' ⟨rfl, rfl⟩))
    go_ret
    exact ⟨rfl, rfl⟩
  · rw [if_pos rfl]
    obtain ⟨h0, h5⟩ : 0 ≤ n ∧ n ≤ 5 := by simpa [inB] using h
    go_enter Tryz.func201, Tryz.ntmps201
    go_wp2_with (first | (go_at_call 222; refine (iKey_any _ _).mono ?_; rintro e w' ⟨rfl, rfl⟩))
    go_ret
    exact ⟨rfl, rfl⟩
theorem sSlot_any (n : Int) (w : World) : Calls Tryz.prog 80 #[.int .i64 n] w fun e w' => e = .returned (.int .i64 (if inB n 0 5 = true then n * 3 / 6 else -1)) ∧ w' = w := by
  rcases h : inB n 0 5 with _ | _
  · rw [if_neg Bool.false_ne_true]
    go_enter Tryz.func80, Tryz.ntmps80
    go_wp2_with (first | (go_at_call 141; refine (sKey_any _ _).mono ?_; rintro e w' ⟨rfl, rfl⟩))
    go_ret
    exact ⟨rfl, rfl⟩
  · rw [if_pos rfl]
    obtain ⟨h0, h5⟩ : 0 ≤ n ∧ n ≤ 5 := by simpa [inB] using h
    go_enter Tryz.func80, Tryz.ntmps80
    go_wp2_with (first | (go_at_call 141; refine (sKey_any _ _).mono ?_; rintro e w' ⟨rfl, rfl⟩))
    go_ret
    exact ⟨rfl, rfl⟩
end Go.Proofs.YtpjidogilofppaaGreat

/- The slot of a key. -/
namespace Go.Proofs.YtpjidogilofppaaGreat
open Go.ChangeShapes Go.WideShapes Go.ChangeAt Go.RowKit

/-- The slot of a key. -/
def slotOf (n : Int) : Int := if inB n 0 5 = true then n * 3 / 6 else -1
theorem slot_is {n r : Int} (h : slotOf n = r) (w : World) : Calls Tryz.prog 201 #[.int .i64 n] w fun e w' => e = .returned (.int .i64 r) ∧ w' = w := by rw [← h]; exact iSlot_any n w
theorem sslot_is {n r : Int} (h : slotOf n = r) (w : World) : Calls Tryz.prog 80 #[.int .i64 n] w fun e w' => e = .returned (.int .i64 r) ∧ w' = w := by rw [← h]; exact sSlot_any n w
end Go.Proofs.YtpjidogilofppaaGreat

/- Plain facts: a dep is put among deps, one by one. -/
namespace Go.Proofs.YtpjidogilofppaaGreat
open Go.ChangeShapes Go.WideShapes Go.ChangeAt Go.RowKit

theorem Ok.len {xs : List D} (h : Ok xs) : xs.length ≤ 6 := by
  rw [← lst_of h (f := tab xs) (fun _ _ _ => rfl)]; exact lst_len _
theorem Ok.take {xs : List D} (h : Ok xs) (k : Nat) : Ok (xs.take k) := ⟨h.1.sublist (List.take_sublist _ _), fun d hd => h.2 d (List.mem_of_mem_take hd)⟩
/-- All keys ahead of a place are less than the one there. -/
theorem Ok.ahead {xs : List D} (h : Ok xs) {k : Nat} (hk : k < xs.length) : ∀ e ∈ xs.take k, e.k < xs[k].k := by
  have := h.take (k + 1)
  rw [takeD xs k hk] at this
  exact this.of_snoc.2.2

/-- Deps that are ok, and what their table tells. -/
def Rep (o : List D) (g : Tbl) : Prop := Ok o ∧ ∀ k, tab o k = g k
theorem Rep.eq {o : List D} {g : Tbl} (h : Rep o g) : o = lst g := (lst_of h.1 (fun k _ _ => (h.2 k).symm)).symm
theorem Rep.snoc {o : List D} {g : Tbl} (h : Rep o g) {y : D} (hy : okD y = true) (hl : ∀ e ∈ o, e.k < y.k) : Rep (o ++ [y]) (fun k => if y.k = k then some (codeD y) else g k) :=
  ⟨h.1.snoc hy hl, fun k => by rw [tab_snoc hl, h.2]⟩
theorem Rep.congr {o : List D} {g g' : Tbl} (h : Rep o g) (e : ∀ k, g k = g' k) : Rep o g' := ⟨h.1, fun k => (h.2 k).trans (e k)⟩
/-- Keys of what a table tells. -/
theorem Rep.keys {o : List D} {p : List D} {d : D} (h : Rep o (withT (tab p) d)) : ∀ e ∈ o, e.k = d.k ∨ ∃ x ∈ p, x.k = e.k := by
  intro e he
  have h1 := tab_mem h.1 he
  rw [h.2] at h1
  unfold withT at h1
  split at h1
  · rename_i h2; exact .inl h2.symm
  · obtain ⟨x, hx, hk, _⟩ := tab_some h1; exact .inr ⟨x, hx, hk⟩

/-- How far a dep has been put: what is out, whether it is done, and what counts. -/
def PutSt (xs : List D) (d : D) (k : Nat) (done : Bool) (o : List D) (c : D) : Prop :=
  (done = false ∧ c = d ∧ o = xs.take k ∧ ∀ e ∈ xs.take k, e.k < d.k) ∨ (done = true ∧ c.k = d.k ∧ Rep o (withT (tab (xs.take k)) d) ∧ ∃ e ∈ xs.take k, d.k ≤ e.k)
theorem PutSt.start (xs : List D) (d : D) : PutSt xs d 0 false [] d := .inl ⟨rfl, rfl, rfl, fun _ h => by simp at h⟩
theorem PutSt.len {xs : List D} {d : D} {k : Nat} {done : Bool} {o : List D} {c : D} (hx : Ok xs) (h : PutSt xs d k done o c) : o.length ≤ 6 := by
  rcases h with ⟨_, _, rfl, _⟩ | ⟨_, _, h, _⟩
  · exact (hx.take k).len
  · exact h.1.len
variable {xs : List D} {d : D} {k : Nat} {o : List D} {c : D}
theorem PutSt.below (hk : k < xs.length) (h : PutSt xs d k false o c) (hl : xs[k].k < d.k) : PutSt xs d (k + 1) false (o ++ [xs[k]]) c := by
  rcases h with ⟨_, rfl, rfl, h⟩ | ⟨h, _⟩
  · refine .inl ⟨rfl, rfl, (takeD xs k hk).symm, fun e he => ?_⟩
    rw [takeD xs k hk] at he
    rcases List.mem_append.1 he with he | he
    · exact h e he
    · simp at he; subst he; exact hl
  · cases h
theorem code_less {a b : D} (ha : okD a = true) (hb : okD b = true) : lessB a.t a.s b.t b.s = decide (codeD a < codeD b) := by
  have := okD_bounds ha
  have := okD_bounds hb
  unfold lessB; rw [decide_eq_decide]; simp only [codeD]; omega
theorem PutSt.same (hx : Ok xs) (hd : okD d = true) (hk : k < xs.length) (h : PutSt xs d k false o c) (he : xs[k].k = d.k) (n : D) (hn : n = if lessB d.t d.s xs[k].t xs[k].s = true then xs[k] else d) : PutSt xs d (k + 1) true (o ++ [n]) n := by
  have hy := hx.2 xs[k] (List.getElem_mem hk)
  rcases h with ⟨_, rfl, rfl, h⟩ | ⟨h, _⟩
  · have hnk : n.k = c.k := by rw [hn]; split; exact he; rfl
    have hno : okD n = true := by rw [hn]; split; exact hy; exact hd
    have hnc : codeD n = if codeD c < codeD xs[k] then codeD xs[k] else codeD c := by
      rw [hn, code_less hd hy]; split <;> split <;> simp_all
    refine .inr ⟨rfl, hnk, (Rep.snoc (g := tab (xs.take k)) ⟨hx.take k, fun _ => rfl⟩ hno (fun e h' => by rw [hnk]; exact h e h')).congr fun i => ?_, xs[k], by rw [takeD xs k hk]; exact List.mem_append_right _ (List.mem_singleton.2 rfl), by omega⟩
    unfold withT
    rw [takeD xs k hk, tab_snoc (fun e h' => by rw [he]; exact h e h')]
    by_cases hi : c.k = i
    · rw [if_pos (by omega), if_pos hi, if_pos (by omega), hnc]
      simp only [omax]
      congr 1
      split <;> split <;> omega
    · rw [if_neg (by omega), if_neg hi, if_neg (by omega)]
  · cases h
theorem PutSt.above (hx : Ok xs) (hd : okD d = true) (hk : k < xs.length) (h : PutSt xs d k false o c) (hl : d.k < xs[k].k) : PutSt xs d (k + 1) true (o ++ [d] ++ [xs[k]]) c := by
  have hy := hx.2 xs[k] (List.getElem_mem hk)
  rcases h with ⟨_, rfl, rfl, h⟩ | ⟨h, _⟩
  · refine .inr ⟨rfl, rfl, ((Rep.snoc (g := tab (xs.take k)) ⟨hx.take k, fun _ => rfl⟩ hd h).snoc hy (fun e he => ?_)).congr fun i => ?_, xs[k], by rw [takeD xs k hk]; exact List.mem_append_right _ (List.mem_singleton.2 rfl), by omega⟩
    · rcases List.mem_append.1 he with he | he
      · have := h e he; omega
      · simp at he; subst he; exact hl
    · unfold withT
      rw [takeD xs k hk, tab_snoc (fun e h' => by have := h e h'; omega)]
      by_cases hi : c.k = i
      · have hno : tab (xs.take k) i = none := tab_none fun e h' => by have := h e h'; omega
        rw [if_neg (by omega), if_pos hi, if_pos hi, if_neg (by omega), hno]; rfl
      · rw [if_neg hi, if_neg hi]
  · cases h
theorem PutSt.past (hx : Ok xs) (hk : k < xs.length) (h : PutSt xs d k true o c) : c.k < xs[k].k ∧ PutSt xs d (k + 1) true (o ++ [xs[k]]) c := by
  have hy := hx.2 xs[k] (List.getElem_mem hk)
  have ha := hx.ahead hk
  rcases h with ⟨h, _⟩ | ⟨_, hc, h, e, he, hle⟩
  · cases h
  · have := ha e he
    refine ⟨by omega, .inr ⟨rfl, hc, (h.snoc hy (fun x hx' => ?_)).congr fun i => ?_, e, by rw [takeD xs k hk]; exact List.mem_append_left _ he, hle⟩⟩
    · rcases h.keys x hx' with h' | ⟨z, hz, h'⟩
      · omega
      · have := ha z hz; omega
    · unfold withT
      rw [takeD xs k hk, tab_snoc ha]
      by_cases hi : d.k = i
      · rw [if_neg (by omega), if_pos hi, if_pos hi, if_neg (by omega)]
      · rw [if_neg hi, if_neg hi]
theorem PutSt.done (h : PutSt xs d xs.length true o c) : o = lst (withT (tab xs) d) := by
  rcases h with ⟨h, _⟩ | ⟨_, _, h, _⟩
  · cases h
  · rw [List.take_length] at h; exact h.eq
theorem PutSt.last (hx : Ok xs) (hd : okD d = true) (h : PutSt xs d xs.length false o c) : c = d ∧ o ++ [d] = lst (withT (tab xs) d) := by
  rcases h with ⟨_, hc, rfl, h⟩ | ⟨h, _⟩
  · rw [List.take_length] at h ⊢
    refine ⟨hc, ((Rep.snoc (g := tab xs) ⟨hx, fun _ => rfl⟩ hd h).congr fun i => ?_).eq⟩
    unfold withT
    by_cases hi : d.k = i
    · rw [if_pos hi, if_pos hi, tab_none fun e h' => by have := h e h'; omega]; rfl
    · rw [if_neg hi, if_neg hi]
  · cases h
end Go.Proofs.YtpjidogilofppaaGreat

/- Copies of elements of several cells. -/
namespace Go.Proofs.YtpjidogilofppaaGreat
open Go.ChangeShapes Go.WideShapes Go.ChangeAt Go.RowKit

theorem run_copy_rowk {P : Program} (w : World) (dT sT ty elem : TypeId) (g o dLen dCap : Nat) (a : Addr) (sLen sCap : Nat) (cur : Array Value) (t : TypeId) (cs : List Value) (m k : Nat)
    (hu : P.underlying dT = some (.slice elem)) (hs : (P.info? elem).map (·.size) = some k)
    (hg : w.heap[g]? = some (.cells cur t (0, 0))) (hm : Nat.min sLen dLen = m) (hn : cs.length = m * k)
    (hsrc : ∀ j v, cs[j]? = some v → w.cell? (a.add j) = some v) (hfit : o + cs.length ≤ cur.size) (h1 : ∀ v ∈ cs, v.oneCell' = true) :
    (Builtin.copy_ #[dT, sT] ty #[.slice (some ⟨g, o, none⟩) dLen dCap, .slice (some a) sLen sCap]).run P w =
      .ok (goInt m) (w.setRow g (cur.toList.take o ++ cs ++ cur.toList.drop (o + cs.length)).toArray) := by
  have hl := run_loadCells_list (P := P) w a cs hsrc
  have hst := run_storeCells_at P g o t cs 0 cur w hg (by simpa using hfit) h1
  cases hq : P.info? elem with
  | none => simp [hq] at hs
  | some i =>
    have hi : i.size = k := by simpa [hq] using hs
    rw [hn] at hl
    simp [Builtin.copy_, run_underlying hu, Builtin.lenOf, Builtin.firstCells, sizeOf, typeInfo, hq, hi, hm, hl, hst]

end Go.Proofs.YtpjidogilofppaaGreat

