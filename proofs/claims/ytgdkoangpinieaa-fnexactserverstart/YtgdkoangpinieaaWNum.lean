/- Plain facts on words. -/
import Derived.Test.YtgdkoangpinieaaGAK
namespace Go.Proofs.Ytgdkoangpinieaa
open Go.ChangeShapes Go.WideShapes Go.ChangeAt Go.RowKit

/-- A word: its numbers and its lists. -/
structure Wd where
  kind : Int
  fr : Int
  to : Int
  call : Int
  key : Int
  t : Int
  s : Int
  val : Int
  yes : Bool
  ds : List D
  slot : Int
  ep : Int
  vs : List V
  ws : List V
  os : List D
/-- Where its lists lie. -/
structure Wa where
  da : Option Addr
  dc : Nat
  va : Option Addr
  vc : Nat
  wa : Option Addr
  wc : Nat
  oa : Option Addr
  oc : Nat
abbrev wordC (x : Wd) (a : Wa) : Array Value := #[.int .i64 x.kind, .int .i64 x.fr, .int .i64 x.to, .int .i64 x.call, .int .i64 x.key, .int .i64 x.t, .int .i64 x.s, .int .i64 x.val, .bool x.yes, .slice a.da x.ds.length a.dc, .int .i64 x.slot, .int .i64 x.ep, .slice a.va x.vs.length a.vc, .slice a.wa x.ws.length a.wc, .slice a.oa x.os.length a.oc]
abbrev wordV (x : Wd) (a : Wa) : Value := .agg (wordC x a)
/-- Its lists lie in memory. -/
structure InL (W : World) (x : Wd) (a : Wa) : Prop where
  d : Deps W a.da x.ds
  v : Vers W a.va x.vs
  w : Vers W a.wa x.ws
  o : Deps W a.oa x.os
theorem InL.below {w w' : World} {x : Wd} {a : Wa} (h : InL w x a) (k : Below w.heap.size w w') : InL w' x a := ⟨h.d.below k, h.v.below k, h.w.below k, h.o.below k⟩
/-- Its lists are not too long for a machine. -/
structure LenL (x : Wd) : Prop where
  d : x.ds.length ≤ 1099511627776
  v : x.vs.length ≤ 1099511627776
  w : x.ws.length ≤ 1099511627776
  o : x.os.length ≤ 1099511627776

/-- Whether a number is a place. -/
def placeB (n : Int) : Bool := inB n 0 3 || inB n 10 11
/-- Whether a stamp is ok, or nothing. -/
def stamp0 (t s : Int) : Bool := decide (t = 0 ∧ s = 0) || okB t s
/-- Whether a debt stands ahead of another one. -/
def lessD (a b : D) : Bool := lessV (asV a.k a.t a.s) (asV b.k b.t b.s)
theorem lessD_iff {a b : D} : lessD a b = true ↔ (a.k < b.k ∨ a.k = b.k ∧ (a.t < b.t ∨ a.t = b.t ∧ a.s < b.s)) := lessV_iff
theorem lessD_trans {a b c : D} (h : lessD a b = true) (h' : lessD b c = true) : lessD a c = true := lessV_trans h h'
theorem lessD_key {a b : D} (h : a.k < b.k) : lessD a b = true := by rw [lessD_iff]; omega
theorem lessD_keyno {a b : D} (h : b.k < a.k) : lessD a b = false := by
  cases e : lessD a b
  · rfl
  · rw [lessD_iff] at e; omega
theorem lessD_stamp {a b : D} (h : a.k = b.k) : lessD a b = lessB a.t a.s b.t b.s := lessV_stamp (a := asV a.k a.t a.s) (b := asV b.k b.t b.s) h
def owesP (xs : List D) : Prop := (∀ d ∈ xs, okD d = true) ∧ xs.Pairwise (fun a b => lessD a b = true)
/-- Whether debts are in order. -/
def owesB (xs : List D) : Bool := decide (xs.length ≤ 80) && xs.all okD && decide (xs.Pairwise fun a b => lessD a b = true)
theorem owesB_iff {xs : List D} : owesB xs = true ↔ xs.length ≤ 80 ∧ owesP xs := by unfold owesB owesP; simp [and_assoc]
theorem owesB_long {xs : List D} (h : 80 < xs.length) : owesB xs = false := by unfold owesB; simp; omega
theorem owesB_no {xs : List D} (h : ¬ owesP xs) : owesB xs = false := by
  cases hb : owesB xs
  · rfl
  · exact absurd (owesB_iff.1 hb).2 h
theorem owesB_yes {xs : List D} (hl : xs.length ≤ 80) (h : owesP xs) : owesB xs = true := owesB_iff.2 ⟨hl, h⟩
theorem owesP_nil : owesP [] := ⟨fun _ h => (by cases h), List.Pairwise.nil⟩
theorem owesP_step {xs : List D} {i : Nat} (hi : i < xs.length) (h : owesP (xs.take i)) (hv : okD xs[i] = true) (hl : i = 0 ∨ ∃ h : i - 1 < xs.length, lessD xs[i - 1] xs[i] = true) : owesP (xs.take (i + 1)) := by
  rw [takeV xs i hi]
  have hall : ∀ u ∈ xs.take i, lessD u xs[i] = true := fun u hu => by
    rcases hl with rfl | ⟨h1, hl⟩
    · simp at hu
    · obtain ⟨j, hj, rfl⟩ := List.getElem_of_mem hu
      simp at hj
      simp only [List.getElem_take]
      by_cases e : j = i - 1
      · subst e; exact hl
      · refine lessD_trans ?_ hl
        have := List.pairwise_iff_getElem.1 h.2 j (i - 1) (by simp; omega) (by simp; omega) (by omega)
        simpa using this
  refine ⟨fun u hu => ?_, List.pairwise_append.2 ⟨h.2, List.pairwise_singleton _ _, fun a ha b hb => ?_⟩⟩
  · rcases List.mem_append.1 hu with hu | hu
    · exact h.1 u hu
    · simp at hu; subst hu; exact hv
  · simp at hb; subst hb; exact hall a ha
theorem owesP_bad {xs : List D} {i : Nat} (hi : i < xs.length) (hv : okD xs[i] = false) : ¬ owesP xs := fun h => by
  have := h.1 xs[i] (List.getElem_mem hi); rw [hv] at this; cases this
theorem owesP_order {xs : List D} {i : Nat} (hi : i < xs.length) (h0 : 0 < i) (hl : lessD (xs[i - 1]'(by omega)) xs[i] = false) : ¬ owesP xs := fun h => by
  have := List.pairwise_iff_getElem.1 h.2 (i - 1) i (by omega) hi (by omega); rw [hl] at this; cases this
theorem owesB_nil : owesB [] = true := owesB_yes (by simp) owesP_nil

def numsW (x : Wd) : Bool := inB x.kind 1 10 && inB x.call 0 99 && inB x.key 0 5 && inB x.val 0 9999 && inB x.slot 0 2 && inB x.ep 0 9999
def listsW (x : Wd) : Bool := depsOk x.ds && chainB x.vs && chainB x.ws && owesB x.os
/-- Whether a word is ok. -/
def wordB (x : Wd) : Bool := (placeB x.fr && placeB x.to) && numsW x && stamp0 x.t x.s && listsW x
end Go.Proofs.Ytgdkoangpinieaa
