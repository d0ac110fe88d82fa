/- 2 texts in one: WNum, SvNum. -/
import Derived.Test.YtpjidogilofppaaGreatGAK
import Derived.Test.YtpjidogilofppaaGreatZA
import Derived.Test.YtpjidogilofppaaGreatGAI
/- Plain facts on words. -/
namespace Go.Proofs.YtpjidogilofppaaGreat
open Go.ChangeShapes Go.WideShapes Go.ChangeAt Go.RowKit

/-- A word: its numbers and its lists. -/
structure Wd where
  kind : Int
  fr : Int
  to : Int
  call : Int
  key : Int
  t : Int
  s : Int
  val : Int
  yes : Bool
  ds : List D
  slot : Int
  ep : Int
  vs : List V
  ws : List V
  os : List D
/-- Where its lists lie. -/
structure Wa where
  da : Option Addr
  dc : Nat
  va : Option Addr
  vc : Nat
  wa : Option Addr
  wc : Nat
  oa : Option Addr
  oc : Nat
abbrev wordC (x : Wd) (a : Wa) : Array Value := #[.int .i64 x.kind, .int .i64 x.fr, .int .i64 x.to, .int .i64 x.call, .int .i64 x.key, .int .i64 x.t, .int .i64 x.s, .int .i64 x.val, .bool x.yes, .slice a.da x.ds.length a.dc, .int .i64 x.slot, .int .i64 x.ep, .slice a.va x.vs.length a.vc, .slice a.wa x.ws.length a.wc, .slice a.oa x.os.length a.oc]
abbrev wordV (x : Wd) (a : Wa) : Value := .agg (wordC x a)
/-- Its lists lie in memory. -/
structure InL (W : World) (x : Wd) (a : Wa) : Prop where
  d : Deps W a.da x.ds
  v : Vers W a.va x.vs
  w : Vers W a.wa x.ws
  o : Deps W a.oa x.os
theorem InL.below {w w' : World} {x : Wd} {a : Wa} (h : InL w x a) (k : Below w.heap.size w w') : InL w' x a := ⟨h.d.below k, h.v.below k, h.w.below k, h.o.below k⟩
/-- Its lists are not too long for a machine. -/
structure LenL (x : Wd) : Prop where
  d : x.ds.length ≤ 1099511627776
  v : x.vs.length ≤ 1099511627776
  w : x.ws.length ≤ 1099511627776
  o : x.os.length ≤ 1099511627776

/-- Whether a number is a place. -/
def placeB (n : Int) : Bool := inB n 0 3 || inB n 10 11
/-- Whether a stamp is ok, or nothing. -/
def stamp0 (t s : Int) : Bool := decide (t = 0 ∧ s = 0) || okB t s
/-- Whether a debt stands ahead of another one. -/
def lessD (a b : D) : Bool := lessV (asV a.k a.t a.s) (asV b.k b.t b.s)
theorem lessD_iff {a b : D} : lessD a b = true ↔ (a.k < b.k ∨ a.k = b.k ∧ (a.t < b.t ∨ a.t = b.t ∧ a.s < b.s)) := lessV_iff
theorem lessD_trans {a b c : D} (h : lessD a b = true) (h' : lessD b c = true) : lessD a c = true := lessV_trans h h'
theorem lessD_key {a b : D} (h : a.k < b.k) : lessD a b = true := by rw [lessD_iff]; omega
theorem lessD_keyno {a b : D} (h : b.k < a.k) : lessD a b = false := by
  cases e : lessD a b
  · rfl
  · rw [lessD_iff] at e; omega
theorem lessD_stamp {a b : D} (h : a.k = b.k) : lessD a b = lessB a.t a.s b.t b.s := lessV_stamp (a := asV a.k a.t a.s) (b := asV b.k b.t b.s) h
def owesP (xs : List D) : Prop := (∀ d ∈ xs, okD d = true) ∧ xs.Pairwise (fun a b => lessD a b = true)
/-- Whether debts are in order. -/
def owesB (xs : List D) : Bool := decide (xs.length ≤ 80) && xs.all okD && decide (xs.Pairwise fun a b => lessD a b = true)
theorem owesB_iff {xs : List D} : owesB xs = true ↔ xs.length ≤ 80 ∧ owesP xs := by unfold owesB owesP; simp [and_assoc]
theorem owesB_long {xs : List D} (h : 80 < xs.length) : owesB xs = false := by unfold owesB; simp; omega
theorem owesB_no {xs : List D} (h : ¬ owesP xs) : owesB xs = false := by
  cases hb : owesB xs
  · rfl
  · exact absurd (owesB_iff.1 hb).2 h
theorem owesB_yes {xs : List D} (hl : xs.length ≤ 80) (h : owesP xs) : owesB xs = true := owesB_iff.2 ⟨hl, h⟩
theorem owesP_nil : owesP [] := ⟨fun _ h => (by cases h), List.Pairwise.nil⟩
theorem owesP_step {xs : List D} {i : Nat} (hi : i < xs.length) (h : owesP (xs.take i)) (hv : okD xs[i] = true) (hl : i = 0 ∨ ∃ h : i - 1 < xs.length, lessD xs[i - 1] xs[i] = true) : owesP (xs.take (i + 1)) := by
  rw [takeV xs i hi]
  have hall : ∀ u ∈ xs.take i, lessD u xs[i] = true := fun u hu => by
    rcases hl with rfl | ⟨h1, hl⟩
    · simp at hu
    · obtain ⟨j, hj, rfl⟩ := List.getElem_of_mem hu
      simp at hj
      simp only [List.getElem_take]
      by_cases e : j = i - 1
      · subst e; exact hl
      · refine lessD_trans ?_ hl
        have := List.pairwise_iff_getElem.1 h.2 j (i - 1) (by simp; omega) (by simp; omega) (by omega)
        simpa using this
  refine ⟨fun u hu => ?_, List.pairwise_append.2 ⟨h.2, List.pairwise_singleton _ _, fun a ha b hb => ?_⟩⟩
  · rcases List.mem_append.1 hu with hu | hu
    · exact h.1 u hu
    · simp at hu; subst hu; exact hv
  · simp at hb; subst hb; exact hall a ha
theorem owesP_bad {xs : List D} {i : Nat} (hi : i < xs.length) (hv : okD xs[i] = false) : ¬ owesP xs := fun h => by
  have := h.1 xs[i] (List.getElem_mem hi); rw [hv] at this; cases this
theorem owesP_order {xs : List D} {i : Nat} (hi : i < xs.length) (h0 : 0 < i) (hl : lessD (xs[i - 1]'(by omega)) xs[i] = false) : ¬ owesP xs := fun h => by
  have := List.pairwise_iff_getElem.1 h.2 (i - 1) i (by omega) hi (by omega); rw [hl] at this; cases this
theorem owesB_nil : owesB [] = true := owesB_yes (by simp) owesP_nil

def numsW (x : Wd) : Bool := inB x.kind 1 10 && inB x.call 0 99 && inB x.key 0 5 && inB x.val 0 9999 && inB x.slot 0 2 && inB x.ep 0 9999
def listsW (x : Wd) : Bool := depsOk x.ds && chainB x.vs && chainB x.ws && owesB x.os
/-- Whether a word is ok. -/
def wordB (x : Wd) : Bool := (placeB x.fr && placeB x.to) && numsW x && stamp0 x.t x.s && listsW x
end Go.Proofs.YtpjidogilofppaaGreat

/- Servers: plain facts, and their lists in memory. -/
namespace Go.Proofs.YtpjidogilofppaaGreat
open Go.ChangeShapes Go.WideShapes Go.ChangeAt Go.RowKit

/-- How a slot stands, by which number. -/
structure Sl where
  ep : Int
  st : Int
/-- A server: its numbers and its lists. -/
structure Sv where
  site : Int
  up : Bool
  sl : List Sl
  vs : List V
  ws : List V
  os : List D
  kn : List D
/-- Where its lists lie. -/
structure Sa where
  la : Option Addr
  lc : Nat
  va : Option Addr
  vc : Nat
  wa : Option Addr
  wc : Nat
  oa : Option Addr
  oc : Nat
  ka : Option Addr
  kc : Nat
abbrev servC (x : Sv) (a : Sa) : Array Value := #[.int .i64 x.site, .bool x.up, .slice a.la x.sl.length a.lc, .slice a.va x.vs.length a.vc, .slice a.wa x.ws.length a.wc, .slice a.oa x.os.length a.oc, .slice a.ka x.kn.length a.kc]
abbrev servV (x : Sv) (a : Sa) : Value := .agg (servC x a)
abbrev slotV (s : Sl) : Value := .agg #[.int .i64 s.ep, .int .i64 s.st]
/-- Slots that lie in memory, one behind the other. -/
def Slots (w : World) (a : Option Addr) (xs : List Sl) : Prop :=
  xs = [] ∨ ∃ b o, a = some ⟨b, o, none⟩ ∧ b < w.heap.size ∧ ∀ k, (hk : k < xs.length) → w.cell? ⟨b, o + k * 2, none⟩ = some (.int .i64 xs[k].ep) ∧ w.cell? ⟨b, o + k * 2 + 1, none⟩ = some (.int .i64 xs[k].st)
theorem Slots.below {w w' : World} {a : Option Addr} {xs : List Sl} (h : Slots w a xs) (k : Below w.heap.size w w') : Slots w' a xs := by
  rcases h with h | ⟨b, o, ha, hb, h⟩
  · exact .inl h
  · refine .inr ⟨b, o, ha, Nat.lt_of_lt_of_le hb k.size, fun i hi => ?_⟩
    exact ⟨(k.cell (p := ⟨b, _, none⟩) hb).trans (h i hi).1, (k.cell (p := ⟨b, _, none⟩) hb).trans (h i hi).2⟩
theorem Slots.at {w : World} {a : Option Addr} {xs : List Sl} (h : Slots w a xs) {k : Nat} (hk : k < xs.length) : ∃ b o, a = some ⟨b, o, none⟩ ∧ b < w.heap.size ∧ w.cell? ⟨b, o + k * 2, none⟩ = some (.int .i64 xs[k].ep) ∧ w.cell? ⟨b, o + k * 2 + 1, none⟩ = some (.int .i64 xs[k].st) := by
  rcases h with h | ⟨b, o, ha, hb, h⟩
  · rw [h] at hk; simp at hk
  · exact ⟨b, o, ha, hb, h k hk⟩
/-- Its lists lie in memory. -/
structure InS (W : World) (x : Sv) (a : Sa) : Prop where
  l : Slots W a.la x.sl
  v : Vers W a.va x.vs
  w : Vers W a.wa x.ws
  o : Deps W a.oa x.os
  k : Deps W a.ka x.kn
theorem InS.below {w w' : World} {x : Sv} {a : Sa} (h : InS w x a) (k : Below w.heap.size w w') : InS w' x a := ⟨h.l.below k, h.v.below k, h.w.below k, h.o.below k, h.k.below k⟩
/-- Its lists are not too long for a machine. -/
structure LenS (x : Sv) : Prop where
  l : x.sl.length ≤ 1099511627776
  v : x.vs.length ≤ 1099511627776
  w : x.ws.length ≤ 1099511627776
  o : x.os.length ≤ 1099511627776
  k : x.kn.length ≤ 1099511627776

/-- Slots as cells, one behind the other. -/
def flat2 (xs : List Sl) : List Value := xs.flatMap fun d => [.int .i64 d.ep, .int .i64 d.st]
theorem flat2_snoc (xs : List Sl) (d : Sl) : flat2 (xs ++ [d]) = flat2 xs ++ [.int .i64 d.ep, .int .i64 d.st] := by simp [flat2]
theorem flat2_len (xs : List Sl) : (flat2 xs).length = xs.length * 2 := by
  induction xs with
  | nil => rfl
  | cons x xs ih => simp [flat2] at *; omega
theorem flat2_at (xs : List Sl) : ∀ k, (hk : k < xs.length) → (flat2 xs)[k * 2]? = some (.int .i64 xs[k].ep) ∧ (flat2 xs)[k * 2 + 1]? = some (.int .i64 xs[k].st) := by
  induction xs with
  | nil => intro k hk; cases hk
  | cons x xs ih =>
    intro k hk
    have e : flat2 (x :: xs) = .int .i64 x.ep :: .int .i64 x.st :: flat2 xs := rfl
    cases k with
    | zero => rw [e]; simp
    | succ k =>
      have := ih k (by simpa using hk)
      rw [e, show (k + 1) * 2 = k * 2 + 1 + 1 by omega]
      simpa using this
theorem flat2_one (xs : List Sl) : ∀ u ∈ flat2 xs, u.oneCell' = true := by
  intro u hu
  simp only [flat2, List.mem_flatMap] at hu
  obtain ⟨x, _, hx⟩ := hu
  simp at hx
  rcases hx with rfl | rfl <;> rfl
/-- A row of the call's own that holds slots. -/
theorem slots_of_row {w : World} {base : Nat} {e : TypeId} {v : Value} {xs : List Sl} (h : w.ownsRow base e 2 v xs.length (flat2 xs)) : ∃ a cap, v = .slice a xs.length cap ∧ Slots w a xs ∧ (∀ x, a = some x → base ≤ x.block) := by
  rcases h.2 with ⟨rfl, hn⟩ | ⟨g, cap, cur, rfl, hb, hg, hr⟩
  · refine ⟨none, 0, by rw [hn], .inl (List.length_eq_zero_iff.1 hn), fun x hx => by cases hx⟩
  · refine ⟨_, cap, rfl, .inr ⟨g, 0, rfl, (Array.getElem?_eq_some_iff.1 hg).1, fun k hk => ?_⟩, fun x hx => by cases hx; exact hb⟩
    have c := h.cellAt
    have f := flat2_at xs k hk
    refine ⟨?_, ?_⟩
    · rw [c (0 + k * 2) (by omega)]; simpa using f.1
    · rw [c (0 + k * 2 + 1) (by omega)]; simpa using f.2
theorem slots_cells {w : World} {b o : Nat} {xs : List Sl} (h : Slots w (some ⟨b, o, none⟩) xs) : ∀ (j : Nat) (u : Value), (flat2 xs)[j]? = some u → w.cell? ((Addr.mk b o none).add j) = some u := by
  intro j u hj
  have hlt : j < (flat2 xs).length := (List.getElem?_eq_some_iff.1 hj).1
  rw [flat2_len] at hlt
  have ha : (Addr.mk b o none).add j = ⟨b, o + j, none⟩ := by by_cases h : j = 0 <;> simp [Addr.add, h]
  rw [ha]
  have hk : j / 2 < xs.length := by omega
  obtain ⟨b', o', he, _, c0, c1⟩ := h.at hk
  simp at he
  obtain ⟨rfl, rfl⟩ := he
  obtain ⟨f0, f1⟩ := flat2_at xs (j / 2) hk
  rcases Nat.mod_two_eq_zero_or_one j with hm | hm
  · rw [show j / 2 * 2 = j by omega] at c0 f0
    rw [c0, ← f0, hj]
  · rw [show o + j / 2 * 2 + 1 = o + j by omega] at c1
    rw [show j / 2 * 2 + 1 = j by omega] at f1
    rw [c1, ← f1, hj]
abbrev RowS (w : World) (base : Nat) (v : Value) (xs : List Sl) : Prop := w.ownsRow base 84 2 v xs.length (flat2 xs)
theorem infoSlot : (Tryz.prog.info? 84).map (fun i => (i.zero, i.size, i.bytes)) = some (some (.agg #[.int .i64 0, .int .i64 0]), 2, 16) := by kernel_rfl
theorem sizeSlot : (Tryz.prog.info? 84).map (·.size) = some 2 := by kernel_rfl

/-- Whether a slot is ok. -/
def slB (s : Sl) : Bool := inB s.ep 0 9999 && inB s.st 0 2 && (decide (s.st = 0) || decide (0 < s.ep))
def slotsB (xs : List Sl) : Bool := decide (xs.length = 3) && xs.all slB
theorem slotsB_iff {xs : List Sl} : slotsB xs = true ↔ xs.length = 3 ∧ ∀ s ∈ xs, slB s = true := by unfold slotsB; simp
theorem slotsB_three {xs : List Sl} (h : slotsB xs = true) : ∃ a b c : Sl, xs = [a, b, c] := by
  have := (slotsB_iff.1 h).1
  match xs, this with
  | [a, b, c], _ => exact ⟨a, b, c, rfl⟩
/-- How the slot of that number stands. -/
def standAt (xs : List Sl) (n : Int) : Int := if n < 0 then -1 else match xs[n.toNat]? with | some s => s.st | none => -1
/-- Whether the slot of a key is here. -/
def hereB (xs : List Sl) (k : Int) : Bool := !(standAt xs (slotOf k) == 0)
def allHere (xs : List Sl) (vs : List V) : Bool := vs.all fun v => hereB xs v.k
/-- Whether versions have one of that key and stamp. -/
def hasB (vs : List V) (k t s : Int) : Bool := (cAt vs k t s).isSome
def waitsB (x : Sv) : Bool := x.ws.all fun v => !(sideOf v.s == sideOf x.site) && !(hasB x.vs v.k v.t v.s)
def owedB (x : Sv) : Bool := x.os.all fun d => hasB x.vs d.k d.t d.s
def listsS (x : Sv) : Bool := chainB x.vs && chainB x.ws && owesB x.os && owesB x.kn
/-- Whether a server is ok. -/
def servB (x : Sv) : Bool := slotsB x.sl && inB x.site 0 3 && listsS x && (x.up || decide (x.kn.length = 0)) && allHere x.sl x.vs && allHere x.sl x.ws && waitsB x && owedB x
theorem slot_in {k : Int} (h : inB k 0 5 = true) : slotOf k = 0 ∨ slotOf k = 1 ∨ slotOf k = 2 := by
  unfold slotOf
  rw [if_pos h]
  unfold inB at h
  simp at h
  omega
theorem chain_key {vs : List V} (h : chainB vs = true) {v : V} (hv : v ∈ vs) : inB v.k 0 5 = true := by
  have := (chainB_iff.1 h).2.1 v hv
  unfold okV verB numsB at this
  simp [inB] at this ⊢
  omega
end Go.Proofs.YtpjidogilofppaaGreat

