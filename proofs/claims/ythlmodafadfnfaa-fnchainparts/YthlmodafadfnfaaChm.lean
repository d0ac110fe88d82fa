/- Versions by key in a map. -/
import Derived.Test.YthlmodafadfnfaaKeys
import Derived.Test.YthlmodafadfnfaaVersW2
import Derived.Maps.OwnSet
namespace Go.Proofs.Ythlmodafadfnfaa
open Go.ChangeShapes Go.WideShapes Go.ChangeAt Go.RowKit Go.Maps

/-- A map's elements, held as they are. -/
def heldR : Value → Option (DataW Value × List MemPlace) := fun v => some (.held v, [])
theorem keyedI : Keyed Try.prog 3 := int_keyed Try.underlying3
theorem zeroVers (w : World) : (zeroValue 23).run Try.prog w = .ok (.slice none 0 0) w := Try.zeroValue23 w
/-- Another value at one key. -/
def upd {α : Type} (f : Int → α) (k : Int) (l : α) : Int → α := fun j => if j = k then l else f j
theorem upd_same {α : Type} (f : Int → α) (k : Int) (l : α) : upd f k l k = l := if_pos rfl
theorem upd_other {α : Type} (f : Int → α) {k j : Int} (l : α) (h : j ≠ k) : upd f k l j = f j := if_neg h
/-- Versions by key: the map in block b holds at each key the slice g, a row of the call's own that holds the versions f. -/
structure Chm (w : World) (base b n : Nat) (f : Int → List XV) (g : Int → Value) : Prop where
  own : ∃ D : DataW Value, w.ownsMap Try.prog 3 heldR b n D ∧ (∀ k, D.atKey (.int .i64 k) (.held (.slice none 0 0)) = .held (g k)) ∧ (∀ k, Maps.has D (.int .i64 k) = true ↔ f k ≠ [])
  row : ∀ k, w.ownsRow base 28 7 (g k) (f k).length (flat7 (f k))
  apart : ∀ k j, k ≠ j → ApartV (g k) (g j)
theorem Chm.lt {w : World} {base b n : Nat} {f : Int → List XV} {g : Int → Value} (h : Chm w base b n f g) : b < w.heap.size := by obtain ⟨D, hD, _⟩ := h.own; exact hD.lt
theorem Chm.below {w w' : World} {base b n : Nat} {f : Int → List XV} {g : Int → Value} (h : Chm w base b n f g) (k : Below w.heap.size w w') : Chm w' base b n f g := by
  obtain ⟨D, hD, h1, h2⟩ := h.own
  exact ⟨⟨D, hD.kept (row := none) (grown_of_below k) (by simp), h1, h2⟩, fun j => row_below (h.row j) k (Nat.le_refl _), h.apart⟩
theorem Chm.made (w : World) (base : Nat) : Chm (w.alloc (.map #[] 0)) base w.heap.size 0 (fun _ => []) (fun _ => .slice none 0 0) :=
  ⟨⟨_, World.ownsMap_made w _ _ _, fun _ => rfl, fun _ => by simp [Maps.has]⟩, fun _ => World.ownsRow_nil _ _ _ _, fun _ _ _ j hj => (by simp [Value.ownBlock] at hj)⟩
/-- What a look-up finds. -/
theorem Chm.look {w : World} {base b n : Nat} {f : Int → List XV} {g : Int → Value} (h : Chm w base b n f g) {k : Int} (hk : (Lit.int .i64 k).wf = true) : (Instr.lookup 85 (.map (some b)) (.int .i64 k) false).run Try.prog w = .ok (g k) w := by
  obtain ⟨D, hD, h1, _⟩ := h.own
  obtain ⟨v, ps, hr, hv⟩ := hD.lookup keyedI Try.underlying85 (zeroVers w) (zd := .held (.slice none 0 0)) (zp := []) rfl (keyOf_int_mk Try.underlying3 hk)
  rw [h1 k] at hv
  simp [heldR] at hv
  rw [hr, hv.1]
theorem wf_key {k : Int} (h0 : 0 ≤ k) (h1 : k ≤ 5) : (Lit.int .i64 k).wf = true := by simp [Lit.wf, IntKind.min, IntKind.max, IntKind.bits, IntKind.signed]; omega
/-- A map that is another at one key: what lay at that key, and new blocks, may have turned ahead. -/
theorem Chm.store {w w1 : World} {base b n : Nat} {f : Int → List XV} {g : Int → Value} (h : Chm w base b n f g) {k : Int} (hk : (Lit.int .i64 k).wf = true) {l : List XV} {v : Value} (hn : n < 1000) (hl : l ≠ [])
    (hg : w.grownBy w1 (g k).ownBlock) (hrow : w1.ownsRow base 28 7 v l.length (flat7 l)) (hloc : v.ownBlock = (g k).ownBlock ∨ ∃ j, v.ownBlock = some j ∧ w.heap.size ≤ j) :
    ∃ w2, (Instr.mapUpdate 85 (.map (some b)) (.int .i64 k) v).run Try.prog w1 = .ok () w2 ∧ Chm w2 base b (n + 1) (upd f k l) (upd g k v) ∧ w1.grownBy w2 (some b) := by
  obtain ⟨D, hD, h1, h2⟩ := h.own
  have hbk : some b ≠ (g k).ownBlock := fun e => by
    obtain ⟨es, clock, hb, _⟩ := hD
    rcases (h.row k).2 with ⟨e0, _⟩ | ⟨x, cap, cur, e0, _, hx, _⟩
    · rw [e0] at e; simp [Value.ownBlock] at e
    · rw [e0] at e; simp [Value.ownBlock] at e; subst e; rw [hb] at hx; cases hx
  have hD1 := hD.kept hg hbk
  obtain ⟨w2, hr, hD2, hg2⟩ := hD1.update keyedI Try.underlying85 (by unfold maxLen; omega) (keyOf_int_mk Try.underlying3 hk) (val := v) (d := .held v) (ps := []) rfl
  have hrows : ∀ (u : Value) (m : Nat) (cs : List Value), w1.ownsRow base 28 7 u m cs → w2.ownsRow base 28 7 u m cs := fun u m cs hu => hu.kept hg2 (by
    rcases hu.2 with ⟨e0, _⟩ | ⟨x, cap, cur, e0, _, hx, _⟩
    · exact .inl (by rw [e0]; rfl)
    · refine .inr fun e => ?_
      rw [e0] at e; simp [Value.ownBlock] at e; subst e
      obtain ⟨es, clock, hb, _⟩ := hD1
      rw [hb] at hx; cases hx)
  refine ⟨w2, hr, ⟨⟨_, hD2, fun j => ?_, fun j => ?_⟩, fun j => ?_, fun i j hij => ?_⟩, hg2⟩
  · by_cases e : j = k
    · subst e; rw [upd_same]; exact atKey_put_same (k := .int .i64 j) hD1.isMap trivial _ _
    · rw [upd_other _ _ e, atKey_put_other (fun h => e (by simpa using h))]; exact h1 j
  · by_cases e : j = k
    · subst e; rw [upd_same, has_put_same (k := .int .i64 j) hD1.isMap trivial]; simp [hl]
    · rw [upd_other _ _ e, has_put_other (fun h => e (by simpa using h))]; exact h2 j
  · by_cases e : j = k
    · subst e; rw [upd_same, upd_same]; exact hrows _ _ _ hrow
    · rw [upd_other _ _ e, upd_other _ _ e]
      refine hrows _ _ _ ((h.row j).kept hg ?_)
      rcases hj : (g j).ownBlock with _ | q
      · exact .inl rfl
      · exact .inr fun e2 => h.apart j k e q hj e2.symm
  · by_cases ei : i = k
    · subst ei
      have ej : j ≠ i := fun e => hij e.symm
      rw [upd_same, upd_other _ _ ej]
      intro q hq hq2
      rcases hloc with e2 | ⟨r, e2, e3⟩
      · rw [e2] at hq; exact h.apart i j hij q hq hq2
      · rw [e2] at hq; simp at hq; subst hq; have := ((h.row j).lt r hq2).2; omega
    · by_cases ej : j = k
      · subst ej
        rw [upd_same, upd_other _ _ ei]
        intro q hq hq2
        rcases hloc with e2 | ⟨r, e2, e3⟩
        · rw [e2] at hq2; exact h.apart i j hij q hq hq2
        · rw [e2] at hq2; simp at hq2; subst hq2; have := ((h.row i).lt r hq).2; omega
      · rw [upd_other _ _ ei, upd_other _ _ ej]; exact h.apart i j hij
/-- The keys of such a map, sorted. -/
theorem Chm.keys {w : World} {base b n : Nat} {f : Int → List XV} {g : Int → Value} (h : Chm w base b n f g) : ∃ D : DataW Value, w.ownsMap Try.prog 3 heldR b n D ∧ ∀ ss : List Int, ss.Perm (intKeys D) → (ss.mergeSort (fun x y => decide (x ≤ y))).Pairwise (· < ·) ∧ ∀ k, k ∈ ss.mergeSort (fun x y => decide (x ≤ y)) ↔ f k ≠ [] := by
  obtain ⟨D, hD, _, h2⟩ := h.own
  refine ⟨D, hD, fun ss hp => ?_⟩
  obtain ⟨es, hDe, hpw, _⟩ := hD.entries keyedI
  obtain ⟨es', hD', hko⟩ := hD.keysOf
  obtain rfl : es = es' := by rw [hDe] at hD'; simpa using hD'
  subst hDe
  have hk : ∀ p ∈ es, ∃ x, p.1 = .int .i64 x := fun p hp => by obtain ⟨v, hv⟩ := hko p hp; obtain ⟨x, _, hx, _⟩ := Maps.keyOf_i64 Try.underlying3 hv; exact ⟨x, hx⟩
  have hnd : (intKeys (DataW.map es)).Nodup := by
    show (es.map fun p => Go.intOf p.1).Nodup
    refine List.pairwise_map.2 (hpw.imp_of_mem fun {p q} hp' hq' hne e => hne ?_)
    obtain ⟨a, ha⟩ := hk p hp'
    obtain ⟨b, hb⟩ := hk q hq'
    rw [ha, hb] at e ⊢
    exact congrArg _ e
  have hmem : ∀ x, x ∈ intKeys (DataW.map es) ↔ Maps.has (DataW.map es) (.int .i64 x) = true := fun x => by
    rw [has_eq, List.any_eq_true]
    show x ∈ (es.map fun p => Go.intOf p.1) ↔ _
    rw [List.mem_map]
    constructor
    · rintro ⟨p, hp', rfl⟩
      obtain ⟨a, ha⟩ := hk p hp'
      exact ⟨p, hp', by rw [ha]; simp [Lit.sameKey, Go.intOf]⟩
    · rintro ⟨p, hp', hs⟩
      obtain ⟨a, ha⟩ := hk p hp'
      rw [ha] at hs
      exact ⟨p, hp', by rw [ha]; simpa [Lit.sameKey, Go.intOf] using hs⟩
  have hps := (List.mergeSort_perm ss (fun x y => decide (x ≤ y))).trans hp
  refine ⟨?_, fun k => by rw [hps.mem_iff, hmem, h2]⟩
  have tr : ∀ a b c : Int, decide (a ≤ b) = true → decide (b ≤ c) = true → decide (a ≤ c) = true := fun a b c h1 h2 => by simp only [decide_eq_true_eq] at *; omega
  have to : ∀ a b : Int, (decide (a ≤ b) || decide (b ≤ a)) = true := fun a b => by simp only [Bool.or_eq_true, decide_eq_true_eq]; omega
  have h3 := List.pairwise_mergeSort tr to ss
  have h4 : (ss.mergeSort (fun x y => decide (x ≤ y))).Nodup := hps.nodup_iff.2 hnd
  refine (List.Pairwise.and h3 h4).imp fun {a b} hab => ?_
  have h5 := hab.1
  simp only [decide_eq_true_eq] at h5
  have := hab.2
  omega
end Go.Proofs.Ythlmodafadfnfaa
