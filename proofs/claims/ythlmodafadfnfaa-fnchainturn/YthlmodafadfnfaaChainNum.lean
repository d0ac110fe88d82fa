/- Plain facts on versions and chains. -/
import Derived.Test.YthlmodafadfnfaaIVer
namespace Go.Proofs.Ythlmodafadfnfaa
open Go.ChangeShapes Go.WideShapes Go.ChangeAt Go.RowKit

/-- A version: its numbers, and its deps. -/
structure V where
  k : Int
  t : Int
  s : Int
  val : Int
  cl : Int
  ca : Int
  ds : List D
theorem V.ext' {a b : V} (h1 : a.k = b.k) (h2 : a.t = b.t) (h3 : a.s = b.s) (h4 : a.val = b.val) (h5 : a.cl = b.cl) (h6 : a.ca = b.ca) (h7 : a.ds = b.ds) : a = b := by cases a; cases b; simp_all

/-- Whether a version is ok. -/
def okV (v : V) : Bool := verB v.k v.t v.s v.val v.cl v.ca v.ds
/-- Whether a version stands ahead of another one. -/
def lessV (a b : V) : Bool := decide (a.k < b.k ∨ a.k = b.k ∧ (a.t < b.t ∨ a.t = b.t ∧ a.s < b.s))
theorem lessV_iff {a b : V} : lessV a b = true ↔ (a.k < b.k ∨ a.k = b.k ∧ (a.t < b.t ∨ a.t = b.t ∧ a.s < b.s)) := by unfold lessV; simp
theorem lessV_false {a b : V} : lessV a b = false ↔ ¬ (a.k < b.k ∨ a.k = b.k ∧ (a.t < b.t ∨ a.t = b.t ∧ a.s < b.s)) := by unfold lessV; simp
theorem lessV_stamp {a b : V} (h : a.k = b.k) : lessV a b = lessB a.t a.s b.t b.s := by
  unfold lessV lessB; rw [decide_eq_decide]; omega
theorem lessV_key {a b : V} (h : a.k < b.k) : lessV a b = true := by rw [lessV_iff]; omega
theorem lessV_keyno {a b : V} (h : b.k < a.k) : lessV a b = false := by rw [lessV_false]; omega
theorem lessV_trans {a b c : V} (h : lessV a b = true) (h' : lessV b c = true) : lessV a c = true := by
  rw [lessV_iff] at *; omega
theorem lessV_irr (a : V) : lessV a a = false := by rw [lessV_false]; omega
theorem lessV_asym {a b : V} (h : lessV a b = true) : lessV b a = false := by
  rw [lessV_iff] at h; rw [lessV_false]; omega
/-- Whether two bear one key and stamp. -/
def sameB (a : V) (k t s : Int) : Bool := decide (a.k = k ∧ a.t = t ∧ a.s = s)
theorem sameB_iff {a : V} {k t s : Int} : sameB a k t s = true ↔ a.k = k ∧ a.t = t ∧ a.s = s := by unfold sameB; simp
theorem lessV_tri {a b : V} (h : lessV a b = false) (h' : lessV b a = false) : sameB a b.k b.t b.s = true := by
  rw [lessV_false] at h h'; rw [sameB_iff]; omega

/-- Versions that ascend. -/
abbrev Asc (vs : List V) : Prop := vs.Pairwise (fun a b => lessV a b = true)
/-- All ok, ascending. -/
def chainP (vs : List V) : Prop := (∀ v ∈ vs, okV v = true) ∧ Asc vs
/-- Whether versions are in order. -/
def chainB (vs : List V) : Bool := decide (vs.length ≤ 80) && vs.all okV && decide (Asc vs)
theorem chainB_iff {vs : List V} : chainB vs = true ↔ vs.length ≤ 80 ∧ chainP vs := by unfold chainB chainP; simp [and_assoc]
theorem chainB_long {vs : List V} (h : 80 < vs.length) : chainB vs = false := by unfold chainB; simp; omega
theorem chainB_no {vs : List V} (h : ¬ chainP vs) : chainB vs = false := by
  cases hb : chainB vs
  · rfl
  · exact absurd (chainB_iff.1 hb).2 h
theorem chainB_yes {vs : List V} (hl : vs.length ≤ 80) (h : chainP vs) : chainB vs = true := chainB_iff.2 ⟨hl, h⟩
theorem chainP_nil : chainP [] := ⟨fun _ h => (by cases h), List.Pairwise.nil⟩
theorem chainB_nil : chainB [] = true := chainB_iff.2 ⟨by simp, chainP_nil⟩
theorem takeV {α : Type} (xs : List α) (k : Nat) (h : k < xs.length) : xs.take (k + 1) = xs.take k ++ [xs[k]] := by rw [List.take_succ_eq_append_getElem h]
theorem chainP_sub {vs us : List V} (h : chainP vs) (hs : us.Sublist vs) : chainP us := ⟨fun v hv => h.1 v (hs.subset hv), h.2.sublist hs⟩
theorem chainP_snoc {vs : List V} {v : V} (h : chainP vs) (hv : okV v = true) (hl : ∀ u ∈ vs, lessV u v = true) : chainP (vs ++ [v]) := by
  refine ⟨fun u hu => ?_, List.pairwise_append.2 ⟨h.2, List.pairwise_singleton _ _, fun a ha b hb => ?_⟩⟩
  · rcases List.mem_append.1 hu with hu | hu
    · exact h.1 u hu
    · simp at hu; subst hu; exact hv
  · simp at hb; subst hb; exact hl a ha
theorem chainP_step {vs : List V} {i : Nat} (hi : i < vs.length) (h : chainP (vs.take i)) (hv : okV vs[i] = true) (hl : i = 0 ∨ ∃ h : i - 1 < vs.length, lessV vs[i - 1] vs[i] = true) : chainP (vs.take (i + 1)) := by
  rw [takeV vs i hi]
  refine chainP_snoc h hv fun u hu => ?_
  rcases hl with rfl | ⟨h1, hl⟩
  · simp at hu
  · obtain ⟨j, hj, rfl⟩ := List.getElem_of_mem hu
    simp at hj
    simp only [List.getElem_take]
    by_cases e : j = i - 1
    · subst e; exact hl
    · refine lessV_trans ?_ hl
      have := List.pairwise_iff_getElem.1 h.2 j (i - 1) (by simp; omega) (by simp; omega) (by omega)
      simpa using this
theorem chainP_bad {vs : List V} {i : Nat} (hi : i < vs.length) (hv : okV vs[i] = false) : ¬ chainP vs := fun h => by
  have := h.1 vs[i] (List.getElem_mem hi); rw [hv] at this; cases this
theorem chainP_order {vs : List V} {i : Nat} (hi : i < vs.length) (h0 : 0 < i) (hl : lessV (vs[i - 1]'(by omega)) vs[i] = false) : ¬ chainP vs := fun h => by
  have := List.pairwise_iff_getElem.1 h.2 (i - 1) i (by omega) hi (by omega); rw [hl] at this; cases this

/-- The version of a key and stamp. -/
def cAt (vs : List V) (k t s : Int) : Option V := vs.find? fun v => sameB v k t s
/-- The newest one of a key. -/
def cTop (vs : List V) (k : Int) : Option V := vs.reverse.find? fun v => decide (v.k = k)
/-- Those of a key. -/
def grp (vs : List V) (k : Int) : List V := vs.filter fun v => decide (v.k = k)
/-- One more in its place. -/
def insV (v : V) : List V → List V
  | [] => [v]
  | x :: xs => if lessV v x = true then v :: x :: xs else x :: insV v xs
/-- Whether one more is taken. -/
def putB (vs : List V) (v : V) : Bool := okV v && (cAt vs v.k v.t v.s).isNone && decide (vs.length < 80)
/-- With one more, if it is taken. -/
def cPut (vs : List V) (v : V) : List V := if chainB vs = true then (if putB vs v = true then insV v vs else vs) else []
def cDid (vs : List V) (v : V) : Bool := chainB vs && putB vs v
/-- Whether all deps are there. -/
def cHas (vs : List V) (ds : List D) : Bool := chainB vs && depsOk ds && ds.all fun d => (cAt vs d.k d.t d.s).isSome

theorem cAt_mem {vs : List V} {k t s : Int} {v : V} (h : cAt vs k t s = some v) : v ∈ vs ∧ v.k = k ∧ v.t = t ∧ v.s = s :=
  ⟨List.mem_of_find?_eq_some h, sameB_iff.1 (List.find?_some (p := fun v => sameB v k t s) h)⟩
theorem cAt_none {vs : List V} {k t s : Int} (h : cAt vs k t s = none) : ∀ v ∈ vs, sameB v k t s = false := fun v hv => by
  have := List.find?_eq_none.1 h v hv; simpa using this
/-- In a chain each is found by its key and stamp. -/
theorem cAt_self {vs : List V} (h : Asc vs) : ∀ {v : V}, v ∈ vs → cAt vs v.k v.t v.s = some v := by
  induction vs with
  | nil => intro v hv; cases hv
  | cons x xs ih =>
    intro v hv
    have hp := List.pairwise_cons.1 h
    unfold cAt
    rw [List.find?_cons]
    rcases List.mem_cons.1 hv with rfl | hv
    · rw [sameB_iff.2 ⟨rfl, rfl, rfl⟩]
    · have hl := hp.1 v hv
      have : sameB x v.k v.t v.s = false := by
        rw [lessV_iff] at hl; unfold sameB; simp; omega
      rw [this]
      exact ih hp.2 hv
theorem cAt_some_iff {vs : List V} (h : Asc vs) {k t s : Int} {v : V} : cAt vs k t s = some v ↔ v ∈ vs ∧ v.k = k ∧ v.t = t ∧ v.s = s := by
  refine ⟨cAt_mem, ?_⟩
  rintro ⟨hv, rfl, rfl, rfl⟩
  exact cAt_self h hv

theorem insV_perm (v : V) (vs : List V) : (insV v vs).Perm (v :: vs) := by
  induction vs with
  | nil => exact .refl _
  | cons x xs ih =>
    unfold insV
    split
    · exact .refl _
    · exact (List.Perm.cons x ih).trans (List.Perm.swap v x xs)
theorem insV_mem {v u : V} {vs : List V} : u ∈ insV v vs ↔ u = v ∨ u ∈ vs := by rw [(insV_perm v vs).mem_iff, List.mem_cons]
theorem insV_len (v : V) (vs : List V) : (insV v vs).length = vs.length + 1 := by rw [(insV_perm v vs).length_eq, List.length_cons]
theorem insV_asc {v : V} {vs : List V} (h : Asc vs) (hn : cAt vs v.k v.t v.s = none) : Asc (insV v vs) := by
  induction vs with
  | nil => exact List.pairwise_singleton _ _
  | cons x xs ih =>
    have hp := List.pairwise_cons.1 h
    unfold insV
    split
    · rename_i hl
      exact List.pairwise_cons.2 ⟨fun y hy => by
        rcases List.mem_cons.1 hy with rfl | hy
        · exact hl
        · exact lessV_trans hl (hp.1 y hy), h⟩
    · rename_i hl
      have hl : lessV v x = false := by simpa using hl
      have hx := cAt_none hn x (by simp)
      have hxv : lessV x v = true := by
        cases hh : lessV x v
        · have := lessV_tri hh hl; rw [hx] at this; cases this
        · rfl
      refine List.pairwise_cons.2 ⟨fun y hy => ?_, ih hp.2 ?_⟩
      · rcases insV_mem.1 hy with rfl | hy
        · exact hxv
        · exact hp.1 y hy
      · unfold cAt at hn ⊢
        rw [List.find?_eq_none] at hn ⊢
        exact fun y hy => hn y (List.mem_cons_of_mem _ hy)
theorem asc_unique {us vs : List V} (hu : Asc us) (hv : Asc vs) (h : us.Perm vs) : us = vs :=
  h.eq_of_pairwise (fun a b _ _ h h' => by have := lessV_asym h; rw [h'] at this; cases this) hu hv
theorem filter_insV (p : V → Bool) {v : V} {vs : List V} (h : Asc vs) : (insV v vs).filter p = if p v = true then insV v (vs.filter p) else vs.filter p := by
  induction vs with
  | nil => by_cases hp : p v = true <;> simp [insV, hp]
  | cons x xs ih =>
    have hp := List.pairwise_cons.1 h
    by_cases hl : lessV v x = true
    · have e : insV v (x :: xs) = v :: x :: xs := by unfold insV; rw [if_pos hl]
      rw [e]
      by_cases hv : p v = true
      · rw [if_pos hv, List.filter_cons, if_pos hv]
        rcases hf : (x :: xs).filter p with _ | ⟨y, ys⟩
        · rfl
        · have hy : y ∈ x :: xs := (List.mem_filter.1 (by rw [hf]; simp : y ∈ (x :: xs).filter p)).1
          have hly : lessV v y = true := by
            rcases List.mem_cons.1 hy with rfl | hy
            · exact hl
            · exact lessV_trans hl (hp.1 y hy)
          unfold insV
          rw [if_pos hly]
      · rw [if_neg hv, List.filter_cons, if_neg hv]
    · have e : insV v (x :: xs) = x :: insV v xs := by rw [insV, if_neg hl]
      rw [e, List.filter_cons, ih hp.2]
      by_cases hx : p x = true
      · rw [if_pos hx]
        by_cases hv : p v = true
        · rw [if_pos hv, if_pos hv, List.filter_cons, if_pos hx, insV, if_neg hl]
        · rw [if_neg hv, if_neg hv, List.filter_cons, if_pos hx]
      · rw [if_neg hx]
        by_cases hv : p v = true
        · rw [if_pos hv, if_pos hv, List.filter_cons, if_neg hx]
        · rw [if_neg hv, if_neg hv, List.filter_cons, if_neg hx]

/-- The place of a stamp among versions of one key. -/
def plc : List V → Int → Int → Nat
  | [], _, _ => 0
  | x :: xs, t, s => if lessB x.t x.s t s = true then plc xs t s + 1 else 0
theorem plc_le (vs : List V) (t s : Int) : plc vs t s ≤ vs.length := by
  induction vs with
  | nil => exact Nat.le_refl _
  | cons x xs ih => unfold plc; split <;> simp <;> omega
theorem plc_eq (vs : List V) (t s : Int) : ∀ i, i ≤ vs.length → (∀ j, (hj : j < vs.length) → j < i → lessB vs[j].t vs[j].s t s = true) → (∀ h : i < vs.length, lessB vs[i].t vs[i].s t s = false) → plc vs t s = i := by
  induction vs with
  | nil => intro i hi _ _; simp at hi; subst hi; rfl
  | cons x xs ih =>
    intro i hi h1 h2
    cases i with
    | zero =>
      have := h2 (by simp)
      simp only [List.getElem_cons_zero] at this
      unfold plc; rw [this]; rfl
    | succ i =>
      have := h1 0 (by simp) (by omega)
      simp only [List.getElem_cons_zero] at this
      unfold plc; rw [if_pos this, ih i (by simpa using hi) (fun j hj hji => h1 (j + 1) (by simpa using hj) (by omega)) (fun h => h2 (by simpa using h))]
theorem insV_plc {v : V} {g : List V} (hk : ∀ x ∈ g, x.k = v.k) (hn : ∀ x ∈ g, sameB x v.k v.t v.s = false) : insV v g = g.take (plc g v.t v.s) ++ v :: g.drop (plc g v.t v.s) := by
  induction g with
  | nil => rfl
  | cons x xs ih =>
    have hx := hk x (by simp)
    have e1 : lessV v x = lessB v.t v.s x.t x.s := lessV_stamp hx.symm
    have hs := hn x (by simp)
    unfold sameB at hs
    by_cases hl : lessB x.t x.s v.t v.s = true
    · have hl2 : ¬ lessV v x = true := by
        rw [e1]; unfold lessB at hl ⊢; simp at hl ⊢; omega
      rw [insV, if_neg hl2, plc, if_pos hl, ih (fun y hy => hk y (by simp [hy])) (fun y hy => hn y (by simp [hy]))]
      simp
    · have hl2 : lessV v x = true := by
        rw [e1]; unfold lessB at hl ⊢; simp at hl hs ⊢; omega
      rw [insV, if_pos hl2, plc, if_neg hl]
      simp

theorem flatMap_same {α β : Type} {f g : α → List β} {l : List α} (h : ∀ x ∈ l, f x = g x) : l.flatMap f = l.flatMap g := by
  rw [List.flatMap, List.flatMap, List.map_congr_left h]
/-- All versions of a key, one key behind the other, are all. -/
theorem split_first {k : Int} {vs : List V} (h : vs.Pairwise (fun a b => a.k ≤ b.k)) (hk : ∀ v ∈ vs, k ≤ v.k) : vs = grp vs k ++ vs.filter (fun v => decide (v.k ≠ k)) := by
  induction vs with
  | nil => rfl
  | cons x xs ih =>
    have hp := List.pairwise_cons.1 h
    by_cases hx : x.k = k
    · have e1 : grp (x :: xs) k = x :: grp xs k := by unfold grp; rw [List.filter_cons, if_pos (by simpa using hx)]
      have e2 : (x :: xs).filter (fun v => decide (v.k ≠ k)) = xs.filter (fun v => decide (v.k ≠ k)) := by rw [List.filter_cons, if_neg (by simpa using hx)]
      rw [e1, e2, List.cons_append, ← ih hp.2 (fun v hv => hk v (by simp [hv]))]
    · have hxk := hk x (by simp)
      have e1 : grp (x :: xs) k = [] := by
        unfold grp; rw [List.filter_eq_nil_iff]
        intro v hv
        rcases List.mem_cons.1 hv with rfl | hv
        · simpa using hx
        · have := hp.1 v hv; simp; omega
      have e2 : (x :: xs).filter (fun v => decide (v.k ≠ k)) = x :: xs := by
        rw [List.filter_eq_self]
        intro v hv
        rcases List.mem_cons.1 hv with rfl | hv
        · simpa using hx
        · have := hp.1 v hv; simp; omega
      rw [e1, e2]; rfl
theorem told_keys (p : Int → Bool) : ∀ (ks : List Int) (vs : List V), vs.Pairwise (fun a b => a.k ≤ b.k) → ks.Pairwise (· < ·) → (∀ k, k ∈ ks ↔ grp vs k ≠ []) → (ks.flatMap fun k => if p k = true then grp vs k else []) = vs.filter fun v => p v.k := by
  intro ks
  induction ks with
  | nil =>
    intro vs _ _ hm
    rcases vs with _ | ⟨x, xs⟩
    · rfl
    · have := (hm x.k).2 (by unfold grp; simp)
      cases this
  | cons k ks ih =>
    intro vs hv hk hm
    have hp := List.pairwise_cons.1 hk
    have hall : ∀ v ∈ vs, v.k ∈ k :: ks := fun v hv => (hm v.k).2 (by
      intro h
      have := List.filter_eq_nil_iff.1 h v hv
      simp at this)
    have hge : ∀ v ∈ vs, k ≤ v.k := fun v hv => by
      rcases List.mem_cons.1 (hall v hv) with h | h
      · omega
      · have := hp.1 _ h; omega
    have hs := split_first hv hge
    have hv2 : (vs.filter (fun v => decide (v.k ≠ k))).Pairwise (fun a b => a.k ≤ b.k) := hv.sublist List.filter_sublist
    have hg2 : ∀ k', k' ≠ k → grp (vs.filter (fun v => decide (v.k ≠ k))) k' = grp vs k' := fun k' hk' => by
      unfold grp; rw [List.filter_filter]
      refine List.filter_congr fun v _ => ?_
      by_cases e : v.k = k'
      · simp [e, hk']
      · simp [e]
    have hm2 : ∀ k', k' ∈ ks ↔ grp (vs.filter (fun v => decide (v.k ≠ k))) k' ≠ [] := fun k' => by
      by_cases e : k' = k
      · subst e
        have h1 : k' ∉ ks := fun h => by have := hp.1 k' h; omega
        have h2 : grp (vs.filter (fun v => decide (v.k ≠ k'))) k' = [] := by
          unfold grp; rw [List.filter_eq_nil_iff]; intro v hv; have := (List.mem_filter.1 hv).2; simpa using this
        exact ⟨fun h => absurd h h1, fun h => absurd h2 h⟩
      · rw [hg2 k' e, ← hm k']; simp [e]
    have ih2 := ih _ hv2 hp.2 hm2
    rw [List.flatMap_cons]
    have e3 : (ks.flatMap fun k' => if p k' = true then grp vs k' else []) = ks.flatMap fun k' => if p k' = true then grp (vs.filter (fun v => decide (v.k ≠ k))) k' else [] := by
      refine flatMap_same fun k' hk' => ?_
      have : k' ≠ k := by have := hp.1 k' hk'; omega
      rw [hg2 k' this]
    rw [e3, ih2]
    conv => rhs; rw [hs, List.filter_append]
    congr 1
    by_cases hpk : p k = true
    · rw [if_pos hpk]
      symm
      rw [List.filter_eq_self]
      intro v hv
      have := (List.mem_filter.1 hv).2
      simp at this
      rw [this]; exact hpk
    · rw [if_neg hpk]
      symm
      rw [List.filter_eq_nil_iff]
      intro v hv
      have := (List.mem_filter.1 hv).2
      simp at this
      rw [this]; exact hpk
theorem asc_keys {vs : List V} (h : Asc vs) : vs.Pairwise (fun a b => a.k ≤ b.k) := h.imp fun h => by rw [lessV_iff] at h; omega
theorem top_grp (vs : List V) (k : Int) : cTop vs k = (grp vs k).getLast? := by
  unfold cTop grp
  rw [← List.head?_filter, List.filter_reverse, List.head?_reverse]
theorem at_grp (vs : List V) (k t s : Int) : cAt vs k t s = (grp vs k).find? fun v => decide (v.t = t ∧ v.s = s) := by
  unfold cAt grp
  rw [List.find?_filter]
  congr 1
  funext v
  unfold sameB
  by_cases h : v.k = k <;> simp [h]
theorem grp_asc {vs : List V} (h : Asc vs) (k : Int) : (grp vs k).Pairwise (fun a b => lessB a.t a.s b.t b.s = true) := by
  have h1 : (grp vs k).Pairwise (fun a b => lessV a b = true) := h.sublist List.filter_sublist
  refine (List.pairwise_iff_forall_sublist.2 fun {a b} hab => ?_)
  have h2 := List.pairwise_iff_forall_sublist.1 h1 hab
  have ha : a ∈ grp vs k := hab.subset (by simp)
  have hb : b ∈ grp vs k := hab.subset (by simp)
  have ka := (List.mem_filter.1 ha).2
  have kb := (List.mem_filter.1 hb).2
  simp at ka kb
  rw [← lessV_stamp (by omega)]; exact h2
theorem grp_insV {vs : List V} {v : V} (h : Asc vs) (hn : cAt vs v.k v.t v.s = none) (k : Int) : grp (insV v vs) k = if k = v.k then (grp vs k).take (plc (grp vs k) v.t v.s) ++ v :: (grp vs k).drop (plc (grp vs k) v.t v.s) else grp vs k := by
  unfold grp
  rw [filter_insV _ h]
  by_cases e : k = v.k
  · subst e
    rw [if_pos (by simp), if_pos rfl]
    refine insV_plc (fun x hx => by have := (List.mem_filter.1 hx).2; simpa using this) (fun x hx => cAt_none hn x (List.mem_filter.1 hx).1)
  · rw [if_neg (by simpa using fun h => e h.symm), if_neg e]
end Go.Proofs.Ythlmodafadfnfaa
