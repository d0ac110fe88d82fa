/- Plain facts on versions for the laws of chapter 3. -/
import Derived.Test.YtgdkoangpinieaaLFull
import Derived.Test.YtgdkoangpinieaaGAO
import Derived.Test.YtgdkoangpinieaaISlotC
namespace Go.Proofs.Ytgdkoangpinieaa
open Go.ChangeShapes Go.WideShapes Go.ChangeAt Go.RowKit

theorem cAt_not {vs : List V} {k t s : Int} (h : ∀ v ∈ vs, sameB v k t s = false) : cAt vs k t s = none := by
  unfold cAt
  rw [List.find?_eq_none]
  intro v hv
  simp [h v hv]
theorem cTop_max {vs : List V} {k : Int} {b : V} (h : Asc vs) (hb : cTop vs k = some b) : b ∈ vs ∧ b.k = k ∧ ∀ z ∈ vs, z.k = k → z = b ∨ lessV z b = true := by
  unfold cTop at hb
  obtain ⟨hp, l1, l2, he, hno⟩ := List.find?_eq_some_iff_append.1 hb
  have e : vs = l2.reverse ++ b :: l1.reverse := by
    have := congrArg List.reverse he
    simpa using this
  have hbk : b.k = k := by simpa using hp
  refine ⟨by rw [e]; simp, hbk, fun z hz hzk => ?_⟩
  rw [e] at hz h
  rcases List.mem_append.1 hz with hz | hz
  · right
    exact (List.pairwise_append.1 h).2.2 z hz b (by simp)
  · rcases List.mem_cons.1 hz with rfl | hz
    · exact .inl rfl
    · have := hno z (by simpa using hz)
      simp [hzk] at this
theorem cTop_some {vs : List V} {k : Int} {a : V} (h : a ∈ vs) (hk : a.k = k) : ∃ b, cTop vs k = some b := by
  cases hc : cTop vs k with
  | some b => exact ⟨b, rfl⟩
  | none =>
    unfold cTop at hc
    have := List.find?_eq_none.1 hc a (by simpa using h)
    simp [hk] at this
theorem grow {vs : List V} {x : V} (hd : cDid vs x = true) (k : Int) (h : (topA vs k).isSome = true) :
    (topA (cPut vs x) k).isSome = true ∧ lessB ((topA (cPut vs x) k).getD zeroV).t ((topA (cPut vs x) k).getD zeroV).s ((topA vs k).getD zeroV).t ((topA vs k).getD zeroV).s = false ∧
      ((topA (cPut vs x) k).getD zeroV = (topA vs k).getD zeroV ∨ (topA (cPut vs x) k).getD zeroV = x ∧ ¬ (x.t = ((topA vs k).getD zeroV).t ∧ x.s = ((topA vs k).getD zeroV).s)) := by
  obtain ⟨hc, hp⟩ : chainB vs = true ∧ putB vs x = true := by unfold cDid at hd; simpa using hd
  have e1 := (put_take hc hp).1
  have hc2 := put_chain hc x
  rw [e1] at hc2 ⊢
  have A1 := (chainB_iff.1 hc).2.2
  have A2 := (chainB_iff.1 hc2).2.2
  rw [topA_yes hc] at h ⊢
  rw [topA_yes hc2]
  obtain ⟨a, ha⟩ := Option.isSome_iff_exists.1 h
  obtain ⟨m1, m2, m3⟩ := cTop_max A1 ha
  obtain ⟨b, hb⟩ := cTop_some (insV_mem.2 (.inr m1)) m2
  obtain ⟨n1, n2, n3⟩ := cTop_max A2 hb
  rw [ha, hb]
  simp only [Option.isSome_some, Option.getD_some, true_and]
  have hab := n3 a (insV_mem.2 (.inr m1)) m2
  have hbk : a.k = b.k := by rw [m2, n2]
  rcases insV_mem.1 n1 with e | hm
  · subst e
    rcases hab with e | e
    · subst e
      exact ⟨by unfold lessB; simp, .inl rfl⟩
    · have e' := lessV_iff.1 e
      refine ⟨by unfold lessB; simp; omega, .inr ⟨rfl, fun h => by omega⟩⟩
  · have hba := m3 b hm n2
    have : b = a := by
      rcases hba with e | e
      · exact e
      · rcases hab with e2 | e2
        · exact e2.symm
        · have := lessV_asym e; rw [e2] at this; cases this
    subst this
    exact ⟨by unfold lessB; simp, .inl rfl⟩


/-- How many of the first ones bear a key and stamp. -/
def cnt (vs : List V) (k x y : Int) : Nat := (vs.filter fun v => sameB v k x y).length
theorem cnt_step {vs : List V} {i : Nat} {k x y : Int} (hi : i < vs.length) : cnt (vs.take (i + 1)) k x y = cnt (vs.take i) k x y + (if sameB vs[i] k x y = true then 1 else 0) := by
  unfold cnt
  rw [takeV vs i hi, List.filter_append, List.length_append]
  by_cases h : sameB vs[i] k x y = true <;> simp [h]
theorem cnt_take {vs : List V} (i : Nat) {k x y : Int} : cnt (vs.take i) k x y ≤ i := by
  unfold cnt
  have h1 := List.length_filter_le (fun v => sameB v k x y) (vs.take i)
  have h2 := List.length_take_le i vs
  omega
theorem cnt_one {vs : List V} (h : Asc vs) (k x y : Int) : cnt vs k x y ≤ 1 := by
  unfold cnt
  have hp : (vs.filter fun v => sameB v k x y).Pairwise (fun a b => lessV a b = true) := h.sublist List.filter_sublist
  have hm : ∀ v ∈ vs.filter fun v => sameB v k x y, sameB v k x y = true := fun v hv => (List.mem_filter.1 hv).2
  rcases hf : vs.filter fun v => sameB v k x y with _ | ⟨a, _ | ⟨b, l⟩⟩
  · simp
  · simp
  · rw [hf] at hp hm
    have h1 := (List.pairwise_cons.1 hp).1 b (by simp)
    have h2 := sameB_iff.1 (hm a (by simp))
    have h3 := sameB_iff.1 (hm b (by simp))
    rw [lessV_iff] at h1
    omega
theorem cnt_is {vs : List V} (h : Asc vs) (k x y : Int) : (cAt vs k x y).isSome = (((cnt vs k x y : Nat) : Int) == 1) := by
  have h1 := cnt_one h k x y
  cases hc : cAt vs k x y with
  | none =>
    have : cnt vs k x y = 0 := by
      unfold cnt
      rw [List.filter_eq_nil_iff.2 fun v hv => by rw [cAt_none hc v hv]; exact Bool.false_ne_true]
      rfl
    rw [this]; rfl
  | some v =>
    have hv := cAt_mem hc
    have : 0 < cnt vs k x y := List.length_pos_of_mem (a := v) (List.mem_filter.2 ⟨hv.1, sameB_iff.2 hv.2⟩)
    have : cnt vs k x y = 1 := by omega
    rw [this]; rfl
theorem found {vs : List V} {k x y : Int} (h : (cAt vs k x y).isSome = true) : ((cAt vs k x y).getD zeroV).k = k ∧ ((cAt vs k x y).getD zeroV).t = x ∧ ((cAt vs k x y).getD zeroV).s = y := by
  obtain ⟨v, hv⟩ := Option.isSome_iff_exists.1 h
  rw [hv]; exact (cAt_mem hv).2

/-- The newest one of a key, among all. -/
theorem top_all {vs : List V} {k : Int} (h : Asc vs) (hs : (cTop vs k).isSome = true) : ((cTop vs k).getD zeroV).k = k ∧ (∀ z ∈ vs, z.k = k → lessB ((cTop vs k).getD zeroV).t ((cTop vs k).getD zeroV).s z.t z.s = false) ∧ cAt vs ((cTop vs k).getD zeroV).k ((cTop vs k).getD zeroV).t ((cTop vs k).getD zeroV).s = some ((cTop vs k).getD zeroV) := by
  obtain ⟨b, hb⟩ := Option.isSome_iff_exists.1 hs
  obtain ⟨m1, m2, m3⟩ := cTop_max h hb
  rw [hb]
  refine ⟨m2, fun z hz hzk => ?_, cAt_self h m1⟩
  simp only [Option.getD_some]
  rcases m3 z hz hzk with e | e
  · subst e; unfold lessB; simp
  · have e' := lessV_iff.1 e
    unfold lessB; simp; omega

/-- What is taken is there, and all others stay. -/
theorem put_has {vs : List V} {x : V} (h : cDid vs x = true) : chainB (cPut vs x) = true ∧ (cPut vs x).length = vs.length + 1 ∧ (∀ v ∈ vs, cAt (cPut vs x) v.k v.t v.s = some v) ∧ cAt (cPut vs x) x.k x.t x.s = some x ∧ cDid (cPut vs x) x = false := by
  obtain ⟨hc, hp⟩ : chainB vs = true ∧ putB vs x = true := by unfold cDid at h; simpa using h
  have hc2 := put_chain hc x
  have e := (put_take hc hp).1
  have hA := (chainB_iff.1 hc2).2.2
  rw [e] at hc2 hA ⊢
  have hx : cAt (insV x vs) x.k x.t x.s = some x := cAt_self hA (insV_mem.2 (.inl rfl))
  refine ⟨hc2, insV_len x vs, fun v hv => cAt_self hA (insV_mem.2 (.inr hv)), hx, ?_⟩
  exact (put_stay hc2 (putB_there (by rw [hx]; rfl))).2
theorem put_none {vs : List V} {x : V} (h : chainB vs = false) : cDid vs x = false ∧ cPut vs x = [] := by
  unfold cDid cPut; rw [h]; exact ⟨rfl, rfl⟩
theorem put_same {vs : List V} {x : V} (h : chainB vs = true) (hd : cDid vs x = false) : cPut vs x = vs := by
  have : putB vs x = false := by unfold cDid at hd; rw [h] at hd; simpa using hd
  exact (put_stay h this).1
/-- What is there is there with one more. -/
theorem put_all {vs : List V} {x : V} {ds : List D} (h : cDid vs x = true) (hd : cHas vs ds = true) : cHas (cPut vs x) ds = true := by
  obtain ⟨h1, _, h3, _, _⟩ := put_has h
  have hc : chainB vs = true := by unfold cDid at h; simp at h; exact h.1
  have hk : depsOk ds = true := by
    cases e : depsOk ds with
    | true => rfl
    | false => rw [has_deps e] at hd; cases hd
  rw [has_yes hc hk] at hd
  rw [has_yes h1 hk]
  unfold allIn at *
  rw [List.all_eq_true] at *
  intro d hdm
  obtain ⟨v, hv⟩ := Option.isSome_iff_exists.1 (hd d hdm)
  have hm := cAt_mem hv
  have := h3 v hm.1
  rw [hm.2.1, hm.2.2.1, hm.2.2.2] at this
  rw [this]; rfl

/-- What is in deps with one more is one of them, or that. -/
theorem putL_mem {xs : List D} {d e : D} (h : depsOk xs = true) (hd : okD d = true) (he : e ∈ putL xs d) : e ∈ xs ∨ e = d := by
  have hO := ok_iff.1 h
  have hO2 := ok_iff.1 (putL_ok xs d)
  have h1 := tab_mem hO2 he
  have hek := hO2.2 e he
  have k5 : 0 ≤ e.k ∧ e.k ≤ 5 := by unfold okD inB at hek; simp at hek; omega
  rw [putL_yes h hd, lst_tab _ _ k5.1 k5.2] at h1
  have ho : ∀ {a b : D}, okD a = true → okD b = true → a.k = b.k → codeD a = codeD b → a = b := fun {a b} ha hb hk hc => by
    unfold okD okB at ha hb
    unfold codeD at hc
    simp at ha hb
    exact D.ext' hk (by omega) (by omega)
  unfold withT at h1
  by_cases hk : d.k = e.k
  · rw [if_pos hk] at h1
    cases ht : tab xs e.k with
    | none =>
      rw [ht] at h1
      simp [omax] at h1
      exact .inr (ho hek hd hk.symm h1.symm)
    | some c =>
      rw [ht] at h1
      obtain ⟨x, hx, hxk, hxc⟩ := tab_some ht
      simp [omax] at h1
      by_cases hm : c < codeD d
      · exact .inr (ho hek hd hk.symm (by omega))
      · exact .inl (ho hek (hO.2 x hx) hxk.symm (by omega) ▸ hx)
  · rw [if_neg hk] at h1
    obtain ⟨x, hx, hxk, hxc⟩ := tab_some h1
    exact .inl (ho hek (hO.2 x hx) hxk.symm hxc.symm ▸ hx)
theorem okV_dep {v : V} (h : okV v = true) : okD ⟨v.k, v.t, v.s⟩ = true := by
  unfold okV verB numsB at h
  unfold okD
  simp at h ⊢
  exact ⟨h.1.1.1.1.1.1, h.1.1.1.1.1.2⟩
/-- Deps of which each is there. -/
def AllOf (vs : List V) (ds : List D) : Prop := depsOk ds = true ∧ allIn vs ds = true
theorem AllOf.nil (vs : List V) : AllOf vs [] := ⟨ok_nil, rfl⟩
theorem AllOf.put {vs : List V} {ds : List D} (hc : chainB vs = true) (h : AllOf vs ds) {v : V} (hv : v ∈ vs) : AllOf vs (putL ds ⟨v.k, v.t, v.s⟩) := by
  refine ⟨putL_ok _ _, ?_⟩
  have hp := (chainB_iff.1 hc).2
  unfold allIn
  rw [List.all_eq_true]
  intro e he
  rcases putL_mem h.1 (okV_dep (hp.1 v hv)) he with he | rfl
  · exact List.all_eq_true.1 h.2 e he
  · simp only
    rw [cAt_self hp.2 hv]; rfl
theorem AllOf.has {vs : List V} {ds : List D} (hc : chainB vs = true) (h : AllOf vs ds) : cHas vs ds = true := by rw [has_yes hc h.1]; exact h.2

/-- The rest, and the first of a slot's versions, put to it. -/
def Back (vs : List V) (s : Int) (n : Nat) (xs : List V) : Prop := chainB xs = true ∧ xs.Perm (restL vs s ++ (slotL vs s).take n)
theorem slot_mem {vs : List V} {s : Int} {v : V} (hm : v ∈ slotL vs s) : slotOf v.k = s := by
  unfold slotL at hm
  split at hm
  · have := (List.mem_filter.1 hm).2; simpa using this
  · cases hm
theorem rest_chain {vs : List V} {s : Int} (h : chainB vs = true) : chainB (restL vs s) = true := by
  have hc := chainB_iff.1 h
  unfold restL
  rw [if_pos h]
  have hl := List.length_filter_le (fun v : V => !(slotOf v.k == s)) vs
  exact chainB_iff.2 ⟨by omega, chainP_sub hc.2 List.filter_sublist⟩
theorem both_perm {vs : List V} {s : Int} (h : chainB vs = true) : (restL vs s ++ slotL vs s).Perm vs := by
  unfold restL slotL
  rw [if_pos h, if_pos h]
  refine List.perm_append_comm.trans ?_
  exact List.filter_append_perm (fun v : V => slotOf v.k == s) vs
theorem Back.first {vs : List V} {s : Int} (h : chainB vs = true) : Back vs s 0 (restL vs s) := ⟨rest_chain h, by simp⟩
theorem Back.next {vs xs : List V} {s : Int} {n : Nat} (hc : chainB vs = true) (h : Back vs s n xs) (hn : n < (slotL vs s).length) : cDid xs (slotL vs s)[n] = true ∧ Back vs s (n + 1) (cPut xs (slotL vs s)[n]) := by
  have hv := chainB_iff.1 hc
  have hx := chainB_iff.1 h.1
  have hall := both_perm (s := s) hc
  have hlen := hall.length_eq
  rw [List.length_append] at hlen
  have hxl := h.2.length_eq
  rw [List.length_append, List.length_take, Nat.min_eq_left (by omega)] at hxl
  generalize hu : (slotL vs s)[n] = u
  have hum : u ∈ vs := hall.subset (List.mem_append.2 (.inr (hu ▸ List.getElem_mem hn)))
  have hnod : (restL vs s ++ slotL vs s).Pairwise (fun a b => sameB a b.k b.t b.s = false) := by
    have h1 : vs.Pairwise (fun a b => sameB a b.k b.t b.s = false) := hv.2.2.imp fun {a b} h => by
      rw [lessV_iff] at h; unfold sameB; simp; omega
    refine (hall.symm.pairwise_iff fun {a b} h => ?_).1 h1
    unfold sameB at *; simp at *; omega
  have hun : cAt xs u.k u.t u.s = none := cAt_not fun z hz => by
    have hz2 := h.2.subset hz
    have hpw := List.pairwise_append.1 hnod
    rcases List.mem_append.1 hz2 with hz2 | hz2
    · exact hpw.2.2 z hz2 u (hu ▸ List.getElem_mem hn)
    · obtain ⟨j, hj, rfl⟩ := List.getElem_of_mem hz2
      rw [List.length_take] at hj
      simp only [List.getElem_take]
      rw [← hu]
      exact List.pairwise_iff_getElem.1 hpw.2.1 j n (by omega) hn (by omega)
  have hp : putB xs u = true := putB_yes (hv.2.1 u hum) (by rw [hun]; rfl) (by omega)
  have ht := put_take h.1 hp
  refine ⟨ht.2, put_chain h.1 u, ?_⟩
  rw [ht.1]
  refine (insV_perm u xs).trans ?_
  rw [takeV _ n hn, hu, ← List.append_assoc]
  exact (h.2.cons u).trans (List.perm_append_comm (l₁ := [u]))
theorem Back.all {vs xs : List V} {s : Int} (hc : chainB vs = true) (h : Back vs s (slotL vs s).length xs) : xs = vs := by
  have := h.2
  rw [List.take_length] at this
  exact asc_unique (chainB_iff.1 h.1).2.2 (chainB_iff.1 hc).2.2 (this.trans (both_perm hc))
theorem Back.len {vs xs : List V} {s : Int} {n : Nat} (h : Back vs s n xs) : xs.length ≤ 80 := (chainB_iff.1 h.1).1
end Go.Proofs.Ytgdkoangpinieaa
