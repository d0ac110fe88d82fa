/- Plain facts: a dep is put among deps, one by one. -/
import Derived.Test.YtgdkoangpinieaaGAF
namespace Go.Proofs.Ytgdkoangpinieaa
open Go.ChangeShapes Go.WideShapes Go.ChangeAt Go.RowKit

theorem Ok.len {xs : List D} (h : Ok xs) : xs.length ≤ 6 := by
  rw [← lst_of h (f := tab xs) (fun _ _ _ => rfl)]; exact lst_len _
theorem Ok.take {xs : List D} (h : Ok xs) (k : Nat) : Ok (xs.take k) := ⟨h.1.sublist (List.take_sublist _ _), fun d hd => h.2 d (List.mem_of_mem_take hd)⟩
/-- All keys ahead of a place are less than the one there. -/
theorem Ok.ahead {xs : List D} (h : Ok xs) {k : Nat} (hk : k < xs.length) : ∀ e ∈ xs.take k, e.k < xs[k].k := by
  have := h.take (k + 1)
  rw [takeD xs k hk] at this
  exact this.of_snoc.2.2

/-- Deps that are ok, and what their table tells. -/
def Rep (o : List D) (g : Tbl) : Prop := Ok o ∧ ∀ k, tab o k = g k
theorem Rep.eq {o : List D} {g : Tbl} (h : Rep o g) : o = lst g := (lst_of h.1 (fun k _ _ => (h.2 k).symm)).symm
theorem Rep.snoc {o : List D} {g : Tbl} (h : Rep o g) {y : D} (hy : okD y = true) (hl : ∀ e ∈ o, e.k < y.k) : Rep (o ++ [y]) (fun k => if y.k = k then some (codeD y) else g k) :=
  ⟨h.1.snoc hy hl, fun k => by rw [tab_snoc hl, h.2]⟩
theorem Rep.congr {o : List D} {g g' : Tbl} (h : Rep o g) (e : ∀ k, g k = g' k) : Rep o g' := ⟨h.1, fun k => (h.2 k).trans (e k)⟩
/-- Keys of what a table tells. -/
theorem Rep.keys {o : List D} {p : List D} {d : D} (h : Rep o (withT (tab p) d)) : ∀ e ∈ o, e.k = d.k ∨ ∃ x ∈ p, x.k = e.k := by
  intro e he
  have h1 := tab_mem h.1 he
  rw [h.2] at h1
  unfold withT at h1
  split at h1
  · rename_i h2; exact .inl h2.symm
  · obtain ⟨x, hx, hk, _⟩ := tab_some h1; exact .inr ⟨x, hx, hk⟩

/-- How far a dep has been put: what is out, whether it is done, and what counts. -/
def PutSt (xs : List D) (d : D) (k : Nat) (done : Bool) (o : List D) (c : D) : Prop :=
  (done = false ∧ c = d ∧ o = xs.take k ∧ ∀ e ∈ xs.take k, e.k < d.k) ∨ (done = true ∧ c.k = d.k ∧ Rep o (withT (tab (xs.take k)) d) ∧ ∃ e ∈ xs.take k, d.k ≤ e.k)
theorem PutSt.start (xs : List D) (d : D) : PutSt xs d 0 false [] d := .inl ⟨rfl, rfl, rfl, fun _ h => by simp at h⟩
theorem PutSt.len {xs : List D} {d : D} {k : Nat} {done : Bool} {o : List D} {c : D} (hx : Ok xs) (h : PutSt xs d k done o c) : o.length ≤ 6 := by
  rcases h with ⟨_, _, rfl, _⟩ | ⟨_, _, h, _⟩
  · exact (hx.take k).len
  · exact h.1.len
variable {xs : List D} {d : D} {k : Nat} {o : List D} {c : D}
theorem PutSt.below (hk : k < xs.length) (h : PutSt xs d k false o c) (hl : xs[k].k < d.k) : PutSt xs d (k + 1) false (o ++ [xs[k]]) c := by
  rcases h with ⟨_, rfl, rfl, h⟩ | ⟨h, _⟩
  · refine .inl ⟨rfl, rfl, (takeD xs k hk).symm, fun e he => ?_⟩
    rw [takeD xs k hk] at he
    rcases List.mem_append.1 he with he | he
    · exact h e he
    · simp at he; subst he; exact hl
  · cases h
theorem code_less {a b : D} (ha : okD a = true) (hb : okD b = true) : lessB a.t a.s b.t b.s = decide (codeD a < codeD b) := by
  have := okD_bounds ha
  have := okD_bounds hb
  unfold lessB; rw [decide_eq_decide]; simp only [codeD]; omega
theorem PutSt.same (hx : Ok xs) (hd : okD d = true) (hk : k < xs.length) (h : PutSt xs d k false o c) (he : xs[k].k = d.k) (n : D) (hn : n = if lessB d.t d.s xs[k].t xs[k].s = true then xs[k] else d) : PutSt xs d (k + 1) true (o ++ [n]) n := by
  have hy := hx.2 xs[k] (List.getElem_mem hk)
  rcases h with ⟨_, rfl, rfl, h⟩ | ⟨h, _⟩
  · have hnk : n.k = c.k := by rw [hn]; split; exact he; rfl
    have hno : okD n = true := by rw [hn]; split; exact hy; exact hd
    have hnc : codeD n = if codeD c < codeD xs[k] then codeD xs[k] else codeD c := by
      rw [hn, code_less hd hy]; split <;> split <;> simp_all
    refine .inr ⟨rfl, hnk, (Rep.snoc (g := tab (xs.take k)) ⟨hx.take k, fun _ => rfl⟩ hno (fun e h' => by rw [hnk]; exact h e h')).congr fun i => ?_, xs[k], by rw [takeD xs k hk]; exact List.mem_append_right _ (List.mem_singleton.2 rfl), by omega⟩
    unfold withT
    rw [takeD xs k hk, tab_snoc (fun e h' => by rw [he]; exact h e h')]
    by_cases hi : c.k = i
    · rw [if_pos (by omega), if_pos hi, if_pos (by omega), hnc]
      simp only [omax]
      congr 1
      split <;> split <;> omega
    · rw [if_neg (by omega), if_neg hi, if_neg (by omega)]
  · cases h
theorem PutSt.above (hx : Ok xs) (hd : okD d = true) (hk : k < xs.length) (h : PutSt xs d k false o c) (hl : d.k < xs[k].k) : PutSt xs d (k + 1) true (o ++ [d] ++ [xs[k]]) c := by
  have hy := hx.2 xs[k] (List.getElem_mem hk)
  rcases h with ⟨_, rfl, rfl, h⟩ | ⟨h, _⟩
  · refine .inr ⟨rfl, rfl, ((Rep.snoc (g := tab (xs.take k)) ⟨hx.take k, fun _ => rfl⟩ hd h).snoc hy (fun e he => ?_)).congr fun i => ?_, xs[k], by rw [takeD xs k hk]; exact List.mem_append_right _ (List.mem_singleton.2 rfl), by omega⟩
    · rcases List.mem_append.1 he with he | he
      · have := h e he; omega
      · simp at he; subst he; exact hl
    · unfold withT
      rw [takeD xs k hk, tab_snoc (fun e h' => by have := h e h'; omega)]
      by_cases hi : c.k = i
      · have hno : tab (xs.take k) i = none := tab_none fun e h' => by have := h e h'; omega
        rw [if_neg (by omega), if_pos hi, if_pos hi, if_neg (by omega), hno]; rfl
      · rw [if_neg hi, if_neg hi]
  · cases h
theorem PutSt.past (hx : Ok xs) (hk : k < xs.length) (h : PutSt xs d k true o c) : c.k < xs[k].k ∧ PutSt xs d (k + 1) true (o ++ [xs[k]]) c := by
  have hy := hx.2 xs[k] (List.getElem_mem hk)
  have ha := hx.ahead hk
  rcases h with ⟨h, _⟩ | ⟨_, hc, h, e, he, hle⟩
  · cases h
  · have := ha e he
    refine ⟨by omega, .inr ⟨rfl, hc, (h.snoc hy (fun x hx' => ?_)).congr fun i => ?_, e, by rw [takeD xs k hk]; exact List.mem_append_left _ he, hle⟩⟩
    · rcases h.keys x hx' with h' | ⟨z, hz, h'⟩
      · omega
      · have := ha z hz; omega
    · unfold withT
      rw [takeD xs k hk, tab_snoc ha]
      by_cases hi : d.k = i
      · rw [if_neg (by omega), if_pos hi, if_pos hi, if_neg (by omega)]
      · rw [if_neg hi, if_neg hi]
theorem PutSt.done (h : PutSt xs d xs.length true o c) : o = lst (withT (tab xs) d) := by
  rcases h with ⟨h, _⟩ | ⟨_, _, h, _⟩
  · cases h
  · rw [List.take_length] at h; exact h.eq
theorem PutSt.last (hx : Ok xs) (hd : okD d = true) (h : PutSt xs d xs.length false o c) : c = d ∧ o ++ [d] = lst (withT (tab xs) d) := by
  rcases h with ⟨_, hc, rfl, h⟩ | ⟨h, _⟩
  · rw [List.take_length] at h ⊢
    refine ⟨hc, ((Rep.snoc (g := tab xs) ⟨hx, fun _ => rfl⟩ hd h).congr fun i => ?_).eq⟩
    unfold withT
    by_cases hi : d.k = i
    · rw [if_pos hi, if_pos hi, tab_none fun e h' => by have := h e h'; omega]; rfl
    · rw [if_neg hi, if_neg hi]
  · cases h
end Go.Proofs.Ytgdkoangpinieaa
