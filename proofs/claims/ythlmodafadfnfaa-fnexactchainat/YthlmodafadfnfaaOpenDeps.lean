/- A slice of deps that came in is opened. -/
import Derived.Test.YthlmodafadfnfaaTable
import Derived.Deep.Slices
import Derived.ChangeOld
import Derived.Lib.SmallJoins
namespace Go.Proofs.Ythlmodafadfnfaa
open Go.ChangeShapes Go.WideShapes Go.ChangeAt Go.RowKit Go.Deep

set_option maxRecDepth 100000 in
/-- What a slice of deps that came in reads as. -/
theorem deps_open {H : Type} {enc : TypeId × Value → H} {W : World} {base : Nat} {spare : Nat → Bool} {v : Value} {d : DataW H} {p : List MemPlace} (hv : ∃ a len cap, v = .slice a len cap)
    (h : DataW.Trod enc Try.prog W base spare true 62 v d p) : ∃ a cap xs, v = .slice a xs.length cap ∧ xs.length ≤ maxLen ∧ Deps W a xs := by
  obtain ⟨a, len, cap, rfl⟩ := hv
  obtain ⟨fuel, hf⟩ := h
  rcases open_slice Try.underlying62 hf with ⟨hcs, _⟩ | ⟨x, l, c, m, n, DD, Pl, hcs, _, hl, hm, hmm, _, hx⟩
  · simp [Value.cells] at hcs
    obtain ⟨rfl, rfl, rfl⟩ := hcs
    exact ⟨none, 0, [], rfl, Nat.zero_le _, .inl rfl⟩
  · simp [Value.cells] at hcs
    obtain ⟨rfl, rfl, rfl⟩ := hcs
    have hlm : len ≤ m := by rw [hmm]; split <;> omega
    have hc3 : Try.prog.cellsOf 114 = 3 := by kernel_rfl
    have hc2 : Try.prog.cellsOf 61 = 2 := by kernel_rfl
    have hci : Try.prog.cellsOf 3 = 1 := by kernel_rfl
    have one : ∀ i, i < len → ∃ y : D, W.cell? (x.add (i * 3)) = some (.int .i64 y.k) ∧ W.cell? (x.add (i * 3 + 1)) = some (.int .i64 y.t) ∧ W.cell? (x.add (i * 3 + 2)) = some (.int .i64 y.s) := by
      intro i hi
      obtain ⟨cs', hc, ht⟩ := hx i (by omega)
      rw [hc3] at hc
      obtain ⟨y0, y1, n', _, hlen, h0, h1⟩ := trod_struct2 Try.underlying114 ht
      have hs := World.cells?_some hc
      obtain ⟨k, e0, _, _⟩ := DataW.trod_int Try.underlying3 h0
      obtain ⟨y2, y3, n2, _, hlen2, h2, h3⟩ := trod_struct2 Try.underlying61 h1
      obtain ⟨t, e1, _, _⟩ := DataW.trod_int Try.underlying3 h2
      obtain ⟨s, e2, _, _⟩ := DataW.trod_int Try.underlying3 h3
      simp only [hci, hc2] at e0 e1 e2
      obtain ⟨_, hl2, hcell⟩ := hs
      match cs', hl2 with
      | [c0, c1, c2], _ =>
        simp at e0 e1 e2
        subst e0 e1 e2
        refine ⟨⟨k, t, s⟩, ?_, ?_, ?_⟩
        · have := hcell 0 (by omega)
          rw [add_add] at this
          simpa using this
        · have := hcell 1 (by omega)
          rw [add_add] at this
          simpa using this
        · have := hcell 2 (by omega)
          rw [add_add] at this
          simpa using this
    haveI : Inhabited D := ⟨⟨0, 0, 0⟩⟩
    obtain ⟨F, hF⟩ := choose_lt one
    refine ⟨some x, cap, (List.range len).map F, by simp, by simp; omega, ?_⟩
    by_cases h0 : len = 0
    · exact .inl (by simp [h0])
    · obtain ⟨b, o, spot⟩ := x
      have hc0 := (hF 0 (by omega)).1
      have hspot : spot = none := by simpa [Addr.add] using World.cell?_spot hc0
      subst hspot
      have ha : ∀ i, (Addr.mk b o none).add i = ⟨b, o + i, none⟩ := fun i => by by_cases h : i = 0 <;> simp [Addr.add, h]
      refine .inr ⟨b, o, rfl, by have := World.block_lt_of_cell? _ _ hc0; rw [ha] at this; exact this, fun k hk => ?_⟩
      have hk' : k < len := by simpa using hk
      have := hF k hk'
      rw [ha, ha, ha] at this
      simpa [Nat.add_assoc] using this

set_option maxRecDepth 100000 in
/-- A dep that came in. -/
theorem dep_open {H : Type} {enc : TypeId × Value → H} {W : World} {base b0 : Nat} {r : Reach} {spare : Nat → Bool} {v : Value} {d : DataW H} {p : List MemPlace} (hv : Value.okWide Try.prog W r b0 114 v)
    (h : DataW.Trod enc Try.prog W base spare true 114 v d p) : ∃ k t s : Int, v = depV k t s := by
  obtain ⟨cs, rfl, hsz⟩ := okWide_struct Try.underlying114 hv
  obtain ⟨fuel, hf⟩ := h
  have hc3 : Try.prog.cellsOf 114 = 3 := by kernel_rfl
  have hc2 : Try.prog.cellsOf 61 = 2 := by kernel_rfl
  have hci : Try.prog.cellsOf 3 = 1 := by kernel_rfl
  rw [hc3] at hsz
  obtain ⟨c0, c1, c2, rfl⟩ := Go.Joins.array3 hsz
  obtain ⟨y0, y1, n', _, hlen, h0, h1⟩ := trod_struct2 Try.underlying114 hf
  obtain ⟨k, e0, _, _⟩ := DataW.trod_int Try.underlying3 h0
  obtain ⟨y2, y3, n2, _, hlen2, h2, h3⟩ := trod_struct2 Try.underlying61 h1
  obtain ⟨t, e1, _, _⟩ := DataW.trod_int Try.underlying3 h2
  obtain ⟨s, e2, _, _⟩ := DataW.trod_int Try.underlying3 h3
  simp [hci, hc2, Value.cells] at e0 e1 e2
  exact ⟨k, t, s, by rw [e0, e1, e2]⟩
end Go.Proofs.Ythlmodafadfnfaa
