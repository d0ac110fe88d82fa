/- A slice of stamps that came in is opened. -/
import Derived.Test.YtlmffgeknlfpkasNextNum
import Derived.Deep.Slices
import Derived.ChangeOld
namespace Go.Proofs.Ytlmffgeknlfpkas
open Go.ChangeShapes Go.WideShapes Go.ChangeAt Go.RowKit Go.Deep

/-- What a slice of stamps that came in reads as. -/
theorem stamps_open {H : Type} {enc : TypeId × Value → H} {W : World} {base : Nat} {spare : Nat → Bool} {v : Value} {d : DataW H} {p : List MemPlace} (hv : ∃ a len cap, v = .slice a len cap)
    (h : DataW.Trod enc Try.prog W base spare true 30 v d p) : ∃ a cap xs, v = .slice a xs.length cap ∧ xs.length ≤ maxLen ∧ Stamps W a xs := by
  obtain ⟨a, len, cap, rfl⟩ := hv
  obtain ⟨fuel, hf⟩ := h
  rcases open_slice Try.underlying30 hf with ⟨hcs, _⟩ | ⟨x, l, c, m, n, D, Pl, hcs, _, hl, hm, hmm, _, hx⟩
  · simp [Value.cells] at hcs
    obtain ⟨rfl, rfl, rfl⟩ := hcs
    exact ⟨none, 0, [], rfl, Nat.zero_le _, .inl rfl⟩
  · simp [Value.cells] at hcs
    obtain ⟨rfl, rfl, rfl⟩ := hcs
    have hlm : len ≤ m := by rw [hmm]; split <;> omega
    have hc2 : Try.prog.cellsOf 23 = 2 := by kernel_rfl
    have one : ∀ i, i < len → ∃ y : Int × Int, W.cell? (x.add (i * 2)) = some (.int .i64 y.1) ∧ W.cell? (x.add (i * 2 + 1)) = some (.int .i64 y.2) := by
      intro i hi
      obtain ⟨cs', hc, ht⟩ := hx i (by omega)
      rw [hc2] at hc
      obtain ⟨y0, y1, n', _, hlen, h0, h1⟩ := trod_struct2 Try.underlying23 ht
      have hs := World.cells?_some hc
      obtain ⟨t, e0, _, _⟩ := DataW.trod_int Try.underlying3 h0
      obtain ⟨s, e1, _, _⟩ := DataW.trod_int Try.underlying3 h1
      have hci : Try.prog.cellsOf 3 = 1 := by kernel_rfl
      simp only [hci] at e0 e1
      obtain ⟨_, hl2, hcell⟩ := hs
      match cs', hl2 with
      | [c0, c1], _ =>
        simp at e0 e1
        subst e0 e1
        refine ⟨(t, s), ?_, ?_⟩
        · have := hcell 0 (by omega)
          rw [add_add] at this
          simpa using this
        · have := hcell 1 (by omega)
          rw [add_add] at this
          simpa using this
    obtain ⟨F, hF⟩ := choose_lt one
    refine ⟨some x, cap, (List.range len).map F, by simp, by simp; omega, ?_⟩
    by_cases h0 : len = 0
    · exact .inl (by simp [h0])
    · obtain ⟨b, o, spot⟩ := x
      have hc0 := (hF 0 (by omega)).1
      have hspot : spot = none := by simpa [Addr.add] using World.cell?_spot hc0
      subst hspot
      have ha : ∀ i, (Addr.mk b o none).add i = ⟨b, o + i, none⟩ := fun i => by by_cases h : i = 0 <;> simp [Addr.add, h]
      refine .inr ⟨b, o, rfl, by have := World.block_lt_of_cell? _ _ hc0; rw [ha] at this; exact this, fun k hk => ?_⟩
      have hk' : k < len := by simpa using hk
      have := hF k hk'
      rw [ha, ha] at this
      simpa [Nat.add_assoc] using this
end Go.Proofs.Ytlmffgeknlfpkas
