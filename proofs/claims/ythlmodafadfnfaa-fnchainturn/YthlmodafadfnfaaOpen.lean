/- A code is opened. -/
import Derived.Test.YthlmodafadfnfaaRd
namespace Go.Proofs.Ythlmodafadfnfaa
open Go.ChangeShapes Go.WideShapes Go.ChangeAt Go.RowKit

/-- What is known of a code. -/
def Code (w : World) (a : Option Addr) (len cap : Nat) : Prop :=
  len ≤ cap ∧ cap ≤ maxLen ∧ (cap = 0 ∧ a = none ∨ ∃ x, a = some x ∧ (cap = 0 ∨ ∃ b off, x = ⟨b, off, none⟩ ∧ b < w.heap.size ∧ ∀ i, i < cap → ∃ z, w.cell? ⟨b, off + i, none⟩ = some (.int .u8 z) ∧ 0 ≤ z ∧ z ≤ 255))

theorem open_none (w : World) :
    Calls Try.prog 59 #[.slice none 0 0] w fun e w' => e = .returned (.pointer (some ⟨w.heap.size, 0, none⟩)) ∧ w' = w.alloc (.cells #[.slice none 0 0, .int .i64 0] 117) := by
  go_enter Try.func59, Try.ntmps59
  go_wp2
  go_ret
  exact ⟨rfl, rfl⟩
theorem open_some (w : World) (x : Addr) (len cap : Nat) (hl : len ≤ cap) (hm : cap ≤ maxLen) :
    Calls Try.prog 59 #[.slice (some x) len cap] w fun e w' => ∃ n, n ≤ len ∧ e = .returned (.pointer (some ⟨w.heap.size, 0, none⟩)) ∧ w' = w.alloc (.cells #[.slice (some x) n cap, .int .i64 0] 117) := by
  unfold maxLen at hm
  by_cases h : 2000 < (len : Int)
  · have h2 : 2000 ≤ len := by omega
    go_enter Try.func59, Try.ntmps59
    go_wp2
    go_ret
    exact ⟨2000, h2, rfl, rfl⟩
  · go_enter Try.func59, Try.ntmps59
    go_wp2
    go_ret
    exact ⟨len, Nat.le_refl _, rfl, rfl⟩

theorem rd_new (w : World) (a : Option Addr) (n cap : Nat) (h : n = 0 ∨ ∃ b off, a = some ⟨b, off, none⟩ ∧ b < w.heap.size ∧ ∀ i, i < n → ∃ z, w.cell? ⟨b, off + i, none⟩ = some (.int .u8 z) ∧ 0 ≤ z ∧ z ≤ 255) (t : TypeId) :
    Rd (w.alloc (.cells #[.slice a n cap, .int .i64 0] t)) w.heap.size 0 := by
  refine ⟨by simp, by omega, by simp [go_sem], by simp [go_sem], a, n, cap, by simp [go_sem], ?_⟩
  rcases h with h | ⟨b, off, rfl, hb, h5⟩
  · exact .inl h
  · refine .inr ⟨b, off, rfl, hb, fun i hi => ?_⟩
    obtain ⟨z, hz, r⟩ := h5 i hi
    exact ⟨z, (World.cell?_alloc_lt _ _ _ hb).trans hz, r⟩

/-- A code is opened: a new reader at its begin. -/
theorem open_any (w : World) (a : Option Addr) (len cap : Nat) (h : Code w a len cap) :
    Calls Try.prog 59 #[.slice a len cap] w fun e w' => e = .returned (.pointer (some ⟨w.heap.size, 0, none⟩)) ∧ Rd w' w.heap.size 0 ∧ Below w.heap.size w w' ∧ w'.heap.size = w.heap.size + 1 := by
  obtain ⟨hl, hm, ⟨hc, rfl⟩ | ⟨x, rfl, h5⟩⟩ := h
  · obtain rfl : cap = 0 := hc
    obtain rfl : len = 0 := by omega
    refine (open_none w).mono ?_
    rintro e w' ⟨rfl, rfl⟩
    exact ⟨rfl, rd_new w none 0 0 (.inl rfl) _, (Below.refl _ _).alloc (Nat.le_refl _) _, by simp⟩
  · refine (open_some w _ len cap hl hm).mono ?_
    rintro e w' ⟨n, hn, rfl, rfl⟩
    refine ⟨rfl, rd_new w _ n cap ?_ _, (Below.refl _ _).alloc (Nat.le_refl _) _, by simp⟩
    rcases h5 with h5 | ⟨b, off, rfl, hb, h5⟩
    · exact .inl (by omega)
    · exact .inr ⟨b, off, rfl, hb, fun i hi => h5 i (by omega)⟩

theorem Code.below {w w' : World} {a : Option Addr} {len cap : Nat} (h : Code w a len cap) (k : Below w.heap.size w w') : Code w' a len cap := by
  obtain ⟨hl, hm, h | ⟨x, rfl, h | ⟨b, off, rfl, hb, h5⟩⟩⟩ := h
  · exact ⟨hl, hm, .inl h⟩
  · exact ⟨hl, hm, .inr ⟨x, rfl, .inl h⟩⟩
  · refine ⟨hl, hm, .inr ⟨_, rfl, .inr ⟨b, off, rfl, by have := k.size; omega, fun i hi => ?_⟩⟩⟩
    obtain ⟨z, hz, r⟩ := h5 i hi
    exact ⟨z, (k.cell (p := ⟨b, off + i, none⟩) hb).trans hz, r⟩

/-- What a slice of bytes that came in reads as is a code. -/
theorem code_of_row {w : World} {x : Addr} {len cap : Nat} {zs : List Int} (hl : len ≤ cap) (hm : cap ≤ maxLen) (hz : zs.length = cap)
    (hcell : ∀ i, i < zs.length → w.cell? (x.add i) = some (.int .u8 (zs.getD i 0))) (hwz : ∀ n ∈ zs, (Lit.int .u8 n).wf = true) : Code w (some x) len cap := by
  refine ⟨hl, hm, .inr ⟨x, rfl, ?_⟩⟩
  by_cases h0 : cap = 0
  · exact .inl h0
  · obtain ⟨b, off, spot⟩ := x
    have hc := hcell 0 (by omega)
    have hspot : spot = none := by simpa [Addr.add] using World.cell?_spot hc
    subst hspot
    refine .inr ⟨b, off, rfl, by have := World.block_lt_of_cell? _ _ hc; simpa [Addr.add] using this, fun i hi => ?_⟩
    have hi' : i < zs.length := by omega
    have hd := hcell i hi'
    have hg : zs.getD i 0 = zs[i] := by simp [List.getD, hi']
    have hw := bounds_u8 (hwz _ (List.getElem_mem hi'))
    rw [hg] at hd
    have ha : (Addr.mk b off none).add i = ⟨b, off + i, none⟩ := by
      by_cases h : i = 0 <;> simp [Addr.add, h]
    rw [ha] at hd
    exact ⟨zs[i], hd, hw.1, hw.2⟩

/-- What a slice of bytes that came in reads as is a code, nil too. -/
theorem code_of {w : World} {a : Option Addr} {len cap : Nat} {zs : List Int}
    (h : (a = none ∧ len = 0 ∧ cap = 0 ∧ zs = []) ∨ ∃ x, a = some x ∧ len ≤ cap ∧ cap ≤ maxLen ∧ zs.length = cap ∧ (∀ i, i < zs.length → w.cell? (x.add i) = some (.int .u8 (zs.getD i 0))) ∧ ∀ n ∈ zs, (Lit.int .u8 n).wf = true) : Code w a len cap := by
  rcases h with ⟨rfl, rfl, rfl, rfl⟩ | ⟨x, rfl, hl, hm, hz, hcell, hwz⟩
  · exact ⟨Nat.le_refl _, Nat.zero_le _, .inl ⟨rfl, rfl⟩⟩
  · exact code_of_row hl hm hz hcell hwz
end Go.Proofs.Ythlmodafadfnfaa
