/- 2 texts in one: FOfA, FOf. -/
import Derived.Test.YtpjidogilofppaaGreatZP
/- Versions of wanted keys, told in order: what is shared. -/
namespace Go.Proofs.YtpjidogilofppaaGreat
open Go.ChangeShapes Go.WideShapes Go.ChangeAt Go.RowKit

/-- The keys of such a map, and how many. -/
theorem Chm.keys' {w : World} {base b n : Nat} {f : Int → List XV} {g : Int → Value} (h : Chm w base b n f g) : ∃ D : DataW Value, w.ownsMap Tryz.prog 3 heldR b n D ∧ Maps.size D ≤ n ∧ ∀ ss : List Int, ss.Perm (intKeys D) → ∃ ks : List Int, ss.mergeSort (fun x y => decide (x ≤ y)) = ks ∧ ks.length = ss.length ∧ ks.length ≤ n ∧ ks.Pairwise (· < ·) ∧ ∀ k, k ∈ ks ↔ f k ≠ [] := by
  obtain ⟨D, hD, hk⟩ := h.keys
  refine ⟨D, hD, hD.size_le, fun ss hp => ⟨_, rfl, List.length_mergeSort ss, ?_, (hk ss hp).1, (hk ss hp).2⟩⟩
  rw [List.length_mergeSort, hp.length_eq]
  refine Nat.le_trans (Nat.le_of_eq ?_) hD.size_le
  cases D <;> simp [intKeys, Maps.size]
/-- One of a row of numbers. -/
theorem ints_at {w : World} {base vc : Nat} {e : TypeId} {va : Option Addr} {n : Nat} {ks : List Int} (h : w.ownsRow base e 1 (.slice va n vc) n (ks.map encZ)) {i : Nat} (hi : i < ks.length) : ∃ gb, va = some ⟨gb, 0, none⟩ ∧ gb < w.heap.size ∧ base ≤ gb ∧ w.cell? ⟨gb, i, none⟩ = some (.int .i64 ks[i]) := by
  have hl := h.1
  simp at hl
  rcases h.2 with ⟨_, hn⟩ | ⟨gb, cap, cur, he, hb, hg, _⟩
  · omega
  · simp at he
    obtain ⟨rfl, rfl⟩ := he
    refine ⟨gb, rfl, (Array.getElem?_eq_some_iff.1 hg).1, hb, ?_⟩
    have := h.cells (g := gb) rfl i (.int .i64 ks[i]) (by simp [hi])
    rwa [addr_add, Nat.zero_add] at this
/-- Versions of the first wanted keys. -/
def toldTo (p : Int → Bool) (vs : List V) (ks : List Int) : List V := ks.flatMap fun k => if p k = true then grp vs k else []
theorem toldTo_snoc (p : Int → Bool) (vs : List V) (ks : List Int) (k : Int) : toldTo p vs (ks ++ [k]) = toldTo p vs ks ++ if p k = true then grp vs k else [] := by simp [toldTo]
end Go.Proofs.YtpjidogilofppaaGreat

/- All versions of the map, in order. -/
namespace Go.Proofs.YtpjidogilofppaaGreat
open Go.ChangeShapes Go.WideShapes Go.ChangeAt Go.RowKit

end Go.Proofs.YtpjidogilofppaaGreat

