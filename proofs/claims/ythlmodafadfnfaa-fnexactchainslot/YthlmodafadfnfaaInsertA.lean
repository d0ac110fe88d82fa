/- Cells of versions are shifted; copies of elements of several cells. -/
import Derived.Test.YthlmodafadfnfaaChainOf
import Derived.Shelf.Spec.SlicesInsertGrow
namespace Go.Proofs.Ythlmodafadfnfaa
open Go.ChangeShapes Go.WideShapes Go.ChangeAt Go.RowKit

theorem run_copy_rowk {P : Program} (w : World) (dT sT ty elem : TypeId) (g o dLen dCap : Nat) (a : Addr) (sLen sCap : Nat) (cur : Array Value) (t : TypeId) (cs : List Value) (m k : Nat)
    (hu : P.underlying dT = some (.slice elem)) (hs : (P.info? elem).map (·.size) = some k)
    (hg : w.heap[g]? = some (.cells cur t (0, 0))) (hm : Nat.min sLen dLen = m) (hn : cs.length = m * k)
    (hsrc : ∀ j v, cs[j]? = some v → w.cell? (a.add j) = some v) (hfit : o + cs.length ≤ cur.size) (h1 : ∀ v ∈ cs, v.oneCell' = true) :
    (Builtin.copy_ #[dT, sT] ty #[.slice (some ⟨g, o, none⟩) dLen dCap, .slice (some a) sLen sCap]).run P w =
      .ok (goInt m) (w.setRow g (cur.toList.take o ++ cs ++ cur.toList.drop (o + cs.length)).toArray) := by
  have hl := run_loadCells_list (P := P) w a cs hsrc
  have hst := run_storeCells_at P g o t cs 0 cur w hg (by simpa using hfit) h1
  cases hq : P.info? elem with
  | none => simp [hq] at hs
  | some i =>
    have hi : i.size = k := by simpa [hq] using hs
    rw [hn] at hl
    simp [Builtin.copy_, run_underlying hu, Builtin.lenOf, Builtin.firstCells, sizeOf, typeInfo, hq, hi, hm, hl, hst]

theorem flat7_single (x : XV) : (flat7 [x]).length = 7 := rfl
/-- Where an element goes in: what lay behind is shifted first. -/
theorem shift_cells {L : List Value} {xs : List XV} {x : XV} {n i : Nat} (hx : xs.length = n) (hi : i < n) (hL : L.take (n * 7) = flat7 xs) (hl : (n + 1) * 7 ≤ L.length) (L1 L2 : List Value) (h1 : L1 = L.take ((i + 1) * 7) ++ flat7 (xs.drop i) ++ L.drop ((i + 1) * 7 + (flat7 (xs.drop i)).length)) (h2 : L2 = L1.take (i * 7) ++ flat7 [x] ++ L1.drop (i * 7 + (flat7 [x]).length)) :
    L1.length = L.length ∧ L2.length = L.length ∧ L2.take ((n + 1) * 7) = flat7 (xs.take i ++ x :: xs.drop i) := by
  have ld : (flat7 (xs.drop i)).length = (n - i) * 7 := by rw [flat7_len, List.length_drop, hx]
  have e1 : L.take (i * 7) = flat7 (xs.take i) := by
    rw [← flat7_take, ← hL, List.take_take, Nat.min_eq_left (by omega)]
  have len1 : L1.length = L.length := by
    rw [h1]; simp only [List.length_append, List.length_take, List.length_drop, ld]; omega
  have t1 : L1.take (i * 7) = flat7 (xs.take i) := by
    rw [h1, List.append_assoc, List.take_append_of_le_length (by rw [List.length_take]; omega), List.take_take, Nat.min_eq_left (by omega), e1]
  have d1 : L1.drop (i * 7 + 7) = flat7 (xs.drop i) ++ L.drop ((i + 1) * 7 + (flat7 (xs.drop i)).length) := by
    rw [h1, List.append_assoc, List.drop_append_of_le_length (by rw [List.length_take]; omega), List.drop_take]
    rw [show (i + 1) * 7 - (i * 7 + 7) = 0 by omega]
    simp
  have e2 : L2 = flat7 (xs.take i ++ x :: xs.drop i) ++ L.drop ((i + 1) * 7 + (flat7 (xs.drop i)).length) := by
    rw [h2, flat7_single, t1, d1, flat7_append, show x :: xs.drop i = [x] ++ xs.drop i from rfl, flat7_append]
    simp
  have lf : (flat7 (xs.take i ++ x :: xs.drop i)).length = (n + 1) * 7 := by
    rw [flat7_len]; simp only [List.length_append, List.length_cons, List.length_take, List.length_drop, hx]
    rw [Nat.min_eq_left (by omega)]; omega
  refine ⟨len1, ?_, ?_⟩
  · rw [e2, List.length_append, lf, List.length_drop, ld]; omega
  · rw [e2, ← lf]; exact List.take_left
/-- The same over a new row. -/
theorem grow_cells {xs : List XV} {x : XV} {n i : Nat} (hx : xs.length = n) (hi : i < n) {R : List Value} {z1 z2 : List Value} (hR : R = flat7 (xs.take i) ++ z1 ++ z2) (h1 : z1.length = (n + 1 - i) * 7) (L1 L2 : List Value) (e1 : L1 = R.take (i * 7) ++ flat7 [x] ++ R.drop (i * 7 + (flat7 [x]).length)) (e2 : L2 = L1.take ((i + 1) * 7) ++ flat7 (xs.drop i) ++ L1.drop ((i + 1) * 7 + (flat7 (xs.drop i)).length)) :
    L1.length = R.length ∧ L2.length = R.length ∧ L2.take ((n + 1) * 7) = flat7 (xs.take i ++ x :: xs.drop i) := by
  have ld : (flat7 (xs.drop i)).length = (n - i) * 7 := by rw [flat7_len, List.length_drop, hx]
  have lt : (flat7 (xs.take i)).length = i * 7 := by rw [flat7_len, List.length_take, hx, Nat.min_eq_left (by omega)]
  have lR : R.length = i * 7 + (n + 1 - i) * 7 + z2.length := by rw [hR]; simp only [List.length_append, lt, h1]
  have t0 : R.take (i * 7) = flat7 (xs.take i) := by rw [hR, List.append_assoc, ← lt]; exact List.take_left
  have l1 : L1.length = R.length := by rw [e1]; simp only [List.length_append, List.length_take, List.length_drop, flat7_single]; omega
  have t1 : L1.take ((i + 1) * 7) = flat7 (xs.take i) ++ flat7 [x] := by
    rw [e1, t0]
    have : (i + 1) * 7 = (flat7 (xs.take i) ++ flat7 [x]).length := by rw [List.length_append, lt, flat7_single]; omega
    rw [this]; exact List.take_left
  have lf : (flat7 (xs.take i ++ x :: xs.drop i)).length = (n + 1) * 7 := by
    rw [flat7_len]; simp only [List.length_append, List.length_cons, List.length_take, List.length_drop, hx]
    rw [Nat.min_eq_left (by omega)]; omega
  have e3 : L2 = flat7 (xs.take i ++ x :: xs.drop i) ++ L1.drop ((i + 1) * 7 + (flat7 (xs.drop i)).length) := by
    rw [e2, t1, flat7_append, show x :: xs.drop i = [x] ++ xs.drop i from rfl, flat7_append]
    simp
  refine ⟨l1, ?_, ?_⟩
  · rw [e3, List.length_append, lf, List.length_drop, ld, l1]; omega
  · rw [e3, ← lf]; exact List.take_left
end Go.Proofs.Ythlmodafadfnfaa
