/- 2 texts in one: InsertA, InsertV. -/
import Derived.Test.YtgdkoangpinieaaGAN
import Derived.Test.YtgdkoangpinieaaCopyK
/- Cells of versions are shifted; copies of elements of several cells. -/
namespace Go.Proofs.Ytgdkoangpinieaa
open Go.ChangeShapes Go.WideShapes Go.ChangeAt Go.RowKit

theorem flat7_single (x : XV) : (flat7 [x]).length = 7 := rfl
/-- Where an element goes in: what lay behind is shifted first. -/
theorem shift_cells {L : List Value} {xs : List XV} {x : XV} {n i : Nat} (hx : xs.length = n) (hi : i < n) (hL : L.take (n * 7) = flat7 xs) (hl : (n + 1) * 7 ≤ L.length) (L1 L2 : List Value) (h1 : L1 = L.take ((i + 1) * 7) ++ flat7 (xs.drop i) ++ L.drop ((i + 1) * 7 + (flat7 (xs.drop i)).length)) (h2 : L2 = L1.take (i * 7) ++ flat7 [x] ++ L1.drop (i * 7 + (flat7 [x]).length)) :
    L1.length = L.length ∧ L2.length = L.length ∧ L2.take ((n + 1) * 7) = flat7 (xs.take i ++ x :: xs.drop i) := by
  have ld : (flat7 (xs.drop i)).length = (n - i) * 7 := by rw [flat7_len, List.length_drop, hx]
  have e1 : L.take (i * 7) = flat7 (xs.take i) := by
    rw [← flat7_take, ← hL, List.take_take, Nat.min_eq_left (by omega)]
  have len1 : L1.length = L.length := by
    rw [h1]; simp only [List.length_append, List.length_take, List.length_drop, ld]; omega
  have t1 : L1.take (i * 7) = flat7 (xs.take i) := by
    rw [h1, List.append_assoc, List.take_append_of_le_length (by rw [List.length_take]; omega), List.take_take, Nat.min_eq_left (by omega), e1]
  have d1 : L1.drop (i * 7 + 7) = flat7 (xs.drop i) ++ L.drop ((i + 1) * 7 + (flat7 (xs.drop i)).length) := by
    rw [h1, List.append_assoc, List.drop_append_of_le_length (by rw [List.length_take]; omega), List.drop_take]
    rw [show (i + 1) * 7 - (i * 7 + 7) = 0 by omega]
    simp
  have e2 : L2 = flat7 (xs.take i ++ x :: xs.drop i) ++ L.drop ((i + 1) * 7 + (flat7 (xs.drop i)).length) := by
    rw [h2, flat7_single, t1, d1, flat7_append, show x :: xs.drop i = [x] ++ xs.drop i from rfl, flat7_append]
    simp
  have lf : (flat7 (xs.take i ++ x :: xs.drop i)).length = (n + 1) * 7 := by
    rw [flat7_len]; simp only [List.length_append, List.length_cons, List.length_take, List.length_drop, hx]
    rw [Nat.min_eq_left (by omega)]; omega
  refine ⟨len1, ?_, ?_⟩
  · rw [e2, List.length_append, lf, List.length_drop, ld]; omega
  · rw [e2, ← lf]; exact List.take_left
/-- The same over a new row. -/
theorem grow_cells {xs : List XV} {x : XV} {n i : Nat} (hx : xs.length = n) (hi : i < n) {R : List Value} {z1 z2 : List Value} (hR : R = flat7 (xs.take i) ++ z1 ++ z2) (h1 : z1.length = (n + 1 - i) * 7) (L1 L2 : List Value) (e1 : L1 = R.take (i * 7) ++ flat7 [x] ++ R.drop (i * 7 + (flat7 [x]).length)) (e2 : L2 = L1.take ((i + 1) * 7) ++ flat7 (xs.drop i) ++ L1.drop ((i + 1) * 7 + (flat7 (xs.drop i)).length)) :
    L1.length = R.length ∧ L2.length = R.length ∧ L2.take ((n + 1) * 7) = flat7 (xs.take i ++ x :: xs.drop i) := by
  have ld : (flat7 (xs.drop i)).length = (n - i) * 7 := by rw [flat7_len, List.length_drop, hx]
  have lt : (flat7 (xs.take i)).length = i * 7 := by rw [flat7_len, List.length_take, hx, Nat.min_eq_left (by omega)]
  have lR : R.length = i * 7 + (n + 1 - i) * 7 + z2.length := by rw [hR]; simp only [List.length_append, lt, h1]
  have t0 : R.take (i * 7) = flat7 (xs.take i) := by rw [hR, List.append_assoc, ← lt]; exact List.take_left
  have l1 : L1.length = R.length := by rw [e1]; simp only [List.length_append, List.length_take, List.length_drop, flat7_single]; omega
  have t1 : L1.take ((i + 1) * 7) = flat7 (xs.take i) ++ flat7 [x] := by
    rw [e1, t0]
    have : (i + 1) * 7 = (flat7 (xs.take i) ++ flat7 [x]).length := by rw [List.length_append, lt, flat7_single]; omega
    rw [this]; exact List.take_left
  have lf : (flat7 (xs.take i ++ x :: xs.drop i)).length = (n + 1) * 7 := by
    rw [flat7_len]; simp only [List.length_append, List.length_cons, List.length_take, List.length_drop, hx]
    rw [Nat.min_eq_left (by omega)]; omega
  have e3 : L2 = flat7 (xs.take i ++ x :: xs.drop i) ++ L1.drop ((i + 1) * 7 + (flat7 (xs.drop i)).length) := by
    rw [e2, t1, flat7_append, show x :: xs.drop i = [x] ++ xs.drop i from rfl, flat7_append]
    simp
  refine ⟨l1, ?_, ?_⟩
  · rw [e3, List.length_append, lf, List.length_drop, ld, l1]; omega
  · rw [e3, ← lf]; exact List.take_left
end Go.Proofs.Ytgdkoangpinieaa

/- A version goes into a slice of versions at its place. -/
namespace Go.Proofs.Ytgdkoangpinieaa
open Go.ChangeShapes Go.WideShapes Go.ChangeAt Go.RowKit Go.Lib

theorem sizeVer : (Try.prog.info? 28).map (·.size) = some 7 := by
  obtain ⟨i0, hi, hz0, hz1, hz2⟩ := info_parts infoVer
  rw [hi]; simp [hz1]

set_option maxHeartbeats 4000000 in
set_option maxRecDepth 100000 in
theorem insert_shift (g n c i vb : Nat) (cur : Array Value) (xs : List XV) (x : XV) (w : World) (hi : i < n) (hroom : n + 1 ≤ c) (hc63 : c ≤ maxLen) (hvb : vb ≠ g) (hg : w.heap[g]? = some (.cells cur 28 (0, 0))) (hcs : cur.size = c * 7) (htake : cur.toList.take (n * 7) = flat7 xs) (hxl : xs.length = n)
    (hB : Blk w vb #[.int .i64 x.v.k, .int .i64 x.v.t, .int .i64 x.v.s, .int .i64 x.v.val, .int .i64 x.v.cl, .int .i64 x.v.ca, x.p] 28) (h1 : ∀ y ∈ xs, y.p.oneCell' = true) (h1x : x.p.oneCell' = true) :
    Calls Try.prog 164 #[.slice (some ⟨g, 0, none⟩) n c, .int .i64 i, .slice (some ⟨vb, 0, none⟩) 1 1] w fun e w' => e = .returned (.slice (some ⟨g, 0, none⟩) (n + 1) c) ∧ (∃ cur', w'.heap[g]? = some (.cells cur' 28 (0, 0)) ∧ cur'.size = c * 7 ∧ cur'.toList.take ((n + 1) * 7) = flat7 (xs.take i ++ x :: xs.drop i)) ∧ w.grownBy w' (some g) := by
  unfold maxLen at hc63
  have mixed : Try.prog.follows .mixedOrders = true := by kernel_rfl
  obtain ⟨L1, hL1⟩ : ∃ L1, L1 = cur.toList.take ((i + 1) * 7) ++ flat7 (xs.drop i) ++ cur.toList.drop ((i + 1) * 7 + (flat7 (xs.drop i)).length) := ⟨_, rfl⟩
  obtain ⟨L2, hL2⟩ : ∃ L2, L2 = L1.take (i * 7) ++ flat7 [x] ++ L1.drop (i * 7 + (flat7 [x]).length) := ⟨_, rfl⟩
  obtain ⟨l1, l2, ht⟩ := shift_cells hxl hi htake (by simp [hcs]; omega) L1 L2 hL1 hL2
  have ld : (flat7 (xs.drop i)).length = (n - i) * 7 := by rw [flat7_len, List.length_drop, hxl]
  have hcell : ∀ (j : Nat) (u : Value), (flat7 xs)[j]? = some u → w.cell? ⟨g, j, none⟩ = some u := fun j u hj => by
    rw [← htake, List.getElem?_take] at hj
    split at hj
    · simp [World.cell?, hg]; simpa using hj
    · cases hj
  have hf : ∀ j, w.frozen? ⟨g, j, none⟩ = false := fun j => by simp [World.frozen?, hg]
  have hov : ∀ lb cb, (callFunc 186 #[.slice (some ⟨vb, 0, none⟩) 1 1, .slice (some ⟨g, (i + 1) * 7, none⟩) lb cb]).run Try.prog w = .ok (.value (.bool false)) w := fun lb cb => by
    rw [run_callFunc_extern Try.func186 (by kernel_rfl) (by kernel_rfl) (by kernel_rfl) (e := Extern.SlicesOverlaps.overlaps #[23, 23] #[4]) (by kernel_rfl),
      Lib.run_overlaps_apart w 23 4 28 Try.underlying23 7 Try.sizeOf28 ⟨vb, 0, none⟩ ⟨g, (i + 1) * 7, none⟩ 1 1 lb cb hvb 28 28 7 cur.size (by simp [World.shape?, show w.heap[vb]? = _ from hB]) (by simp [World.shape?, hg]) (by rw [hcs]; omega) (hB.frozen 0) (hB.frozen 7)]
    rfl
  have hz2 : ¬ ((i : Int) = (n : Int)) := by omega
  have hw1 : IntKind.i64.wrap ((i : Int) + 1) = (i : Int) + 1 := by rw [IntKind.wrap_i64]; omega
  have hw2 : IntKind.i64.wrap ((n : Int) + 1) = (n : Int) + 1 := by rw [IntKind.wrap_i64]; omega
  have hb1 : (0 : Int) ≤ (i : Int) + 1 := by omega
  have htn : ((i : Int) + 1).toNat = i + 1 := by omega
  have hb2 : ¬ (c = i + 1) := by omega
  have hb3 : (i : Int) ≤ (n : Int) + 1 := by omega
  have hb4 : ¬ (c = i) := by omega
  have hb5 : (i : Int) ≤ (n : Int) := by omega
  have hb6 : ¬ ((c : Int) < (n : Int) + 1) := by omega
  have htn2 : ((n : Int) + 1).toNat = n + 1 := by omega
  have hcp1 : ∀ ty dc sc, (Builtin.copy_ #[23, 23] ty #[.slice (some ⟨g, (i + 1) * 7, none⟩) (n - i) dc, .slice (some ⟨g, i * 7, none⟩) (n + 1 - i) sc]).run Try.prog w.drew = .ok (goInt ((n - i : Nat) : Int)) (w.drew.setRow g L1.toArray) := fun ty dc sc => by
    rw [hL1]
    exact run_copy_rowk w.drew _ _ ty 28 g ((i + 1) * 7) (n - i) dc ⟨g, i * 7, none⟩ (n + 1 - i) sc cur 28 (flat7 (xs.drop i)) (n - i) 7 Try.underlying23 sizeVer hg (by simp only [Nat.min_def]; split <;> omega) ld
      (fun j u hj => by
        rw [addr_add]
        refine hcell (i * 7 + j) u ?_
        rw [← flat7_drop, List.getElem?_drop] at hj
        exact hj)
      (by rw [ld, hcs]; omega) (flat7_one fun y hy => h1 y (List.mem_of_mem_drop hy))
  have hg1 : (w.drew.setRow g L1.toArray).heap[g]? = some (.cells L1.toArray 28 (0, 0)) := setRow_heap w.drew g cur _ _ _ hg
  have hB1 : Blk (w.drew.setRow g L1.toArray) vb #[.int .i64 x.v.k, .int .i64 x.v.t, .int .i64 x.v.s, .int .i64 x.v.val, .int .i64 x.v.cl, .int .i64 x.v.ca, x.p] 28 := (setRow_other w.drew g vb _ hvb).trans hB
  have hcp2 : ∀ ty dc, (Builtin.copy_ #[23, 23] ty #[.slice (some ⟨g, i * 7, none⟩) (n + 1 - i) dc, .slice (some ⟨vb, 0, none⟩) 1 1]).run Try.prog (w.drew.setRow g L1.toArray) = .ok (goInt 1) ((w.drew.setRow g L1.toArray).setRow g L2.toArray) := fun ty dc => by
    rw [hL2]
    exact run_copy_rowk (w.drew.setRow g L1.toArray) _ _ ty 28 g (i * 7) (n + 1 - i) dc ⟨vb, 0, none⟩ 1 1 L1.toArray 28 (flat7 [x]) 1 7 Try.underlying23 sizeVer hg1 (by simp only [Nat.min_def]; split <;> omega) rfl (cells7 hB1) (by rw [flat7_single]; simp [l1, hcs]; omega) (flat7_one fun y hy => by simp at hy; subst hy; exact h1x)
  have hfin : ((w.drew.setRow g L1.toArray).setRow g L2.toArray).heap[g]? = some (.cells L2.toArray 28 (0, 0)) := setRow_heap _ g L1.toArray _ _ _ hg1
  have hgr : w.grownBy ((w.drew.setRow g L1.toArray).setRow g L2.toArray) (some g) := ⟨rfl, rfl, rfl, by simp [World.setRow], fun k _ hk => (setRow_other _ g k _ (fun e => hk (by rw [e]))).trans (setRow_other w.drew g k _ (fun e => hk (by rw [e])))⟩
  have HE : Hid (L2.toArray.size = c * 7 ∧ L2.toArray.toList.take ((n + 1) * 7) = flat7 (xs.take i ++ x :: xs.drop i)) := ⟨by simp [l2, hcs], by simpa using ht⟩
  clear hL1 hL2 l1 l2 ht hcell htake hcs ld hg1 hB1
  generalize L1.toArray = A1 at *
  generalize L2.toArray = A2 at *
  go_enter Try.func164, Try.ntmps164
  go_wp2_with (simp only [hov])
  go_region_law_o (refine step_copy_runI rfl _ _ 23 23 rfl _ _ (by simp [Act.eval, Act.put]) (by simp [Act.eval, Act.put]) (hcp1 _ _ _) ?_)
  go_wp2_with (at_builtin; refine wpList_copy_runI _ rfl _ _ 23 23 rfl _ _ rfl rfl (hcp2 _ _) ?_)
  go_ret
  exact ⟨rfl, ⟨A2, hfin, HE.out.1, HE.out.2⟩, hgr⟩
end Go.Proofs.Ytgdkoangpinieaa

