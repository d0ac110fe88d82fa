/- 5 texts in one: InsertD, PlaceDD, WithOneD, TdA, TdB. -/
import Derived.Test.YtpjidogilofppaaGreatZI
import Derived.Test.YtpjidogilofppaaGreatZO
import Derived.Test.YtpjidogilofppaaGreatGSX
import Derived.Test.YtpjidogilofppaaGreatZM
import Derived.Test.YtpjidogilofppaaGreatMvE
import Derived.Test.YtpjidogilofppaaGreatZP
/- A dep goes into a slice of deps at its place. -/
namespace Go.Proofs.YtpjidogilofppaaGreat
open Go.ChangeShapes Go.WideShapes Go.ChangeAt Go.RowKit Go.Lib
theorem flat3_cons' (x : D) (xs : List D) : flat3 (x :: xs) = .int .i64 x.k :: .int .i64 x.t :: .int .i64 x.s :: flat3 xs := rfl
theorem flat3_takeD (xs : List D) (k : Nat) : (flat3 xs).take (k * 3) = flat3 (xs.take k) := by
  induction xs generalizing k with
  | nil => simp [flat3]
  | cons x xs ih =>
    cases k with
    | zero => simp [flat3]
    | succ k => rw [show (k + 1) * 3 = k * 3 + 1 + 1 + 1 by omega, flat3_cons']; simp [ih, flat3_cons']
theorem flat3_dropD (xs : List D) (k : Nat) : (flat3 xs).drop (k * 3) = flat3 (xs.drop k) := by
  induction xs generalizing k with
  | nil => simp [flat3]
  | cons x xs ih =>
    cases k with
    | zero => simp
    | succ k => rw [show (k + 1) * 3 = k * 3 + 1 + 1 + 1 by omega, flat3_cons']; simp [ih]
theorem cells3D {w : World} {B : Nat} {x : D} {T : TypeId} (h : Blk w B #[.int .i64 x.k, .int .i64 x.t, .int .i64 x.s] T) : ∀ (j : Nat) (u : Value), (flat3 [x])[j]? = some u → w.cell? ((Addr.mk B 0 none).add j) = some u := by
  intro j u hj
  rw [addr_add, Nat.zero_add, h.cell]
  simpa [flat3] using hj

theorem flat3_singleD (x : D) : (flat3 [x]).length = 3 := rfl
/-- Where an element goes in: what lay behind is shifted first. -/
theorem shiftD_cells {L : List Value} {xs : List D} {x : D} {n i : Nat} (hx : xs.length = n) (hi : i < n) (hL : L.take (n * 3) = flat3 xs) (hl : (n + 1) * 3 ≤ L.length) (L1 L2 : List Value) (h1 : L1 = L.take ((i + 1) * 3) ++ flat3 (xs.drop i) ++ L.drop ((i + 1) * 3 + (flat3 (xs.drop i)).length)) (h2 : L2 = L1.take (i * 3) ++ flat3 [x] ++ L1.drop (i * 3 + (flat3 [x]).length)) :
    L1.length = L.length ∧ L2.length = L.length ∧ L2.take ((n + 1) * 3) = flat3 (xs.take i ++ x :: xs.drop i) := by
  have ld : (flat3 (xs.drop i)).length = (n - i) * 3 := by rw [flat3_len, List.length_drop, hx]
  have e1 : L.take (i * 3) = flat3 (xs.take i) := by
    rw [← flat3_takeD, ← hL, List.take_take, Nat.min_eq_left (by omega)]
  have len1 : L1.length = L.length := by
    rw [h1]; simp only [List.length_append, List.length_take, List.length_drop, ld]; omega
  have t1 : L1.take (i * 3) = flat3 (xs.take i) := by
    rw [h1, List.append_assoc, List.take_append_of_le_length (by rw [List.length_take]; omega), List.take_take, Nat.min_eq_left (by omega), e1]
  have d1 : L1.drop (i * 3 + 3) = flat3 (xs.drop i) ++ L.drop ((i + 1) * 3 + (flat3 (xs.drop i)).length) := by
    rw [h1, List.append_assoc, List.drop_append_of_le_length (by rw [List.length_take]; omega), List.drop_take]
    rw [show (i + 1) * 3 - (i * 3 + 3) = 0 by omega]
    simp
  have e2 : L2 = flat3 (xs.take i ++ x :: xs.drop i) ++ L.drop ((i + 1) * 3 + (flat3 (xs.drop i)).length) := by
    rw [h2, flat3_singleD, t1, d1, flat3_append, show x :: xs.drop i = [x] ++ xs.drop i from rfl, flat3_append]
    simp
  have lf : (flat3 (xs.take i ++ x :: xs.drop i)).length = (n + 1) * 3 := by
    rw [flat3_len]; simp only [List.length_append, List.length_cons, List.length_take, List.length_drop, hx]
    rw [Nat.min_eq_left (by omega)]; omega
  refine ⟨len1, ?_, ?_⟩
  · rw [e2, List.length_append, lf, List.length_drop, ld]; omega
  · rw [e2, ← lf]; exact List.take_left
/-- The same over a new row. -/
theorem growD_cells {xs : List D} {x : D} {n i : Nat} (hx : xs.length = n) (hi : i < n) {R : List Value} {z1 z2 : List Value} (hR : R = flat3 (xs.take i) ++ z1 ++ z2) (h1 : z1.length = (n + 1 - i) * 3) (L1 L2 : List Value) (e1 : L1 = R.take (i * 3) ++ flat3 [x] ++ R.drop (i * 3 + (flat3 [x]).length)) (e2 : L2 = L1.take ((i + 1) * 3) ++ flat3 (xs.drop i) ++ L1.drop ((i + 1) * 3 + (flat3 (xs.drop i)).length)) :
    L1.length = R.length ∧ L2.length = R.length ∧ L2.take ((n + 1) * 3) = flat3 (xs.take i ++ x :: xs.drop i) := by
  have ld : (flat3 (xs.drop i)).length = (n - i) * 3 := by rw [flat3_len, List.length_drop, hx]
  have lt : (flat3 (xs.take i)).length = i * 3 := by rw [flat3_len, List.length_take, hx, Nat.min_eq_left (by omega)]
  have lR : R.length = i * 3 + (n + 1 - i) * 3 + z2.length := by rw [hR]; simp only [List.length_append, lt, h1]
  have t0 : R.take (i * 3) = flat3 (xs.take i) := by rw [hR, List.append_assoc, ← lt]; exact List.take_left
  have l1 : L1.length = R.length := by rw [e1]; simp only [List.length_append, List.length_take, List.length_drop, flat3_singleD]; omega
  have t1 : L1.take ((i + 1) * 3) = flat3 (xs.take i) ++ flat3 [x] := by
    rw [e1, t0]
    have : (i + 1) * 3 = (flat3 (xs.take i) ++ flat3 [x]).length := by rw [List.length_append, lt, flat3_singleD]; omega
    rw [this]; exact List.take_left
  have lf : (flat3 (xs.take i ++ x :: xs.drop i)).length = (n + 1) * 3 := by
    rw [flat3_len]; simp only [List.length_append, List.length_cons, List.length_take, List.length_drop, hx]
    rw [Nat.min_eq_left (by omega)]; omega
  have e3 : L2 = flat3 (xs.take i ++ x :: xs.drop i) ++ L1.drop ((i + 1) * 3 + (flat3 (xs.drop i)).length) := by
    rw [e2, t1, flat3_append, show x :: xs.drop i = [x] ++ xs.drop i from rfl, flat3_append]
    simp
  refine ⟨l1, ?_, ?_⟩
  · rw [e3, List.length_append, lf, List.length_drop, ld, l1]; omega
  · rw [e3, ← lf]; exact List.take_left

theorem sizeDepI : (Tryz.prog.info? 116).map (·.size) = some 3 := by
  obtain ⟨i0, hi, hz0, hz1, hz2⟩ := info_parts infoDep
  rw [hi]; simp [hz1]

set_option maxHeartbeats 4000000 in
set_option maxRecDepth 100000 in
theorem insertD_shift (g n c i vb : Nat) (cur : Array Value) (xs : List D) (x : D) (w : World) (hi : i < n) (hroom : n + 1 ≤ c) (hc63 : c ≤ maxLen) (hvb : vb ≠ g) (hg : w.heap[g]? = some (.cells cur 116 (0, 0))) (hcs : cur.size = c * 3) (htake : cur.toList.take (n * 3) = flat3 xs) (hxl : xs.length = n)
    (hB : Blk w vb #[.int .i64 x.k, .int .i64 x.t, .int .i64 x.s] 116) :
    Calls Tryz.prog 216 #[.slice (some ⟨g, 0, none⟩) n c, .int .i64 i, .slice (some ⟨vb, 0, none⟩) 1 1] w fun e w' => e = .returned (.slice (some ⟨g, 0, none⟩) (n + 1) c) ∧ (∃ cur', w'.heap[g]? = some (.cells cur' 116 (0, 0)) ∧ cur'.size = c * 3 ∧ cur'.toList.take ((n + 1) * 3) = flat3 (xs.take i ++ x :: xs.drop i)) ∧ w.grownBy w' (some g) := by
  unfold maxLen at hc63
  have mixed : Tryz.prog.follows .mixedOrders = true := by kernel_rfl
  obtain ⟨L1, hL1⟩ : ∃ L1, L1 = cur.toList.take ((i + 1) * 3) ++ flat3 (xs.drop i) ++ cur.toList.drop ((i + 1) * 3 + (flat3 (xs.drop i)).length) := ⟨_, rfl⟩
  obtain ⟨L2, hL2⟩ : ∃ L2, L2 = L1.take (i * 3) ++ flat3 [x] ++ L1.drop (i * 3 + (flat3 [x]).length) := ⟨_, rfl⟩
  obtain ⟨l1, l2, ht⟩ := shiftD_cells hxl hi htake (by simp [hcs]; omega) L1 L2 hL1 hL2
  have ld : (flat3 (xs.drop i)).length = (n - i) * 3 := by rw [flat3_len, List.length_drop, hxl]
  have hcell : ∀ (j : Nat) (u : Value), (flat3 xs)[j]? = some u → w.cell? ⟨g, j, none⟩ = some u := fun j u hj => by
    rw [← htake, List.getElem?_take] at hj
    split at hj
    · simp [World.cell?, hg]; simpa using hj
    · cases hj
  have hf : ∀ j, w.frozen? ⟨g, j, none⟩ = false := fun j => by simp [World.frozen?, hg]
  have hov : ∀ lb cb, (callFunc 254 #[.slice (some ⟨vb, 0, none⟩) 1 1, .slice (some ⟨g, (i + 1) * 3, none⟩) lb cb]).run Tryz.prog w = .ok (.value (.bool false)) w := fun lb cb => by
    rw [run_callFunc_extern Tryz.func254 (by kernel_rfl) (by kernel_rfl) (by kernel_rfl) (e := Extern.SlicesOverlaps.overlaps #[30, 30] #[4]) (by kernel_rfl),
      Lib.run_overlaps_apart w 30 4 116 Tryz.underlying30 3 Tryz.sizeOf116 ⟨vb, 0, none⟩ ⟨g, (i + 1) * 3, none⟩ 1 1 lb cb hvb 116 116 3 cur.size (by simp [World.shape?, show w.heap[vb]? = _ from hB]) (by simp [World.shape?, hg]) (by rw [hcs]; omega) (hB.frozen 0) (hB.frozen 3)]
    rfl
  have hz2 : ¬ ((i : Int) = (n : Int)) := by omega
  have hw1 : IntKind.i64.wrap ((i : Int) + 1) = (i : Int) + 1 := by rw [IntKind.wrap_i64]; omega
  have hw2 : IntKind.i64.wrap ((n : Int) + 1) = (n : Int) + 1 := by rw [IntKind.wrap_i64]; omega
  have hb1 : (0 : Int) ≤ (i : Int) + 1 := by omega
  have htn : ((i : Int) + 1).toNat = i + 1 := by omega
  have hb2 : ¬ (c = i + 1) := by omega
  have hb3 : (i : Int) ≤ (n : Int) + 1 := by omega
  have hb4 : ¬ (c = i) := by omega
  have hb5 : (i : Int) ≤ (n : Int) := by omega
  have hb6 : ¬ ((c : Int) < (n : Int) + 1) := by omega
  have htn2 : ((n : Int) + 1).toNat = n + 1 := by omega
  have hcp1 : ∀ ty dc sc, (Builtin.copy_ #[30, 30] ty #[.slice (some ⟨g, (i + 1) * 3, none⟩) (n - i) dc, .slice (some ⟨g, i * 3, none⟩) (n + 1 - i) sc]).run Tryz.prog w.drew = .ok (goInt ((n - i : Nat) : Int)) (w.drew.setRow g L1.toArray) := fun ty dc sc => by
    rw [hL1]
    exact run_copy_rowk w.drew _ _ ty 116 g ((i + 1) * 3) (n - i) dc ⟨g, i * 3, none⟩ (n + 1 - i) sc cur 116 (flat3 (xs.drop i)) (n - i) 3 Tryz.underlying30 sizeDepI hg (by simp only [Nat.min_def]; split <;> omega) ld
      (fun j u hj => by
        rw [addr_add]
        refine hcell (i * 3 + j) u ?_
        rw [← flat3_dropD, List.getElem?_drop] at hj
        exact hj)
      (by rw [ld, hcs]; omega) (flat3_one _)
  have hg1 : (w.drew.setRow g L1.toArray).heap[g]? = some (.cells L1.toArray 116 (0, 0)) := setRow_heap w.drew g cur _ _ _ hg
  have hB1 : Blk (w.drew.setRow g L1.toArray) vb #[.int .i64 x.k, .int .i64 x.t, .int .i64 x.s] 116 := (setRow_other w.drew g vb _ hvb).trans hB
  have hcp2 : ∀ ty dc, (Builtin.copy_ #[30, 30] ty #[.slice (some ⟨g, i * 3, none⟩) (n + 1 - i) dc, .slice (some ⟨vb, 0, none⟩) 1 1]).run Tryz.prog (w.drew.setRow g L1.toArray) = .ok (goInt 1) ((w.drew.setRow g L1.toArray).setRow g L2.toArray) := fun ty dc => by
    rw [hL2]
    exact run_copy_rowk (w.drew.setRow g L1.toArray) _ _ ty 116 g (i * 3) (n + 1 - i) dc ⟨vb, 0, none⟩ 1 1 L1.toArray 116 (flat3 [x]) 1 3 Tryz.underlying30 sizeDepI hg1 (by simp only [Nat.min_def]; split <;> omega) rfl (cells3D hB1) (by rw [flat3_singleD]; simp [l1, hcs]; omega) (flat3_one _)
  have hfin : ((w.drew.setRow g L1.toArray).setRow g L2.toArray).heap[g]? = some (.cells L2.toArray 116 (0, 0)) := setRow_heap _ g L1.toArray _ _ _ hg1
  have hgr : w.grownBy ((w.drew.setRow g L1.toArray).setRow g L2.toArray) (some g) := ⟨rfl, rfl, rfl, by simp [World.setRow], fun k _ hk => (setRow_other _ g k _ (fun e => hk (by rw [e]))).trans (setRow_other w.drew g k _ (fun e => hk (by rw [e])))⟩
  have HE : Hid (L2.toArray.size = c * 3 ∧ L2.toArray.toList.take ((n + 1) * 3) = flat3 (xs.take i ++ x :: xs.drop i)) := ⟨by simp [l2, hcs], by simpa using ht⟩
  clear hL1 hL2 l1 l2 ht hcell htake hcs ld hg1 hB1
  generalize L1.toArray = A1 at *
  generalize L2.toArray = A2 at *
  go_enter Tryz.func216, Tryz.ntmps216
  go_wp2_with (simp only [hov])
  go_region_law_o (refine step_copy_runI rfl _ _ 30 30 rfl _ _ (by simp [Act.eval, Act.put]) (by simp [Act.eval, Act.put]) (hcp1 _ _ _) ?_)
  go_wp2_with (at_builtin; refine wpList_copy_runI _ rfl _ _ 30 30 rfl _ _ rfl rfl (hcp2 _ _) ?_)
  go_ret
  exact ⟨rfl, ⟨A2, hfin, HE.out.1, HE.out.2⟩, hgr⟩

set_option maxHeartbeats 4000000 in
set_option maxRecDepth 100000 in
theorem insertD_end (base vb : Nat) (v : Value) (xs : List D) (x : D) (w : World) (hown : w.ownsRow base 116 3 v xs.length (flat3 xs)) (hn : xs.length ≤ 1000) (hb : base ≤ w.heap.size)
    (hB : Blk w vb #[.int .i64 x.k, .int .i64 x.t, .int .i64 x.s] 116) :
    Calls Tryz.prog 216 #[v, .int .i64 xs.length, .slice (some ⟨vb, 0, none⟩) 1 1] w fun e w' => ∃ v', e = .returned v' ∧ w'.ownsRow base 116 3 v' (xs.length + 1) (flat3 xs ++ flat3 [x]) ∧ w.grownBy w' v.ownBlock ∧ (v'.ownBlock = v.ownBlock ∨ ∃ j, v'.ownBlock = some j ∧ w.heap.size ≤ j) := by
  obtain ⟨i0, hi, hz0, hz1, hz2⟩ := info_parts infoDep
  have hone : ∀ u ∈ flat3 [x], u.oneCell' = true := flat3_one _
  have hcells := cells3D hB
  have h63 : xs.length + 1 ≤ maxLen := by unfold maxLen; omega
  have hby : (xs.length + 1) * 24 ≤ 140737488355328 := by omega
  rcases hown.2 with ⟨rfl, hl⟩ | ⟨g, cap, cur, rfl, _, _, hnc, hcm, _⟩
  · obtain rfl : xs = [] := List.length_eq_zero_iff.1 hl
    clear hl
    simp only [List.length_nil] at *
    go_enter Tryz.func216, Tryz.ntmps216
    go_wp2_with (first | (at_builtin; refine wpList_append_own_at _ rfl _ _ 30 rfl base 116 i0 (.agg #[.int .i64 0, .int .i64 0, .int .i64 0]) 3 24 Tryz.underlying30 hi hz0 hz1 hz2 rfl (by decide) (.slice none 0 0) 0 (flat3 []) rfl hown ⟨vb, 0, none⟩ 1 1 (flat3 [x]) rfl rfl hcells hone h63 hby hb ?_; intro v' w1 hrow hgr _ hloc))
    go_ret
    exact ⟨_, rfl, hrow, hgr, hloc.imp id fun e => ⟨_, e, Nat.le_refl _⟩⟩
  · unfold maxLen at hcm
    have hle : (xs.length : Int) ≤ (cap : Int) := by omega
    generalize hxn : xs.length = n at *
    go_enter Tryz.func216, Tryz.ntmps216
    go_wp2_with (first | (at_builtin; refine wpList_append_own_at _ rfl _ _ 30 rfl base 116 i0 (.agg #[.int .i64 0, .int .i64 0, .int .i64 0]) 3 24 Tryz.underlying30 hi hz0 hz1 hz2 rfl (by decide) (.slice (some ⟨g, 0, none⟩) n cap) n (flat3 xs) rfl hown ⟨vb, 0, none⟩ 1 1 (flat3 [x]) rfl rfl hcells hone h63 hby hb ?_; intro v' w1 hrow hgr _ hloc))
    all_goals
      go_ret
      exact ⟨_, rfl, hrow, hgr, hloc.imp id fun e => ⟨_, e, Nat.le_refl _⟩⟩

set_option maxHeartbeats 4000000 in
set_option maxRecDepth 100000 in
theorem insertD_grow (g n c i vb : Nat) (cur : Array Value) (xs : List D) (x : D) (w : World) (hi : i < n) (hn : n ≤ 1000) (hroom : c < n + 1) (hnc : n ≤ c) (hg : w.heap[g]? = some (.cells cur 116 (0, 0))) (htake : cur.toList.take (n * 3) = flat3 xs) (hxl : xs.length = n)
    (hB : Blk w vb #[.int .i64 x.k, .int .i64 x.t, .int .i64 x.s] 116) :
    Calls Tryz.prog 216 #[.slice (some ⟨g, 0, none⟩) n c, .int .i64 i, .slice (some ⟨vb, 0, none⟩) 1 1] w fun e w' => ∃ G cur', e = .returned (.slice (some ⟨w.heap.size, 0, none⟩) (n + 1) G) ∧ n + 1 ≤ G ∧ G ≤ maxLen ∧ w'.heap[w.heap.size]? = some (.cells cur' 116 (0, 0)) ∧ cur'.size = G * 3 ∧ cur'.toList.take ((n + 1) * 3) = flat3 (xs.take i ++ x :: xs.drop i) ∧ w.grownBy w' none := by
  obtain ⟨i0, hi0, hz0, hzs, hzb⟩ := info_parts infoDep
  have mixed : Tryz.prog.follows .mixedOrders = true := by kernel_rfl
  obtain rfl : c = n := by omega
  have lt : (flat3 (xs.take i)).length = i * 3 := by rw [flat3_len, List.length_take, hxl, Nat.min_eq_left (by omega)]
  have ld : (flat3 (xs.drop i)).length = (c - i) * 3 := by rw [flat3_len, List.length_drop, hxl]
  have hcell : ∀ (j : Nat) (u : Value), (flat3 xs)[j]? = some u → w.cell? ⟨g, j, none⟩ = some u := fun j u hj => by
    rw [← htake, List.getElem?_take] at hj
    split at hj
    · simp [World.cell?, hg]; simpa using hj
    · cases hj
  have hgw : g < w.heap.size := (Array.getElem?_eq_some_iff.1 hg).1
  have hold : (Builtin.firstCells i0.size i (.slice (some ⟨g, 0, none⟩) i c)).run Tryz.prog w.drew = .ok (flat3 (xs.take i)).toArray w.drew := by
    rw [hzs]
    exact run_firstCells_some w.drew 3 i ⟨g, 0, none⟩ i c (flat3 (xs.take i)) lt (fun j u hj => by
      rw [addr_add, Nat.zero_add]
      refine hcell j u ?_
      rw [← flat3_takeD, List.getElem?_take] at hj
      split at hj
      · exact hj
      · cases hj)
  have hik : i + (c + 1 - i) = c + 1 := by omega
  have hkk : (c : Int) + 1 - (i : Int) = ((c + 1 - i : Nat) : Int) := by omega
  obtain ⟨G, hG⟩ : ∃ G, G = grownCap w (c + 1) c 116 := ⟨_, rfl⟩
  obtain ⟨ROW, hROW⟩ : ∃ ROW : Array Value, ROW = (flat3 (xs.take i)).toArray ++ Builtin.zeroCells (Value.agg #[.int .i64 0, .int .i64 0, .int .i64 0]).cells (c + 1 - i) ++ Builtin.zeroCells (Value.agg #[.int .i64 0, .int .i64 0, .int .i64 0]).cells (G - (c + 1)) := ⟨_, rfl⟩
  have hrz : ∀ ty, (Builtin.append_ #[30, 3] ty #[.slice (some ⟨g, 0, none⟩) i c, .int .i64 ((c : Int) + 1 - (i : Int))]).run Tryz.prog w = .ok (.slice (some ⟨w.heap.size, 0, none⟩) (c + 1) G) (w.drew.alloc (.cells ROW 116)) := fun ty => by
    have h := Lib.run_append_grow_zeros w 30 3 ty 116 i0 _ .i64 .i64 Tryz.underlying30 Tryz.underlying3 hi0 hz0 (some ⟨g, 0, none⟩) i c (flat3 (xs.take i)) hold (c + 1 - i) (by omega) (by omega) (by omega) (by omega) (by rw [hzb]; omega) (by rw [hzb, hik]; exact growslice_fits hroom (by omega))
    rw [hik] at h
    rw [hkk, hROW, hG]
    exact h
  have hGn : c + 1 ≤ G := by rw [hG]; exact grownCap_ge w _ _ _
  have hG63 : G ≤ maxLen := by rw [hG]; exact grownCap_le_maxLen w _ _ _ (by unfold maxLen; omega)
  have hzc : ∀ k, (Builtin.zeroCells (Value.agg #[.int .i64 0, .int .i64 0, .int .i64 0]).cells k).size = k * 3 := fun k => by rw [size_zeroCells]; rfl
  have hRs : ROW.size = G * 3 := by rw [hROW]; simp only [Array.size_append, hzc, List.size_toArray, lt]; omega
  have hRl : ROW.toList = flat3 (xs.take i) ++ (Builtin.zeroCells (Value.agg #[.int .i64 0, .int .i64 0, .int .i64 0]).cells (c + 1 - i)).toList ++ (Builtin.zeroCells (Value.agg #[.int .i64 0, .int .i64 0, .int .i64 0]).cells (G - (c + 1))).toList := by rw [hROW]; simp
  obtain ⟨L1, hL1⟩ : ∃ L1, L1 = ROW.toList.take (i * 3) ++ flat3 [x] ++ ROW.toList.drop (i * 3 + (flat3 [x]).length) := ⟨_, rfl⟩
  obtain ⟨L2, hL2⟩ : ∃ L2, L2 = L1.take ((i + 1) * 3) ++ flat3 (xs.drop i) ++ L1.drop ((i + 1) * 3 + (flat3 (xs.drop i)).length) := ⟨_, rfl⟩
  obtain ⟨l1, l2, ht⟩ := growD_cells hxl hi hRl (by rw [Array.length_toList, hzc]) L1 L2 hL1 hL2
  have hRs2 : ROW.toList.length = G * 3 := by rw [Array.length_toList, hRs]
  rw [hRs2] at l1 l2
  have hgN : (w.drew.alloc (.cells ROW 116)).heap[w.heap.size]? = some (.cells ROW 116 (0, 0)) := heap_alloc_new w.drew _
  have hold2 : ∀ k, k < w.heap.size → (w.drew.alloc (.cells ROW 116)).heap[k]? = w.heap[k]? := fun k hk => Below.heap_alloc w.drew _ k hk
  have hcpA : ∀ W : World, W.heap = (w.drew.alloc (.cells ROW 116)).heap → ∀ ty dc, (Builtin.copy_ #[30, 30] ty #[.slice (some ⟨w.heap.size, i * 3, none⟩) (c + 1 - i) dc, .slice (some ⟨vb, 0, none⟩) 1 1]).run Tryz.prog W = .ok (goInt 1) (W.setRow w.heap.size L1.toArray) := fun W hW ty dc => by
    rw [hL1]
    refine run_copy_rowk W _ _ ty 116 w.heap.size (i * 3) (c + 1 - i) dc ⟨vb, 0, none⟩ 1 1 ROW 116 (flat3 [x]) 1 3 Tryz.underlying30 sizeDepI (by rw [hW]; exact hgN) (by simp only [Nat.min_def]; split <;> omega) rfl (cells3D (T := 116) ?_) (by rw [flat3_singleD, hRs]; omega) (flat3_one _)
    show W.heap[vb]? = _
    rw [hW, hold2 vb hB.lt]; exact hB
  have hg1 : ∀ W : World, W.heap = (w.drew.alloc (.cells ROW 116)).heap → (W.setRow w.heap.size L1.toArray).heap[w.heap.size]? = some (.cells L1.toArray 116 (0, 0)) := fun W hW => setRow_heap W w.heap.size ROW _ _ _ (by rw [hW]; exact hgN)
  have ho1 : ∀ W : World, W.heap = (w.drew.alloc (.cells ROW 116)).heap → ∀ k, k < w.heap.size → (W.setRow w.heap.size L1.toArray).heap[k]? = w.heap[k]? := fun W hW k hk => (setRow_other W w.heap.size k _ (by omega)).trans (by rw [hW]; exact hold2 k hk)
  have hcpB : ∀ W : World, W.heap[w.heap.size]? = some (.cells L1.toArray 116 (0, 0)) → (∀ k, k < w.heap.size → W.heap[k]? = w.heap[k]?) → ∀ ty dc sc, (Builtin.copy_ #[30, 30] ty #[.slice (some ⟨w.heap.size, (i + 1) * 3, none⟩) (c - i) dc, .slice (some ⟨g, i * 3, none⟩) (c - i) sc]).run Tryz.prog W = .ok (goInt ((c - i : Nat) : Int)) (W.setRow w.heap.size L2.toArray) := fun W hW hWo ty dc sc => by
    rw [hL2]
    exact run_copy_rowk W _ _ ty 116 w.heap.size ((i + 1) * 3) (c - i) dc ⟨g, i * 3, none⟩ (c - i) sc L1.toArray 116 (flat3 (xs.drop i)) (c - i) 3 Tryz.underlying30 sizeDepI hW (by simp only [Nat.min_def]; split <;> omega) ld
      (fun j u hj => by
        rw [addr_add]
        rw [World.cell?_of_block (w := w) (a := ⟨g, i * 3 + j, none⟩) (hWo g hgw)]
        refine hcell (i * 3 + j) u ?_
        rw [← flat3_dropD, List.getElem?_drop] at hj
        exact hj)
      (by rw [ld]; simp [l1]; omega) (flat3_one _)
  have HE : Hid (L2.toArray.size = G * 3 ∧ L2.toArray.toList.take ((c + 1) * 3) = flat3 (xs.take i ++ x :: xs.drop i)) := ⟨by simp [l2], by simpa using ht⟩
  have hz2 : ¬ ((i : Int) = (c : Int)) := by omega
  have hw1 : IntKind.i64.wrap ((i : Int) + 1) = (i : Int) + 1 := by rw [IntKind.wrap_i64]; omega
  have hw2 : IntKind.i64.wrap ((c : Int) + 1) = (c : Int) + 1 := by rw [IntKind.wrap_i64]; omega
  have hw3 : IntKind.i64.wrap ((c : Int) + 1 - i) = (c : Int) + 1 - i := by rw [IntKind.wrap_i64]; omega
  have hb1 : (0 : Int) ≤ (i : Int) + 1 := by omega
  have htn : ((i : Int) + 1).toNat = i + 1 := by omega
  have hb2 : ¬ (G = i + 1) := by omega
  have hb4 : ¬ (c = i) := by omega
  have hb5 : (i : Int) ≤ (c : Int) := by omega
  have hb6 : ¬ (G = i) := by omega
  have hb7 : (i : Int) ≤ (c : Int) + 1 := by omega
  have hE1 : ((w.alloc (.cells ROW 116)).drew).heap = (w.drew.alloc (.cells ROW 116)).heap := rfl
  have hF1 := hg1 _ hE1
  have hF2 := ho1 _ hE1
  unfold maxLen at hG63
  clear hG hROW hRl hL1 hL2 l1 l2 ht hcell htake hold lt ld hzc hRs hRs2 hik hkk hgN hold2 hg1 ho1
  generalize L1.toArray = A1 at *
  generalize L2.toArray = A2 at *
  go_enter Tryz.func216, Tryz.ntmps216
  go_wp2_with (first | (at_builtin; refine Lib.wpList_append_run _ rfl _ _ _ _ rfl _ _ rfl rfl _ _ (hrz _) ?_) | (at_builtin; refine wpList_copy_runI _ rfl _ _ 30 30 rfl _ _ rfl rfl (hcpA ((w.alloc (.cells ROW 116)).drew) hE1 _ _) ?_))
  go_region_law_o (refine step_copy_runI rfl _ _ 30 30 rfl (.slice (some ⟨w.heap.size, (i + 1) * 3, none⟩) (c - i) (G - (i + 1))) (.slice (some ⟨g, i * 3, none⟩) (c - i) (c - i)) (by simp [Act.eval, Act.put]) (by simp [Act.eval, Act.put]) (hcpB (((w.alloc (.cells ROW 116)).drew.setRow w.heap.size A1).drew) hF1 hF2 3 (G - (i + 1)) (c - i)) ?_)
  go_wp2_with fail
  go_ret
  refine ⟨G, A2, rfl, hGn, by unfold maxLen; omega, ?_, HE.out.1, HE.out.2, ⟨rfl, rfl, rfl, ?_, fun k hk _ => ?_⟩⟩
  · exact setRow_heap _ w.heap.size A1 _ _ _ hF1
  · simp [World.setRow]
  · exact (setRow_other _ w.heap.size k _ (by omega)).trans (hF2 k hk)

theorem insertD_any (base i vb : Nat) (v : Value) (xs : List D) (x : D) (w : World) (hown : w.ownsRow base 116 3 v xs.length (flat3 xs)) (hn : xs.length ≤ 1000) (hi : i ≤ xs.length) (hb : base ≤ w.heap.size) (hvb : v.ownBlock ≠ some vb)
    (hB : Blk w vb #[.int .i64 x.k, .int .i64 x.t, .int .i64 x.s] 116) :
    Calls Tryz.prog 216 #[v, .int .i64 i, .slice (some ⟨vb, 0, none⟩) 1 1] w fun e w' => ∃ v', e = .returned v' ∧ w'.ownsRow base 116 3 v' (xs.take i ++ x :: xs.drop i).length (flat3 (xs.take i ++ x :: xs.drop i)) ∧ w.grownBy w' v.ownBlock ∧ (v'.ownBlock = v.ownBlock ∨ ∃ j, v'.ownBlock = some j ∧ w.heap.size ≤ j) := by
  have hl : (xs.take i ++ x :: xs.drop i).length = xs.length + 1 := by simp only [List.length_append, List.length_cons, List.length_take, List.length_drop]; rw [Nat.min_eq_left hi]; omega
  rw [hl]
  have hfl : (flat3 (xs.take i ++ x :: xs.drop i)).length = (xs.length + 1) * 3 := by rw [flat3_len, hl]
  by_cases he : i = xs.length
  · subst he
    refine (insertD_end base vb v xs x w hown hn hb hB).mono ?_
    rintro e w' ⟨v', rfl, hr, hg, hloc⟩
    refine ⟨v', rfl, ?_, hg, hloc⟩
    rw [List.take_length, List.drop_length, flat3_append]; exact hr
  · have hi2 : i < xs.length := by omega
    rcases hown.2 with ⟨_, h0⟩ | ⟨g, cap, cur, rfl, hbg, hg, hnc, hcm, hcs, ht⟩
    · omega
    · by_cases hroom : xs.length + 1 ≤ cap
      · refine (insertD_shift g xs.length cap i vb cur xs x w hi2 hroom hcm (fun e => hvb (by rw [e]; rfl)) hg hcs ht rfl hB ).mono ?_
        rintro e w' ⟨rfl, ⟨cur', k1, k2, k3⟩, hgr⟩
        exact ⟨_, rfl, ⟨hfl, .inr ⟨g, cap, cur', rfl, hbg, k1, hroom, hcm, k2, k3⟩⟩, hgr, .inl rfl⟩
      · refine (insertD_grow g xs.length cap i vb cur xs x w hi2 hn (by omega) hnc hg ht rfl hB ).mono ?_
        rintro e w' ⟨G, cur', rfl, k0, k4, k1, k2, k3, hgr⟩
        exact ⟨_, rfl, ⟨hfl, .inr ⟨w.heap.size, G, cur', rfl, hb, k1, k0, k4, k2, k3⟩⟩, ⟨hgr.os, hgr.tape, hgr.output, hgr.size, fun k hk _ => hgr.block k hk (by simp)⟩, .inr ⟨_, rfl, Nat.le_refl _⟩⟩

end Go.Proofs.YtpjidogilofppaaGreat

/- The program's search among debts in order; a debt goes in at its place. -/
namespace Go.Proofs.YtpjidogilofppaaGreat
open Go.ChangeShapes Go.WideShapes Go.ChangeAt Go.RowKit

/-- A debt as a version, by its name alone. -/
abbrev asD (d : D) : V := asV d.k d.t d.s
theorem ordD_is {d : D} {k t s : Int} {r : Int} (h : dOrd d.k d.t d.s k t s = r) {w : World} :
    Calls Tryz.prog 165 #[depV d.k d.t d.s, depV k t s] w fun e w' => e = .returned (.int .i64 r) ∧ Below w.heap.size w w' := by rw [← h]; exact depAgainst_any d.k d.t d.s k t s w
set_option maxHeartbeats 4000000 in
set_option maxRecDepth 100000 in
theorem placeDD_any (a : Option Addr) (cap : Nat) (ds : List D) (gs : List V) (hgs : gs = ds.map asD) (k t s : Int) (w : World) (hn : gs.length ≤ 1000) (ha : Asc gs) (h : Deps w a ds) :
    Calls Tryz.prog 215 #[.slice a ds.length cap, depV k t s, .func (.func 165) #[] #[]] w fun e w' => e = .returned (.tuple #[.int .i64 (plcD gs k t s), .bool (hasB gs k t s)]) ∧ Below w.heap.size w w' := by
  have hlen : gs.length = ds.length := by rw [hgs, List.length_map]
  rw [← hlen]
  have HL : Hid (gs.length = ds.length) := hlen
  have HG : Hid (gs = ds.map asD) := hgs
  clear hlen hgs
  have S1 := Blk.new w #[.int .i64 k, .int .i64 t, .int .i64 s] 116
  have b0 : Below w.heap.size w (w.alloc (.cells #[.int .i64 k, .int .i64 t, .int .i64 s] 116)) := (Below.refl _ w).alloc (Nat.le_refl _) _
  have h1 := h.below b0
  have hp := S1.lt
  clear h
  go_enter Tryz.func215, Tryz.ntmps215
  go_wp2
  generalize w.alloc (.cells #[.int .i64 k, .int .i64 t, .int .i64 s] 116) = W1 at *
  go_loopw [8, 9] (fun lo hi wr => ∃ l h : Nat, l ≤ h ∧ h ≤ gs.length ∧ lo = .int .i64 l ∧ hi = .int .i64 h ∧ Hid (SoughtD gs k t s l h) ∧ Below W1.heap.size W1 wr) (fun lo hi _ => (intOf hi - intOf lo).toNat)
  case atStart => exact ⟨0, gs.length, Nat.zero_le _, Nat.le_refl _, rfl, rfl, ⟨fun j hj h => absurd h (Nat.not_lt_zero _), fun j hj h => absurd hj (by omega)⟩, Below.refl _ _⟩
  case round =>
    obtain ⟨l, h, hlh, hh, rfl, rfl, HS, hB⟩ := hrel
    have hS := S1.below hB hp
    have rz : ∀ (n : Wof (Since wr)) (j : Nat), n.W.cell? ⟨w.heap.size, j, none⟩ = #[.int .i64 k, .int .i64 t, .int .i64 s][j]? := fun n j => (hS.below n.h hS.lt).cell j
    have ne := since_ne wr
    by_cases hlt : l < h
    · obtain ⟨m, hm⟩ : ∃ m : Nat, (m : Int) = (l : Int) + ((h : Int) - l) / 2 := ⟨l + (h - l) / 2, by omega⟩
      have hm1 : l ≤ m := by omega
      have hm2 : m < h := by omega
      have HM : Hid ((m : Int) = (l : Int) + ((h : Int) - l) / 2) := hm
      clear hm
      have hmg : m < gs.length := by omega
      obtain ⟨b, o, rfl, hbb, hv1⟩ := (h1.below hB).at (k := m) (by have := HL.out; omega)
      have hgm : gs[m] = asD (ds[m]'(by have := HL.out; omega)) := by simp [HG.out]
      have r0 := since_cell hv1.1
      have r1 := since_cell hv1.2.1
      have r2 := since_cell hv1.2.2
      obtain ⟨d, hd⟩ : ∃ d, d = ds[m]'(by have := HL.out; omega) := ⟨_, rfl⟩
      rw [← hd] at hgm r0 r1 r2
      obtain ⟨r, hr⟩ : ∃ r, dOrd d.k d.t d.s k t s = r := ⟨_, rfl⟩
      have hlB : decide (r < 0) = lessV gs[m] (asV k t s) := by rw [← hr, hgm]; exact dOrd_less _ _ _ _ _ _
      by_cases hneg : r < 0
      · have HU : Hid (SoughtD gs k t s (m + 1) h) := HS.out.up ha hmg (by rw [← hlB]; simpa using hneg)
        clear hv1 hlB hgm hd
        have m0 : (0 : Int) ≤ (m : Int) := by omega
        have m1 : (m : Int) < (gs.length : Int) := by omega
        have m2 : (m : Int) < 1000 := by omega
        go_wp2_with fail
        rw [← HM.out]
        refine wp_region_class (S := Since wr) (by kernel_rfl) (by kernel_rfl) (Below.refl _ _).drew ?_
        repeat (go_big_quiet_step ((rename_i n; first | (go_at_call 165; exact Calls.inClass (ordD_is hr) Since.keep))))
        refine wpQuiet_nil ?_
        rintro W ⟨n, hnW⟩
        have R2 := n.h
        rw [← hnW] at R2
        have hB2 : Below W1.heap.size W1 W := hB.trans (R2.mono hB.size)
        clear R2 r0 r1 r2 rz ne hnW n hB hS
        go_wp2
        go_roundw
        case rel => exact ⟨m + 1, h, by omega, hh, by go_num, rfl, HU, hB2⟩
        case measure => simp [intOf]; omega
      · have HU : Hid (SoughtD gs k t s l m) := HS.out.down ha hmg (by rw [← hlB]; simpa using hneg)
        have hneg2 : decide (r < 0) = false := by simpa using hneg
        clear hv1 hlB hgm hd
        have m0 : (0 : Int) ≤ (m : Int) := by omega
        have m1 : (m : Int) < (gs.length : Int) := by omega
        go_wp2_with fail
        rw [← HM.out]
        refine wp_region_class (S := Since wr) (by kernel_rfl) (by kernel_rfl) (Below.refl _ _).drew ?_
        repeat (go_big_quiet_step ((rename_i n; first | (go_at_call 165; exact Calls.inClass (ordD_is hr) Since.keep))))
        refine wpQuiet_nil ?_
        rintro W ⟨n, hnW⟩
        have R2 := n.h
        rw [← hnW] at R2
        have hB2 : Below W1.heap.size W1 W := hB.trans (R2.mono hB.size)
        clear R2 r0 r1 r2 rz ne hnW n hB hS
        go_wp2
        go_roundw
        case rel => exact ⟨l, m, hm1, by omega, rfl, rfl, HU, hB2⟩
        case measure => simp [intOf]; omega
    · have hk2 : l = h := by omega
      subst hk2
      have HP : Hid (plcD gs k t s = l) := HS.out.plc hh
      by_cases hend : l < gs.length
      · obtain ⟨b, o, rfl, hbb, hv1⟩ := (h1.below hB).at (k := l) (by have := HL.out; omega)
        have hgl : gs[l] = asD (ds[l]'(by have := HL.out; omega)) := by simp [HG.out]
        have r0 := since_cell hv1.1
        have r1 := since_cell hv1.2.1
        have r2 := since_cell hv1.2.2
        obtain ⟨d, hd⟩ : ∃ d, d = ds[l]'(by have := HL.out; omega) := ⟨_, rfl⟩
        rw [← hd] at hgl r0 r1 r2
        obtain ⟨r, hr⟩ : ∃ r, dOrd d.k d.t d.s k t s = r := ⟨_, rfl⟩
        have HT : Hid (hasB gs k t s = (r == 0)) := by
          show hasB gs k t s = (r == 0)
          rw [hasD_at HS.out ha hend, ← hr, Bool.eq_iff_iff, hgl]
          simp [dOrd_zero]
        clear hv1 hgl hd
        have m0 : (0 : Int) ≤ (l : Int) := by omega
        have m1 : (l : Int) < (gs.length : Int) := by omega
        go_wp2_with fail
        refine wp_region_class (S := Since wr) (by kernel_rfl) (by kernel_rfl) (Below.refl _ _).drew ?_
        repeat (go_big_quiet_step ((rename_i n; first | (go_at_call 165; exact Calls.inClass (ordD_is hr) Since.keep))))
        refine wpQuiet_nil ?_
        rintro W ⟨n, hnW⟩
        have R2 := n.h
        rw [← hnW] at R2
        have hB2 : Below W1.heap.size W1 W := hB.trans (R2.mono hB.size)
        clear R2 r0 r1 r2 rz ne hnW n hB hS
        go_wp2
        go_ret2
        exact ⟨by rw [HP.out, HT.out]; rfl, b0.trans (hB2.mono b0.size)⟩
      · have he : l = gs.length := by omega
        subst he
        have HT : Hid (hasB gs k t s = false) := hasD_end HS.out
        clear hS
        go_wp2_with fail
        refine wp_region_class (S := Since wr) (by kernel_rfl) (by kernel_rfl) (Below.refl _ _).drew ?_
        repeat (go_big_quiet_step ((fail)))
        refine wpQuiet_nil ?_
        rintro W ⟨n, hnW⟩
        have R2 := n.h
        rw [← hnW] at R2
        have hB2 : Below W1.heap.size W1 W := hB.trans (R2.mono hB.size)
        clear R2 rz ne hnW n hB
        go_wp2
        go_ret2
        exact ⟨by rw [HP.out, HT.out]; rfl, b0.trans (hB2.mono b0.size)⟩


theorem hasDebt_any (a : Option Addr) (cap : Nat) (ds : List D) (k t s : Int) (w : World) (hl : ds.length ≤ 1000) (ha : Asc (ds.map asD)) (h : Deps w a ds) :
    Calls Tryz.prog 163 #[.slice a ds.length cap, depV k t s] w fun e w' => e = .returned (.bool (hasB (ds.map asD) k t s)) ∧ Below w.heap.size w w' := by
  have b0 : Below w.heap.size w (w.alloc (.cells #[.int .i64 k, .int .i64 t, .int .i64 s] 116)) := (Below.refl _ w).alloc (Nat.le_refl _) _
  have hP := placeDD_any a cap ds (ds.map asD) rfl k t s _ (by simpa using hl) ha (h.below b0)
  generalize hasB (ds.map asD) k t s = r at *
  generalize plcD (ds.map asD) k t s = p at *
  clear h ha
  go_enter Tryz.func163, Tryz.ntmps163
  go_wp2_with fail
  refine hP.mono ?_
  rintro e w1 ⟨rfl, hb⟩
  go_wp2_with fail
  go_ret
  exact ⟨rfl, b0.trans (hb.mono b0.size)⟩
end Go.Proofs.YtpjidogilofppaaGreat

/- A debt is put among debts in order. -/
namespace Go.Proofs.YtpjidogilofppaaGreat
open Go.ChangeShapes Go.WideShapes Go.ChangeAt Go.RowKit

/-- Debts in order with one more. -/
def insD (ds : List D) (d : D) : List D := ds.take (plcD (ds.map asD) d.k d.t d.s) ++ d :: ds.drop (plcD (ds.map asD) d.k d.t d.s)
theorem plcD_le (gs : List V) (k t s : Int) : plcD gs k t s ≤ gs.length := by
  unfold plcD
  exact (List.takeWhile_sublist _).length_le
theorem insD_len (ds : List D) (d : D) : (insD ds d).length = ds.length + 1 := by
  have := plcD_le (ds.map asD) d.k d.t d.s
  unfold insD
  simp only [List.length_append, List.length_cons, List.length_take, List.length_drop]
  simp at this
  omega
theorem insD_mem (ds : List D) (d x : D) : x ∈ insD ds d ↔ x = d ∨ x ∈ ds := by
  have e : x ∈ ds ↔ x ∈ ds.take (plcD (ds.map asD) d.k d.t d.s) ∨ x ∈ ds.drop (plcD (ds.map asD) d.k d.t d.s) := by
    conv => lhs; rw [← List.take_append_drop (plcD (ds.map asD) d.k d.t d.s) ds]
    exact List.mem_append
  unfold insD
  rw [List.mem_append, List.mem_cons, e]
  constructor
  · rintro (h | h | h)
    · exact .inr (.inl h)
    · exact .inl h
    · exact .inr (.inr h)
  · rintro (h | h | h)
    · exact .inr (.inl h)
    · exact .inl h
    · exact .inr (.inr h)
theorem hasB_mem (ds : List D) (d : D) : hasB (ds.map asD) d.k d.t d.s = true ↔ d ∈ ds := by
  unfold hasB
  rcases hc : cAt (ds.map asD) d.k d.t d.s with _ | v
  · simp only [Option.isSome_none]
    constructor
    · intro h; cases h
    · intro h
      exfalso
      unfold cAt at hc
      rw [List.find?_eq_none] at hc
      have := hc (asD d) (List.mem_map_of_mem h)
      simp [sameB] at this
  · obtain ⟨hv, e1, e2, e3⟩ := cAt_mem hc
    obtain ⟨x, hx, rfl⟩ := List.mem_map.1 hv
    simp only [Option.isSome_some, true_iff]
    have : x = d := by cases x; cases d; simp only at e1 e2 e3; subst e1 e2 e3; rfl
    subst this; exact hx
theorem plcD_before (gs : List V) (k t s : Int) : ∀ j, (hj : j < gs.length) → j < plcD gs k t s → lessV gs[j] (asV k t s) = true := by
  induction gs with
  | nil => intro j hj; cases hj
  | cons x xs ih =>
    intro j hj h
    unfold plcD at h
    rw [List.takeWhile_cons] at h
    by_cases hx : lessV x (asV k t s) = true
    · rw [if_pos hx, List.length_cons] at h
      cases j with
      | zero => exact hx
      | succ j => exact ih j (by simpa using hj) (by unfold plcD; omega)
    · rw [if_neg hx] at h; cases h
theorem plcD_at (gs : List V) (k t s : Int) : (h : plcD gs k t s < gs.length) → lessV (gs[plcD gs k t s]) (asV k t s) = false := by
  induction gs with
  | nil => intro h; cases h
  | cons x xs ih =>
    intro h
    by_cases hx : lessV x (asV k t s) = true
    · have e : plcD (x :: xs) k t s = plcD xs k t s + 1 := by unfold plcD; rw [List.takeWhile_cons, if_pos hx]; rfl
      have h' : plcD xs k t s < xs.length := by rw [e] at h; simpa using h
      have := ih h'
      simp only [e, List.getElem_cons_succ]
      exact this
    · have e : plcD (x :: xs) k t s = 0 := by unfold plcD; rw [List.takeWhile_cons, if_neg hx]; rfl
      simp only [e, List.getElem_cons_zero]
      cases hq : lessV x (asV k t s)
      · rfl
      · exact absurd hq hx
theorem insD_asc {ds : List D} {d : D} (ha : Asc (ds.map asD)) (hn : d ∉ ds) : Asc ((insD ds d).map asD) := by
  obtain ⟨p, hp⟩ : ∃ p, p = plcD (ds.map asD) d.k d.t d.s := ⟨_, rfl⟩
  have hle : p ≤ ds.length := by rw [hp]; simpa using plcD_le (ds.map asD) d.k d.t d.s
  have h1 : ∀ j, (hj : j < ds.length) → j < p → lessV (asD ds[j]) (asD d) = true := fun j hj h => by
    have := plcD_before (ds.map asD) d.k d.t d.s j (by simpa using hj) (by rw [← hp]; exact h)
    simpa using this
  have h2 : ∀ j, (hj : j < ds.length) → p ≤ j → lessV (asD d) (asD ds[j]) = true := fun j hj h => by
    have hpl : p < ds.length := by omega
    have h0 : lessV (asD ds[p]) (asD d) = false := by
      have := plcD_at (ds.map asD) d.k d.t d.s (by rw [← hp]; simpa using hpl)
      simp only [← hp] at this
      simpa using this
    have hd : lessV (asD d) (asD ds[p]) = true := by
      rw [lessV_false] at h0
      rw [lessV_iff]
      have hne : ¬ (ds[p].k = d.k ∧ ds[p].t = d.t ∧ ds[p].s = d.s) := by
        rintro ⟨e1, e2, e3⟩
        refine hn ?_
        have : ds[p] = d := by
          generalize ds[p] = x at *
          cases x; cases d; simp only at e1 e2 e3; subst e1 e2 e3; rfl
        rw [← this]; exact List.getElem_mem hpl
      simp only [asD] at *
      omega
    by_cases e : p = j
    · subst e; exact hd
    · have := List.pairwise_iff_getElem.1 ha p j (by simpa using hpl) (by simpa using hj) (by omega)
      refine lessV_trans hd ?_
      simpa using this
  show List.Pairwise _ _
  unfold insD
  rw [← hp, List.map_append, List.map_cons]
  refine List.pairwise_append.2 ⟨?_, List.pairwise_cons.2 ⟨?_, ?_⟩, ?_⟩
  · rw [List.map_take]; exact List.Pairwise.sublist (List.take_sublist _ _) ha
  · intro x hx
    obtain ⟨y, hy, rfl⟩ := List.mem_map.1 hx
    obtain ⟨j, hj, rfl⟩ := List.getElem_of_mem hy
    rw [List.getElem_drop]
    exact h2 _ _ (by omega)
  · rw [List.map_drop]; exact List.Pairwise.sublist (List.drop_sublist _ _) ha
  · intro x hx y hy
    obtain ⟨x', hx', rfl⟩ := List.mem_map.1 hx
    obtain ⟨j, hj, rfl⟩ := List.getElem_of_mem hx'
    rw [List.getElem_take]
    have hj2 : j < p := by simp at hj; omega
    have hxd := h1 j (by simp at hj; omega) hj2
    rcases List.mem_cons.1 hy with rfl | hy
    · exact hxd
    · obtain ⟨y', hy', rfl⟩ := List.mem_map.1 hy
      obtain ⟨i, hi, rfl⟩ := List.getElem_of_mem hy'
      rw [List.getElem_drop]
      exact lessV_trans hxd (h2 _ _ (by omega))

set_option maxHeartbeats 2000000 in
theorem withOneD_any (v : Value) (base : Nat) (ds : List D) (d : D) (w : World) (hown : RowD w base v ds) (hl : ds.length ≤ 999) (ha : Asc (ds.map asD)) (hno : d ∉ ds) (hb : base ≤ w.heap.size) :
    Calls Tryz.prog 164 #[v, depV d.k d.t d.s, .func (.func 165) #[] #[]] w fun e w' => ∃ a cap, e = .returned (.slice a (insD ds d).length cap) ∧ RowD w' base (.slice a (insD ds d).length cap) (insD ds d) ∧ Only w w' (fun b => w.heap.size ≤ b ∨ v.ownBlock = some b) := by
  have b0 : Below w.heap.size w (w.alloc (.cells #[.int .i64 d.k, .int .i64 d.t, .int .i64 d.s] 116)) := (Below.refl _ w).alloc (Nat.le_refl _) _
  have B0 := Blk.new w #[.int .i64 d.k, .int .i64 d.t, .int .i64 d.s] 116
  obtain ⟨a, cap, rfl, _⟩ := row_slice hown
  have hh : hasB (ds.map asD) d.k d.t d.s = false := by
    cases hq : hasB (ds.map asD) d.k d.t d.s
    · rfl
    · exact absurd ((hasB_mem ds d).1 hq) hno
  have hP := placeDD_any a cap ds (ds.map asD) rfl d.k d.t d.s _ (by simp; omega) ha ((row_deps' hown).below b0)
  rw [hh] at hP
  have hple : plcD (ds.map asD) d.k d.t d.s ≤ ds.length := by simpa using plcD_le (ds.map asD) d.k d.t d.s
  have HI : Hid (insD ds d = ds.take (plcD (ds.map asD) d.k d.t d.s) ++ d :: ds.drop (plcD (ds.map asD) d.k d.t d.s)) := rfl
  generalize plcD (ds.map asD) d.k d.t d.s = p at *
  have HR : Hid (RowD w base (.slice a ds.length cap) ds) := hown
  clear hh ha hno hown
  go_enter Tryz.func164, Tryz.ntmps164
  go_wp2_with fail
  generalize w.alloc (.cells #[.int .i64 d.k, .int .i64 d.t, .int .i64 d.s] 116) = w0 at *
  refine hP.mono ?_
  rintro e w1 ⟨rfl, hb1⟩
  have B1 := B0.below hb1 B0.lt
  obtain ⟨q1, g1⟩ := B1.rules
  have B01 := b0.trans (hb1.mono b0.size)
  have b2 := (Below.refl w1.heap.size w1).alloc (Nat.le_refl _) (.cells #[.int .i64 d.k, .int .i64 d.t, .int .i64 d.s] 116)
  have N2 := Blk.new w1 #[.int .i64 d.k, .int .i64 d.t, .int .i64 d.s] 116
  have B02 := B01.trans (b2.mono B01.size)
  have PK : Hid _ := And.intro B01 (And.intro b2 (And.intro N2 (And.intro B02 (And.intro b0 hb1))))
  clear hP B01 b2 N2 B02 b0 hb1 B0 B1
  go_wp2_with fail
  clear q1 g1
  obtain ⟨B01, b2, N2, B02, b0, hb1⟩ := PK.out
  refine (insertD_any base p w1.heap.size (.slice a ds.length cap) ds d _ (row_below HR.out B02 (Nat.le_refl _)) (by omega) hple (Nat.le_trans hb B02.size) (fun e => by have := (HR.out.lt _ e).2; have := B01.size; omega) N2).mono ?_
  rintro e w3 ⟨v', rfl, hr, hg, hloc⟩
  have o3 : Only w w3 (fun b => w.heap.size ≤ b ∨ (Value.slice a ds.length cap).ownBlock = some b) := by
    have o1 : Only w (w1.alloc (.cells #[.int .i64 d.k, .int .i64 d.t, .int .i64 d.s] 116)) (fun b => w.heap.size ≤ b ∨ (Value.slice a ds.length cap).ownBlock = some b) := ⟨B02.os, B02.tape, B02.output, B02.size, fun k hk hs => B02.block k hk⟩
    exact o1.trans ((only_grown hg).wide fun j hj => .inr hj)
  have HF : Hid _ := And.intro hr o3
  clear hr hg hloc o3 PK B01 b2 N2 B02 b0 hb1 HR
  go_wp2_with fail
  obtain ⟨hr, o3⟩ := HF.out
  rw [← HI.out] at hr
  obtain ⟨a', cap', rfl, _⟩ := row_slice hr
  go_ret
  exact ⟨a', cap', rfl, hr, o3⟩
end Go.Proofs.YtpjidogilofppaaGreat

/- What a host asks of itself: whose side a site is of, whether a key's slot is owned, whether a dep is seen. -/
namespace Go.Proofs.YtpjidogilofppaaGreat
open Go.ChangeShapes Go.WideShapes Go.ChangeAt Go.RowKit

theorem host_rule {w : World} {B : Nat} {vs : Array Value} {T : TypeId} (h : Blk w B vs T) : ∀ (n : Wof (Since w)) (j : Nat), n.W.cell? ⟨B, j, none⟩ = vs[j]? := fun n j => (h.below n.h h.lt).cell j

set_option maxHeartbeats 1000000 in
theorem onSide_any (B : Nat) (site : Int) (up : Bool) (v1 v2 v3 v4 : Value) (t1 t2 t3 : Sl) (n : Int) (w : World) (hB : Blk w B (hostC site up v1 v2 v3 v4 t1 t2 t3) 88) :
    Calls Tryz.prog 160 #[.pointer (some ⟨B, 0, none⟩), .int .i64 n] w fun e w' => e = .returned (.bool (sideOf n == sideOf site)) ∧ Below w.heap.size w w' := by
  have r1 := host_rule hB
  have ne := since_ne w
  go_enter Tryz.func160, Tryz.ntmps160
  go_wp2_with fail
  refine wp_region_class (S := Since w) (by kernel_rfl) (by kernel_rfl) (Below.refl _ _).drew ?_
  repeat (go_big_quiet_step ((rename_i n; first | (go_at_call 187; exact Calls.inClass (side_b _) Since.keep))))
  refine wpQuiet_nil ?_
  rintro W ⟨n, hnW⟩
  have R2 := n.h
  rw [← hnW] at R2
  clear r1 ne hnW n hB
  go_wp2_with fail
  go_ret
  exact ⟨rfl, R2⟩
theorem onSide_is {B : Nat} {site : Int} {up : Bool} {v1 v2 v3 v4 : Value} {t1 t2 t3 : Sl} {n : Int} {r : Bool} (h : (sideOf n == sideOf site) = r) {w : World} (hB : Blk w B (hostC site up v1 v2 v3 v4 t1 t2 t3) 88) :
    Calls Tryz.prog 160 #[.pointer (some ⟨B, 0, none⟩), .int .i64 n] w fun e w' => e = .returned (.bool r) ∧ Below w.heap.size w w' := by rw [← h]; exact onSide_any B site up v1 v2 v3 v4 t1 t2 t3 n w hB

set_option maxHeartbeats 1000000 in
theorem ownsKey_any (B : Nat) (site : Int) (up : Bool) (v1 v2 v3 v4 : Value) (t1 t2 t3 : Sl) (n : Int) (w : World) (hB : Blk w B (hostC site up v1 v2 v3 v4 t1 t2 t3) 88) :
    Calls Tryz.prog 159 #[.pointer (some ⟨B, 0, none⟩), .int .i64 n] w fun e w' => e = .returned (.bool (ownsB [t1, t2, t3] (slotOf n))) ∧ Below w.heap.size w w' := by
  have r1 := host_rule hB
  have ne := since_ne w
  generalize hq : slotOf n = q
  obtain ⟨r, hr⟩ : ∃ r, ownsB [t1, t2, t3] q = r := ⟨_, rfl⟩
  rw [hr]
  have hs := fun W => slot_is hq W
  clear hq
  go_enter Tryz.func159, Tryz.ntmps159
  go_wp2_with fail
  refine wp_region_class (S := Since w) (by kernel_rfl) (by kernel_rfl) (Below.refl _ _).drew ?_
  repeat (go_big_quiet_step ((rename_i n; first | (go_at_call 201; exact Calls.inClass ((hs _).mono fun e w' h => ⟨h.1, by rw [h.2]; exact Below.refl _ _⟩) Since.keep) | (go_at_call 137; exact Calls.inClass (ownsI_is hr) Since.keep))))
  refine wpQuiet_nil ?_
  rintro W ⟨n, hnW⟩
  have R2 := n.h
  rw [← hnW] at R2
  clear r1 ne hnW n hB hs
  go_wp2_with fail
  go_ret
  exact ⟨rfl, R2⟩
theorem ownsKey_is {B : Nat} {site : Int} {up : Bool} {v1 v2 v3 v4 : Value} {t1 t2 t3 : Sl} {n : Int} {r : Bool} (h : ownsB [t1, t2, t3] (slotOf n) = r) {w : World} (hB : Blk w B (hostC site up v1 v2 v3 v4 t1 t2 t3) 88) :
    Calls Tryz.prog 159 #[.pointer (some ⟨B, 0, none⟩), .int .i64 n] w fun e w' => e = .returned (.bool r) ∧ Below w.heap.size w w' := by rw [← h]; exact ownsKey_any B site up v1 v2 v3 v4 t1 t2 t3 n w hB

/-- Whether a dep is seen: here, or known. -/
def seesB (vs : List V) (kn : List D) (d : D) : Bool := hasB vs d.k d.t d.s || hasB (kn.map asD) d.k d.t d.s
set_option maxHeartbeats 2000000 in
theorem sees_any (B : Nat) (site : Int) (up : Bool) (va ka : Option Addr) (vc kc : Nat) (v2 v3 : Value) (vs : List V) (kn : List D) (t1 t2 t3 : Sl) (d : D) (w : World) (hB : Blk w B (hostC site up (.slice va vs.length vc) v2 v3 (.slice ka kn.length kc) t1 t2 t3) 88)
    (hc : chainB vs = true) (hv : Vers w va vs) (hl : kn.length ≤ 1000) (ha : Asc (kn.map asD)) (hk : Deps w ka kn) :
    Calls Tryz.prog 162 #[.pointer (some ⟨B, 0, none⟩), depV d.k d.t d.s] w fun e w' => e = .returned (.bool (seesB vs kn d)) ∧ Below w.heap.size w w' := by
  have b0 : Below w.heap.size w (w.alloc (.cells #[.int .i64 d.k, .int .i64 d.t, .int .i64 d.s] 116)) := (Below.refl _ w).alloc (Nat.le_refl _) _
  have r2 := host_rule (Blk.new w #[.int .i64 d.k, .int .i64 d.t, .int .i64 d.s] 116)
  have r1 := host_rule (hB.below b0 hB.lt)
  have hv0 := hv.below b0
  have hk0 := hk.below b0
  have ne := since_ne (w.alloc (.cells #[.int .i64 d.k, .int .i64 d.t, .int .i64 d.s] 116))
  obtain ⟨ra, hra⟩ : ∃ r, hasB vs d.k d.t d.s = r := ⟨_, rfl⟩
  obtain ⟨rb, hrb⟩ : ∃ r, hasB (kn.map asD) d.k d.t d.s = r := ⟨_, rfl⟩
  have HV : Hid (∀ W, Below (w.alloc (.cells #[.int .i64 d.k, .int .i64 d.t, .int .i64 d.s] 116)).heap.size (w.alloc (.cells #[.int .i64 d.k, .int .i64 d.t, .int .i64 d.s] 116)) W → Calls Tryz.prog 214 #[.slice va vs.length vc, depV d.k d.t d.s] W fun e w' => e = .returned (.bool ra) ∧ Below W.heap.size W w') := by
    show ∀ W, _; intro W hW; rw [← hra]; exact hasVer_any va vc vs d.k d.t d.s W hc (hv0.below hW)
  have HK : Hid (∀ W, Below (w.alloc (.cells #[.int .i64 d.k, .int .i64 d.t, .int .i64 d.s] 116)).heap.size (w.alloc (.cells #[.int .i64 d.k, .int .i64 d.t, .int .i64 d.s] 116)) W → Calls Tryz.prog 163 #[.slice ka kn.length kc, depV d.k d.t d.s] W fun e w' => e = .returned (.bool rb) ∧ Below W.heap.size W w') := by
    show ∀ W, _; intro W hW; rw [← hrb]; exact hasDebt_any ka kc kn d.k d.t d.s W hl ha (hk0.below hW)
  have HS : Hid (seesB vs kn d = (ra || rb)) := by show seesB vs kn d = _; unfold seesB; rw [hra, hrb]
  clear hra hrb hc hv hl ha hk hv0 hk0 hB
  go_enter Tryz.func162, Tryz.ntmps162
  go_wp2_with fail
  generalize (w.alloc (.cells #[.int .i64 d.k, .int .i64 d.t, .int .i64 d.s] 116)) = w0 at *
  cases ra
  · refine wp_region_class (S := Since w0) (by kernel_rfl) (by kernel_rfl) (Below.refl _ _).drew ?_
    repeat (go_big_quiet_step ((rename_i n; first | (go_at_call 214; exact Calls.inClass (HV.out _ n.h) Since.keep) | (go_at_call 163; exact Calls.inClass (HK.out _ n.h) Since.keep))))
    refine wpQuiet_nil ?_
    rintro W ⟨n, hnW⟩
    have R2 := n.h
    rw [← hnW] at R2
    clear r1 r2 ne hnW n HV HK
    go_wp2_with fail
    go_ret
    exact ⟨by rw [HS.out]; rfl, b0.trans (R2.mono b0.size)⟩
  · refine wp_region_class (S := Since w0) (by kernel_rfl) (by kernel_rfl) (Below.refl _ _).drew ?_
    repeat (go_big_quiet_step ((rename_i n; first | (go_at_call 214; exact Calls.inClass (HV.out _ n.h) Since.keep) | (go_at_call 163; exact Calls.inClass (HK.out _ n.h) Since.keep))))
    refine wpQuiet_nil ?_
    rintro W ⟨n, hnW⟩
    have R2 := n.h
    rw [← hnW] at R2
    clear r1 r2 ne hnW n HV HK
    go_wp2_with fail
    go_ret
    exact ⟨by rw [HS.out]; rfl, b0.trans (R2.mono b0.size)⟩
theorem sees_is {B : Nat} {site : Int} {up : Bool} {va ka : Option Addr} {vc kc : Nat} {v2 v3 : Value} {vs : List V} {kn : List D} {t1 t2 t3 : Sl} {d : D} {r : Bool} (h : seesB vs kn d = r) {w : World} (hB : Blk w B (hostC site up (.slice va vs.length vc) v2 v3 (.slice ka kn.length kc) t1 t2 t3) 88)
    (hc : chainB vs = true) (hv : Vers w va vs) (hl : kn.length ≤ 1000) (ha : Asc (kn.map asD)) (hk : Deps w ka kn) :
    Calls Tryz.prog 162 #[.pointer (some ⟨B, 0, none⟩), depV d.k d.t d.s] w fun e w' => e = .returned (.bool r) ∧ Below w.heap.size w w' := by rw [← h]; exact sees_any B site up va ka vc kc v2 v3 vs kn t1 t2 t3 d w hB hc hv hl ha hk
end Go.Proofs.YtpjidogilofppaaGreat

/- A host finds a version by its key and stamp. -/
namespace Go.Proofs.YtpjidogilofppaaGreat
open Go.ChangeShapes Go.WideShapes Go.ChangeAt Go.RowKit
theorem hidOf {p : Prop} (h : p) : Hid p := h
theorem fill7_onlyT {W : World} {Z : Nat} {v0 v1 v2 v3 v4 v5 v6 : Value} : Only W ((((((((W).setCell ⟨Z, 0, none⟩ v0).setCell ⟨Z, 1, none⟩ v1).setCell ⟨Z, 2, none⟩ v2).setCell ⟨Z, 3, none⟩ v3).setCell ⟨Z, 4, none⟩ v4).setCell ⟨Z, 5, none⟩ v5).setCell ⟨Z, 6, none⟩ v6) (fun b => b = Z) := (((((((Only.refl W (fun b => b = Z)).set (A := Z) rfl _).set (A := Z) rfl _).set (A := Z) rfl _).set (A := Z) rfl _).set (A := Z) rfl _).set (A := Z) rfl _).set (A := Z) rfl _
theorem fill7_otherT {W : World} {B Z : Nat} {vs : Array Value} {T : TypeId} {v0 v1 v2 v3 v4 v5 v6 : Value} (h : Blk W B vs T) (hne : B ≠ Z) : Blk ((((((((W).setCell ⟨Z, 0, none⟩ v0).setCell ⟨Z, 1, none⟩ v1).setCell ⟨Z, 2, none⟩ v2).setCell ⟨Z, 3, none⟩ v3).setCell ⟨Z, 4, none⟩ v4).setCell ⟨Z, 5, none⟩ v5).setCell ⟨Z, 6, none⟩ v6) B vs T := Blk.other (a := ⟨Z, 6, none⟩) (Blk.other (a := ⟨Z, 5, none⟩) (Blk.other (a := ⟨Z, 4, none⟩) (Blk.other (a := ⟨Z, 3, none⟩) (Blk.other (a := ⟨Z, 2, none⟩) (Blk.other (a := ⟨Z, 1, none⟩) (Blk.other (a := ⟨Z, 0, none⟩) h hne _) hne _) hne _) hne _) hne _) hne _) hne _

set_option maxHeartbeats 2000000 in
theorem finds_any (B : Nat) (site : Int) (up : Bool) (va : Option Addr) (vc : Nat) (v2 v3 v4 : Value) (vs : List V) (t1 t2 t3 : Sl) (d : D) (w : World) (hB : Blk w B (hostC site up (.slice va vs.length vc) v2 v3 v4 t1 t2 t3) 88)
    (hn : vs.length ≤ 1099511627776) (hv : Vers w va vs) (hwf : (Lit.int .i64 d.k).wf = true) (hd : 1 ≤ d.t) :
    Calls Tryz.prog 161 #[.pointer (some ⟨B, 0, none⟩), depV d.k d.t d.s] w fun e w' => ∃ u pa pc, Hid (u = (atA vs d.k d.t d.s).getD zeroV) ∧ e = .returned (.tuple #[verV u.k u.t u.s u.val u.cl u.ca pa u.ds.length pc, .bool (atA vs d.k d.t d.s).isSome]) ∧ RowD w' w.heap.size (.slice pa u.ds.length pc) u.ds ∧ Below w.heap.size w w' := by
  have b0 : Below w.heap.size w ((w.alloc (.cells #[.int .i64 d.k, .int .i64 d.t, .int .i64 d.s] 116)).alloc (.cells #[.int .i64 0, .int .i64 0, .int .i64 0, .int .i64 0, .int .i64 0, .int .i64 0, .slice none 0 0] 107)) := ((Below.refl _ w).alloc (Nat.le_refl _) _).alloc (by simp) _
  have A2 : Blk ((w.alloc (.cells #[.int .i64 d.k, .int .i64 d.t, .int .i64 d.s] 116)).alloc (.cells #[.int .i64 0, .int .i64 0, .int .i64 0, .int .i64 0, .int .i64 0, .int .i64 0, .slice none 0 0] 107)) w.heap.size #[.int .i64 d.k, .int .i64 d.t, .int .i64 d.s] 116 := (Blk.new w _ _).alloc _
  have Z2 : Blk ((w.alloc (.cells #[.int .i64 d.k, .int .i64 d.t, .int .i64 d.s] 116)).alloc (.cells #[.int .i64 0, .int .i64 0, .int .i64 0, .int .i64 0, .int .i64 0, .int .i64 0, .slice none 0 0] 107)) (w.heap.size + 1) #[.int .i64 0, .int .i64 0, .int .i64 0, .int .i64 0, .int .i64 0, .int .i64 0, .slice none 0 0] 107 := by have := Blk.new (w.alloc (.cells #[.int .i64 d.k, .int .i64 d.t, .int .i64 d.s] 116)) #[.int .i64 0, .int .i64 0, .int .i64 0, .int .i64 0, .int .i64 0, .int .i64 0, .slice none 0 0] 107; simpa using this
  have B2 := hB.below b0 hB.lt
  have hv2 := hv.below b0
  have hT := fun W h => iAtV_any va vc vs d.k d.t d.s W hn h hwf
  have hBlt := hB.lt
  generalize (atA vs d.k d.t d.s).getD zeroV = u at *
  generalize (atA vs d.k d.t d.s).isSome = r at *
  have d0 : ¬ d.t = 0 := by omega
  clear hB hv hn hwf
  go_enter Tryz.func161, Tryz.ntmps161
  obtain ⟨q1, g1⟩ := A2.rules
  go_wp2_with fail
  clear q1 g1
  have zB := B2.lt
  have HBn : Hid (B < w.heap.size) := hBlt
  generalize hU : ((w.alloc (.cells #[.int .i64 d.k, .int .i64 d.t, .int .i64 d.s] 116)).alloc (.cells #[.int .i64 0, .int .i64 0, .int .i64 0, .int .i64 0, .int .i64 0, .int .i64 0, .slice none 0 0] 107)) = u2 at *
  clear hU
  have B2d := B2.below (Below.refl u2.heap.size u2).drew B2.lt
  have A2d := A2.below (Below.refl u2.heap.size u2).drew A2.lt
  have Z2d := Z2.below (Below.refl u2.heap.size u2).drew Z2.lt
  have hv2d : Vers u2.drew va vs := hv2.below (Below.refl u2.heap.size u2).drew
  have k1 : (∀ j, u2.drew.cell? ⟨B, j, none⟩ = (hostC site up (.slice va vs.length vc) v2 v3 v4 t1 t2 t3)[j]?) ∧ (∀ j, u2.drew.cell? ⟨w.heap.size, j, none⟩ = #[.int .i64 d.k, .int .i64 d.t, .int .i64 d.s][j]?) := ⟨B2d.cell, A2d.cell⟩
  obtain ⟨qz, gz⟩ := Z2.rules
  have HB2 := hidOf B2
  have HA2 := hidOf A2
  have HZ2 := hidOf Z2
  have HB2d := hidOf B2d
  have HA2d := hidOf A2d
  have HZ2d := hidOf Z2d
  clear B2 A2 Z2 B2d A2d Z2d zB hv2
  go_region_held3 (fun W => (∀ j, W.cell? ⟨B, j, none⟩ = (hostC site up (.slice va vs.length vc) v2 v3 v4 t1 t2 t3)[j]?) ∧ (∀ j, W.cell? ⟨w.heap.size, j, none⟩ = #[.int .i64 d.k, .int .i64 d.t, .int .i64 d.s][j]?)) (with_reducible (first | exact k1 | exact kC | exact kD)) (first | (go_at_call 213; refine (hT _ hv2d).mono ?_; rintro e w3 ⟨v, pa, pc, hv, rfl, hr, hb3⟩; have B3 := HB2d.out.below hb3 HB2d.out.lt; have A3 := HA2d.out.below hb3 HA2d.out.lt; have Z3 := HZ2d.out.below hb3 HZ2d.out.lt; obtain ⟨qz3, gz3⟩ := Z3.rules; have HZ3 := hidOf Z3; have n1 : B ≠ w.heap.size + 1 := (by have := HBn.out; omega); have n2 : w.heap.size ≠ w.heap.size + 1 := (by omega); have kC : (∀ j, w3.cell? ⟨B, j, none⟩ = (hostC site up (.slice va vs.length vc) v2 v3 v4 t1 t2 t3)[j]?) ∧ (∀ j, w3.cell? ⟨w.heap.size, j, none⟩ = #[.int .i64 d.k, .int .i64 d.t, .int .i64 d.s][j]?) := ⟨B3.cell, A3.cell⟩; have kD : (∀ j, ((((((((w3).setCell ⟨w.heap.size + 1, 0, none⟩ (.int .i64 v.k)).setCell ⟨w.heap.size + 1, 1, none⟩ (.int .i64 v.t)).setCell ⟨w.heap.size + 1, 2, none⟩ (.int .i64 v.s)).setCell ⟨w.heap.size + 1, 3, none⟩ (.int .i64 v.val)).setCell ⟨w.heap.size + 1, 4, none⟩ (.int .i64 v.cl)).setCell ⟨w.heap.size + 1, 5, none⟩ (.int .i64 v.ca)).setCell ⟨w.heap.size + 1, 6, none⟩ (.slice pa v.ds.length pc)).cell? ⟨B, j, none⟩ = (hostC site up (.slice va vs.length vc) v2 v3 v4 t1 t2 t3)[j]?) ∧ (∀ j, ((((((((w3).setCell ⟨w.heap.size + 1, 0, none⟩ (.int .i64 v.k)).setCell ⟨w.heap.size + 1, 1, none⟩ (.int .i64 v.t)).setCell ⟨w.heap.size + 1, 2, none⟩ (.int .i64 v.s)).setCell ⟨w.heap.size + 1, 3, none⟩ (.int .i64 v.val)).setCell ⟨w.heap.size + 1, 4, none⟩ (.int .i64 v.cl)).setCell ⟨w.heap.size + 1, 5, none⟩ (.int .i64 v.ca)).setCell ⟨w.heap.size + 1, 6, none⟩ (.slice pa v.ds.length pc)).cell? ⟨w.heap.size, j, none⟩ = #[.int .i64 d.k, .int .i64 d.t, .int .i64 d.s][j]?) := ⟨(fill7_otherT B3 n1).cell, (fill7_otherT A3 n2).cell⟩; clear B3 A3 Z3))
  have e0 : u2.drew.heap.size = u2.heap.size := rfl
  have hzu : w.heap.size + 1 < u2.heap.size := HZ2.out.lt
  have B3 : Below w.heap.size w w3 := b0.trans (((Below.refl u2.heap.size u2).drew.trans hb3).mono b0.size)
  have hrow : RowD w3 w.heap.size (.slice pa v.ds.length pc) v.ds := row_mono hr (by rw [e0]; exact b0.size)
  have hne : ∀ j, (Value.slice pa v.ds.length pc).ownBlock = some j → j ≠ w.heap.size + 1 := fun j hj => by have := (hr.lt j hj).1; rw [e0] at this; omega
  go_wp2_with fail
  refine bodyPost_ret (v := .tuple #[verV v.k v.t v.s v.val v.cl v.ca pa v.ds.length pc, .bool r]) ?_ rfl ⟨v, pa, pc, hv, rfl, ?_, ?_⟩
  · refine Blk.gen (B := w.heap.size + 1) (vs := #[.int .i64 v.k, .int .i64 v.t, .int .i64 v.s, .int .i64 v.val, .int .i64 v.cl, .int .i64 v.ca, .slice pa v.ds.length pc]) (T := 107) ?_ (P := fun W => (results Tryz.f161 _).run Tryz.prog W = .ok _ W) ?_
    · exact Blk.fill7 HZ3.out
    intro W hW
    obtain ⟨k, f⟩ := hW.rules
    simp [results, Tryz.results161, go_sem, k]
  · exact row_fill7 hrow hne
  · exact B3.trans (fill7_onlyT.below B3.size (fun j hj => by rw [hj]; exact Nat.le_succ _))
end Go.Proofs.YtpjidogilofppaaGreat

