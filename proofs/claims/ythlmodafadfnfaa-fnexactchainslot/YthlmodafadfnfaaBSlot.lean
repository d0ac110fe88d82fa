/- 9 texts in one. -/
import Derived.Test.YthlmodafadfnfaaInsertA
import Derived.Test.YthlmodafadfnfaaIAtV
import Derived.Test.YthlmodafadfnfaaFOfA
import Derived.Test.YthlmodafadfnfaaSAtV
import Derived.Test.YthlmodafadfnfaaFOf2
import Derived.Test.YthlmodafadfnfaaXMarkV
import Derived.Test.YthlmodafadfnfaaOpenVers

/- A version goes into a slice of versions at its place. -/
namespace Go.Proofs.Ythlmodafadfnfaa
open Go.ChangeShapes Go.WideShapes Go.ChangeAt Go.RowKit Go.Lib

theorem sizeVer : (Try.prog.info? 28).map (·.size) = some 7 := by
  obtain ⟨i0, hi, hz0, hz1, hz2⟩ := info_parts infoVer
  rw [hi]; simp [hz1]

set_option maxHeartbeats 4000000 in
set_option maxRecDepth 100000 in
theorem insert_shift (g n c i vb : Nat) (cur : Array Value) (xs : List XV) (x : XV) (w : World) (hi : i < n) (hroom : n + 1 ≤ c) (hc63 : c ≤ maxLen) (hvb : vb ≠ g) (hg : w.heap[g]? = some (.cells cur 28 (0, 0))) (hcs : cur.size = c * 7) (htake : cur.toList.take (n * 7) = flat7 xs) (hxl : xs.length = n)
    (hB : Blk w vb #[.int .i64 x.v.k, .int .i64 x.v.t, .int .i64 x.v.s, .int .i64 x.v.val, .int .i64 x.v.cl, .int .i64 x.v.ca, x.p] 28) (h1 : ∀ y ∈ xs, y.p.oneCell' = true) (h1x : x.p.oneCell' = true) :
    Calls Try.prog 106 #[.slice (some ⟨g, 0, none⟩) n c, .int .i64 i, .slice (some ⟨vb, 0, none⟩) 1 1] w fun e w' => e = .returned (.slice (some ⟨g, 0, none⟩) (n + 1) c) ∧ (∃ cur', w'.heap[g]? = some (.cells cur' 28 (0, 0)) ∧ cur'.size = c * 7 ∧ cur'.toList.take ((n + 1) * 7) = flat7 (xs.take i ++ x :: xs.drop i)) ∧ w.grownBy w' (some g) := by
  unfold maxLen at hc63
  have mixed : Try.prog.follows .mixedOrders = true := by kernel_rfl
  obtain ⟨L1, hL1⟩ : ∃ L1, L1 = cur.toList.take ((i + 1) * 7) ++ flat7 (xs.drop i) ++ cur.toList.drop ((i + 1) * 7 + (flat7 (xs.drop i)).length) := ⟨_, rfl⟩
  obtain ⟨L2, hL2⟩ : ∃ L2, L2 = L1.take (i * 7) ++ flat7 [x] ++ L1.drop (i * 7 + (flat7 [x]).length) := ⟨_, rfl⟩
  obtain ⟨l1, l2, ht⟩ := shift_cells hxl hi htake (by simp [hcs]; omega) L1 L2 hL1 hL2
  have ld : (flat7 (xs.drop i)).length = (n - i) * 7 := by rw [flat7_len, List.length_drop, hxl]
  have hcell : ∀ (j : Nat) (u : Value), (flat7 xs)[j]? = some u → w.cell? ⟨g, j, none⟩ = some u := fun j u hj => by
    rw [← htake, List.getElem?_take] at hj
    split at hj
    · simp [World.cell?, hg]; simpa using hj
    · cases hj
  have hf : ∀ j, w.frozen? ⟨g, j, none⟩ = false := fun j => by simp [World.frozen?, hg]
  have hov : ∀ lb cb, (callFunc 119 #[.slice (some ⟨vb, 0, none⟩) 1 1, .slice (some ⟨g, (i + 1) * 7, none⟩) lb cb]).run Try.prog w = .ok (.value (.bool false)) w := fun lb cb => by
    rw [run_callFunc_extern Try.func119 (by kernel_rfl) (by kernel_rfl) (by kernel_rfl) (e := Extern.SlicesOverlaps.overlaps #[23, 23] #[4]) (by kernel_rfl),
      Lib.run_overlaps_apart w 23 4 28 Try.underlying23 7 Try.sizeOf28 ⟨vb, 0, none⟩ ⟨g, (i + 1) * 7, none⟩ 1 1 lb cb hvb 28 28 7 cur.size (by simp [World.shape?, show w.heap[vb]? = _ from hB]) (by simp [World.shape?, hg]) (by rw [hcs]; omega) (hB.frozen 0) (hB.frozen 7)]
    rfl
  have hz2 : ¬ ((i : Int) = (n : Int)) := by omega
  have hw1 : IntKind.i64.wrap ((i : Int) + 1) = (i : Int) + 1 := by rw [IntKind.wrap_i64]; omega
  have hw2 : IntKind.i64.wrap ((n : Int) + 1) = (n : Int) + 1 := by rw [IntKind.wrap_i64]; omega
  have hb1 : (0 : Int) ≤ (i : Int) + 1 := by omega
  have htn : ((i : Int) + 1).toNat = i + 1 := by omega
  have hb2 : ¬ (c = i + 1) := by omega
  have hb3 : (i : Int) ≤ (n : Int) + 1 := by omega
  have hb4 : ¬ (c = i) := by omega
  have hb5 : (i : Int) ≤ (n : Int) := by omega
  have hb6 : ¬ ((c : Int) < (n : Int) + 1) := by omega
  have htn2 : ((n : Int) + 1).toNat = n + 1 := by omega
  have hcp1 : ∀ ty dc sc, (Builtin.copy_ #[23, 23] ty #[.slice (some ⟨g, (i + 1) * 7, none⟩) (n - i) dc, .slice (some ⟨g, i * 7, none⟩) (n + 1 - i) sc]).run Try.prog w.drew = .ok (goInt ((n - i : Nat) : Int)) (w.drew.setRow g L1.toArray) := fun ty dc sc => by
    rw [hL1]
    exact run_copy_rowk w.drew _ _ ty 28 g ((i + 1) * 7) (n - i) dc ⟨g, i * 7, none⟩ (n + 1 - i) sc cur 28 (flat7 (xs.drop i)) (n - i) 7 Try.underlying23 sizeVer hg (by simp only [Nat.min_def]; split <;> omega) ld
      (fun j u hj => by
        rw [addr_add]
        refine hcell (i * 7 + j) u ?_
        rw [← flat7_drop, List.getElem?_drop] at hj
        exact hj)
      (by rw [ld, hcs]; omega) (flat7_one fun y hy => h1 y (List.mem_of_mem_drop hy))
  have hg1 : (w.drew.setRow g L1.toArray).heap[g]? = some (.cells L1.toArray 28 (0, 0)) := setRow_heap w.drew g cur _ _ _ hg
  have hB1 : Blk (w.drew.setRow g L1.toArray) vb #[.int .i64 x.v.k, .int .i64 x.v.t, .int .i64 x.v.s, .int .i64 x.v.val, .int .i64 x.v.cl, .int .i64 x.v.ca, x.p] 28 := (setRow_other w.drew g vb _ hvb).trans hB
  have hcp2 : ∀ ty dc, (Builtin.copy_ #[23, 23] ty #[.slice (some ⟨g, i * 7, none⟩) (n + 1 - i) dc, .slice (some ⟨vb, 0, none⟩) 1 1]).run Try.prog (w.drew.setRow g L1.toArray) = .ok (goInt 1) ((w.drew.setRow g L1.toArray).setRow g L2.toArray) := fun ty dc => by
    rw [hL2]
    exact run_copy_rowk (w.drew.setRow g L1.toArray) _ _ ty 28 g (i * 7) (n + 1 - i) dc ⟨vb, 0, none⟩ 1 1 L1.toArray 28 (flat7 [x]) 1 7 Try.underlying23 sizeVer hg1 (by simp only [Nat.min_def]; split <;> omega) rfl (cells7 hB1) (by rw [flat7_single]; simp [l1, hcs]; omega) (flat7_one fun y hy => by simp at hy; subst hy; exact h1x)
  have hfin : ((w.drew.setRow g L1.toArray).setRow g L2.toArray).heap[g]? = some (.cells L2.toArray 28 (0, 0)) := setRow_heap _ g L1.toArray _ _ _ hg1
  have hgr : w.grownBy ((w.drew.setRow g L1.toArray).setRow g L2.toArray) (some g) := ⟨rfl, rfl, rfl, by simp [World.setRow], fun k _ hk => (setRow_other _ g k _ (fun e => hk (by rw [e]))).trans (setRow_other w.drew g k _ (fun e => hk (by rw [e])))⟩
  have HE : Hid (L2.toArray.size = c * 7 ∧ L2.toArray.toList.take ((n + 1) * 7) = flat7 (xs.take i ++ x :: xs.drop i)) := ⟨by simp [l2, hcs], by simpa using ht⟩
  clear hL1 hL2 l1 l2 ht hcell htake hcs ld hg1 hB1
  generalize L1.toArray = A1 at *
  generalize L2.toArray = A2 at *
  go_enter Try.func106, Try.ntmps106
  go_wp2_with (simp only [hov])
  go_region_law_o (refine step_copy_runI rfl _ _ 23 23 rfl _ _ (by simp [Act.eval, Act.put]) (by simp [Act.eval, Act.put]) (hcp1 _ _ _) ?_)
  go_wp2_with (at_builtin; refine wpList_copy_runI _ rfl _ _ 23 23 rfl _ _ rfl rfl (hcp2 _ _) ?_)
  go_ret
  exact ⟨rfl, ⟨A2, hfin, HE.out.1, HE.out.2⟩, hgr⟩
end Go.Proofs.Ythlmodafadfnfaa

/- A version goes into a slice of versions: at its end, or where there is no room. -/
namespace Go.Proofs.Ythlmodafadfnfaa
open Go.ChangeShapes Go.WideShapes Go.ChangeAt Go.RowKit Go.Lib

set_option maxHeartbeats 4000000 in
set_option maxRecDepth 100000 in
theorem insert_end (base vb : Nat) (v : Value) (xs : List XV) (x : XV) (w : World) (hown : w.ownsRow base 28 7 v xs.length (flat7 xs)) (hn : xs.length ≤ 100) (hb : base ≤ w.heap.size)
    (hB : Blk w vb #[.int .i64 x.v.k, .int .i64 x.v.t, .int .i64 x.v.s, .int .i64 x.v.val, .int .i64 x.v.cl, .int .i64 x.v.ca, x.p] 28) (h1x : x.p.oneCell' = true) :
    Calls Try.prog 106 #[v, .int .i64 xs.length, .slice (some ⟨vb, 0, none⟩) 1 1] w fun e w' => ∃ v', e = .returned v' ∧ w'.ownsRow base 28 7 v' (xs.length + 1) (flat7 xs ++ flat7 [x]) ∧ w.grownBy w' v.ownBlock ∧ (v'.ownBlock = v.ownBlock ∨ ∃ j, v'.ownBlock = some j ∧ w.heap.size ≤ j) := by
  obtain ⟨i0, hi, hz0, hz1, hz2⟩ := info_parts infoVer
  have hone : ∀ u ∈ flat7 [x], u.oneCell' = true := flat7_one fun y hy => by simp at hy; subst hy; exact h1x
  have hcells := cells7 hB
  have h63 : xs.length + 1 ≤ maxLen := by unfold maxLen; omega
  have hby : (xs.length + 1) * 72 ≤ 140737488355328 := by omega
  rcases hown.2 with ⟨rfl, hl⟩ | ⟨g, cap, cur, rfl, _, _, hnc, hcm, _⟩
  · obtain rfl : xs = [] := List.length_eq_zero_iff.1 hl
    clear hl
    simp only [List.length_nil] at *
    go_enter Try.func106, Try.ntmps106
    go_wp2_with (first | (at_builtin; refine wpList_append_own_at _ rfl _ _ 23 rfl base 28 i0 (.agg #[.int .i64 0, .int .i64 0, .int .i64 0, .int .i64 0, .int .i64 0, .int .i64 0, .slice none 0 0]) 7 72 Try.underlying23 hi hz0 hz1 hz2 rfl (by decide) (.slice none 0 0) 0 (flat7 []) rfl hown ⟨vb, 0, none⟩ 1 1 (flat7 [x]) rfl rfl hcells hone h63 hby hb ?_; intro v' w1 hrow hgr _ hloc))
    go_ret
    exact ⟨_, rfl, hrow, hgr, hloc.imp id fun e => ⟨_, e, Nat.le_refl _⟩⟩
  · unfold maxLen at hcm
    have hle : (xs.length : Int) ≤ (cap : Int) := by omega
    generalize hxn : xs.length = n at *
    go_enter Try.func106, Try.ntmps106
    go_wp2_with (first | (at_builtin; refine wpList_append_own_at _ rfl _ _ 23 rfl base 28 i0 (.agg #[.int .i64 0, .int .i64 0, .int .i64 0, .int .i64 0, .int .i64 0, .int .i64 0, .slice none 0 0]) 7 72 Try.underlying23 hi hz0 hz1 hz2 rfl (by decide) (.slice (some ⟨g, 0, none⟩) n cap) n (flat7 xs) rfl hown ⟨vb, 0, none⟩ 1 1 (flat7 [x]) rfl rfl hcells hone h63 hby hb ?_; intro v' w1 hrow hgr _ hloc))
    all_goals
      go_ret
      exact ⟨_, rfl, hrow, hgr, hloc.imp id fun e => ⟨_, e, Nat.le_refl _⟩⟩

set_option maxHeartbeats 4000000 in
set_option maxRecDepth 100000 in
theorem insert_grow (g n c i vb : Nat) (cur : Array Value) (xs : List XV) (x : XV) (w : World) (hi : i < n) (hn : n ≤ 100) (hroom : c < n + 1) (hnc : n ≤ c) (hg : w.heap[g]? = some (.cells cur 28 (0, 0))) (htake : cur.toList.take (n * 7) = flat7 xs) (hxl : xs.length = n)
    (hB : Blk w vb #[.int .i64 x.v.k, .int .i64 x.v.t, .int .i64 x.v.s, .int .i64 x.v.val, .int .i64 x.v.cl, .int .i64 x.v.ca, x.p] 28) (h1 : ∀ y ∈ xs, y.p.oneCell' = true) (h1x : x.p.oneCell' = true) :
    Calls Try.prog 106 #[.slice (some ⟨g, 0, none⟩) n c, .int .i64 i, .slice (some ⟨vb, 0, none⟩) 1 1] w fun e w' => ∃ G cur', e = .returned (.slice (some ⟨w.heap.size, 0, none⟩) (n + 1) G) ∧ n + 1 ≤ G ∧ G ≤ maxLen ∧ w'.heap[w.heap.size]? = some (.cells cur' 28 (0, 0)) ∧ cur'.size = G * 7 ∧ cur'.toList.take ((n + 1) * 7) = flat7 (xs.take i ++ x :: xs.drop i) ∧ w.grownBy w' none := by
  obtain ⟨i0, hi0, hz0, hzs, hzb⟩ := info_parts infoVer
  have mixed : Try.prog.follows .mixedOrders = true := by kernel_rfl
  obtain rfl : c = n := by omega
  have lt : (flat7 (xs.take i)).length = i * 7 := by rw [flat7_len, List.length_take, hxl, Nat.min_eq_left (by omega)]
  have ld : (flat7 (xs.drop i)).length = (c - i) * 7 := by rw [flat7_len, List.length_drop, hxl]
  have hcell : ∀ (j : Nat) (u : Value), (flat7 xs)[j]? = some u → w.cell? ⟨g, j, none⟩ = some u := fun j u hj => by
    rw [← htake, List.getElem?_take] at hj
    split at hj
    · simp [World.cell?, hg]; simpa using hj
    · cases hj
  have hgw : g < w.heap.size := (Array.getElem?_eq_some_iff.1 hg).1
  have hold : (Builtin.firstCells i0.size i (.slice (some ⟨g, 0, none⟩) i c)).run Try.prog w.drew = .ok (flat7 (xs.take i)).toArray w.drew := by
    rw [hzs]
    exact run_firstCells_some w.drew 7 i ⟨g, 0, none⟩ i c (flat7 (xs.take i)) lt (fun j u hj => by
      rw [addr_add, Nat.zero_add]
      refine hcell j u ?_
      rw [← flat7_take, List.getElem?_take] at hj
      split at hj
      · exact hj
      · cases hj)
  have hik : i + (c + 1 - i) = c + 1 := by omega
  have hkk : (c : Int) + 1 - (i : Int) = ((c + 1 - i : Nat) : Int) := by omega
  obtain ⟨G, hG⟩ : ∃ G, G = grownCap w (c + 1) c 28 := ⟨_, rfl⟩
  obtain ⟨ROW, hROW⟩ : ∃ ROW : Array Value, ROW = (flat7 (xs.take i)).toArray ++ Builtin.zeroCells (Value.agg #[.int .i64 0, .int .i64 0, .int .i64 0, .int .i64 0, .int .i64 0, .int .i64 0, .slice none 0 0]).cells (c + 1 - i) ++ Builtin.zeroCells (Value.agg #[.int .i64 0, .int .i64 0, .int .i64 0, .int .i64 0, .int .i64 0, .int .i64 0, .slice none 0 0]).cells (G - (c + 1)) := ⟨_, rfl⟩
  have hrz : ∀ ty, (Builtin.append_ #[23, 3] ty #[.slice (some ⟨g, 0, none⟩) i c, .int .i64 ((c : Int) + 1 - (i : Int))]).run Try.prog w = .ok (.slice (some ⟨w.heap.size, 0, none⟩) (c + 1) G) (w.drew.alloc (.cells ROW 28)) := fun ty => by
    have h := Lib.run_append_grow_zeros w 23 3 ty 28 i0 _ .i64 .i64 Try.underlying23 Try.underlying3 hi0 hz0 (some ⟨g, 0, none⟩) i c (flat7 (xs.take i)) hold (c + 1 - i) (by omega) (by omega) (by omega) (by omega) (by rw [hzb]; omega) (by rw [hzb, hik]; exact growslice_fits hroom (by omega))
    rw [hik] at h
    rw [hkk, hROW, hG]
    exact h
  have hGn : c + 1 ≤ G := by rw [hG]; exact grownCap_ge w _ _ _
  have hG63 : G ≤ maxLen := by rw [hG]; exact grownCap_le_maxLen w _ _ _ (by unfold maxLen; omega)
  have hzc : ∀ k, (Builtin.zeroCells (Value.agg #[.int .i64 0, .int .i64 0, .int .i64 0, .int .i64 0, .int .i64 0, .int .i64 0, .slice none 0 0]).cells k).size = k * 7 := fun k => by rw [size_zeroCells]; rfl
  have hRs : ROW.size = G * 7 := by rw [hROW]; simp only [Array.size_append, hzc, List.size_toArray, lt]; omega
  have hRl : ROW.toList = flat7 (xs.take i) ++ (Builtin.zeroCells (Value.agg #[.int .i64 0, .int .i64 0, .int .i64 0, .int .i64 0, .int .i64 0, .int .i64 0, .slice none 0 0]).cells (c + 1 - i)).toList ++ (Builtin.zeroCells (Value.agg #[.int .i64 0, .int .i64 0, .int .i64 0, .int .i64 0, .int .i64 0, .int .i64 0, .slice none 0 0]).cells (G - (c + 1))).toList := by rw [hROW]; simp
  obtain ⟨L1, hL1⟩ : ∃ L1, L1 = ROW.toList.take (i * 7) ++ flat7 [x] ++ ROW.toList.drop (i * 7 + (flat7 [x]).length) := ⟨_, rfl⟩
  obtain ⟨L2, hL2⟩ : ∃ L2, L2 = L1.take ((i + 1) * 7) ++ flat7 (xs.drop i) ++ L1.drop ((i + 1) * 7 + (flat7 (xs.drop i)).length) := ⟨_, rfl⟩
  obtain ⟨l1, l2, ht⟩ := grow_cells hxl hi hRl (by rw [Array.length_toList, hzc]) L1 L2 hL1 hL2
  have hRs2 : ROW.toList.length = G * 7 := by rw [Array.length_toList, hRs]
  rw [hRs2] at l1 l2
  have hgN : (w.drew.alloc (.cells ROW 28)).heap[w.heap.size]? = some (.cells ROW 28 (0, 0)) := heap_alloc_new w.drew _
  have hold2 : ∀ k, k < w.heap.size → (w.drew.alloc (.cells ROW 28)).heap[k]? = w.heap[k]? := fun k hk => Below.heap_alloc w.drew _ k hk
  have hcpA : ∀ W : World, W.heap = (w.drew.alloc (.cells ROW 28)).heap → ∀ ty dc, (Builtin.copy_ #[23, 23] ty #[.slice (some ⟨w.heap.size, i * 7, none⟩) (c + 1 - i) dc, .slice (some ⟨vb, 0, none⟩) 1 1]).run Try.prog W = .ok (goInt 1) (W.setRow w.heap.size L1.toArray) := fun W hW ty dc => by
    rw [hL1]
    refine run_copy_rowk W _ _ ty 28 w.heap.size (i * 7) (c + 1 - i) dc ⟨vb, 0, none⟩ 1 1 ROW 28 (flat7 [x]) 1 7 Try.underlying23 sizeVer (by rw [hW]; exact hgN) (by simp only [Nat.min_def]; split <;> omega) rfl (cells7 (T := 28) ?_) (by rw [flat7_single, hRs]; omega) (flat7_one fun y hy => by simp at hy; subst hy; exact h1x)
    show W.heap[vb]? = _
    rw [hW, hold2 vb hB.lt]; exact hB
  have hg1 : ∀ W : World, W.heap = (w.drew.alloc (.cells ROW 28)).heap → (W.setRow w.heap.size L1.toArray).heap[w.heap.size]? = some (.cells L1.toArray 28 (0, 0)) := fun W hW => setRow_heap W w.heap.size ROW _ _ _ (by rw [hW]; exact hgN)
  have ho1 : ∀ W : World, W.heap = (w.drew.alloc (.cells ROW 28)).heap → ∀ k, k < w.heap.size → (W.setRow w.heap.size L1.toArray).heap[k]? = w.heap[k]? := fun W hW k hk => (setRow_other W w.heap.size k _ (by omega)).trans (by rw [hW]; exact hold2 k hk)
  have hcpB : ∀ W : World, W.heap[w.heap.size]? = some (.cells L1.toArray 28 (0, 0)) → (∀ k, k < w.heap.size → W.heap[k]? = w.heap[k]?) → ∀ ty dc sc, (Builtin.copy_ #[23, 23] ty #[.slice (some ⟨w.heap.size, (i + 1) * 7, none⟩) (c - i) dc, .slice (some ⟨g, i * 7, none⟩) (c - i) sc]).run Try.prog W = .ok (goInt ((c - i : Nat) : Int)) (W.setRow w.heap.size L2.toArray) := fun W hW hWo ty dc sc => by
    rw [hL2]
    exact run_copy_rowk W _ _ ty 28 w.heap.size ((i + 1) * 7) (c - i) dc ⟨g, i * 7, none⟩ (c - i) sc L1.toArray 28 (flat7 (xs.drop i)) (c - i) 7 Try.underlying23 sizeVer hW (by simp only [Nat.min_def]; split <;> omega) ld
      (fun j u hj => by
        rw [addr_add]
        rw [World.cell?_of_block (w := w) (a := ⟨g, i * 7 + j, none⟩) (hWo g hgw)]
        refine hcell (i * 7 + j) u ?_
        rw [← flat7_drop, List.getElem?_drop] at hj
        exact hj)
      (by rw [ld]; simp [l1]; omega) (flat7_one fun y hy => h1 y (List.mem_of_mem_drop hy))
  have HE : Hid (L2.toArray.size = G * 7 ∧ L2.toArray.toList.take ((c + 1) * 7) = flat7 (xs.take i ++ x :: xs.drop i)) := ⟨by simp [l2], by simpa using ht⟩
  have hz2 : ¬ ((i : Int) = (c : Int)) := by omega
  have hw1 : IntKind.i64.wrap ((i : Int) + 1) = (i : Int) + 1 := by rw [IntKind.wrap_i64]; omega
  have hw2 : IntKind.i64.wrap ((c : Int) + 1) = (c : Int) + 1 := by rw [IntKind.wrap_i64]; omega
  have hw3 : IntKind.i64.wrap ((c : Int) + 1 - i) = (c : Int) + 1 - i := by rw [IntKind.wrap_i64]; omega
  have hb1 : (0 : Int) ≤ (i : Int) + 1 := by omega
  have htn : ((i : Int) + 1).toNat = i + 1 := by omega
  have hb2 : ¬ (G = i + 1) := by omega
  have hb4 : ¬ (c = i) := by omega
  have hb5 : (i : Int) ≤ (c : Int) := by omega
  have hb6 : ¬ (G = i) := by omega
  have hb7 : (i : Int) ≤ (c : Int) + 1 := by omega
  have hE1 : ((w.alloc (.cells ROW 28)).drew).heap = (w.drew.alloc (.cells ROW 28)).heap := rfl
  have hF1 := hg1 _ hE1
  have hF2 := ho1 _ hE1
  unfold maxLen at hG63
  clear hG hROW hRl hL1 hL2 l1 l2 ht hcell htake hold lt ld hzc hRs hRs2 hik hkk hgN hold2 hg1 ho1
  generalize L1.toArray = A1 at *
  generalize L2.toArray = A2 at *
  go_enter Try.func106, Try.ntmps106
  go_wp2_with (first | (at_builtin; refine Lib.wpList_append_run _ rfl _ _ _ _ rfl _ _ rfl rfl _ _ (hrz _) ?_) | (at_builtin; refine wpList_copy_runI _ rfl _ _ 23 23 rfl _ _ rfl rfl (hcpA ((w.alloc (.cells ROW 28)).drew) hE1 _ _) ?_))
  go_region_law_o (refine step_copy_runI rfl _ _ 23 23 rfl (.slice (some ⟨w.heap.size, (i + 1) * 7, none⟩) (c - i) (G - (i + 1))) (.slice (some ⟨g, i * 7, none⟩) (c - i) (c - i)) (by simp [Act.eval, Act.put]) (by simp [Act.eval, Act.put]) (hcpB (((w.alloc (.cells ROW 28)).drew.setRow w.heap.size A1).drew) hF1 hF2 3 (G - (i + 1)) (c - i)) ?_)
  go_wp2_with fail
  go_ret
  refine ⟨G, A2, rfl, hGn, by unfold maxLen; omega, ?_, HE.out.1, HE.out.2, ⟨rfl, rfl, rfl, ?_, fun k hk _ => ?_⟩⟩
  · exact setRow_heap _ w.heap.size A1 _ _ _ hF1
  · simp [World.setRow]
  · exact (setRow_other _ w.heap.size k _ (by omega)).trans (hF2 k hk)
end Go.Proofs.Ythlmodafadfnfaa

/- The program puts a version into the map. -/
namespace Go.Proofs.Ythlmodafadfnfaa
open Go.ChangeShapes Go.WideShapes Go.ChangeAt Go.RowKit

theorem insert_any (base i vb : Nat) (v : Value) (xs : List XV) (x : XV) (w : World) (hown : w.ownsRow base 28 7 v xs.length (flat7 xs)) (hn : xs.length ≤ 100) (hi : i ≤ xs.length) (hb : base ≤ w.heap.size) (hvb : v.ownBlock ≠ some vb)
    (hB : Blk w vb #[.int .i64 x.v.k, .int .i64 x.v.t, .int .i64 x.v.s, .int .i64 x.v.val, .int .i64 x.v.cl, .int .i64 x.v.ca, x.p] 28) (h1 : ∀ y ∈ xs, y.p.oneCell' = true) (h1x : x.p.oneCell' = true) :
    Calls Try.prog 106 #[v, .int .i64 i, .slice (some ⟨vb, 0, none⟩) 1 1] w fun e w' => ∃ v', e = .returned v' ∧ w'.ownsRow base 28 7 v' (xs.take i ++ x :: xs.drop i).length (flat7 (xs.take i ++ x :: xs.drop i)) ∧ w.grownBy w' v.ownBlock ∧ (v'.ownBlock = v.ownBlock ∨ ∃ j, v'.ownBlock = some j ∧ w.heap.size ≤ j) := by
  have hl : (xs.take i ++ x :: xs.drop i).length = xs.length + 1 := by simp only [List.length_append, List.length_cons, List.length_take, List.length_drop]; rw [Nat.min_eq_left hi]; omega
  rw [hl]
  have hfl : (flat7 (xs.take i ++ x :: xs.drop i)).length = (xs.length + 1) * 7 := by rw [flat7_len, hl]
  by_cases he : i = xs.length
  · subst he
    refine (insert_end base vb v xs x w hown hn hb hB h1x).mono ?_
    rintro e w' ⟨v', rfl, hr, hg, hloc⟩
    refine ⟨v', rfl, ?_, hg, hloc⟩
    rw [List.take_length, List.drop_length, flat7_append]; exact hr
  · have hi2 : i < xs.length := by omega
    rcases hown.2 with ⟨_, h0⟩ | ⟨g, cap, cur, rfl, hbg, hg, hnc, hcm, hcs, ht⟩
    · omega
    · by_cases hroom : xs.length + 1 ≤ cap
      · refine (insert_shift g xs.length cap i vb cur xs x w hi2 hroom hcm (fun e => hvb (by rw [e]; rfl)) hg hcs ht rfl hB h1 h1x).mono ?_
        rintro e w' ⟨rfl, ⟨cur', k1, k2, k3⟩, hgr⟩
        exact ⟨_, rfl, ⟨hfl, .inr ⟨g, cap, cur', rfl, hbg, k1, hroom, hcm, k2, k3⟩⟩, hgr, .inl rfl⟩
      · refine (insert_grow g xs.length cap i vb cur xs x w hi2 hn (by omega) hnc hg ht rfl hB h1 h1x).mono ?_
        rintro e w' ⟨G, cur', rfl, k0, k4, k1, k2, k3, hgr⟩
        exact ⟨_, rfl, ⟨hfl, .inr ⟨w.heap.size, G, cur', rfl, hb, k1, k0, k4, k2, k3⟩⟩, ⟨hgr.os, hgr.tape, hgr.output, hgr.size, fun k hk _ => hgr.block k hk (by simp)⟩, .inr ⟨_, rfl, Nat.le_refl _⟩⟩

set_option maxHeartbeats 4000000 in
set_option maxRecDepth 100000 in
theorem put_there (W : World) (base b n : Nat) (f : Int → List XV) (g : Int → Value) (v : V) (da : Option Addr) (dc : Nat) (gs : List V) (hM : Chm W base b n f g) (hok : okV v = true) (hgs : (f v.k).map XV.v = gs) (ha : gs.Pairwise (fun a b => lessB a.t a.s b.t b.s = true)) (hl : gs.length ≤ 80) (hgood : ∀ x ∈ f v.k, GoodX W x) (hth : thr gs v.t v.s = true) :
    Calls Try.prog 69 #[.map (some b), verV v.k v.t v.s v.val v.cl v.ca da v.ds.length dc] W fun e w' => e = .returned (.bool false) ∧ Below W.heap.size W w' := by
  obtain ⟨k0, k5⟩ := okV_key hok
  have wf := wf_key k0 k5
  have b0 : Below W.heap.size W (W.alloc (.cells #[.int .i64 v.k, .int .i64 v.t, .int .i64 v.s, .int .i64 v.val, .int .i64 v.cl, .int .i64 v.ca, .slice da v.ds.length dc] 28)) := (Below.refl _ W).alloc (Nat.le_refl _) _
  have hP := place_any _ base b n f g v.k v.t v.s gs (hM.below b0) wf hgs ha (by omega) (fun x hx => (hgood x hx).below b0)
  rw [hth] at hP
  clear hM hgood hgs ha hth
  generalize plc gs v.t v.s = p at *
  go_enter Try.func69, Try.ntmps69
  go_wp2_with fail
  refine hP.mono ?_
  rintro e w1 ⟨rfl, hb1⟩
  clear hP
  go_wp2_with fail
  go_ret
  exact ⟨rfl, b0.trans (hb1.mono b0.size)⟩

set_option maxHeartbeats 4000000 in
set_option maxRecDepth 100000 in
theorem put_new (W : World) (base b n : Nat) (f : Int → List XV) (g : Int → Value) (v : V) (da : Option Addr) (dc : Nat) (gs : List V) (hM : Chm W base b n f g) (hok : okV v = true) (hgs : (f v.k).map XV.v = gs) (ha : gs.Pairwise (fun a b => lessB a.t a.s b.t b.s = true)) (hl : gs.length ≤ 80) (hgood : ∀ x ∈ f v.k, GoodX W x) (hth : thr gs v.t v.s = false) (hn : n ≤ 100) (hbase : base ≤ b) (hbW : base ≤ W.heap.size) :
    Calls Try.prog 69 #[.map (some b), verV v.k v.t v.s v.val v.cl v.ca da v.ds.length dc] W fun e w' => ∃ u, e = .returned (.bool true) ∧ Chm w' base b (n + 1) (upd f v.k ((f v.k).take (plc gs v.t v.s) ++ XV.mk v (.slice da v.ds.length dc) :: (f v.k).drop (plc gs v.t v.s))) (upd g v.k u) ∧ Below base W w' := by
  obtain ⟨k0, k5⟩ := okV_key hok
  have wf := wf_key k0 k5
  have b0 : Below W.heap.size W (W.alloc (.cells #[.int .i64 v.k, .int .i64 v.t, .int .i64 v.s, .int .i64 v.val, .int .i64 v.cl, .int .i64 v.ca, .slice da v.ds.length dc] 28)) := (Below.refl _ W).alloc (Nat.le_refl _) _
  have hP := place_any _ base b n f g v.k v.t v.s gs (hM.below b0) wf hgs ha (by omega) (fun x hx => (hgood x hx).below b0)
  rw [hth] at hP
  have hpl := plc_le gs v.t v.s
  have hfl : (f v.k).length = gs.length := by rw [← hgs, List.length_map]
  have h1 : ∀ y ∈ f v.k, y.p.oneCell' = true := fun y hy => (hgood y hy).one
  have hgb : ∀ j, (g v.k).ownBlock = some j → j < W.heap.size := fun j hj => ((hM.row v.k).lt j hj).2
  have HBW : Hid (base ≤ W.heap.size) := hbW
  rw [← hfl] at hl hpl
  clear hgood hgs ha hth hfl hok
  generalize plc gs v.t v.s = p at *
  have N1 := Blk.new W #[.int .i64 v.k, .int .i64 v.t, .int .i64 v.s, .int .i64 v.val, .int .i64 v.cl, .int .i64 v.ca, .slice da v.ds.length dc] 28
  go_enter Try.func69, Try.ntmps69
  go_wp2_with fail
  refine hP.mono ?_
  rintro e W0 ⟨rfl, hb1⟩
  have M0 := (hM.below b0).below hb1
  have N0 := N1.below hb1 N1.lt
  have B0 : Below W.heap.size W W0 := b0.trans (hb1.mono b0.size)
  have lL := N0.lt
  clear hP N1 hb1 hM
  obtain ⟨qn, fn⟩ := N0.rules
  go_wp2_with fail
  clear qn fn
  generalize hLB : W.heap.size = LB at *
  have HLB : Hid (W.heap.size = LB) := hLB
  clear hLB
  have g1 := M0.look wf
  have g2 : (Instr.lookup 85 (.map (some b)) (.int .i64 v.k) false).run Try.prog W0.drew = .ok (g v.k) W0.drew := (M0.below (Below.refl _ W0).drew).look wf
  have g3 : (Instr.lookup 85 (.map (some b)) (.int .i64 v.k) false).run Try.prog (W0.drew.alloc (.cells #[.int .i64 v.k, .int .i64 v.t, .int .i64 v.s, .int .i64 v.val, .int .i64 v.cl, .int .i64 v.ca, .slice da v.ds.length dc] 28)) = .ok (g v.k) (W0.drew.alloc (.cells #[.int .i64 v.k, .int .i64 v.t, .int .i64 v.s, .int .i64 v.val, .int .i64 v.cl, .int .i64 v.ca, .slice da v.ds.length dc] 28)) := (M0.below ((Below.refl _ W0).drew.alloc (Nat.le_refl _) (.cells #[.int .i64 v.k, .int .i64 v.t, .int .i64 v.s, .int .i64 v.val, .int .i64 v.cl, .int .i64 v.ca, .slice da v.ds.length dc] 28))).look wf
  have g4 : (Instr.lookup 85 (.map (some b)) (.int .i64 v.k) false).run Try.prog (W0.alloc (.cells #[.int .i64 v.k, .int .i64 v.t, .int .i64 v.s, .int .i64 v.val, .int .i64 v.cl, .int .i64 v.ca, .slice da v.ds.length dc] 28)).drew = .ok (g v.k) (W0.alloc (.cells #[.int .i64 v.k, .int .i64 v.t, .int .i64 v.s, .int .i64 v.val, .int .i64 v.cl, .int .i64 v.ca, .slice da v.ds.length dc] 28)).drew := (M0.below ((Below.refl _ W0).alloc (Nat.le_refl _) (.cells #[.int .i64 v.k, .int .i64 v.t, .int .i64 v.s, .int .i64 v.val, .int .i64 v.cl, .int .i64 v.ca, .slice da v.ds.length dc] 28)).drew).look wf
  have g5 : (Instr.lookup 85 (.map (some b)) (.int .i64 v.k) false).run Try.prog (W0.alloc (.cells #[.int .i64 v.k, .int .i64 v.t, .int .i64 v.s, .int .i64 v.val, .int .i64 v.cl, .int .i64 v.ca, .slice da v.ds.length dc] 28)) = .ok (g v.k) (W0.alloc (.cells #[.int .i64 v.k, .int .i64 v.t, .int .i64 v.s, .int .i64 v.val, .int .i64 v.cl, .int .i64 v.ca, .slice da v.ds.length dc] 28)) := (M0.below ((Below.refl _ W0).alloc (Nat.le_refl _) (.cells #[.int .i64 v.k, .int .i64 v.t, .int .i64 v.s, .int .i64 v.val, .int .i64 v.cl, .int .i64 v.ca, .slice da v.ds.length dc] 28))).look wf
  have rA : (W0.drew.alloc (.cells #[.int .i64 v.k, .int .i64 v.t, .int .i64 v.s, .int .i64 v.val, .int .i64 v.cl, .int .i64 v.ca, .slice da v.ds.length dc] 28)).ownsRow base 28 7 (g v.k) (f v.k).length (flat7 (f v.k)) := (M0.below ((Below.refl _ W0).drew.alloc (Nat.le_refl _) (.cells #[.int .i64 v.k, .int .i64 v.t, .int .i64 v.s, .int .i64 v.val, .int .i64 v.cl, .int .i64 v.ca, .slice da v.ds.length dc] 28))).row v.k
  have NA : Blk (W0.drew.alloc (.cells #[.int .i64 v.k, .int .i64 v.t, .int .i64 v.s, .int .i64 v.val, .int .i64 v.cl, .int .i64 v.ca, .slice da v.ds.length dc] 28)) W0.heap.size #[.int .i64 v.k, .int .i64 v.t, .int .i64 v.s, .int .i64 v.val, .int .i64 v.cl, .int .i64 v.ca, .slice da v.ds.length dc] 28 := Blk.new W0.drew #[.int .i64 v.k, .int .i64 v.t, .int .i64 v.s, .int .i64 v.val, .int .i64 v.cl, .int .i64 v.ca, .slice da v.ds.length dc] 28
  have s0 : Hid (W0.cell? ⟨LB, 0, none⟩ = some (.int .i64 v.k) ∧ W0.cell? ⟨LB, 1, none⟩ = some (.int .i64 v.t) ∧ W0.cell? ⟨LB, 2, none⟩ = some (.int .i64 v.s) ∧ W0.cell? ⟨LB, 3, none⟩ = some (.int .i64 v.val) ∧ W0.cell? ⟨LB, 4, none⟩ = some (.int .i64 v.cl) ∧ W0.cell? ⟨LB, 5, none⟩ = some (.int .i64 v.ca) ∧ W0.cell? ⟨LB, 6, none⟩ = some (.slice da v.ds.length dc)) := by
    obtain ⟨q, _⟩ := N0.rules
    exact ⟨q 0, q 1, q 2, q 3, q 4, q 5, q 6⟩
  have N1 := N0.below ((Below.refl _ W0).drew.alloc (Nat.le_refl _) (.cells #[.int .i64 v.k, .int .i64 v.t, .int .i64 v.s, .int .i64 v.val, .int .i64 v.cl, .int .i64 v.ca, .slice da v.ds.length dc] 28)) lL
  have sA : Hid ((W0.alloc (.cells #[.int .i64 v.k, .int .i64 v.t, .int .i64 v.s, .int .i64 v.val, .int .i64 v.cl, .int .i64 v.ca, .slice da v.ds.length dc] 28)).cell? ⟨LB, 0, none⟩ = some (.int .i64 v.k) ∧ (W0.alloc (.cells #[.int .i64 v.k, .int .i64 v.t, .int .i64 v.s, .int .i64 v.val, .int .i64 v.cl, .int .i64 v.ca, .slice da v.ds.length dc] 28)).cell? ⟨LB, 1, none⟩ = some (.int .i64 v.t) ∧ (W0.alloc (.cells #[.int .i64 v.k, .int .i64 v.t, .int .i64 v.s, .int .i64 v.val, .int .i64 v.cl, .int .i64 v.ca, .slice da v.ds.length dc] 28)).cell? ⟨LB, 2, none⟩ = some (.int .i64 v.s) ∧ (W0.alloc (.cells #[.int .i64 v.k, .int .i64 v.t, .int .i64 v.s, .int .i64 v.val, .int .i64 v.cl, .int .i64 v.ca, .slice da v.ds.length dc] 28)).cell? ⟨LB, 3, none⟩ = some (.int .i64 v.val) ∧ (W0.alloc (.cells #[.int .i64 v.k, .int .i64 v.t, .int .i64 v.s, .int .i64 v.val, .int .i64 v.cl, .int .i64 v.ca, .slice da v.ds.length dc] 28)).cell? ⟨LB, 4, none⟩ = some (.int .i64 v.cl) ∧ (W0.alloc (.cells #[.int .i64 v.k, .int .i64 v.t, .int .i64 v.s, .int .i64 v.val, .int .i64 v.cl, .int .i64 v.ca, .slice da v.ds.length dc] 28)).cell? ⟨LB, 5, none⟩ = some (.int .i64 v.ca) ∧ (W0.alloc (.cells #[.int .i64 v.k, .int .i64 v.t, .int .i64 v.s, .int .i64 v.val, .int .i64 v.cl, .int .i64 v.ca, .slice da v.ds.length dc] 28)).cell? ⟨LB, 6, none⟩ = some (.slice da v.ds.length dc)) := by
    obtain ⟨q, _⟩ := N1.rules
    exact ⟨q 0, q 1, q 2, q 3, q 4, q 5, q 6⟩
  have hb0 : base ≤ W0.heap.size := by have := HBW.out; have := B0.size; omega
  have sB : base ≤ (W0.drew.alloc (.cells #[.int .i64 v.k, .int .i64 v.t, .int .i64 v.s, .int .i64 v.val, .int .i64 v.cl, .int .i64 v.ca, .slice da v.ds.length dc] 28)).heap.size := Nat.le_trans hb0 (by simp)
  have hnv : (g v.k).ownBlock ≠ some W0.heap.size := fun e => by have := hgb _ e; omega
  go_region_held3 (fun W => W.cell? ⟨LB, 0, none⟩ = some (.int .i64 v.k) ∧ W.cell? ⟨LB, 1, none⟩ = some (.int .i64 v.t) ∧ W.cell? ⟨LB, 2, none⟩ = some (.int .i64 v.s) ∧ W.cell? ⟨LB, 3, none⟩ = some (.int .i64 v.val) ∧ W.cell? ⟨LB, 4, none⟩ = some (.int .i64 v.cl) ∧ W.cell? ⟨LB, 5, none⟩ = some (.int .i64 v.ca) ∧ W.cell? ⟨LB, 6, none⟩ = some (.slice da v.ds.length dc)) (first | (rw [s3.out.1, s3.out.2.1, s3.out.2.2.1, s3.out.2.2.2.1, s3.out.2.2.2.2.1, s3.out.2.2.2.2.2.1, s3.out.2.2.2.2.2.2]; exact ⟨rfl, rfl, rfl, rfl, rfl, rfl, rfl⟩) | (rw [s2.out.1, s2.out.2.1, s2.out.2.2.1, s2.out.2.2.2.1, s2.out.2.2.2.2.1, s2.out.2.2.2.2.2.1, s2.out.2.2.2.2.2.2]; exact ⟨rfl, rfl, rfl, rfl, rfl, rfl, rfl⟩) | exact sA.out | exact s0.out)
    (first
      | (go_at_call 106
         refine (insert_any base p W0.heap.size (g v.k) (f v.k) ⟨v, .slice da v.ds.length dc⟩ _ ?ha (by omega) hpl ?hb hnv ?hc h1 rfl).mono ?_
         (case ha => exact rA)
         (case hb => exact sB)
         (case hc => exact NA)
         rintro e W2 ⟨v1, rfl, own1, grow1, loc1⟩
         have gAll : W0.grownBy W2 (g v.k).ownBlock := (World.grownBy.mk (w := W0) (w' := W0.drew.alloc (.cells #[.int .i64 v.k, .int .i64 v.t, .int .i64 v.s, .int .i64 v.val, .int .i64 v.cl, .int .i64 v.ca, .slice da v.ds.length dc] 28)) rfl rfl rfl (by simp) (fun j hj _ => Below.heap_alloc W0.drew _ j hj)).trans grow1
         have N2 := N0.grown gAll (fun e => by have := hgb LB e.symm; omega)
         have s2 : Hid (W2.cell? ⟨LB, 0, none⟩ = some (.int .i64 v.k) ∧ W2.cell? ⟨LB, 1, none⟩ = some (.int .i64 v.t) ∧ W2.cell? ⟨LB, 2, none⟩ = some (.int .i64 v.s) ∧ W2.cell? ⟨LB, 3, none⟩ = some (.int .i64 v.val) ∧ W2.cell? ⟨LB, 4, none⟩ = some (.int .i64 v.cl) ∧ W2.cell? ⟨LB, 5, none⟩ = some (.int .i64 v.ca) ∧ W2.cell? ⟨LB, 6, none⟩ = some (.slice da v.ds.length dc)) := by
           obtain ⟨q, _⟩ := N2.rules
           exact ⟨q 0, q 1, q 2, q 3, q 4, q 5, q 6⟩
         obtain ⟨W3, hup, M3, grow3⟩ := M0.store wf (by omega) (by simp) gAll own1 (loc1.imp id fun ⟨j, e1, e2⟩ => ⟨j, e1, Nat.le_trans (by simp) e2⟩)
         have N3 := N2.grown grow3 (fun e => by simp at e; subst e; obtain ⟨D, hD, _⟩ := M0.own; obtain ⟨es, cl, hb, _⟩ := hD; have := N0; unfold Blk at this; rw [hb] at this; cases this)
         have s3 : Hid (W3.cell? ⟨LB, 0, none⟩ = some (.int .i64 v.k) ∧ W3.cell? ⟨LB, 1, none⟩ = some (.int .i64 v.t) ∧ W3.cell? ⟨LB, 2, none⟩ = some (.int .i64 v.s) ∧ W3.cell? ⟨LB, 3, none⟩ = some (.int .i64 v.val) ∧ W3.cell? ⟨LB, 4, none⟩ = some (.int .i64 v.cl) ∧ W3.cell? ⟨LB, 5, none⟩ = some (.int .i64 v.ca) ∧ W3.cell? ⟨LB, 6, none⟩ = some (.slice da v.ds.length dc)) := by
           obtain ⟨q, _⟩ := N3.rules
           exact ⟨q 0, q 1, q 2, q 3, q 4, q 5, q 6⟩
         have B3 : Below base W W3 := ((B0.mono (by have := HLB.out; have := HBW.out; omega)).grown gAll hb0 (fun j hj => ((M0.row v.k).lt j hj).1)).grown grow3 (Nat.le_trans hb0 gAll.size) (fun j hj => by simp at hj; omega)
         clear own1 grow1 loc1 gAll N2 N3 grow3 g1 g2 g3 g4 g5 rA NA N1 N0 sB)
      | (refine step_update _ (by rfl) _ _ _ 85 (by rfl) (.map (some b)) (.int .i64 v.k) v1 (by rfl) (by rfl) (by rfl) W3 hup ?_))
  all_goals
    clear s0 sA s2 s3
    go_wp2_with fail
    go_ret
    exact ⟨v1, rfl, M3, B3⟩
end Go.Proofs.Ythlmodafadfnfaa

/- All versions of the map, in order. -/
namespace Go.Proofs.Ythlmodafadfnfaa
open Go.ChangeShapes Go.WideShapes Go.ChangeAt Go.RowKit

set_option maxHeartbeats 4000000 in
set_option maxRecDepth 100000 in
theorem ofAll_any (W : World) (base b n : Nat) (f : Int → List XV) (g : Int → Value) (vs : List V)  (p : Int → Bool) (hM : Chm W base b n f g) (hn : n ≤ 1000) (hf : ∀ j, (f j).map XV.v = grp vs j) (hgood : ∀ j, ∀ x ∈ f j, GoodX W x) (hvs : vs.Pairwise (fun a b => a.k ≤ b.k)) (hvk : ∀ v ∈ vs, 0 ≤ v.k ∧ v.k ≤ 5) (hl : vs.length ≤ 100)
    (hw : ∀ (W' : World) (k : Int), Below W.heap.size W W' → Calls Try.prog 107 #[.int .i64 k] W' fun e w' => e = .returned (.bool (p k)) ∧ Below W'.heap.size W' w') :
    Calls Try.prog 90 #[.map (some b), .func (.func 107) #[] #[]] W fun e w' => ∃ u ys, e = .returned u ∧ OwnV w' W.heap.size u ys ∧ ys.map XV.v = vs.filter (fun v => p v.k) ∧ Below W.heap.size W w' := by
  obtain ⟨i0, hi, hz0, hz1, hz2⟩ := info_parts infoVer
  have b1 : Below W.heap.size W (W.alloc (.cells #[.map (some b)] 85)) := (Below.refl _ W).alloc (Nat.le_refl _) _
  have M1 := hM.below b1
  have lb := hM.lt
  obtain ⟨D, hD, hsz, hks⟩ := M1.keys'
  have hcell : (W.alloc (.cells #[.map (some b)] 85)).cell? ⟨W.heap.size, 0, none⟩ = some (.map (some b)) := (Blk.new W #[.map (some b)] 85).cell 0
  go_enter Try.func90, Try.ntmps90
  go_wp2_with fail
  refine (keys_any (some b) _).mono ?_
  rintro e w1 ⟨rfl, rfl⟩
  go_wp2_with fail
  refine (sorted_any b n W.heap.size D heldR _ (by simp) hcell hD (by omega)).mono ?_
  rintro e w2 ⟨v, ss, rfl, hperm, hrow, hb2⟩
  obtain ⟨ks, hke, hkl, hkn, hkp, hkm⟩ := hks ss hperm
  rw [hke] at hrow
  obtain ⟨va, vc, rfl, _⟩ := row_slice hrow
  have B2 : Below W.heap.size W w2 := b1.trans (hb2.mono b1.size)
  have M2 := hM.below B2
  have HT : Hid (toldTo p vs ks = vs.filter fun v => p v.k) := told_keys p ks vs hvs hkp (fun k => by rw [hkm k, ← hf k]; simp)
  have HM : Hid (∀ k ∈ ks, f k ≠ []) := fun k hk => (hkm k).1 hk
  have HK : Hid (∀ k ∈ ks, 0 ≤ k ∧ k ≤ 5) := fun k hk => by
    have := (hkm k).1 hk
    rcases hx : f k with _ | ⟨x, l⟩
    · exact absurd hx this
    · have hg : x.v ∈ grp vs k := by rw [← hf k, hx]; simp
      have h1 := List.mem_filter.1 hg
      have h2 := hvk _ h1.1
      have h3 := h1.2
      simp at h3
      omega
  have hs2 := B2.size
  rw [← hkl] at hrow
  clear hks hke hperm hsz hD hcell M1 b1 hb2 hkm hkp hM
  rw [← hkl]
  clear hkl
  go_wp2_with fail
  go_loopw [5, 12] (fun u i wr => ∃ (k : Nat) (ys : List XV), k ≤ ks.length ∧ i = .int .i64 k ∧ OwnV wr w2.heap.size u ys ∧ Hid (ys.map XV.v = toldTo p vs (ks.take k)) ∧ ys.length ≤ k * 100 ∧ Below w2.heap.size w2 wr) (fun _ i _ => ks.length - (intOf i).toNat)
  case atStart => exact ⟨0, [], Nat.zero_le _, rfl, OwnV.nil _ _, rfl, Nat.zero_le _, Below.refl _ _⟩
  case round =>
    obtain ⟨k, ys, hk, rfl, hO, HY, hyl, hB⟩ := hrel
    by_cases hlt : k < ks.length
    · obtain ⟨gb, rfl, hgb, _, hc⟩ := ints_at hrow hlt
      have hc2 := (hB.cell (p := ⟨gb, k, none⟩) hgb).trans hc
      have HS : Hid (ks.take (k + 1) = ks.take k ++ [ks[k]]) := takeV ks k hlt
      have hne := HM.out ks[k] (List.getElem_mem hlt)
      obtain ⟨k0, k5⟩ := HK.out ks[k] (List.getElem_mem hlt)
      generalize ks[k] = key at *
      have i1 : (0 : Int) ≤ (k : Int) := by omega
      have i2 : (k : Int) < (ks.length : Int) := by omega
      have BW : Below W.heap.size W wr := B2.trans (hB.mono hs2)
      go_wp2_with fail
      refine (hw wr key BW).mono ?_
      rintro e w3 ⟨rfl, hb3⟩
      have B3 : Below w2.heap.size w2 w3 := hB.trans (hb3.mono hB.size)
      have O3 := hO.below hb3 (Nat.le_refl _)
      clear hc hc2 hO hb3 BW hB
      rcases hp : p key with _ | _
      · have HN : Hid (toldTo p vs (ks.take (k + 1)) = toldTo p vs (ks.take k)) := by show toldTo _ _ _ = _; rw [HS.out, toldTo_snoc, hp]; simp
        go_wp2_with fail
        go_roundw
        case rel => exact ⟨k + 1, ys, by omega, by go_num, O3, (by show _ = _; rw [HN.out, HY.out]), by omega, B3⟩
        case measure => simp [intOf]; omega
      · have HN : Hid (toldTo p vs (ks.take (k + 1)) = toldTo p vs (ks.take k) ++ grp vs key) := by show toldTo _ _ _ = _; rw [HS.out, toldTo_snoc, hp]; simp
        have M3 := M2.below B3
        have hlook := M3.look (wf_key k0 k5)
        have BW3 : Below W.heap.size W w3 := B2.trans (B3.mono hs2)
        obtain ⟨ga, gc, hg, hV⟩ := M3.at key (hf key) (fun x hx => (hgood key x hx).below BW3)
        rw [hg] at hlook
        have hgl := grp_le vs key
        have hgp : 0 < (grp vs key).length := by
          rw [← hf key, List.length_map]
          exact List.length_pos_iff.2 hne
        clear hg M3 hp
        generalize grp vs key = gs at *
        go_wp2_with fail
        refine (iVers_any ga gc gs _ (by omega) hV).mono ?_
        rintro e w4 ⟨cv, zs, rfl, OC, hzs, hb4⟩
        have B4 : Below w2.heap.size w2 w4 := B3.trans (hb4.mono B3.size)
        have O4 := O3.below hb4 (Nat.le_refl _)
        have hzl : zs.length = gs.length := by rw [← hzs, List.length_map]
        have hap : ∀ x ∈ ys, ∀ y ∈ zs, ApartV x.p y.p := fun x hx y hy => apart_new (O3.deps x hx).1 (OC.deps y hy).1 (Nat.le_refl _)
        have OC4 := OC.mono (base' := w2.heap.size) B3.size
        obtain ⟨cb, cc, rfl⟩ : ∃ cb cc, cv = .slice (some ⟨cb, 0, none⟩) zs.length cc := by
          rcases OC.row.2 with ⟨_, h0⟩ | ⟨cb, cc, cur, h0, _⟩
          · omega
          · exact ⟨cb, cc, h0⟩
        have hcells := OC4.row.cells (g := cb) rfl
        have hone := flat7_one (fun y hy => (OC4.good y hy).one)
        have h63 : ys.length + zs.length ≤ maxLen := by unfold maxLen; omega
        have hby : (ys.length + zs.length) * 72 ≤ 140737488355328 := by omega
        have hs4 := B4.size
        have HL : Hid ((flat7 zs).length = zs.length * 7) := flat7_len zs
        have hzb : zs.length ≤ 100 := by omega
        have HZ : Hid (zs.map XV.v = gs) := hzs
        clear hlook hV hb4 O3 OC B3 BW3 hzl hzs
        go_wp2_with (first | (at_builtin
                              refine wpList_append_own _ rfl _ _ 23 rfl w2.heap.size 28 i0 (.agg #[.int .i64 0, .int .i64 0, .int .i64 0, .int .i64 0, .int .i64 0, .int .i64 0, .slice none 0 0]) 7 72 Try.underlying23 hi hz0 hz1 hz2 rfl (by decide) _ ys.length (flat7 ys) rfl O4.row ⟨cb, 0, none⟩ zs.length cc (flat7 zs) rfl HL.out hcells hone h63 hby hs4 ?_
                              intro u5 w5 hrow5 hg5 _
                              have O5 := O4.append hg5 hrow5 OC4.deps OC4.apart hap
                              have B5 : Below w2.heap.size w2 w5 := B4.grown hg5 hs4 (fun j hj => (O4.row.lt j hj).1)
                              clear hrow5 hg5 O4 OC4 hap hcells hone B4))
        go_roundw
        case rel => exact ⟨k + 1, ys ++ zs, by omega, by go_num, O5, (by show _ = _; rw [HN.out, List.map_append, HY.out, HZ.out]), by rw [List.length_append]; omega, B5⟩
        case measure => simp [intOf]; omega
    · have hk2 : k = ks.length := by omega
      subst hk2
      rw [List.take_length] at HY
      go_wp2_with fail
      go_ret
      exact ⟨_, ys, rfl, hO.mono hs2, by rw [HY.out, HT.out], B2.trans (hB.mono hs2)⟩

theorem all1_any (k : Int) (w : World) : Calls Try.prog 107 #[.int .i64 k] w fun e w' => e = .returned (.bool true) ∧ w' = w := by
  go_enter Try.func107, Try.ntmps107
  go_wp2
  go_ret
  exact ⟨rfl, rfl⟩
theorem all_chain (W : World) (base b n : Nat) (f : Int → List XV) (g : Int → Value) (vs : List V) (hM : Chm W base b n f g) (hn : n ≤ 1000) (hf : ∀ j, (f j).map XV.v = grp vs j) (hgood : ∀ j, ∀ x ∈ f j, GoodX W x) (hvs : vs.Pairwise (fun a b => a.k ≤ b.k)) (hvk : ∀ v ∈ vs, 0 ≤ v.k ∧ v.k ≤ 5) (hl : vs.length ≤ 100) :
    Calls Try.prog 70 #[.map (some b)] W fun e w' => ∃ u ys, e = .returned u ∧ OwnV w' W.heap.size u ys ∧ ys.map XV.v = vs ∧ Below W.heap.size W w' := by
  have hO := ofAll_any W base b n f g vs (fun _ => true) hM hn hf hgood hvs hvk hl (fun W' k _ => (all1_any k W').mono fun e w' ⟨h1, h2⟩ => ⟨h1, by rw [h2]; exact Below.refl _ _⟩)
  go_enter Try.func70, Try.ntmps70
  go_wp2_with fail
  refine hO.mono ?_
  rintro e w1 ⟨u, ys, rfl, O1, hy, hb⟩
  go_wp2_with fail
  go_ret
  exact ⟨_, ys, rfl, O1, by rw [hy]; simp, hb⟩
end Go.Proofs.Ythlmodafadfnfaa

/- The specification's ChainPut. -/
namespace Go.Proofs.Ythlmodafadfnfaa
open Go.ChangeShapes Go.WideShapes Go.ChangeAt Go.RowKit

theorem put_no {vs : List V} {v : V} (h : chainB vs = false) : cPut vs v = [] ∧ cDid vs v = false := by unfold cPut cDid; rw [h]; exact ⟨rfl, rfl⟩
theorem put_stay {vs : List V} {v : V} (h : chainB vs = true) (hp : putB vs v = false) : cPut vs v = vs ∧ cDid vs v = false := by unfold cPut cDid; rw [h, hp]; exact ⟨rfl, rfl⟩
theorem put_take {vs : List V} {v : V} (h : chainB vs = true) (hp : putB vs v = true) : cPut vs v = insV v vs ∧ cDid vs v = true := by unfold cPut cDid; rw [h, hp]; exact ⟨rfl, rfl⟩
theorem putB_ok {vs : List V} {v : V} (h : okV v = false) : putB vs v = false := by unfold putB; rw [h]; rfl
theorem putB_there {vs : List V} {v : V} (h : (cAt vs v.k v.t v.s).isSome = true) : putB vs v = false := by
  unfold putB
  rcases hc : cAt vs v.k v.t v.s with _ | x
  · rw [hc] at h; cases h
  · simp
theorem putB_full {vs : List V} {v : V} (h : 80 ≤ vs.length) : putB vs v = false := by unfold putB; simp; omega
theorem putB_yes {vs : List V} {v : V} (h : okV v = true) (hn : (cAt vs v.k v.t v.s).isSome = false) (hl : vs.length < 80) : putB vs v = true := by
  unfold putB
  rcases hc : cAt vs v.k v.t v.s with _ | x
  · rw [h]; simpa using hl
  · rw [hc] at hn; cases hn

set_option maxHeartbeats 4000000 in
set_option maxRecDepth 100000 in
theorem sPutV_any (a : Option Addr) (cap : Nat) (vs : List V) (v : V) (va : Option Addr) (vc : Nat) (w : World) (hn : vs.length ≤ 1099511627776) (h : Vers w a vs) (hvl : v.ds.length ≤ 1099511627776) (hvd0 : Deps w va v.ds) :
    Calls Try.prog 21 #[.slice a vs.length cap, verV v.k v.t v.s v.val v.cl v.ca va v.ds.length vc] w fun e w' => ∃ u ys, e = .returned (.tuple #[u, .bool (cDid vs v)]) ∧ OwnV w' w.heap.size u ys ∧ ys.map XV.v = cPut vs v ∧ Below w.heap.size w w' := by
  have V1 := Blk.new w #[.int .i64 v.k, .int .i64 v.t, .int .i64 v.s, .int .i64 v.val, .int .i64 v.cl, .int .i64 v.ca, .slice va v.ds.length vc] 28
  have b0 : Below w.heap.size w (w.alloc (.cells #[.int .i64 v.k, .int .i64 v.t, .int .i64 v.s, .int .i64 v.val, .int .i64 v.cl, .int .i64 v.ca, .slice va v.ds.length vc] 28)) := (Below.refl _ w).alloc (Nat.le_refl _) _
  have h1 := h.below b0
  have hvd := hvd0.below b0
  have hC := fun W h => sChainOk_any a cap vs W hn h
  have s1 : (w.alloc (.cells #[.int .i64 v.k, .int .i64 v.t, .int .i64 v.s, .int .i64 v.val, .int .i64 v.cl, .int .i64 v.ca, .slice va v.ds.length vc] 28)).heap.size = w.heap.size + 1 := by simp
  rcases hc : chainB vs with _ | _
  · have HP : Hid _ := put_no (v := v) hc
    rw [hc] at hC
    clear h hc hvd hvd0
    go_enter Try.func21, Try.ntmps21
    go_wp2_with fail
    generalize (w.alloc (.cells #[.int .i64 v.k, .int .i64 v.t, .int .i64 v.s, .int .i64 v.val, .int .i64 v.cl, .int .i64 v.ca, .slice va v.ds.length vc] 28)) = W1 at *
    refine (hC _ h1).mono ?_
    rintro e w2 ⟨rfl, hb2⟩
    clear hC
    have V2 := V1.below hb2 V1.lt
    obtain ⟨q1, g1⟩ := V2.rules
    have B2 : Below w.heap.size w w2 := b0.trans (hb2.mono b0.size)
    clear q1 g1 V2 V1 hb2
    have hown0 : (w2.alloc (.cells #[] 28)).ownsRow w.heap.size 28 7 (.slice (some ⟨w2.heap.size, 0, none⟩) 0 0) 0 [] := World.ownsRow_made w2 #[] 0 B2.size (by unfold maxLen; omega) rfl
    go_wp2_with fail
    go_ret2
    exact ⟨_, [], by rw [HP.out.2]; rfl, ⟨hown0, fun _ h => (by cases h), List.Pairwise.nil⟩, by rw [HP.out.1]; rfl, B2.alloc B2.size _⟩
  have hl80 := (chainB_iff.1 hc).1
  have HA : (atA vs v.k v.t v.s).isSome = (cAt vs v.k v.t v.s).isSome := by rw [atA_yes hc]
  rcases hv : okV v with _ | _
  · have HP : Hid _ := put_stay hc (putB_ok (vs := vs) hv)
    rw [hc] at hC
    generalize (cAt vs v.k v.t v.s).isSome = there at *
    clear h hc hvd0
    go_enter Try.func21, Try.ntmps21
    go_wp2_with fail
    generalize (w.alloc (.cells #[.int .i64 v.k, .int .i64 v.t, .int .i64 v.s, .int .i64 v.val, .int .i64 v.cl, .int .i64 v.ca, .slice va v.ds.length vc] 28)) = W1 at *
    refine (hC _ h1).mono ?_
    rintro e w2 ⟨rfl, hb2⟩
    clear hC
    have V2 := V1.below hb2 V1.lt
    obtain ⟨q1, g1⟩ := V2.rules
    go_wp2_with fail
    refine (sAtV_any a cap vs v.k v.t v.s _ hn (h1.below hb2)).mono ?_
    rintro e w3 ⟨u, pa, pc, Hu, rfl, hrow, hb3⟩
    rw [HA]
    clear q1 g1 Hu hrow
    have b3 : Below W1.heap.size W1 w3 := hb2.trans (hb3.mono hb2.size)
    have V3 := (V1.below b3 V1.lt).alloc (.cells #[.int .i64 u.k, .int .i64 u.t, .int .i64 u.s, .int .i64 u.val, .int .i64 u.cl, .int .i64 u.ca, .slice pa u.ds.length pc] 28)
    have b4 := b3.alloc b3.size (.cells #[.int .i64 u.k, .int .i64 u.t, .int .i64 u.s, .int .i64 u.val, .int .i64 u.cl, .int .i64 u.ca, .slice pa u.ds.length pc] 28)
    obtain ⟨q1, g1⟩ := V3.rules
    clear hb2 hb3 b3 V2
    go_wp2_with fail
    generalize w3.alloc (.cells #[.int .i64 u.k, .int .i64 u.t, .int .i64 u.s, .int .i64 u.val, .int .i64 u.cl, .int .i64 u.ca, .slice pa u.ds.length pc] 28) = W4 at *
    refine (sVer_is hv hvl (hvd.below b4)).mono ?_
    rintro e w5 ⟨rfl, hb5⟩
    have b5 : Below W1.heap.size W1 w5 := b4.trans (hb5.mono b4.size)
    have V5 := V1.below b5 V1.lt
    clear q1 g1 V3 hb5 b4
    obtain ⟨q1, g1⟩ := V5.rules
    go_wp2_with fail
    refine (sVers_any a cap vs _ hn (h1.below b5)).mono ?_
    rintro e w6 ⟨u6, ys, rfl, hO, hys, hb6⟩
    go_wp2_with fail
    go_ret2
    exact ⟨_, ys, by rw [HP.out.2]; rfl, hO.mono (by have := b0.size; have := b5.size; omega), by rw [hys, HP.out.1], (b0.trans (b5.mono b0.size)).trans (hb6.mono (by have := b0.size; have := b5.size; omega))⟩
  rcases hth : (cAt vs v.k v.t v.s).isSome with _ | _
  · rw [hth] at HA
    by_cases hl : 80 ≤ (vs.length : Int)
    · have HP : Hid _ := put_stay hc (putB_full (v := v) (by omega : 80 ≤ vs.length))
      rw [hc] at hC
      clear h hc hvd0
      go_enter Try.func21, Try.ntmps21
      go_wp2_with fail
      generalize (w.alloc (.cells #[.int .i64 v.k, .int .i64 v.t, .int .i64 v.s, .int .i64 v.val, .int .i64 v.cl, .int .i64 v.ca, .slice va v.ds.length vc] 28)) = W1 at *
      refine (hC _ h1).mono ?_
      rintro e w2 ⟨rfl, hb2⟩
      clear hC
      have V2 := V1.below hb2 V1.lt
      obtain ⟨q1, g1⟩ := V2.rules
      go_wp2_with fail
      refine (sAtV_any a cap vs v.k v.t v.s _ hn (h1.below hb2)).mono ?_
      rintro e w3 ⟨u, pa, pc, Hu, rfl, hrow, hb3⟩
      rw [HA]
      clear q1 g1 Hu hrow
      have b3 : Below W1.heap.size W1 w3 := hb2.trans (hb3.mono hb2.size)
      have V3 := (V1.below b3 V1.lt).alloc (.cells #[.int .i64 u.k, .int .i64 u.t, .int .i64 u.s, .int .i64 u.val, .int .i64 u.cl, .int .i64 u.ca, .slice pa u.ds.length pc] 28)
      have b4 := b3.alloc b3.size (.cells #[.int .i64 u.k, .int .i64 u.t, .int .i64 u.s, .int .i64 u.val, .int .i64 u.cl, .int .i64 u.ca, .slice pa u.ds.length pc] 28)
      obtain ⟨q1, g1⟩ := V3.rules
      clear hb2 hb3 b3 V2
      go_wp2_with fail
      generalize w3.alloc (.cells #[.int .i64 u.k, .int .i64 u.t, .int .i64 u.s, .int .i64 u.val, .int .i64 u.cl, .int .i64 u.ca, .slice pa u.ds.length pc] 28) = W4 at *
      refine (sVer_is hv hvl (hvd.below b4)).mono ?_
      rintro e w5 ⟨rfl, hb5⟩
      have b5 : Below W1.heap.size W1 w5 := b4.trans (hb5.mono b4.size)
      have V5 := V1.below b5 V1.lt
      clear q1 g1 V3 hb5 b4
      obtain ⟨q1, g1⟩ := V5.rules
      go_wp2_with fail
      refine (sVers_any a cap vs _ hn (h1.below b5)).mono ?_
      rintro e w6 ⟨u6, ys, rfl, hO, hys, hb6⟩
      go_wp2_with fail
      go_ret2
      exact ⟨_, ys, by rw [HP.out.2]; rfl, hO.mono (by have := b0.size; have := b5.size; omega), by rw [hys, HP.out.1], (b0.trans (b5.mono b0.size)).trans (hb6.mono (by have := b0.size; have := b5.size; omega))⟩
    · have HP : Hid _ := put_take hc (putB_yes (vs := vs) hv hth (by omega))
      rw [hc] at hC
      have hl2 : (vs.length : Int) < 80 := by omega
      clear h hc hvd0 hth hl
      go_enter Try.func21, Try.ntmps21
      go_wp2_with fail
      generalize (w.alloc (.cells #[.int .i64 v.k, .int .i64 v.t, .int .i64 v.s, .int .i64 v.val, .int .i64 v.cl, .int .i64 v.ca, .slice va v.ds.length vc] 28)) = W1 at *
      refine (hC _ h1).mono ?_
      rintro e w2 ⟨rfl, hb2⟩
      clear hC
      have V2 := V1.below hb2 V1.lt
      obtain ⟨q1, g1⟩ := V2.rules
      go_wp2_with fail
      refine (sAtV_any a cap vs v.k v.t v.s _ hn (h1.below hb2)).mono ?_
      rintro e w3 ⟨u, pa, pc, Hu, rfl, hrow, hb3⟩
      rw [HA]
      clear q1 g1 Hu hrow
      have b3 : Below W1.heap.size W1 w3 := hb2.trans (hb3.mono hb2.size)
      have V3 := (V1.below b3 V1.lt).alloc (.cells #[.int .i64 u.k, .int .i64 u.t, .int .i64 u.s, .int .i64 u.val, .int .i64 u.cl, .int .i64 u.ca, .slice pa u.ds.length pc] 28)
      have b4 := b3.alloc b3.size (.cells #[.int .i64 u.k, .int .i64 u.t, .int .i64 u.s, .int .i64 u.val, .int .i64 u.cl, .int .i64 u.ca, .slice pa u.ds.length pc] 28)
      obtain ⟨q1, g1⟩ := V3.rules
      clear hb2 hb3 b3 V2
      go_wp2_with fail
      generalize w3.alloc (.cells #[.int .i64 u.k, .int .i64 u.t, .int .i64 u.s, .int .i64 u.val, .int .i64 u.cl, .int .i64 u.ca, .slice pa u.ds.length pc] 28) = W4 at *
      refine (sVer_is hv hvl (hvd.below b4)).mono ?_
      rintro e w5 ⟨rfl, hb5⟩
      have b5 : Below W1.heap.size W1 w5 := b4.trans (hb5.mono b4.size)
      have V5 := V1.below b5 V1.lt
      clear q1 g1 V3 hb5 b4
      obtain ⟨q1, g1⟩ := V5.rules
      go_wp2_with fail
      refine (l3Put_any a cap vs v va vc _ (by omega) (h1.below b5) hvl (hvd.below b5)).mono ?_
      rintro e w6 ⟨u6, ys, rfl, hO, hys, hb6⟩
      go_wp2_with fail
      go_ret2
      exact ⟨_, ys, by rw [HP.out.2]; rfl, hO.mono (by have := b0.size; have := b5.size; omega), by rw [hys, HP.out.1], (b0.trans (b5.mono b0.size)).trans (hb6.mono (by have := b0.size; have := b5.size; omega))⟩
  · rw [hth] at HA
    have HP : Hid _ := put_stay hc (putB_there (vs := vs) hth)
    rw [hc] at hC
    clear h hc hvd0 hth
    go_enter Try.func21, Try.ntmps21
    go_wp2_with fail
    generalize (w.alloc (.cells #[.int .i64 v.k, .int .i64 v.t, .int .i64 v.s, .int .i64 v.val, .int .i64 v.cl, .int .i64 v.ca, .slice va v.ds.length vc] 28)) = W1 at *
    refine (hC _ h1).mono ?_
    rintro e w2 ⟨rfl, hb2⟩
    clear hC
    have V2 := V1.below hb2 V1.lt
    obtain ⟨q1, g1⟩ := V2.rules
    go_wp2_with fail
    refine (sAtV_any a cap vs v.k v.t v.s _ hn (h1.below hb2)).mono ?_
    rintro e w3 ⟨u, pa, pc, Hu, rfl, hrow, hb3⟩
    rw [HA]
    clear q1 g1 Hu hrow
    have b3 : Below W1.heap.size W1 w3 := hb2.trans (hb3.mono hb2.size)
    have V3 := (V1.below b3 V1.lt).alloc (.cells #[.int .i64 u.k, .int .i64 u.t, .int .i64 u.s, .int .i64 u.val, .int .i64 u.cl, .int .i64 u.ca, .slice pa u.ds.length pc] 28)
    have b4 := b3.alloc b3.size (.cells #[.int .i64 u.k, .int .i64 u.t, .int .i64 u.s, .int .i64 u.val, .int .i64 u.cl, .int .i64 u.ca, .slice pa u.ds.length pc] 28)
    obtain ⟨q1, g1⟩ := V3.rules
    clear hb2 hb3 b3 V2
    go_wp2_with fail
    generalize w3.alloc (.cells #[.int .i64 u.k, .int .i64 u.t, .int .i64 u.s, .int .i64 u.val, .int .i64 u.cl, .int .i64 u.ca, .slice pa u.ds.length pc] 28) = W4 at *
    refine (sVer_is hv hvl (hvd.below b4)).mono ?_
    rintro e w5 ⟨rfl, hb5⟩
    have b5 : Below W1.heap.size W1 w5 := b4.trans (hb5.mono b4.size)
    have V5 := V1.below b5 V1.lt
    clear q1 g1 V3 hb5 b4
    obtain ⟨q1, g1⟩ := V5.rules
    go_wp2_with fail
    refine (sVers_any a cap vs _ hn (h1.below b5)).mono ?_
    rintro e w6 ⟨u6, ys, rfl, hO, hys, hb6⟩
    go_wp2_with fail
    go_ret2
    exact ⟨_, ys, by rw [HP.out.2]; rfl, hO.mono (by have := b0.size; have := b5.size; omega), by rw [hys, HP.out.1], (b0.trans (b5.mono b0.size)).trans (hb6.mono (by have := b0.size; have := b5.size; omega))⟩
end Go.Proofs.Ythlmodafadfnfaa

/- The program's ChainPut. -/
namespace Go.Proofs.Ythlmodafadfnfaa
open Go.ChangeShapes Go.WideShapes Go.ChangeAt Go.RowKit

theorem chain_keys {vs : List V} (h : chainP vs) : ∀ v ∈ vs, 0 ≤ v.k ∧ v.k ≤ 5 := fun v hv => okV_key (h.1 v hv)
theorem at_thr (vs : List V) (k t s : Int) : (cAt vs k t s).isSome = thr (grp vs k) t s := by rw [at_grp]; rfl
/-- The versions by key behind a put. -/
theorem upd_grp {vs : List V} {v : V} {f : Int → List XV} {p : Value} (h : Asc vs) (hn : cAt vs v.k v.t v.s = none) (hf : ∀ j, (f j).map XV.v = grp vs j) : ∀ j, (upd f v.k ((f v.k).take (plc (grp vs v.k) v.t v.s) ++ XV.mk v p :: (f v.k).drop (plc (grp vs v.k) v.t v.s)) j).map XV.v = grp (insV v vs) j := fun j => by
  rw [grp_insV h hn]
  by_cases e : j = v.k
  · subst e
    rw [upd_same, if_pos rfl, List.map_append, List.map_cons, List.map_take, List.map_drop, hf]
  · rw [upd_other _ _ e, if_neg e, hf]

set_option maxHeartbeats 4000000 in
set_option maxRecDepth 100000 in
theorem iPutV_any (a : Option Addr) (cap : Nat) (vs : List V) (v : V) (va : Option Addr) (vc : Nat) (w : World) (hn : vs.length ≤ 1099511627776) (h : Vers w a vs) (hvl : v.ds.length ≤ 1099511627776) (hvd0 : Deps w va v.ds) :
    Calls Try.prog 23 #[.slice a vs.length cap, verV v.k v.t v.s v.val v.cl v.ca va v.ds.length vc] w fun e w' => ∃ u ys, e = .returned (.tuple #[u, .bool (cDid vs v)]) ∧ OwnV w' w.heap.size u ys ∧ ys.map XV.v = cPut vs v ∧ Below w.heap.size w w' := by
  have V1 := Blk.new w #[.int .i64 v.k, .int .i64 v.t, .int .i64 v.s, .int .i64 v.val, .int .i64 v.cl, .int .i64 v.ca, .slice va v.ds.length vc] 28
  have b0 : Below w.heap.size w (w.alloc (.cells #[.int .i64 v.k, .int .i64 v.t, .int .i64 v.s, .int .i64 v.val, .int .i64 v.cl, .int .i64 v.ca, .slice va v.ds.length vc] 28)) := (Below.refl _ w).alloc (Nat.le_refl _) _
  have h1 := h.below b0
  have hvd := hvd0.below b0
  have s1 : (w.alloc (.cells #[.int .i64 v.k, .int .i64 v.t, .int .i64 v.s, .int .i64 v.val, .int .i64 v.cl, .int .i64 v.ca, .slice va v.ds.length vc] 28)).heap.size = w.heap.size + 1 := by simp
  rcases hc : chainB vs with _ | _
  · have HP : Hid _ := put_no (v := v) hc
    have hC := iChainOf_no a cap vs _ hn h1 hc
    clear h hc hvd hvd0
    go_enter Try.func23, Try.ntmps23
    go_wp2_with fail
    refine hC.mono ?_
    rintro e w2 ⟨rfl, hb2⟩
    clear hC
    go_wp2_with fail
    go_ret2
    exact ⟨_, [], by rw [HP.out.2]; rfl, OwnV.nil _ _, by rw [HP.out.1]; rfl, b0.trans (hb2.mono b0.size)⟩
  have hC := iChainOf_yes a cap vs _ hn h1 hc
  obtain ⟨hl80, hP⟩ := chainB_iff.1 hc
  have hvs := asc_keys hP.2
  have hvk := chain_keys hP
  have hl100 : vs.length ≤ 100 := by omega
  by_cases hl : 80 ≤ (vs.length : Int)
  · have HP : Hid _ := put_stay hc (putB_full (v := v) (by omega : 80 ≤ vs.length))
    clear h hc hvd0 hP
    go_enter Try.func23, Try.ntmps23
    go_wp2_with fail
    generalize (w.alloc (.cells #[.int .i64 v.k, .int .i64 v.t, .int .i64 v.s, .int .i64 v.val, .int .i64 v.cl, .int .i64 v.ca, .slice va v.ds.length vc] 28)) = W1 at *
    refine hC.mono ?_
    rintro e w2 ⟨b, f, g, rfl, hbb, hM, hf, hgood, hb2⟩
    clear hC
    have V2 := V1.below hb2 V1.lt
    obtain ⟨q1, g1⟩ := V2.rules
    go_wp2_with fail
    refine (all_chain w2 W1.heap.size b vs.length f g vs hM (by omega) hf (fun j x hx => (hgood j x hx).below hb2) hvs hvk hl100).mono ?_
    rintro e w9 ⟨u9, ys, rfl, hO, hys, hb9⟩
    go_wp2_with fail
    go_ret2
    exact ⟨_, ys, by rw [HP.out.2]; rfl, hO.mono (by have := b0.size; have := hb2.size; omega), by rw [hys, HP.out.1], (b0.trans (hb2.mono b0.size)).trans (hb9.mono (by have := b0.size; have := hb2.size; omega))⟩
  have hl2 : (vs.length : Int) < 80 := by omega
  rcases hv : okV v with _ | _
  · have HP : Hid _ := put_stay hc (putB_ok (vs := vs) hv)
    clear h hc hvd0 hP
    go_enter Try.func23, Try.ntmps23
    go_wp2_with fail
    generalize (w.alloc (.cells #[.int .i64 v.k, .int .i64 v.t, .int .i64 v.s, .int .i64 v.val, .int .i64 v.cl, .int .i64 v.ca, .slice va v.ds.length vc] 28)) = W1 at *
    refine hC.mono ?_
    rintro e w2 ⟨b, f, g, rfl, hbb, hM, hf, hgood, hb2⟩
    clear hC
    have V2 := V1.below hb2 V1.lt
    obtain ⟨q1, g1⟩ := V2.rules
    go_wp2_with fail
    refine (iVer_is hv hvl (hvd.below hb2)).mono ?_
    rintro e w3 ⟨rfl, hb3⟩
    have b3 : Below W1.heap.size W1 w3 := hb2.trans (hb3.mono hb2.size)
    have M3 := hM.below hb3
    clear q1 g1 V2 hb3 hM
    go_wp2_with fail
    refine (all_chain w3 W1.heap.size b vs.length f g vs M3 (by omega) hf (fun j x hx => (hgood j x hx).below b3) hvs hvk hl100).mono ?_
    rintro e w9 ⟨u9, ys, rfl, hO, hys, hb9⟩
    go_wp2_with fail
    go_ret2
    exact ⟨_, ys, by rw [HP.out.2]; rfl, hO.mono (by have := b0.size; have := b3.size; omega), by rw [hys, HP.out.1], (b0.trans (b3.mono b0.size)).trans (hb9.mono (by have := b0.size; have := b3.size; omega))⟩
  have hth0 := at_thr vs v.k v.t v.s
  have hgl := grp_le vs v.k
  have hga := grp_asc hP.2 v.k
  rcases hth : thr (grp vs v.k) v.t v.s with _ | _
  · rw [hth] at hth0
    have HP : Hid _ := put_take hc (putB_yes (vs := vs) hv hth0 (by omega))
    have hnone : cAt vs v.k v.t v.s = none := by rcases hx : cAt vs v.k v.t v.s with _ | y; rfl; rw [hx] at hth0; cases hth0
    have hasc2 := insV_asc hP.2 hnone
    have hvs2 := asc_keys hasc2
    have hvk2 : ∀ u ∈ insV v vs, 0 ≤ u.k ∧ u.k ≤ 5 := fun u hu => by
      rcases insV_mem.1 hu with rfl | hu
      · exact okV_key hv
      · exact hvk u hu
    have hl2' : (insV v vs).length ≤ 100 := by rw [insV_len]; omega
    have HU : Hid _ := fun (f : Int → List XV) (p : Value) hf => upd_grp (f := f) (p := p) hP.2 hnone hf
    clear h hc hvd0 hP hth0 hnone hasc2 hvs hvk
    go_enter Try.func23, Try.ntmps23
    go_wp2_with fail
    generalize (w.alloc (.cells #[.int .i64 v.k, .int .i64 v.t, .int .i64 v.s, .int .i64 v.val, .int .i64 v.cl, .int .i64 v.ca, .slice va v.ds.length vc] 28)) = W1 at *
    refine hC.mono ?_
    rintro e w2 ⟨b, f, g, rfl, hbb, hM, hf, hgood, hb2⟩
    clear hC
    have V2 := V1.below hb2 V1.lt
    obtain ⟨q1, g1⟩ := V2.rules
    go_wp2_with fail
    refine (iVer_is hv hvl (hvd.below hb2)).mono ?_
    rintro e w3 ⟨rfl, hb3⟩
    have b3 : Below W1.heap.size W1 w3 := hb2.trans (hb3.mono hb2.size)
    have M3 := hM.below hb3
    have V3 := V2.below hb3 V2.lt
    clear q1 g1 V2 hb3 hM
    obtain ⟨q1, g1⟩ := V3.rules
    go_wp2_with fail
    refine (put_new w3 W1.heap.size b vs.length f g v va vc (grp vs v.k) M3 hv (hf v.k) hga (by omega) (fun x hx => (hgood v.k x hx).below b3) hth (by omega) hbb b3.size).mono ?_
    rintro e w4 ⟨u4, rfl, M4, hb4⟩
    have b4 : Below W1.heap.size W1 w4 := b3.trans hb4
    have hf4 := HU.out f (.slice va v.ds.length vc) hf
    have hgood4 : ∀ j, ∀ x ∈ upd f v.k ((f v.k).take (plc (grp vs v.k) v.t v.s) ++ XV.mk v (.slice va v.ds.length vc) :: (f v.k).drop (plc (grp vs v.k) v.t v.s)) j, GoodX w4 x := fun j x hx => by
      by_cases e : j = v.k
      · subst e
        rw [upd_same] at hx
        rcases List.mem_append.1 hx with hx | hx
        · exact (hgood _ x (List.mem_of_mem_take hx)).below b4
        · rcases List.mem_cons.1 hx with rfl | hx
          · exact ⟨va, vc, rfl, hvd.below b4, hvl⟩
          · exact (hgood _ x (List.mem_of_mem_drop hx)).below b4
      · rw [upd_other _ _ e] at hx
        exact (hgood j x hx).below b4
    clear q1 g1 V3 M3 hb4 hf
    go_wp2_with fail
    refine (all_chain w4 W1.heap.size b (vs.length + 1) _ _ (insV v vs) M4 (by omega) hf4 hgood4 hvs2 hvk2 hl2').mono ?_
    rintro e w9 ⟨u9, ys, rfl, hO, hys, hb9⟩
    go_wp2_with fail
    go_ret2
    exact ⟨_, ys, by rw [HP.out.2]; rfl, hO.mono (by have := b0.size; have := b4.size; omega), by rw [hys, HP.out.1], (b0.trans (b4.mono b0.size)).trans (hb9.mono (by have := b0.size; have := b4.size; omega))⟩
  · rw [hth] at hth0
    have HP : Hid _ := put_stay hc (putB_there (vs := vs) hth0)
    clear h hc hvd0 hP hth0
    go_enter Try.func23, Try.ntmps23
    go_wp2_with fail
    generalize (w.alloc (.cells #[.int .i64 v.k, .int .i64 v.t, .int .i64 v.s, .int .i64 v.val, .int .i64 v.cl, .int .i64 v.ca, .slice va v.ds.length vc] 28)) = W1 at *
    refine hC.mono ?_
    rintro e w2 ⟨b, f, g, rfl, hbb, hM, hf, hgood, hb2⟩
    clear hC
    have V2 := V1.below hb2 V1.lt
    obtain ⟨q1, g1⟩ := V2.rules
    go_wp2_with fail
    refine (iVer_is hv hvl (hvd.below hb2)).mono ?_
    rintro e w3 ⟨rfl, hb3⟩
    have b3 : Below W1.heap.size W1 w3 := hb2.trans (hb3.mono hb2.size)
    have M3 := hM.below hb3
    have V3 := V2.below hb3 V2.lt
    clear q1 g1 V2 hb3 hM
    obtain ⟨q1, g1⟩ := V3.rules
    go_wp2_with fail
    refine (put_there w3 W1.heap.size b vs.length f g v va vc (grp vs v.k) M3 hv (hf v.k) hga (by omega) (fun x hx => (hgood v.k x hx).below b3) hth).mono ?_
    rintro e w4 ⟨rfl, hb4⟩
    have b4 : Below W1.heap.size W1 w4 := b3.trans (hb4.mono b3.size)
    have M4 := M3.below hb4
    clear q1 g1 V3 M3 hb4
    go_wp2_with fail
    refine (all_chain w4 W1.heap.size b vs.length f g vs M4 (by omega) hf (fun j x hx => (hgood j x hx).below b4) hvs hvk hl100).mono ?_
    rintro e w9 ⟨u9, ys, rfl, hO, hys, hb9⟩
    go_wp2_with fail
    go_ret2
    exact ⟨_, ys, by rw [HP.out.2]; rfl, hO.mono (by have := b0.size; have := b4.size; omega), by rw [hys, HP.out.1], (b0.trans (b4.mono b0.size)).trans (hb9.mono (by have := b0.size; have := b4.size; omega))⟩
end Go.Proofs.Ythlmodafadfnfaa

/- The program's ChainSlot. -/
namespace Go.Proofs.Ythlmodafadfnfaa
open Go.ChangeShapes Go.WideShapes Go.ChangeAt Go.RowKit

/-- The slot of a key. -/
def slotOf (n : Int) : Int := if inB n 0 5 = true then n * 3 / 6 else -1
theorem slot_is {n r : Int} (h : slotOf n = r) (w : World) : Calls Try.prog 42 #[.int .i64 n] w fun e w' => e = .returned (.int .i64 r) ∧ w' = w := by rw [← h]; exact iSlot_any n w
theorem sslot_is {n r : Int} (h : slotOf n = r) (w : World) : Calls Try.prog 87 #[.int .i64 n] w fun e w' => e = .returned (.int .i64 r) ∧ w' = w := by rw [← h]; exact sSlot_any n w
/-- Those of a slot. -/
def slotL (vs : List V) (s : Int) : List V := if chainB vs = true then vs.filter (fun v => slotOf v.k == s) else []
/-- All others. -/
def restL (vs : List V) (s : Int) : List V := if chainB vs = true then vs.filter (fun v => !(slotOf v.k == s)) else []
theorem slotL_no {vs : List V} (h : chainB vs = false) (s : Int) : slotL vs s = [] ∧ restL vs s = [] := by unfold slotL restL; rw [h]; exact ⟨rfl, rfl⟩
theorem slotL_yes {vs : List V} (h : chainB vs = true) (s : Int) : slotL vs s = vs.filter (fun v => slotOf v.k == s) ∧ restL vs s = vs.filter (fun v => !(slotOf v.k == s)) := by unfold slotL restL; rw [h]; exact ⟨rfl, rfl⟩

theorem slot1_any (k slot : Int) (sb : Nat) (w : World) (h : w.cell? ⟨sb, 0, none⟩ = some (.int .i64 slot)) :
    Calls Try.prog 88 #[.int .i64 k, .pointer (some ⟨sb, 0, none⟩)] w fun e w' => e = .returned (.bool (slotOf k == slot)) ∧ Below w.heap.size w w' := by
  obtain ⟨r, hr⟩ : ∃ r, slotOf k = r := ⟨_, rfl⟩
  rw [hr]
  go_enter Try.func88, Try.ntmps88
  go_wp2_with fail
  go_quiet ((go_at_call 42; exact Calls.quiet_of_same (slot_is hr _)))
  go_wp2
  go_ret
  exact ⟨rfl, below_draws (Below.refl _ _) _⟩
theorem slot2_any (k slot : Int) (sb fb : Nat) (w : World) (h : w.cell? ⟨sb, 0, none⟩ = some (.int .i64 slot)) (h2 : w.cell? ⟨fb, 0, none⟩ = some (.func (.func 88) #[] #[.pointer (some ⟨sb, 0, none⟩)])) :
    Calls Try.prog 89 #[.int .i64 k, .pointer (some ⟨fb, 0, none⟩)] w fun e w' => e = .returned (.bool (!(slotOf k == slot))) ∧ Below w.heap.size w w' := by
  have h3 := slot1_any k slot sb _ h
  generalize (slotOf k == slot) = r at *
  go_enter Try.func89, Try.ntmps89
  go_wp2_with fail
  refine h3.mono ?_
  rintro e w1 ⟨rfl, hb⟩
  go_wp2_with fail
  go_ret
  exact ⟨rfl, hb⟩

set_option maxHeartbeats 4000000 in
set_option maxRecDepth 100000 in
theorem iSlotC_any (a : Option Addr) (cap : Nat) (vs : List V) (slot : Int) (w : World) (hn : vs.length ≤ 1099511627776) (h : Vers w a vs) :
    Calls Try.prog 41 #[.slice a vs.length cap, .int .i64 slot] w fun e w' => ∃ u ys u' zs, e = .returned (.tuple #[u, u']) ∧ OwnV w' w.heap.size u ys ∧ OwnV w' w.heap.size u' zs ∧ ApartV u u' ∧ (∀ y ∈ ys, ∀ z ∈ zs, ApartV y.p z.p) ∧ ys.map XV.v = slotL vs slot ∧ zs.map XV.v = restL vs slot ∧ Below w.heap.size w w' := by
  have S1 := Blk.new w #[.int .i64 slot] 3
  have b0 : Below w.heap.size w (w.alloc (.cells #[.int .i64 slot] 3)) := (Below.refl _ w).alloc (Nat.le_refl _) _
  have h1 := h.below b0
  rcases hc : chainB vs with _ | _
  · have HP : Hid _ := slotL_no hc slot
    have hC := iChainOf_no a cap vs _ hn h1 hc
    clear h hc
    go_enter Try.func41, Try.ntmps41
    go_wp2_with fail
    refine hC.mono ?_
    rintro e w2 ⟨rfl, hb2⟩
    clear hC
    go_wp2_with fail
    go_ret2
    exact ⟨_, [], _, [], rfl, OwnV.nil _ _, OwnV.nil _ _, fun j hj => (by simp [Value.ownBlock] at hj), fun y hy => (by cases hy), by rw [HP.out.1]; rfl, by rw [HP.out.2]; rfl, b0.trans (hb2.mono b0.size)⟩
  have HP : Hid _ := slotL_yes hc slot
  have hC := iChainOf_yes a cap vs _ hn h1 hc
  obtain ⟨hl80, hP⟩ := chainB_iff.1 hc
  have hvs := asc_keys hP.2
  have hvk := chain_keys hP
  have hl100 : vs.length ≤ 100 := by omega
  clear h hc hP
  go_enter Try.func41, Try.ntmps41
  go_wp2_with fail
  generalize hW1 : w.alloc (.cells #[.int .i64 slot] 3) = W1 at *
  clear hW1
  refine hC.mono ?_
  rintro e w2 ⟨b, f, g, rfl, hbb, hM, hf, hgood, hb2⟩
  clear hC
  have hst : (store ⟨w2.heap.size, 0, none⟩ (.func (.func 88) #[] #[.pointer (some ⟨w.heap.size, 0, none⟩)])).run Try.prog (w2.alloc (.cells #[.nilFunc] 98)) = .ok () ((w2.alloc (.cells #[.nilFunc] 98)).setCell ⟨w2.heap.size, 0, none⟩ (.func (.func 88) #[] #[.pointer (some ⟨w.heap.size, 0, none⟩)])) := by
    rw [run_store Try.prog _ _ (.func (.func 88) #[] #[.pointer (some ⟨w.heap.size, 0, none⟩)]) _ rfl]
    simp
  have b3 := hb2.alloc hb2.size (.cells #[.func (.func 88) #[] #[.pointer (some ⟨w.heap.size, 0, none⟩)]] 98)
  have M3 := hM.below ((Below.refl _ w2).alloc (Nat.le_refl _) (.cells #[.func (.func 88) #[] #[.pointer (some ⟨w.heap.size, 0, none⟩)]] 98))
  have S3 := S1.below b3 S1.lt
  have F3 := Blk.new w2 #[(.func (.func 88) #[] #[.pointer (some ⟨w.heap.size, 0, none⟩)])] 98
  have hsB := b3.size
  obtain ⟨q1, g1⟩ := F3.rules
  go_wp2_with fail
  clear hst
  generalize w2.alloc (.cells #[.func (.func 88) #[] #[.pointer (some ⟨w.heap.size, 0, none⟩)]] 98) = W3 at *
  generalize w2.heap.size = fb at *
  refine (ofSlot_any W3 W1.heap.size b vs.length f g vs w.heap.size (fun k => slotOf k == slot) M3 (by omega) hf (fun j x hx => (hgood j x hx).below b3) hvs hvk hl100 (fun W' k hb => slot1_any k slot w.heap.size W' ((S3.below hb S3.lt).cell 0))).mono ?_
  rintro e w4 ⟨u, ys, rfl, O4, hys, hb4⟩
  have M4 := M3.below hb4
  have b4 : Below W1.heap.size W1 w4 := b3.trans (hb4.mono hsB)
  have S4 := S3.below hb4 S3.lt
  have F4 := F3.below hb4 F3.lt
  have s4 := hb4.size
  clear q1 g1 M3
  go_wp2_with fail
  refine (ofOther_any w4 W1.heap.size b vs.length f g vs fb (fun k => !(slotOf k == slot)) M4 (by omega) hf (fun j x hx => (hgood j x hx).below b4) hvs hvk hl100 (fun W' k hb => slot2_any k slot w.heap.size fb W' ((S4.below hb S4.lt).cell 0) ((F4.below hb F4.lt).cell 0))).mono ?_
  rintro e w5 ⟨u', zs, rfl, O5, hzs, hb5⟩
  have O4' := O4.below hb5 (Nat.le_refl _)
  have b5 : Below W1.heap.size W1 w5 := b4.trans (hb5.mono (Nat.le_trans hsB s4))
  go_wp2_with fail
  go_ret2
  have sw := b0.size
  exact ⟨_, ys, _, zs, rfl, O4'.mono (by omega), O5.mono (by omega), apart_new O4.row O5.row (Nat.le_refl _), fun y hy z hz => apart_new (O4.deps y hy).1 (O5.deps z hz).1 (Nat.le_refl _), by rw [hys, HP.out.1], by rw [hzs, HP.out.2], b0.trans (b5.mono sw)⟩
end Go.Proofs.Ythlmodafadfnfaa

/- The specification's ChainSlot. -/
namespace Go.Proofs.Ythlmodafadfnfaa
open Go.ChangeShapes Go.WideShapes Go.ChangeAt Go.RowKit

/-- Two lists of the call's own that share nothing. -/
structure TwoV (w : World) (base : Nat) (u : Value) (ys : List XV) (u' : Value) (zs : List XV) : Prop where
  a : OwnV w base u ys
  b : OwnV w base u' zs
  rows : ApartV u u'
  deps : ∀ y ∈ ys, ∀ z ∈ zs, ApartV y.p z.p
theorem ApartV.symm {u v : Value} (h : ApartV u v) : ApartV v u := fun j hj hu => h j hu hj
theorem TwoV.swap {w : World} {base : Nat} {u u' : Value} {ys zs : List XV} (h : TwoV w base u ys u' zs) : TwoV w base u' zs u ys := ⟨h.b, h.a, h.rows.symm, fun y hy z hz => (h.deps z hz y hy).symm⟩
theorem TwoV.below {w w' : World} {base : Nat} {u u' : Value} {ys zs : List XV} (h : TwoV w base u ys u' zs) {m : Nat} (k : Below m w w') (hm : w.heap.size ≤ m) : TwoV w' base u ys u' zs := ⟨h.a.below k hm, h.b.below k hm, h.rows, h.deps⟩
theorem TwoV.alloc {w : World} {base : Nat} {u u' : Value} {ys zs : List XV} (h : TwoV w base u ys u' zs) (o : Obj) : TwoV (w.alloc o) base u ys u' zs := ⟨h.a.alloc o, h.b.alloc o, h.rows, h.deps⟩
theorem TwoV.mono {w : World} {base base' : Nat} {u u' : Value} {ys zs : List XV} (h : TwoV w base u ys u' zs) (hb : base' ≤ base) : TwoV w base' u ys u' zs := ⟨h.a.mono hb, h.b.mono hb, h.rows, h.deps⟩
theorem OwnV.other {w w' : World} {base : Nat} {u u' : Value} {ys zs : List XV} (h : OwnV w base u ys) (k : OwnV w base u' zs) (hap : ApartV u u') (hg : w.grownBy w' u.ownBlock) : OwnV w' base u' zs :=
  ⟨k.row.kept hg (by rcases hu : u'.ownBlock with _ | j; exact .inl rfl; exact .inr fun e => hap j e.symm hu), fun z hz => ⟨(k.deps z hz).1.kept hg (row_other h.row (k.deps z hz).1), (k.deps z hz).2⟩, k.apart⟩

/-- A version that was laid in a block of its own is appended to one of two lists. -/
theorem wpList_append_two (w : World) {ops : Array Oper} {rest : List Oper} {o : Oper} {a : Act} {Q : Exit → Act → World → Prop} (hgd : o.guard = none) (s x : Operand)
    (ho : o.op = .call { callee := .builtin .append, args := #[s, x], argTypes := #[23, 23] })
    (base : Nat) (v : Value) (ys : List XV) (v2 : Value) (zs : List XV) (hs : a.eval s = v) (hT : TwoV w base v ys v2 zs) (y : XV) (g : Nat) (hx : a.eval x = .slice (some ⟨g, 0, none⟩) 1 1)
    (hB : Blk w g #[.int .i64 y.v.k, .int .i64 y.v.t, .int .i64 y.v.s, .int .i64 y.v.val, .int .i64 y.v.cl, .int .i64 y.v.ca, y.p] 28)
    (hd : w.ownsRow base 51 3 y.p y.v.ds.length (flat3 y.v.ds)) (hl : y.v.ds.length ≤ 1099511627776) (ha : ∀ z ∈ ys, ApartV z.p y.p) (ha2 : ∀ z ∈ zs, ApartV z.p y.p) (hn : ys.length ≤ 1099511627776) (hb : base ≤ w.heap.size)
    (h : ∀ v' w', TwoV w' base v' (ys ++ [y]) v2 zs → w.grownBy w' v.ownBlock → wpList Try.prog ops Q rest (a.put o.dst v') w') : wpList Try.prog ops Q (o :: rest) a w := by
  obtain ⟨i0, hi, hz0, hz1, hz2⟩ := info_parts infoVer
  refine wpList_append_own_at w hgd s x 23 ho base 28 i0 (.agg #[.int .i64 0, .int .i64 0, .int .i64 0, .int .i64 0, .int .i64 0, .int .i64 0, .slice none 0 0]) 7 72 Try.underlying23 hi hz0 hz1 hz2 rfl (by decide) v ys.length (flat7 ys) hs hT.a.row ⟨g, 0, none⟩ 1 1 (flat7 [y]) hx rfl (cells7 hB) (flat7_one fun z hz => ?_) (by unfold maxLen; omega) (by omega) hb fun v' w' h2 h3 _ h5 => h v' w' ⟨hT.a.snoc h3 h2 hd hl ha, hT.a.other hT.b hT.rows h3, ?_, ?_⟩ h3
  · simp at hz
    subst hz
    exact (good_of_row hd hl).one
  · intro j hj hj2
    rcases h5 with e | e
    · rw [e] at hj; exact hT.rows j hj hj2
    · rw [e] at hj; simp at hj; subst hj; have := (hT.b.row.lt _ hj2).2; omega
  · intro z hz q hq
    rcases List.mem_append.1 hz with hz | hz
    · exact hT.deps z hz q hq
    · simp at hz; subst hz; exact (ha2 q hq).symm

theorem filter_snoc (p : V → Bool) (vs : List V) (k : Nat) (h : k < vs.length) : (vs.take (k + 1)).filter p = (vs.take k).filter p ++ if p vs[k] = true then [vs[k]] else [] := by
  rw [takeV vs k h, List.filter_append]
  by_cases e : p vs[k] = true
  · rw [if_pos e]; simp [e]
  · rw [if_neg e]; simp [e]

set_option maxHeartbeats 4000000 in
set_option maxRecDepth 100000 in
theorem sSlotC_any (a : Option Addr) (cap : Nat) (vs : List V) (slot : Int) (w : World) (hn : vs.length ≤ 1099511627776) (h : Vers w a vs) :
    Calls Try.prog 40 #[.slice a vs.length cap, .int .i64 slot] w fun e w' => ∃ u ys u' zs, e = .returned (.tuple #[u, u']) ∧ TwoV w' w.heap.size u ys u' zs ∧ ys.map XV.v = slotL vs slot ∧ zs.map XV.v = restL vs slot ∧ Below w.heap.size w w' := by
  have b0 : Below w.heap.size w ((w.alloc (.cells #[] 28)).alloc (.cells #[] 28)) := ((Below.refl _ w).alloc (Nat.le_refl _) _).alloc (by simp) _
  have O1 : OwnV (w.alloc (.cells #[] 28)) w.heap.size (.slice (some ⟨w.heap.size, 0, none⟩) 0 0) [] := ⟨World.ownsRow_made w #[] 0 (Nat.le_refl _) (by unfold maxLen; omega) rfl, fun _ h => (by cases h), List.Pairwise.nil⟩
  have O2 : OwnV ((w.alloc (.cells #[] 28)).alloc (.cells #[] 28)) w.heap.size (.slice (some ⟨w.heap.size + 1, 0, none⟩) 0 0) [] := ⟨by have := World.ownsRow_made (base := w.heap.size) (e := 28) (size := 7) (w.alloc (.cells #[] 28)) #[] 0 (by simp) (by unfold maxLen; omega) rfl; simpa [flat7] using this, fun _ h => (by cases h), List.Pairwise.nil⟩
  have T0 : TwoV ((w.alloc (.cells #[] 28)).alloc (.cells #[] 28)) w.heap.size (.slice (some ⟨w.heap.size, 0, none⟩) 0 0) [] (.slice (some ⟨w.heap.size + 1, 0, none⟩) 0 0) [] := ⟨O1.alloc _, O2, fun j hj hj2 => by simp [Value.ownBlock] at hj hj2; omega, fun y hy => (by cases hy)⟩
  have hC := sChainOk_any a cap vs _ hn (h.below b0)
  clear O1 O2
  rcases hc : chainB vs with _ | _
  · have HP : Hid _ := slotL_no hc slot
    rw [hc] at hC
    clear h hc
    go_enter Try.func40, Try.ntmps40
    go_wp2_with fail
    refine hC.mono ?_
    rintro e w2 ⟨rfl, hb2⟩
    clear hC
    go_wp2_with fail
    go_ret2
    exact ⟨_, [], _, [], rfl, T0.below hb2 (Nat.le_refl _), by rw [HP.out.1]; rfl, by rw [HP.out.2]; rfl, b0.trans (hb2.mono b0.size)⟩
  have HP : Hid _ := slotL_yes hc slot
  have hl80 := (chainB_iff.1 hc).1
  rw [hc] at hC
  clear hc
  go_enter Try.func40, Try.ntmps40
  go_wp2_with fail
  refine hC.mono ?_
  rintro e w1 ⟨rfl, hb1⟩
  have T1 := T0.below hb1 (Nat.le_refl _)
  have B1 : Below w.heap.size w w1 := b0.trans (hb1.mono b0.size)
  clear hC T0 hb1 b0
  go_wp2_with fail
  go_loopw [6, 7, 8] (fun u u' i wr => ∃ (k : Nat) (ys zs : List XV), k ≤ vs.length ∧ i = .int .i64 k ∧ TwoV wr w.heap.size u ys u' zs ∧ Hid (ys.map XV.v = (vs.take k).filter (fun v => slotOf v.k == slot) ∧ zs.map XV.v = (vs.take k).filter (fun v => !(slotOf v.k == slot))) ∧ Below w.heap.size w wr) (fun _ _ i _ => vs.length - (intOf i).toNat)
  case atStart => exact ⟨0, [], [], Nat.zero_le _, rfl, T1, ⟨rfl, rfl⟩, B1⟩
  case round =>
    obtain ⟨k, ys, zs, hk, rfl, hT, HY, hB⟩ := hrel
    clear T1 B1
    by_cases hlt : k < vs.length
    · obtain ⟨b, o, da, dc, rfl, hbb, hv⟩ := (h.below hB).at hlt
      have hyl : ys.length ≤ 1099511627776 := by
        have h1 := congrArg List.length HY.out.1
        have h2 := List.length_filter_le (fun v => slotOf v.k == slot) (vs.take k)
        simp at h1 h2; omega
      have hyl2 : zs.length ≤ 1099511627776 := by
        have h1 := congrArg List.length HY.out.2
        have h2 := List.length_filter_le (fun v => !(slotOf v.k == slot)) (vs.take k)
        simp at h1 h2; omega
      have HA : Hid _ := filter_snoc (fun v => slotOf v.k == slot) vs k hlt
      have HB : Hid _ := filter_snoc (fun v => !(slotOf v.k == slot)) vs k hlt
      obtain ⟨c0, c1, c2, c3, c4, c5, c6, hd, hdl⟩ := hv
      generalize vs[k] = v at *
      obtain ⟨r, hr⟩ : ∃ r, slotOf v.k = r := ⟨_, rfl⟩
      have hsl := fun w => sslot_is hr w
      by_cases he : r = slot
      · subst he
        have HA2 : Hid ((vs.take (k + 1)).filter (fun v => slotOf v.k == r) = (vs.take k).filter (fun v => slotOf v.k == r) ++ [v]) := by show List.filter _ _ = _; rw [HA.out]; simp [hr]
        have HB2 : Hid ((vs.take (k + 1)).filter (fun v => !(slotOf v.k == r)) = (vs.take k).filter (fun v => !(slotOf v.k == r))) := by show List.filter _ _ = _; rw [HB.out]; simp [hr]
        clear hr HA HB
        go_wp2_with fail
        refine (hsl _).mono ?_
        rintro e w9 ⟨rfl, rfl⟩
        clear hsl
        go_wp2_with fail
        refine (sCopy_any v da dc _ hdl hd).mono ?_
        rintro e w2 ⟨pa, pc, rfl, hrow, hb2⟩
        have hT2 := (hT.below hb2 (Nat.le_refl _)).alloc (.cells #[.int .i64 v.k, .int .i64 v.t, .int .i64 v.s, .int .i64 v.val, .int .i64 v.cl, .int .i64 v.ca, .slice pa v.ds.length pc] 28)
        have hB2 : Below w.heap.size w w2 := hB.trans (hb2.mono hB.size)
        have hB3 := hB2.alloc hB2.size (.cells #[.int .i64 v.k, .int .i64 v.t, .int .i64 v.s, .int .i64 v.val, .int .i64 v.cl, .int .i64 v.ca, .slice pa v.ds.length pc] 28)
        have hap : ∀ z ∈ ys, ApartV z.p (.slice pa v.ds.length pc) := fun z hz => apart_new (hT.a.deps z hz).1 hrow (Nat.le_refl _)
        have hap2 : ∀ z ∈ zs, ApartV z.p (.slice pa v.ds.length pc) := fun z hz => apart_new (hT.b.deps z hz).1 hrow (Nat.le_refl _)
        have hrow3 := row_mono (hrow.alloc (.cells #[.int .i64 v.k, .int .i64 v.t, .int .i64 v.s, .int .i64 v.val, .int .i64 v.cl, .int .i64 v.ca, .slice pa v.ds.length pc] 28)) hB.size
        have hN := Blk.new w2 #[.int .i64 v.k, .int .i64 v.t, .int .i64 v.s, .int .i64 v.val, .int .i64 v.cl, .int .i64 v.ca, .slice pa v.ds.length pc] 28
        have hs3 := hB3.size
        clear hrow hb2 hT hB hB2 c0 c1 c2 c3 c4 c5 c6 hd
        go_wp2_with (first | (at_builtin
                              refine wpList_append_two _ rfl _ _ rfl w.heap.size _ ys _ zs rfl hT2 ⟨v, .slice pa v.ds.length pc⟩ w2.heap.size rfl hN hrow3 hdl hap hap2 hyl hs3 ?_
                              intro v' w3 hT3 hg3
                              have hB4 : Below w.heap.size w w3 := hB3.grown hg3 hs3 (fun j hj => (hT2.a.row.lt j hj).1)
                              clear hg3 hT2 hap hap2 hrow3 hN hB3 hs3))
        go_roundw
        case rel => exact ⟨k + 1, _, _, by omega, by go_num, hT3, ⟨by rw [HA2.out, List.map_append, HY.out.1]; rfl, by rw [HB2.out, HY.out.2]⟩, hB4⟩
        case measure => simp [intOf]; omega
      · have HA2 : Hid ((vs.take (k + 1)).filter (fun v => slotOf v.k == slot) = (vs.take k).filter (fun v => slotOf v.k == slot)) := by show List.filter _ _ = _; rw [HA.out]; simp [hr, he]
        have HB2 : Hid ((vs.take (k + 1)).filter (fun v => !(slotOf v.k == slot)) = (vs.take k).filter (fun v => !(slotOf v.k == slot)) ++ [v]) := by show List.filter _ _ = _; rw [HB.out]; simp [hr, he]
        have he2 : (r == slot) = false := by simpa using he
        clear hr HA HB he
        go_wp2_with fail
        refine (hsl _).mono ?_
        rintro e w9 ⟨rfl, rfl⟩
        clear hsl
        go_wp2_with fail
        refine (sCopy_any v da dc _ hdl hd).mono ?_
        rintro e w2 ⟨pa, pc, rfl, hrow, hb2⟩
        have hT2 := (hT.swap.below hb2 (Nat.le_refl _)).alloc (.cells #[.int .i64 v.k, .int .i64 v.t, .int .i64 v.s, .int .i64 v.val, .int .i64 v.cl, .int .i64 v.ca, .slice pa v.ds.length pc] 28)
        have hB2 : Below w.heap.size w w2 := hB.trans (hb2.mono hB.size)
        have hB3 := hB2.alloc hB2.size (.cells #[.int .i64 v.k, .int .i64 v.t, .int .i64 v.s, .int .i64 v.val, .int .i64 v.cl, .int .i64 v.ca, .slice pa v.ds.length pc] 28)
        have hap : ∀ z ∈ zs, ApartV z.p (.slice pa v.ds.length pc) := fun z hz => apart_new (hT.b.deps z hz).1 hrow (Nat.le_refl _)
        have hap2 : ∀ z ∈ ys, ApartV z.p (.slice pa v.ds.length pc) := fun z hz => apart_new (hT.a.deps z hz).1 hrow (Nat.le_refl _)
        have hrow3 := row_mono (hrow.alloc (.cells #[.int .i64 v.k, .int .i64 v.t, .int .i64 v.s, .int .i64 v.val, .int .i64 v.cl, .int .i64 v.ca, .slice pa v.ds.length pc] 28)) hB.size
        have hN := Blk.new w2 #[.int .i64 v.k, .int .i64 v.t, .int .i64 v.s, .int .i64 v.val, .int .i64 v.cl, .int .i64 v.ca, .slice pa v.ds.length pc] 28
        have hs3 := hB3.size
        clear hrow hb2 hT hB hB2 c0 c1 c2 c3 c4 c5 c6 hd
        go_wp2_with (first | (at_builtin
                              refine wpList_append_two _ rfl _ _ rfl w.heap.size _ zs _ ys rfl hT2 ⟨v, .slice pa v.ds.length pc⟩ w2.heap.size rfl hN hrow3 hdl hap hap2 hyl2 hs3 ?_
                              intro v' w3 hT3 hg3
                              have hB4 : Below w.heap.size w w3 := hB3.grown hg3 hs3 (fun j hj => (hT2.a.row.lt j hj).1)
                              clear hg3 hT2 hap hap2 hrow3 hN hB3 hs3))
        go_roundw
        case rel => exact ⟨k + 1, _, _, by omega, by go_num, hT3.swap, ⟨by rw [HA2.out, HY.out.1], by rw [HB2.out, List.map_append, HY.out.2]; rfl⟩, hB4⟩
        case measure => simp [intOf]; omega
    · have hk2 : k = vs.length := by omega
      subst hk2
      rw [List.take_length] at HY
      go_wp2_with fail
      go_ret2
      exact ⟨_, ys, _, zs, rfl, hT, by rw [HY.out.1, HP.out.1], by rw [HY.out.2, HP.out.2], hB⟩
end Go.Proofs.Ythlmodafadfnfaa

/- The exact law of ChainSlot. -/
namespace Go.Proofs.Ythlmodafadfnfaa
open Go.ChangeShapes Go.WideShapes Go.ChangeAt Go.RowKit

theorem OwnV.asL {w : World} {base : Nat} {u : Value} {ys : List XV} {vs : List V} (h : OwnV w base u ys) (hy : ys.map XV.v = vs) : ∃ a cap, u = .slice a vs.length cap ∧ Vers w a vs := by
  obtain ⟨a, cap, h1, h2, h3⟩ := h.vers
  subst hy
  exact ⟨a, cap, by rw [h1, List.length_map], h2⟩
theorem OwnV.versAt {w : World} {base : Nat} {a : Option Addr} {n cap : Nat} {ys : List XV} {vs : List V} (h : OwnV w base (.slice a n cap) ys) (hy : ys.map XV.v = vs) : Vers w a vs := by
  obtain ⟨a', c', e, V⟩ := h.asL hy
  injection e with e1 e2 e3
  subst e1; exact V
theorem two_apart {w : World} {b : Nat} {u u' : Value} {ys zs : List XV} (h : OwnV w b u ys) (h' : OwnV w b u' zs) (ha : ApartV u u') (hd : ∀ y ∈ ys, ∀ z ∈ zs, ApartV y.p z.p) (j : Nat) (hj : inV u' zs j) : ¬ inV u ys j := by
  intro hi
  rcases hi with hi | ⟨y, hy, hi⟩ <;> rcases hj with hj | ⟨z, hz, hj⟩
  · exact ha j hi hj
  · rcases row_other h.row (h'.deps z hz).1 with e | e
    · rw [hj] at e; cases e
    · exact e (hj.trans hi.symm)
  · rcases row_other h'.row (h.deps y hy).1 with e | e
    · rw [hi] at e; cases e
    · exact e (hi.trans hj.symm)
  · exact hd y hy z hz j hi hj
theorem tot_parts (p : V → Bool) (vs : List V) : (vs.filter p).length + (vs.filter fun v => !p v).length = vs.length ∧ tot (vs.filter p) + tot (vs.filter fun v => !p v) = tot vs := by
  induction vs with
  | nil => exact ⟨rfl, rfl⟩
  | cons v vs ih =>
    cases hp : p v <;> simp only [List.filter_cons, hp, Bool.not_true, Bool.not_false, if_true, List.length_cons, tot_cons] <;> simp only [Bool.false_eq_true, if_false] <;> omega
theorem slot_parts (vs : List V) (s : Int) : (slotL vs s).length + (restL vs s).length ≤ vs.length ∧ tot (slotL vs s) + tot (restL vs s) ≤ tot vs ∧ (∀ v ∈ slotL vs s, v ∈ vs) ∧ ∀ v ∈ restL vs s, v ∈ vs := by
  cases hc : chainB vs with
  | false => rw [(slotL_no hc s).1, (slotL_no hc s).2]; simp [tot]
  | true =>
    rw [(slotL_yes hc s).1, (slotL_yes hc s).2]
    have := tot_parts (fun v => slotOf v.k == s) vs
    exact ⟨by omega, by omega, fun v hv => (List.mem_filter.1 hv).1, fun v hv => (List.mem_filter.1 hv).1⟩

set_option maxHeartbeats 8000000 in
theorem lawXChainSlot (a : Option Addr) (cap : Nat) (vs : List V) (slot : Int) (w : World) (hn : vs.length ≤ maxLen) (h : VersI w a vs) :
    Calls Try.prog 19 #[.slice a vs.length cap, .int .i64 slot] w fun e w' => e = .returned (.bool true) ∧ Below w.heap.size w w' := by
  have hz := szVers_any a cap vs w hn h
  by_cases hbig : (1048576 : Int) < (vs.length : Int) + tot vs
  · rw [if_pos hbig] at hz
    go_enter Try.func19, Try.ntmps19
    go_wp2_with fail
    refine hz.mono ?_
    rintro e w1 ⟨rfl, hb1⟩
    clear hz
    go_wp2
    go_ret
    exact ⟨rfl, hb1⟩
  rw [if_neg hbig] at hz
  have hx : vs.length ≤ 1048576 := by omega
  have hl : ∀ v ∈ vs, v.ds.length ≤ 1048576 := fun v hv => by have := tot_mem hv; omega
  have hend : endV 1 vs ≤ 10000000 := by unfold endV; omega
  have hend0 : 0 ≤ endV 1 vs := by unfold endV; omega
  have hV := h.vers (fun v hv => by have := hl v hv; omega)
  have hpos : (0 : Int) ≤ 1048576 - vs.length - (tot vs : Int) := by omega
  obtain ⟨p1, p2, p3, p4⟩ := slot_parts vs slot
  have hS := fun b c W h => sSlotC_any b c vs slot W (by omega) h
  have hI := fun b c W h => iSlotC_any b c vs slot W (by omega) h
  generalize slotL vs slot = sl at *
  generalize restL vs slot = re at *
  have ls : sl.length ≤ 1048576 := by omega
  have lr : re.length ≤ 1048576 := by omega
  have ds : ∀ v ∈ sl, v.ds.length ≤ 1048576 := fun v hv => hl v (p3 v hv)
  have dr : ∀ v ∈ re, v.ds.length ≤ 1048576 := fun v hv => hl v (p4 v hv)
  have es : endV 1 sl ≤ 10000000 := by unfold endV; omega
  have es0 : 0 ≤ endV 1 sl := by unfold endV; omega
  have er : endV (endV 1 sl) re ≤ 10000000 := by unfold endV; omega
  have er0 : 0 ≤ endV (endV 1 sl) re := by unfold endV; omega
  clear hbig h hn p1 p2 p3 p4
  go_enter Try.func19, Try.ntmps19
  go_wp2_with fail
  refine hz.mono ?_
  rintro e w1 ⟨rfl, hb1⟩
  clear hz
  go_wp2_with fail
  refine (toVers_any a cap vs _ hx hl (hV.below hb1)).mono ?_
  rintro e w2 ⟨u2, ys2, rfl, O2, hy2, hb2⟩
  obtain ⟨a2, c2, rfl, V2⟩ := O2.asL hy2
  have B2 : Below w.heap.size w w2 := hb1.trans (hb2.mono hb1.size)
  clear hb1 hb2 O2
  go_wp2_with fail
  refine (hS a2 c2 _ V2).mono ?_
  rintro e w3 ⟨u3, ys3, u3', zs3, rfl, ⟨P3, Q3, _, _⟩, hys3, hzs3, hb3⟩
  obtain ⟨aP, cP, rfl, _⟩ := P3.asL hys3
  obtain ⟨aQ, cQ, rfl, _⟩ := Q3.asL hzs3
  have B3 : Below w.heap.size w w3 := B2.trans (hb3.mono B2.size)
  have hP : ∀ j, inV (Value.slice aP sl.length cP) ys3 j → j < w3.heap.size := fun j hj => (P3.lt hj).2
  have hQ : ∀ j, inV (Value.slice aQ re.length cQ) zs3 j → j < w3.heap.size := fun j hj => (Q3.lt hj).2
  have hbase : w.heap.size ≤ w3.heap.size := B3.size
  clear B2 hb3 V2 hS hy2
  go_wp2_with fail
  refine (toVers_any a cap vs _ hx hl (hV.below B3)).mono ?_
  rintro e w4 ⟨u4, ys4, rfl, X4, hy4, hb4⟩
  obtain ⟨a4, c4, rfl, V4⟩ := X4.asL hy4
  have hX : ∀ j, inV (Value.slice a4 vs.length c4) ys4 j → w3.heap.size ≤ j ∧ j < w4.heap.size := fun j hj => X4.lt hj
  have P4 := P3.below hb4 (Nat.le_refl _)
  have Q4 := Q3.below hb4 (Nat.le_refl _)
  have B4 : Below w.heap.size w w4 := B3.trans (hb4.mono B3.size)
  have z4 := hb4.size
  clear B3 hb4 P3 Q3
  go_wp2_with fail
  refine (hI a4 c4 _ V4).mono ?_
  rintro e w5 ⟨u5, ys5, u5', zs5, rfl, G5, H5, ap1, ap2, hys5, hzs5, hb5⟩
  obtain ⟨aG, cG, rfl, _⟩ := G5.asL hys5
  obtain ⟨aH, cH, rfl, _⟩ := H5.asL hzs5
  have hGH := two_apart G5 H5 ap1 ap2
  have hG : ∀ j, inV (Value.slice aG sl.length cG) ys5 j → w4.heap.size ≤ j := fun j hj => (G5.lt hj).1
  have hH : ∀ j, inV (Value.slice aH re.length cH) zs5 j → w4.heap.size ≤ j := fun j hj => (H5.lt hj).1
  have X5 := X4.below hb5 (Nat.le_refl _)
  have P5 := P4.below hb5 (Nat.le_refl _)
  have Q5 := Q4.below hb5 (Nat.le_refl _)
  have B5 : Below w.heap.size w w5 := B4.trans (hb5.mono B4.size)
  clear V4 B4 hb5 X4 P4 Q4 ap1 ap2
  go_wp2_with fail
  refine (eqVers_any aG aP sl cG cP _ ls ds (G5.versAt hys5) (P5.versAt hys3)).mono ?_
  rintro e w6 ⟨rfl, hb6⟩
  have X6 := X5.below hb6 (Nat.le_refl _)
  have P6 := P5.below hb6 (Nat.le_refl _)
  have Q6 := Q5.below hb6 (Nat.le_refl _)
  have G6 := G5.below hb6 (Nat.le_refl _)
  have H6 := H5.below hb6 (Nat.le_refl _)
  have B6 : Below w.heap.size w w6 := B5.trans (hb6.mono B5.size)
  clear X5 P5 Q5 G5 H5 B5 hb6
  go_wp2_with fail
  refine (eqVers_any aH aQ re cH cQ _ lr dr (H6.versAt hzs5) (Q6.versAt hzs3)).mono ?_
  rintro e w7 ⟨rfl, hb7⟩
  have X7 := X6.below hb7 (Nat.le_refl _)
  have P7 := P6.below hb7 (Nat.le_refl _)
  have Q7 := Q6.below hb7 (Nat.le_refl _)
  have G7 := G6.below hb7 (Nat.le_refl _)
  have H7 := H6.below hb7 (Nat.le_refl _)
  have B7 : Below w.heap.size w w7 := B6.trans (hb7.mono B6.size)
  clear X6 P6 Q6 G6 H6 B6 hb7
  go_wp2_with fail
  refine (toVers_any a cap vs _ hx hl (hV.below B7)).mono ?_
  rintro e w8 ⟨u8, ys8, rfl, O8, hy8, hb8⟩
  obtain ⟨a8, c8, rfl, V8⟩ := O8.asL hy8
  have X8 := X7.below hb8 (Nat.le_refl _)
  have P8 := P7.below hb8 (Nat.le_refl _)
  have Q8 := Q7.below hb8 (Nat.le_refl _)
  have G8 := G7.below hb8 (Nat.le_refl _)
  have H8 := H7.below hb8 (Nat.le_refl _)
  have B8 : Below w.heap.size w w8 := B7.trans (hb8.mono B7.size)
  clear X7 P7 Q7 G7 H7 B7 hb8
  clear O8
  go_wp2_with fail
  refine (eqVers_any a4 a8 vs c4 c8 _ hx hl (X8.versAt hy4) V8).mono ?_
  rintro e w9 ⟨rfl, hb9⟩
  clear V8
  have X9 := X8.below hb9 (Nat.le_refl _)
  have P9 := P8.below hb9 (Nat.le_refl _)
  have Q9 := Q8.below hb9 (Nat.le_refl _)
  have G9 := G8.below hb9 (Nat.le_refl _)
  have H9 := H8.below hb9 (Nat.le_refl _)
  have B9 : Below w.heap.size w w9 := B8.trans (hb9.mono B8.size)
  clear X8 P8 Q8 G8 H8 B8 hb9
  go_wp2_with fail
  refine (markVers_as _ _ ys4 vs 1 _ hy4 (by omega) hl (by omega) hend X9).mono ?_
  rintro e w10 ⟨rfl, _, on10⟩
  have P10 := on10.ownV P9 (fun j hj hj' => by have := hX j hj'; have := hP j hj; omega)
  have Q10 := on10.ownV Q9 (fun j hj hj' => by have := hX j hj'; have := hQ j hj; omega)
  have G10 := on10.ownV G9 (fun j hj hj' => by have := hX j hj'; have := hG j hj; omega)
  have H10 := on10.ownV H9 (fun j hj hj' => by have := hX j hj'; have := hH j hj; omega)
  have B10 : Below w.heap.size w w10 := B9.trans (on10.below B9.size (fun j hj => by have := hX _ hj; omega))
  clear X9 P9 Q9 G9 H9 B9 on10 hX
  generalize endV 1 vs = k9 at *
  go_wp2_with fail
  refine (eqVers_any aG aP sl cG cP _ ls ds (G10.versAt hys5) (P10.versAt hys3)).mono ?_
  rintro e w11 ⟨rfl, hb11⟩
  have P11 := P10.below hb11 (Nat.le_refl _)
  have Q11 := Q10.below hb11 (Nat.le_refl _)
  have G11 := G10.below hb11 (Nat.le_refl _)
  have H11 := H10.below hb11 (Nat.le_refl _)
  have B11 : Below w.heap.size w w11 := B10.trans (hb11.mono B10.size)
  clear P10 Q10 G10 H10 B10 hb11
  go_wp2_with fail
  refine (eqVers_any aH aQ re cH cQ _ lr dr (H11.versAt hzs5) (Q11.versAt hzs3)).mono ?_
  rintro e w12 ⟨rfl, hb12⟩
  have P12 := P11.below hb12 (Nat.le_refl _)
  have Q12 := Q11.below hb12 (Nat.le_refl _)
  have G12 := G11.below hb12 (Nat.le_refl _)
  have H12 := H11.below hb12 (Nat.le_refl _)
  have B12 : Below w.heap.size w w12 := B11.trans (hb12.mono B11.size)
  clear P11 Q11 G11 H11 B11 hb12
  go_wp2_with fail
  refine (markVers_as _ _ ys5 sl 1 _ hys5 (by omega) ds (by omega) es G12).mono ?_
  rintro e w13 ⟨rfl, ⟨gs, G13, hgs, hgi⟩, on13⟩
  have P13 := on13.ownV P12 (fun j hj hj' => by have := hG j hj'; have := hP j hj; omega)
  have Q13 := on13.ownV Q12 (fun j hj hj' => by have := hG j hj'; have := hQ j hj; omega)
  have H13 := on13.ownV H12 hGH
  have B13 : Below w.heap.size w w13 := B12.trans (on13.below B12.size (fun j hj => by have := hG _ hj; omega))
  clear P12 Q12 G12 H12 B12 on13
  go_wp2_with fail
  refine (markVers_as _ _ zs5 re (endV 1 sl) _ hzs5 (by omega) dr es0 er H13).mono ?_
  rintro e w14 ⟨rfl, ⟨ks, H14, hks, _⟩, on14⟩
  have P14 := on14.ownV P13 (fun j hj hj' => by have := hH j hj'; have := hP j hj; omega)
  have Q14 := on14.ownV Q13 (fun j hj hj' => by have := hH j hj'; have := hQ j hj; omega)
  have G14 := on14.ownV G13 (fun j hj hj' => hGH j hj' (hgi j hj))
  have B14 : Below w.heap.size w w14 := B13.trans (on14.below B13.size (fun j hj => by have := hH _ hj; omega))
  clear P13 Q13 G13 H13 B13 on14 hGH hgi
  go_wp2_with fail
  refine (heldVers_any aG cG sl 1 _ (by omega) ds (by omega) es (G14.versAt hgs)).mono ?_
  rintro e w15 ⟨rfl, rfl⟩
  go_wp2_with fail
  refine (heldVers_any aH cH re (endV 1 sl) _ (by omega) dr es0 er (H14.versAt hks)).mono ?_
  rintro e w16 ⟨rfl, rfl⟩
  go_wp2_with fail
  refine (toVers_any a cap vs _ hx hl (hV.below B14)).mono ?_
  rintro e w17 ⟨u17, ys17, rfl, O17, hy17, hb17⟩
  obtain ⟨a17, c17, rfl, V17⟩ := O17.asL hy17
  have P17 := P14.below hb17 (Nat.le_refl _)
  have Q17 := Q14.below hb17 (Nat.le_refl _)
  have G17 := G14.below hb17 (Nat.le_refl _)
  have H17 := H14.below hb17 (Nat.le_refl _)
  have B17 : Below w.heap.size w w17 := B14.trans (hb17.mono B14.size)
  clear P14 Q14 G14 H14 B14 hb17
  clear O17
  go_wp2_with fail
  refine (hI a17 c17 _ V17).mono ?_
  rintro e w18 ⟨u18, ys18, u18', zs18, rfl, S18, T18, _, _, hys18, hzs18, hb18⟩
  obtain ⟨aS, cS, rfl, _⟩ := S18.asL hys18
  obtain ⟨aT, cT, rfl, _⟩ := T18.asL hzs18
  have P18 := P17.below hb18 (Nat.le_refl _)
  have Q18 := Q17.below hb18 (Nat.le_refl _)
  have G18 := G17.below hb18 (Nat.le_refl _)
  have H18 := H17.below hb18 (Nat.le_refl _)
  have B18 : Below w.heap.size w w18 := B17.trans (hb18.mono B17.size)
  clear P17 Q17 G17 H17 B17 hb18
  clear V17 hI
  go_wp2_with fail
  refine (eqVers_any aS aP sl cS cP _ ls ds (S18.versAt hys18) (P18.versAt hys3)).mono ?_
  rintro e w19 ⟨rfl, hb19⟩
  clear S18
  have P19 := P18.below hb19 (Nat.le_refl _)
  have Q19 := Q18.below hb19 (Nat.le_refl _)
  have G19 := G18.below hb19 (Nat.le_refl _)
  have H19 := H18.below hb19 (Nat.le_refl _)
  have T19 := T18.below hb19 (Nat.le_refl _)
  have B19 : Below w.heap.size w w19 := B18.trans (hb19.mono B18.size)
  clear P18 Q18 G18 H18 T18 B18 hb19
  go_wp2_with fail
  refine (eqVers_any aT aQ re cT cQ _ lr dr (T19.versAt hzs18) (Q19.versAt hzs3)).mono ?_
  rintro e w20 ⟨rfl, hb20⟩
  have P20 := P19.below hb20 (Nat.le_refl _)
  have Q20 := Q19.below hb20 (Nat.le_refl _)
  have G20 := G19.below hb20 (Nat.le_refl _)
  have H20 := H19.below hb20 (Nat.le_refl _)
  have T20 := T19.below hb20 (Nat.le_refl _)
  have B20 : Below w.heap.size w w20 := B19.trans (hb20.mono B19.size)
  clear P19 Q19 G19 H19 T19 B19 hb20
  go_wp2_with fail
  refine (heldVers_any aG cG sl 1 _ (by omega) ds (by omega) es (G20.versAt hgs)).mono ?_
  rintro e w21 ⟨rfl, rfl⟩
  go_wp2_with fail
  refine (heldVers_any aH cH re (endV 1 sl) _ (by omega) dr es0 er (H20.versAt hks)).mono ?_
  rintro e w22 ⟨rfl, rfl⟩
  clear P20 Q20 G20 H20 T20
  go_wp2_with fail
  go_ret
  exact ⟨rfl, B20⟩
end Go.Proofs.Ythlmodafadfnfaa

