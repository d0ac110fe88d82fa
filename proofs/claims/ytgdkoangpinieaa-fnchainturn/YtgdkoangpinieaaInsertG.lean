/- A version goes into a slice of versions: at its end, or where there is no room. -/
import Derived.Test.YtgdkoangpinieaaGAM
namespace Go.Proofs.Ytgdkoangpinieaa
open Go.ChangeShapes Go.WideShapes Go.ChangeAt Go.RowKit Go.Lib

set_option maxHeartbeats 4000000 in
set_option maxRecDepth 100000 in
theorem insert_end (base vb : Nat) (v : Value) (xs : List XV) (x : XV) (w : World) (hown : w.ownsRow base 28 7 v xs.length (flat7 xs)) (hn : xs.length ≤ 100) (hb : base ≤ w.heap.size)
    (hB : Blk w vb #[.int .i64 x.v.k, .int .i64 x.v.t, .int .i64 x.v.s, .int .i64 x.v.val, .int .i64 x.v.cl, .int .i64 x.v.ca, x.p] 28) (h1x : x.p.oneCell' = true) :
    Calls Try.prog 164 #[v, .int .i64 xs.length, .slice (some ⟨vb, 0, none⟩) 1 1] w fun e w' => ∃ v', e = .returned v' ∧ w'.ownsRow base 28 7 v' (xs.length + 1) (flat7 xs ++ flat7 [x]) ∧ w.grownBy w' v.ownBlock ∧ (v'.ownBlock = v.ownBlock ∨ ∃ j, v'.ownBlock = some j ∧ w.heap.size ≤ j) := by
  obtain ⟨i0, hi, hz0, hz1, hz2⟩ := info_parts infoVer
  have hone : ∀ u ∈ flat7 [x], u.oneCell' = true := flat7_one fun y hy => by simp at hy; subst hy; exact h1x
  have hcells := cells7 hB
  have h63 : xs.length + 1 ≤ maxLen := by unfold maxLen; omega
  have hby : (xs.length + 1) * 72 ≤ 140737488355328 := by omega
  rcases hown.2 with ⟨rfl, hl⟩ | ⟨g, cap, cur, rfl, _, _, hnc, hcm, _⟩
  · obtain rfl : xs = [] := List.length_eq_zero_iff.1 hl
    clear hl
    simp only [List.length_nil] at *
    go_enter Try.func164, Try.ntmps164
    go_wp2_with (first | (at_builtin; refine wpList_append_own_at _ rfl _ _ 23 rfl base 28 i0 (.agg #[.int .i64 0, .int .i64 0, .int .i64 0, .int .i64 0, .int .i64 0, .int .i64 0, .slice none 0 0]) 7 72 Try.underlying23 hi hz0 hz1 hz2 rfl (by decide) (.slice none 0 0) 0 (flat7 []) rfl hown ⟨vb, 0, none⟩ 1 1 (flat7 [x]) rfl rfl hcells hone h63 hby hb ?_; intro v' w1 hrow hgr _ hloc))
    go_ret
    exact ⟨_, rfl, hrow, hgr, hloc.imp id fun e => ⟨_, e, Nat.le_refl _⟩⟩
  · unfold maxLen at hcm
    have hle : (xs.length : Int) ≤ (cap : Int) := by omega
    generalize hxn : xs.length = n at *
    go_enter Try.func164, Try.ntmps164
    go_wp2_with (first | (at_builtin; refine wpList_append_own_at _ rfl _ _ 23 rfl base 28 i0 (.agg #[.int .i64 0, .int .i64 0, .int .i64 0, .int .i64 0, .int .i64 0, .int .i64 0, .slice none 0 0]) 7 72 Try.underlying23 hi hz0 hz1 hz2 rfl (by decide) (.slice (some ⟨g, 0, none⟩) n cap) n (flat7 xs) rfl hown ⟨vb, 0, none⟩ 1 1 (flat7 [x]) rfl rfl hcells hone h63 hby hb ?_; intro v' w1 hrow hgr _ hloc))
    all_goals
      go_ret
      exact ⟨_, rfl, hrow, hgr, hloc.imp id fun e => ⟨_, e, Nat.le_refl _⟩⟩

set_option maxHeartbeats 4000000 in
set_option maxRecDepth 100000 in
theorem insert_grow (g n c i vb : Nat) (cur : Array Value) (xs : List XV) (x : XV) (w : World) (hi : i < n) (hn : n ≤ 100) (hroom : c < n + 1) (hnc : n ≤ c) (hg : w.heap[g]? = some (.cells cur 28 (0, 0))) (htake : cur.toList.take (n * 7) = flat7 xs) (hxl : xs.length = n)
    (hB : Blk w vb #[.int .i64 x.v.k, .int .i64 x.v.t, .int .i64 x.v.s, .int .i64 x.v.val, .int .i64 x.v.cl, .int .i64 x.v.ca, x.p] 28) (h1 : ∀ y ∈ xs, y.p.oneCell' = true) (h1x : x.p.oneCell' = true) :
    Calls Try.prog 164 #[.slice (some ⟨g, 0, none⟩) n c, .int .i64 i, .slice (some ⟨vb, 0, none⟩) 1 1] w fun e w' => ∃ G cur', e = .returned (.slice (some ⟨w.heap.size, 0, none⟩) (n + 1) G) ∧ n + 1 ≤ G ∧ G ≤ maxLen ∧ w'.heap[w.heap.size]? = some (.cells cur' 28 (0, 0)) ∧ cur'.size = G * 7 ∧ cur'.toList.take ((n + 1) * 7) = flat7 (xs.take i ++ x :: xs.drop i) ∧ w.grownBy w' none := by
  obtain ⟨i0, hi0, hz0, hzs, hzb⟩ := info_parts infoVer
  have mixed : Try.prog.follows .mixedOrders = true := by kernel_rfl
  obtain rfl : c = n := by omega
  have lt : (flat7 (xs.take i)).length = i * 7 := by rw [flat7_len, List.length_take, hxl, Nat.min_eq_left (by omega)]
  have ld : (flat7 (xs.drop i)).length = (c - i) * 7 := by rw [flat7_len, List.length_drop, hxl]
  have hcell : ∀ (j : Nat) (u : Value), (flat7 xs)[j]? = some u → w.cell? ⟨g, j, none⟩ = some u := fun j u hj => by
    rw [← htake, List.getElem?_take] at hj
    split at hj
    · simp [World.cell?, hg]; simpa using hj
    · cases hj
  have hgw : g < w.heap.size := (Array.getElem?_eq_some_iff.1 hg).1
  have hold : (Builtin.firstCells i0.size i (.slice (some ⟨g, 0, none⟩) i c)).run Try.prog w.drew = .ok (flat7 (xs.take i)).toArray w.drew := by
    rw [hzs]
    exact run_firstCells_some w.drew 7 i ⟨g, 0, none⟩ i c (flat7 (xs.take i)) lt (fun j u hj => by
      rw [addr_add, Nat.zero_add]
      refine hcell j u ?_
      rw [← flat7_take, List.getElem?_take] at hj
      split at hj
      · exact hj
      · cases hj)
  have hik : i + (c + 1 - i) = c + 1 := by omega
  have hkk : (c : Int) + 1 - (i : Int) = ((c + 1 - i : Nat) : Int) := by omega
  obtain ⟨G, hG⟩ : ∃ G, G = grownCap w (c + 1) c 28 := ⟨_, rfl⟩
  obtain ⟨ROW, hROW⟩ : ∃ ROW : Array Value, ROW = (flat7 (xs.take i)).toArray ++ Builtin.zeroCells (Value.agg #[.int .i64 0, .int .i64 0, .int .i64 0, .int .i64 0, .int .i64 0, .int .i64 0, .slice none 0 0]).cells (c + 1 - i) ++ Builtin.zeroCells (Value.agg #[.int .i64 0, .int .i64 0, .int .i64 0, .int .i64 0, .int .i64 0, .int .i64 0, .slice none 0 0]).cells (G - (c + 1)) := ⟨_, rfl⟩
  have hrz : ∀ ty, (Builtin.append_ #[23, 3] ty #[.slice (some ⟨g, 0, none⟩) i c, .int .i64 ((c : Int) + 1 - (i : Int))]).run Try.prog w = .ok (.slice (some ⟨w.heap.size, 0, none⟩) (c + 1) G) (w.drew.alloc (.cells ROW 28)) := fun ty => by
    have h := Lib.run_append_grow_zeros w 23 3 ty 28 i0 _ .i64 .i64 Try.underlying23 Try.underlying3 hi0 hz0 (some ⟨g, 0, none⟩) i c (flat7 (xs.take i)) hold (c + 1 - i) (by omega) (by omega) (by omega) (by omega) (by rw [hzb]; omega) (by rw [hzb, hik]; exact growslice_fits hroom (by omega))
    rw [hik] at h
    rw [hkk, hROW, hG]
    exact h
  have hGn : c + 1 ≤ G := by rw [hG]; exact grownCap_ge w _ _ _
  have hG63 : G ≤ maxLen := by rw [hG]; exact grownCap_le_maxLen w _ _ _ (by unfold maxLen; omega)
  have hzc : ∀ k, (Builtin.zeroCells (Value.agg #[.int .i64 0, .int .i64 0, .int .i64 0, .int .i64 0, .int .i64 0, .int .i64 0, .slice none 0 0]).cells k).size = k * 7 := fun k => by rw [size_zeroCells]; rfl
  have hRs : ROW.size = G * 7 := by rw [hROW]; simp only [Array.size_append, hzc, List.size_toArray, lt]; omega
  have hRl : ROW.toList = flat7 (xs.take i) ++ (Builtin.zeroCells (Value.agg #[.int .i64 0, .int .i64 0, .int .i64 0, .int .i64 0, .int .i64 0, .int .i64 0, .slice none 0 0]).cells (c + 1 - i)).toList ++ (Builtin.zeroCells (Value.agg #[.int .i64 0, .int .i64 0, .int .i64 0, .int .i64 0, .int .i64 0, .int .i64 0, .slice none 0 0]).cells (G - (c + 1))).toList := by rw [hROW]; simp
  obtain ⟨L1, hL1⟩ : ∃ L1, L1 = ROW.toList.take (i * 7) ++ flat7 [x] ++ ROW.toList.drop (i * 7 + (flat7 [x]).length) := ⟨_, rfl⟩
  obtain ⟨L2, hL2⟩ : ∃ L2, L2 = L1.take ((i + 1) * 7) ++ flat7 (xs.drop i) ++ L1.drop ((i + 1) * 7 + (flat7 (xs.drop i)).length) := ⟨_, rfl⟩
  obtain ⟨l1, l2, ht⟩ := grow_cells hxl hi hRl (by rw [Array.length_toList, hzc]) L1 L2 hL1 hL2
  have hRs2 : ROW.toList.length = G * 7 := by rw [Array.length_toList, hRs]
  rw [hRs2] at l1 l2
  have hgN : (w.drew.alloc (.cells ROW 28)).heap[w.heap.size]? = some (.cells ROW 28 (0, 0)) := heap_alloc_new w.drew _
  have hold2 : ∀ k, k < w.heap.size → (w.drew.alloc (.cells ROW 28)).heap[k]? = w.heap[k]? := fun k hk => Below.heap_alloc w.drew _ k hk
  have hcpA : ∀ W : World, W.heap = (w.drew.alloc (.cells ROW 28)).heap → ∀ ty dc, (Builtin.copy_ #[23, 23] ty #[.slice (some ⟨w.heap.size, i * 7, none⟩) (c + 1 - i) dc, .slice (some ⟨vb, 0, none⟩) 1 1]).run Try.prog W = .ok (goInt 1) (W.setRow w.heap.size L1.toArray) := fun W hW ty dc => by
    rw [hL1]
    refine run_copy_rowk W _ _ ty 28 w.heap.size (i * 7) (c + 1 - i) dc ⟨vb, 0, none⟩ 1 1 ROW 28 (flat7 [x]) 1 7 Try.underlying23 sizeVer (by rw [hW]; exact hgN) (by simp only [Nat.min_def]; split <;> omega) rfl (cells7 (T := 28) ?_) (by rw [flat7_single, hRs]; omega) (flat7_one fun y hy => by simp at hy; subst hy; exact h1x)
    show W.heap[vb]? = _
    rw [hW, hold2 vb hB.lt]; exact hB
  have hg1 : ∀ W : World, W.heap = (w.drew.alloc (.cells ROW 28)).heap → (W.setRow w.heap.size L1.toArray).heap[w.heap.size]? = some (.cells L1.toArray 28 (0, 0)) := fun W hW => setRow_heap W w.heap.size ROW _ _ _ (by rw [hW]; exact hgN)
  have ho1 : ∀ W : World, W.heap = (w.drew.alloc (.cells ROW 28)).heap → ∀ k, k < w.heap.size → (W.setRow w.heap.size L1.toArray).heap[k]? = w.heap[k]? := fun W hW k hk => (setRow_other W w.heap.size k _ (by omega)).trans (by rw [hW]; exact hold2 k hk)
  have hcpB : ∀ W : World, W.heap[w.heap.size]? = some (.cells L1.toArray 28 (0, 0)) → (∀ k, k < w.heap.size → W.heap[k]? = w.heap[k]?) → ∀ ty dc sc, (Builtin.copy_ #[23, 23] ty #[.slice (some ⟨w.heap.size, (i + 1) * 7, none⟩) (c - i) dc, .slice (some ⟨g, i * 7, none⟩) (c - i) sc]).run Try.prog W = .ok (goInt ((c - i : Nat) : Int)) (W.setRow w.heap.size L2.toArray) := fun W hW hWo ty dc sc => by
    rw [hL2]
    exact run_copy_rowk W _ _ ty 28 w.heap.size ((i + 1) * 7) (c - i) dc ⟨g, i * 7, none⟩ (c - i) sc L1.toArray 28 (flat7 (xs.drop i)) (c - i) 7 Try.underlying23 sizeVer hW (by simp only [Nat.min_def]; split <;> omega) ld
      (fun j u hj => by
        rw [addr_add]
        rw [World.cell?_of_block (w := w) (a := ⟨g, i * 7 + j, none⟩) (hWo g hgw)]
        refine hcell (i * 7 + j) u ?_
        rw [← flat7_drop, List.getElem?_drop] at hj
        exact hj)
      (by rw [ld]; simp [l1]; omega) (flat7_one fun y hy => h1 y (List.mem_of_mem_drop hy))
  have HE : Hid (L2.toArray.size = G * 7 ∧ L2.toArray.toList.take ((c + 1) * 7) = flat7 (xs.take i ++ x :: xs.drop i)) := ⟨by simp [l2], by simpa using ht⟩
  have hz2 : ¬ ((i : Int) = (c : Int)) := by omega
  have hw1 : IntKind.i64.wrap ((i : Int) + 1) = (i : Int) + 1 := by rw [IntKind.wrap_i64]; omega
  have hw2 : IntKind.i64.wrap ((c : Int) + 1) = (c : Int) + 1 := by rw [IntKind.wrap_i64]; omega
  have hw3 : IntKind.i64.wrap ((c : Int) + 1 - i) = (c : Int) + 1 - i := by rw [IntKind.wrap_i64]; omega
  have hb1 : (0 : Int) ≤ (i : Int) + 1 := by omega
  have htn : ((i : Int) + 1).toNat = i + 1 := by omega
  have hb2 : ¬ (G = i + 1) := by omega
  have hb4 : ¬ (c = i) := by omega
  have hb5 : (i : Int) ≤ (c : Int) := by omega
  have hb6 : ¬ (G = i) := by omega
  have hb7 : (i : Int) ≤ (c : Int) + 1 := by omega
  have hE1 : ((w.alloc (.cells ROW 28)).drew).heap = (w.drew.alloc (.cells ROW 28)).heap := rfl
  have hF1 := hg1 _ hE1
  have hF2 := ho1 _ hE1
  unfold maxLen at hG63
  clear hG hROW hRl hL1 hL2 l1 l2 ht hcell htake hold lt ld hzc hRs hRs2 hik hkk hgN hold2 hg1 ho1
  generalize L1.toArray = A1 at *
  generalize L2.toArray = A2 at *
  go_enter Try.func164, Try.ntmps164
  go_wp2_with (first | (at_builtin; refine Lib.wpList_append_run _ rfl _ _ _ _ rfl _ _ rfl rfl _ _ (hrz _) ?_) | (at_builtin; refine wpList_copy_runI _ rfl _ _ 23 23 rfl _ _ rfl rfl (hcpA ((w.alloc (.cells ROW 28)).drew) hE1 _ _) ?_))
  go_region_law_o (refine step_copy_runI rfl _ _ 23 23 rfl (.slice (some ⟨w.heap.size, (i + 1) * 7, none⟩) (c - i) (G - (i + 1))) (.slice (some ⟨g, i * 7, none⟩) (c - i) (c - i)) (by simp [Act.eval, Act.put]) (by simp [Act.eval, Act.put]) (hcpB (((w.alloc (.cells ROW 28)).drew.setRow w.heap.size A1).drew) hF1 hF2 3 (G - (i + 1)) (c - i)) ?_)
  go_wp2_with fail
  go_ret
  refine ⟨G, A2, rfl, hGn, by unfold maxLen; omega, ?_, HE.out.1, HE.out.2, ⟨rfl, rfl, rfl, ?_, fun k hk _ => ?_⟩⟩
  · exact setRow_heap _ w.heap.size A1 _ _ _ hF1
  · simp [World.setRow]
  · exact (setRow_other _ w.heap.size k _ (by omega)).trans (hF2 k hk)
end Go.Proofs.Ytgdkoangpinieaa
