/- 5 texts in one: InsertA, InsertV, InsertG, IPutM, IPutC. -/
import Derived.Test.YtpjidogilofppaaGreatGAN
import Derived.Test.YtpjidogilofppaaGreatZA
import Derived.Test.YtpjidogilofppaaGreatZP
import Derived.Test.YtpjidogilofppaaGreatGAP
import Derived.Test.YtpjidogilofppaaGreatZD
/- Cells of versions are shifted; copies of elements of several cells. -/
namespace Go.Proofs.YtpjidogilofppaaGreat
open Go.ChangeShapes Go.WideShapes Go.ChangeAt Go.RowKit

theorem flat7_single (x : XV) : (flat7 [x]).length = 7 := rfl
/-- Where an element goes in: what lay behind is shifted first. -/
theorem shift_cells {L : List Value} {xs : List XV} {x : XV} {n i : Nat} (hx : xs.length = n) (hi : i < n) (hL : L.take (n * 7) = flat7 xs) (hl : (n + 1) * 7 ≤ L.length) (L1 L2 : List Value) (h1 : L1 = L.take ((i + 1) * 7) ++ flat7 (xs.drop i) ++ L.drop ((i + 1) * 7 + (flat7 (xs.drop i)).length)) (h2 : L2 = L1.take (i * 7) ++ flat7 [x] ++ L1.drop (i * 7 + (flat7 [x]).length)) :
    L1.length = L.length ∧ L2.length = L.length ∧ L2.take ((n + 1) * 7) = flat7 (xs.take i ++ x :: xs.drop i) := by
  have ld : (flat7 (xs.drop i)).length = (n - i) * 7 := by rw [flat7_len, List.length_drop, hx]
  have e1 : L.take (i * 7) = flat7 (xs.take i) := by
    rw [← flat7_take, ← hL, List.take_take, Nat.min_eq_left (by omega)]
  have len1 : L1.length = L.length := by
    rw [h1]; simp only [List.length_append, List.length_take, List.length_drop, ld]; omega
  have t1 : L1.take (i * 7) = flat7 (xs.take i) := by
    rw [h1, List.append_assoc, List.take_append_of_le_length (by rw [List.length_take]; omega), List.take_take, Nat.min_eq_left (by omega), e1]
  have d1 : L1.drop (i * 7 + 7) = flat7 (xs.drop i) ++ L.drop ((i + 1) * 7 + (flat7 (xs.drop i)).length) := by
    rw [h1, List.append_assoc, List.drop_append_of_le_length (by rw [List.length_take]; omega), List.drop_take]
    rw [show (i + 1) * 7 - (i * 7 + 7) = 0 by omega]
    simp
  have e2 : L2 = flat7 (xs.take i ++ x :: xs.drop i) ++ L.drop ((i + 1) * 7 + (flat7 (xs.drop i)).length) := by
    rw [h2, flat7_single, t1, d1, flat7_append, show x :: xs.drop i = [x] ++ xs.drop i from rfl, flat7_append]
    simp
  have lf : (flat7 (xs.take i ++ x :: xs.drop i)).length = (n + 1) * 7 := by
    rw [flat7_len]; simp only [List.length_append, List.length_cons, List.length_take, List.length_drop, hx]
    rw [Nat.min_eq_left (by omega)]; omega
  refine ⟨len1, ?_, ?_⟩
  · rw [e2, List.length_append, lf, List.length_drop, ld]; omega
  · rw [e2, ← lf]; exact List.take_left
/-- The same over a new row. -/
theorem grow_cells {xs : List XV} {x : XV} {n i : Nat} (hx : xs.length = n) (hi : i < n) {R : List Value} {z1 z2 : List Value} (hR : R = flat7 (xs.take i) ++ z1 ++ z2) (h1 : z1.length = (n + 1 - i) * 7) (L1 L2 : List Value) (e1 : L1 = R.take (i * 7) ++ flat7 [x] ++ R.drop (i * 7 + (flat7 [x]).length)) (e2 : L2 = L1.take ((i + 1) * 7) ++ flat7 (xs.drop i) ++ L1.drop ((i + 1) * 7 + (flat7 (xs.drop i)).length)) :
    L1.length = R.length ∧ L2.length = R.length ∧ L2.take ((n + 1) * 7) = flat7 (xs.take i ++ x :: xs.drop i) := by
  have ld : (flat7 (xs.drop i)).length = (n - i) * 7 := by rw [flat7_len, List.length_drop, hx]
  have lt : (flat7 (xs.take i)).length = i * 7 := by rw [flat7_len, List.length_take, hx, Nat.min_eq_left (by omega)]
  have lR : R.length = i * 7 + (n + 1 - i) * 7 + z2.length := by rw [hR]; simp only [List.length_append, lt, h1]
  have t0 : R.take (i * 7) = flat7 (xs.take i) := by rw [hR, List.append_assoc, ← lt]; exact List.take_left
  have l1 : L1.length = R.length := by rw [e1]; simp only [List.length_append, List.length_take, List.length_drop, flat7_single]; omega
  have t1 : L1.take ((i + 1) * 7) = flat7 (xs.take i) ++ flat7 [x] := by
    rw [e1, t0]
    have : (i + 1) * 7 = (flat7 (xs.take i) ++ flat7 [x]).length := by rw [List.length_append, lt, flat7_single]; omega
    rw [this]; exact List.take_left
  have lf : (flat7 (xs.take i ++ x :: xs.drop i)).length = (n + 1) * 7 := by
    rw [flat7_len]; simp only [List.length_append, List.length_cons, List.length_take, List.length_drop, hx]
    rw [Nat.min_eq_left (by omega)]; omega
  have e3 : L2 = flat7 (xs.take i ++ x :: xs.drop i) ++ L1.drop ((i + 1) * 7 + (flat7 (xs.drop i)).length) := by
    rw [e2, t1, flat7_append, show x :: xs.drop i = [x] ++ xs.drop i from rfl, flat7_append]
    simp
  refine ⟨l1, ?_, ?_⟩
  · rw [e3, List.length_append, lf, List.length_drop, ld, l1]; omega
  · rw [e3, ← lf]; exact List.take_left
end Go.Proofs.YtpjidogilofppaaGreat

/- A version goes into a slice of versions at its place. -/
namespace Go.Proofs.YtpjidogilofppaaGreat
open Go.ChangeShapes Go.WideShapes Go.ChangeAt Go.RowKit Go.Lib

theorem sizeVer : (Tryz.prog.info? 107).map (·.size) = some 7 := by
  obtain ⟨i0, hi, hz0, hz1, hz2⟩ := info_parts infoVer
  rw [hi]; simp [hz1]

set_option maxHeartbeats 4000000 in
set_option maxRecDepth 100000 in
theorem insert_shift (g n c i vb : Nat) (cur : Array Value) (xs : List XV) (x : XV) (w : World) (hi : i < n) (hroom : n + 1 ≤ c) (hc63 : c ≤ maxLen) (hvb : vb ≠ g) (hg : w.heap[g]? = some (.cells cur 107 (0, 0))) (hcs : cur.size = c * 7) (htake : cur.toList.take (n * 7) = flat7 xs) (hxl : xs.length = n)
    (hB : Blk w vb #[.int .i64 x.v.k, .int .i64 x.v.t, .int .i64 x.v.s, .int .i64 x.v.val, .int .i64 x.v.cl, .int .i64 x.v.ca, x.p] 107) (h1 : ∀ y ∈ xs, y.p.oneCell' = true) (h1x : x.p.oneCell' = true) :
    Calls Tryz.prog 237 #[.slice (some ⟨g, 0, none⟩) n c, .int .i64 i, .slice (some ⟨vb, 0, none⟩) 1 1] w fun e w' => e = .returned (.slice (some ⟨g, 0, none⟩) (n + 1) c) ∧ (∃ cur', w'.heap[g]? = some (.cells cur' 107 (0, 0)) ∧ cur'.size = c * 7 ∧ cur'.toList.take ((n + 1) * 7) = flat7 (xs.take i ++ x :: xs.drop i)) ∧ w.grownBy w' (some g) := by
  unfold maxLen at hc63
  have mixed : Tryz.prog.follows .mixedOrders = true := by kernel_rfl
  obtain ⟨L1, hL1⟩ : ∃ L1, L1 = cur.toList.take ((i + 1) * 7) ++ flat7 (xs.drop i) ++ cur.toList.drop ((i + 1) * 7 + (flat7 (xs.drop i)).length) := ⟨_, rfl⟩
  obtain ⟨L2, hL2⟩ : ∃ L2, L2 = L1.take (i * 7) ++ flat7 [x] ++ L1.drop (i * 7 + (flat7 [x]).length) := ⟨_, rfl⟩
  obtain ⟨l1, l2, ht⟩ := shift_cells hxl hi htake (by simp [hcs]; omega) L1 L2 hL1 hL2
  have ld : (flat7 (xs.drop i)).length = (n - i) * 7 := by rw [flat7_len, List.length_drop, hxl]
  have hcell : ∀ (j : Nat) (u : Value), (flat7 xs)[j]? = some u → w.cell? ⟨g, j, none⟩ = some u := fun j u hj => by
    rw [← htake, List.getElem?_take] at hj
    split at hj
    · simp [World.cell?, hg]; simpa using hj
    · cases hj
  have hf : ∀ j, w.frozen? ⟨g, j, none⟩ = false := fun j => by simp [World.frozen?, hg]
  have hov : ∀ lb cb, (callFunc 265 #[.slice (some ⟨vb, 0, none⟩) 1 1, .slice (some ⟨g, (i + 1) * 7, none⟩) lb cb]).run Tryz.prog w = .ok (.value (.bool false)) w := fun lb cb => by
    rw [run_callFunc_extern Tryz.func265 (by kernel_rfl) (by kernel_rfl) (by kernel_rfl) (e := Extern.SlicesOverlaps.overlaps #[29, 29] #[4]) (by kernel_rfl),
      Lib.run_overlaps_apart w 29 4 107 Tryz.underlying29 7 Tryz.sizeOf107 ⟨vb, 0, none⟩ ⟨g, (i + 1) * 7, none⟩ 1 1 lb cb hvb 107 107 7 cur.size (by simp [World.shape?, show w.heap[vb]? = _ from hB]) (by simp [World.shape?, hg]) (by rw [hcs]; omega) (hB.frozen 0) (hB.frozen 7)]
    rfl
  have hz2 : ¬ ((i : Int) = (n : Int)) := by omega
  have hw1 : IntKind.i64.wrap ((i : Int) + 1) = (i : Int) + 1 := by rw [IntKind.wrap_i64]; omega
  have hw2 : IntKind.i64.wrap ((n : Int) + 1) = (n : Int) + 1 := by rw [IntKind.wrap_i64]; omega
  have hb1 : (0 : Int) ≤ (i : Int) + 1 := by omega
  have htn : ((i : Int) + 1).toNat = i + 1 := by omega
  have hb2 : ¬ (c = i + 1) := by omega
  have hb3 : (i : Int) ≤ (n : Int) + 1 := by omega
  have hb4 : ¬ (c = i) := by omega
  have hb5 : (i : Int) ≤ (n : Int) := by omega
  have hb6 : ¬ ((c : Int) < (n : Int) + 1) := by omega
  have htn2 : ((n : Int) + 1).toNat = n + 1 := by omega
  have hcp1 : ∀ ty dc sc, (Builtin.copy_ #[29, 29] ty #[.slice (some ⟨g, (i + 1) * 7, none⟩) (n - i) dc, .slice (some ⟨g, i * 7, none⟩) (n + 1 - i) sc]).run Tryz.prog w.drew = .ok (goInt ((n - i : Nat) : Int)) (w.drew.setRow g L1.toArray) := fun ty dc sc => by
    rw [hL1]
    exact run_copy_rowk w.drew _ _ ty 107 g ((i + 1) * 7) (n - i) dc ⟨g, i * 7, none⟩ (n + 1 - i) sc cur 107 (flat7 (xs.drop i)) (n - i) 7 Tryz.underlying29 sizeVer hg (by simp only [Nat.min_def]; split <;> omega) ld
      (fun j u hj => by
        rw [addr_add]
        refine hcell (i * 7 + j) u ?_
        rw [← flat7_drop, List.getElem?_drop] at hj
        exact hj)
      (by rw [ld, hcs]; omega) (flat7_one fun y hy => h1 y (List.mem_of_mem_drop hy))
  have hg1 : (w.drew.setRow g L1.toArray).heap[g]? = some (.cells L1.toArray 107 (0, 0)) := setRow_heap w.drew g cur _ _ _ hg
  have hB1 : Blk (w.drew.setRow g L1.toArray) vb #[.int .i64 x.v.k, .int .i64 x.v.t, .int .i64 x.v.s, .int .i64 x.v.val, .int .i64 x.v.cl, .int .i64 x.v.ca, x.p] 107 := (setRow_other w.drew g vb _ hvb).trans hB
  have hcp2 : ∀ ty dc, (Builtin.copy_ #[29, 29] ty #[.slice (some ⟨g, i * 7, none⟩) (n + 1 - i) dc, .slice (some ⟨vb, 0, none⟩) 1 1]).run Tryz.prog (w.drew.setRow g L1.toArray) = .ok (goInt 1) ((w.drew.setRow g L1.toArray).setRow g L2.toArray) := fun ty dc => by
    rw [hL2]
    exact run_copy_rowk (w.drew.setRow g L1.toArray) _ _ ty 107 g (i * 7) (n + 1 - i) dc ⟨vb, 0, none⟩ 1 1 L1.toArray 107 (flat7 [x]) 1 7 Tryz.underlying29 sizeVer hg1 (by simp only [Nat.min_def]; split <;> omega) rfl (cells7 hB1) (by rw [flat7_single]; simp [l1, hcs]; omega) (flat7_one fun y hy => by simp at hy; subst hy; exact h1x)
  have hfin : ((w.drew.setRow g L1.toArray).setRow g L2.toArray).heap[g]? = some (.cells L2.toArray 107 (0, 0)) := setRow_heap _ g L1.toArray _ _ _ hg1
  have hgr : w.grownBy ((w.drew.setRow g L1.toArray).setRow g L2.toArray) (some g) := ⟨rfl, rfl, rfl, by simp [World.setRow], fun k _ hk => (setRow_other _ g k _ (fun e => hk (by rw [e]))).trans (setRow_other w.drew g k _ (fun e => hk (by rw [e])))⟩
  have HE : Hid (L2.toArray.size = c * 7 ∧ L2.toArray.toList.take ((n + 1) * 7) = flat7 (xs.take i ++ x :: xs.drop i)) := ⟨by simp [l2, hcs], by simpa using ht⟩
  clear hL1 hL2 l1 l2 ht hcell htake hcs ld hg1 hB1
  generalize L1.toArray = A1 at *
  generalize L2.toArray = A2 at *
  go_enter Tryz.func237, Tryz.ntmps237
  go_wp2_with (simp only [hov])
  go_region_law_o (refine step_copy_runI rfl _ _ 29 29 rfl _ _ (by simp [Act.eval, Act.put]) (by simp [Act.eval, Act.put]) (hcp1 _ _ _) ?_)
  go_wp2_with (at_builtin; refine wpList_copy_runI _ rfl _ _ 29 29 rfl _ _ rfl rfl (hcp2 _ _) ?_)
  go_ret
  exact ⟨rfl, ⟨A2, hfin, HE.out.1, HE.out.2⟩, hgr⟩
end Go.Proofs.YtpjidogilofppaaGreat

/- A version goes into a slice of versions: at its end, or where there is no room. -/
namespace Go.Proofs.YtpjidogilofppaaGreat
open Go.ChangeShapes Go.WideShapes Go.ChangeAt Go.RowKit Go.Lib

set_option maxHeartbeats 4000000 in
set_option maxRecDepth 100000 in
theorem insert_end (base vb : Nat) (v : Value) (xs : List XV) (x : XV) (w : World) (hown : w.ownsRow base 107 7 v xs.length (flat7 xs)) (hn : xs.length ≤ 100) (hb : base ≤ w.heap.size)
    (hB : Blk w vb #[.int .i64 x.v.k, .int .i64 x.v.t, .int .i64 x.v.s, .int .i64 x.v.val, .int .i64 x.v.cl, .int .i64 x.v.ca, x.p] 107) (h1x : x.p.oneCell' = true) :
    Calls Tryz.prog 237 #[v, .int .i64 xs.length, .slice (some ⟨vb, 0, none⟩) 1 1] w fun e w' => ∃ v', e = .returned v' ∧ w'.ownsRow base 107 7 v' (xs.length + 1) (flat7 xs ++ flat7 [x]) ∧ w.grownBy w' v.ownBlock ∧ (v'.ownBlock = v.ownBlock ∨ ∃ j, v'.ownBlock = some j ∧ w.heap.size ≤ j) := by
  obtain ⟨i0, hi, hz0, hz1, hz2⟩ := info_parts infoVer
  have hone : ∀ u ∈ flat7 [x], u.oneCell' = true := flat7_one fun y hy => by simp at hy; subst hy; exact h1x
  have hcells := cells7 hB
  have h63 : xs.length + 1 ≤ maxLen := by unfold maxLen; omega
  have hby : (xs.length + 1) * 72 ≤ 140737488355328 := by omega
  rcases hown.2 with ⟨rfl, hl⟩ | ⟨g, cap, cur, rfl, _, _, hnc, hcm, _⟩
  · obtain rfl : xs = [] := List.length_eq_zero_iff.1 hl
    clear hl
    simp only [List.length_nil] at *
    go_enter Tryz.func237, Tryz.ntmps237
    go_wp2_with (first | (at_builtin; refine wpList_append_own_at _ rfl _ _ 29 rfl base 107 i0 (.agg #[.int .i64 0, .int .i64 0, .int .i64 0, .int .i64 0, .int .i64 0, .int .i64 0, .slice none 0 0]) 7 72 Tryz.underlying29 hi hz0 hz1 hz2 rfl (by decide) (.slice none 0 0) 0 (flat7 []) rfl hown ⟨vb, 0, none⟩ 1 1 (flat7 [x]) rfl rfl hcells hone h63 hby hb ?_; intro v' w1 hrow hgr _ hloc))
    go_ret
    exact ⟨_, rfl, hrow, hgr, hloc.imp id fun e => ⟨_, e, Nat.le_refl _⟩⟩
  · unfold maxLen at hcm
    have hle : (xs.length : Int) ≤ (cap : Int) := by omega
    generalize hxn : xs.length = n at *
    go_enter Tryz.func237, Tryz.ntmps237
    go_wp2_with (first | (at_builtin; refine wpList_append_own_at _ rfl _ _ 29 rfl base 107 i0 (.agg #[.int .i64 0, .int .i64 0, .int .i64 0, .int .i64 0, .int .i64 0, .int .i64 0, .slice none 0 0]) 7 72 Tryz.underlying29 hi hz0 hz1 hz2 rfl (by decide) (.slice (some ⟨g, 0, none⟩) n cap) n (flat7 xs) rfl hown ⟨vb, 0, none⟩ 1 1 (flat7 [x]) rfl rfl hcells hone h63 hby hb ?_; intro v' w1 hrow hgr _ hloc))
    all_goals
      go_ret
      exact ⟨_, rfl, hrow, hgr, hloc.imp id fun e => ⟨_, e, Nat.le_refl _⟩⟩

set_option maxHeartbeats 4000000 in
set_option maxRecDepth 100000 in
theorem insert_grow (g n c i vb : Nat) (cur : Array Value) (xs : List XV) (x : XV) (w : World) (hi : i < n) (hn : n ≤ 100) (hroom : c < n + 1) (hnc : n ≤ c) (hg : w.heap[g]? = some (.cells cur 107 (0, 0))) (htake : cur.toList.take (n * 7) = flat7 xs) (hxl : xs.length = n)
    (hB : Blk w vb #[.int .i64 x.v.k, .int .i64 x.v.t, .int .i64 x.v.s, .int .i64 x.v.val, .int .i64 x.v.cl, .int .i64 x.v.ca, x.p] 107) (h1 : ∀ y ∈ xs, y.p.oneCell' = true) (h1x : x.p.oneCell' = true) :
    Calls Tryz.prog 237 #[.slice (some ⟨g, 0, none⟩) n c, .int .i64 i, .slice (some ⟨vb, 0, none⟩) 1 1] w fun e w' => ∃ G cur', e = .returned (.slice (some ⟨w.heap.size, 0, none⟩) (n + 1) G) ∧ n + 1 ≤ G ∧ G ≤ maxLen ∧ w'.heap[w.heap.size]? = some (.cells cur' 107 (0, 0)) ∧ cur'.size = G * 7 ∧ cur'.toList.take ((n + 1) * 7) = flat7 (xs.take i ++ x :: xs.drop i) ∧ w.grownBy w' none := by
  obtain ⟨i0, hi0, hz0, hzs, hzb⟩ := info_parts infoVer
  have mixed : Tryz.prog.follows .mixedOrders = true := by kernel_rfl
  obtain rfl : c = n := by omega
  have lt : (flat7 (xs.take i)).length = i * 7 := by rw [flat7_len, List.length_take, hxl, Nat.min_eq_left (by omega)]
  have ld : (flat7 (xs.drop i)).length = (c - i) * 7 := by rw [flat7_len, List.length_drop, hxl]
  have hcell : ∀ (j : Nat) (u : Value), (flat7 xs)[j]? = some u → w.cell? ⟨g, j, none⟩ = some u := fun j u hj => by
    rw [← htake, List.getElem?_take] at hj
    split at hj
    · simp [World.cell?, hg]; simpa using hj
    · cases hj
  have hgw : g < w.heap.size := (Array.getElem?_eq_some_iff.1 hg).1
  have hold : (Builtin.firstCells i0.size i (.slice (some ⟨g, 0, none⟩) i c)).run Tryz.prog w.drew = .ok (flat7 (xs.take i)).toArray w.drew := by
    rw [hzs]
    exact run_firstCells_some w.drew 7 i ⟨g, 0, none⟩ i c (flat7 (xs.take i)) lt (fun j u hj => by
      rw [addr_add, Nat.zero_add]
      refine hcell j u ?_
      rw [← flat7_take, List.getElem?_take] at hj
      split at hj
      · exact hj
      · cases hj)
  have hik : i + (c + 1 - i) = c + 1 := by omega
  have hkk : (c : Int) + 1 - (i : Int) = ((c + 1 - i : Nat) : Int) := by omega
  obtain ⟨G, hG⟩ : ∃ G, G = grownCap w (c + 1) c 107 := ⟨_, rfl⟩
  obtain ⟨ROW, hROW⟩ : ∃ ROW : Array Value, ROW = (flat7 (xs.take i)).toArray ++ Builtin.zeroCells (Value.agg #[.int .i64 0, .int .i64 0, .int .i64 0, .int .i64 0, .int .i64 0, .int .i64 0, .slice none 0 0]).cells (c + 1 - i) ++ Builtin.zeroCells (Value.agg #[.int .i64 0, .int .i64 0, .int .i64 0, .int .i64 0, .int .i64 0, .int .i64 0, .slice none 0 0]).cells (G - (c + 1)) := ⟨_, rfl⟩
  have hrz : ∀ ty, (Builtin.append_ #[29, 3] ty #[.slice (some ⟨g, 0, none⟩) i c, .int .i64 ((c : Int) + 1 - (i : Int))]).run Tryz.prog w = .ok (.slice (some ⟨w.heap.size, 0, none⟩) (c + 1) G) (w.drew.alloc (.cells ROW 107)) := fun ty => by
    have h := Lib.run_append_grow_zeros w 29 3 ty 107 i0 _ .i64 .i64 Tryz.underlying29 Tryz.underlying3 hi0 hz0 (some ⟨g, 0, none⟩) i c (flat7 (xs.take i)) hold (c + 1 - i) (by omega) (by omega) (by omega) (by omega) (by rw [hzb]; omega) (by rw [hzb, hik]; exact growslice_fits hroom (by omega))
    rw [hik] at h
    rw [hkk, hROW, hG]
    exact h
  have hGn : c + 1 ≤ G := by rw [hG]; exact grownCap_ge w _ _ _
  have hG63 : G ≤ maxLen := by rw [hG]; exact grownCap_le_maxLen w _ _ _ (by unfold maxLen; omega)
  have hzc : ∀ k, (Builtin.zeroCells (Value.agg #[.int .i64 0, .int .i64 0, .int .i64 0, .int .i64 0, .int .i64 0, .int .i64 0, .slice none 0 0]).cells k).size = k * 7 := fun k => by rw [size_zeroCells]; rfl
  have hRs : ROW.size = G * 7 := by rw [hROW]; simp only [Array.size_append, hzc, List.size_toArray, lt]; omega
  have hRl : ROW.toList = flat7 (xs.take i) ++ (Builtin.zeroCells (Value.agg #[.int .i64 0, .int .i64 0, .int .i64 0, .int .i64 0, .int .i64 0, .int .i64 0, .slice none 0 0]).cells (c + 1 - i)).toList ++ (Builtin.zeroCells (Value.agg #[.int .i64 0, .int .i64 0, .int .i64 0, .int .i64 0, .int .i64 0, .int .i64 0, .slice none 0 0]).cells (G - (c + 1))).toList := by rw [hROW]; simp
  obtain ⟨L1, hL1⟩ : ∃ L1, L1 = ROW.toList.take (i * 7) ++ flat7 [x] ++ ROW.toList.drop (i * 7 + (flat7 [x]).length) := ⟨_, rfl⟩
  obtain ⟨L2, hL2⟩ : ∃ L2, L2 = L1.take ((i + 1) * 7) ++ flat7 (xs.drop i) ++ L1.drop ((i + 1) * 7 + (flat7 (xs.drop i)).length) := ⟨_, rfl⟩
  obtain ⟨l1, l2, ht⟩ := grow_cells hxl hi hRl (by rw [Array.length_toList, hzc]) L1 L2 hL1 hL2
  have hRs2 : ROW.toList.length = G * 7 := by rw [Array.length_toList, hRs]
  rw [hRs2] at l1 l2
  have hgN : (w.drew.alloc (.cells ROW 107)).heap[w.heap.size]? = some (.cells ROW 107 (0, 0)) := heap_alloc_new w.drew _
  have hold2 : ∀ k, k < w.heap.size → (w.drew.alloc (.cells ROW 107)).heap[k]? = w.heap[k]? := fun k hk => Below.heap_alloc w.drew _ k hk
  have hcpA : ∀ W : World, W.heap = (w.drew.alloc (.cells ROW 107)).heap → ∀ ty dc, (Builtin.copy_ #[29, 29] ty #[.slice (some ⟨w.heap.size, i * 7, none⟩) (c + 1 - i) dc, .slice (some ⟨vb, 0, none⟩) 1 1]).run Tryz.prog W = .ok (goInt 1) (W.setRow w.heap.size L1.toArray) := fun W hW ty dc => by
    rw [hL1]
    refine run_copy_rowk W _ _ ty 107 w.heap.size (i * 7) (c + 1 - i) dc ⟨vb, 0, none⟩ 1 1 ROW 107 (flat7 [x]) 1 7 Tryz.underlying29 sizeVer (by rw [hW]; exact hgN) (by simp only [Nat.min_def]; split <;> omega) rfl (cells7 (T := 107) ?_) (by rw [flat7_single, hRs]; omega) (flat7_one fun y hy => by simp at hy; subst hy; exact h1x)
    show W.heap[vb]? = _
    rw [hW, hold2 vb hB.lt]; exact hB
  have hg1 : ∀ W : World, W.heap = (w.drew.alloc (.cells ROW 107)).heap → (W.setRow w.heap.size L1.toArray).heap[w.heap.size]? = some (.cells L1.toArray 107 (0, 0)) := fun W hW => setRow_heap W w.heap.size ROW _ _ _ (by rw [hW]; exact hgN)
  have ho1 : ∀ W : World, W.heap = (w.drew.alloc (.cells ROW 107)).heap → ∀ k, k < w.heap.size → (W.setRow w.heap.size L1.toArray).heap[k]? = w.heap[k]? := fun W hW k hk => (setRow_other W w.heap.size k _ (by omega)).trans (by rw [hW]; exact hold2 k hk)
  have hcpB : ∀ W : World, W.heap[w.heap.size]? = some (.cells L1.toArray 107 (0, 0)) → (∀ k, k < w.heap.size → W.heap[k]? = w.heap[k]?) → ∀ ty dc sc, (Builtin.copy_ #[29, 29] ty #[.slice (some ⟨w.heap.size, (i + 1) * 7, none⟩) (c - i) dc, .slice (some ⟨g, i * 7, none⟩) (c - i) sc]).run Tryz.prog W = .ok (goInt ((c - i : Nat) : Int)) (W.setRow w.heap.size L2.toArray) := fun W hW hWo ty dc sc => by
    rw [hL2]
    exact run_copy_rowk W _ _ ty 107 w.heap.size ((i + 1) * 7) (c - i) dc ⟨g, i * 7, none⟩ (c - i) sc L1.toArray 107 (flat7 (xs.drop i)) (c - i) 7 Tryz.underlying29 sizeVer hW (by simp only [Nat.min_def]; split <;> omega) ld
      (fun j u hj => by
        rw [addr_add]
        rw [World.cell?_of_block (w := w) (a := ⟨g, i * 7 + j, none⟩) (hWo g hgw)]
        refine hcell (i * 7 + j) u ?_
        rw [← flat7_drop, List.getElem?_drop] at hj
        exact hj)
      (by rw [ld]; simp [l1]; omega) (flat7_one fun y hy => h1 y (List.mem_of_mem_drop hy))
  have HE : Hid (L2.toArray.size = G * 7 ∧ L2.toArray.toList.take ((c + 1) * 7) = flat7 (xs.take i ++ x :: xs.drop i)) := ⟨by simp [l2], by simpa using ht⟩
  have hz2 : ¬ ((i : Int) = (c : Int)) := by omega
  have hw1 : IntKind.i64.wrap ((i : Int) + 1) = (i : Int) + 1 := by rw [IntKind.wrap_i64]; omega
  have hw2 : IntKind.i64.wrap ((c : Int) + 1) = (c : Int) + 1 := by rw [IntKind.wrap_i64]; omega
  have hw3 : IntKind.i64.wrap ((c : Int) + 1 - i) = (c : Int) + 1 - i := by rw [IntKind.wrap_i64]; omega
  have hb1 : (0 : Int) ≤ (i : Int) + 1 := by omega
  have htn : ((i : Int) + 1).toNat = i + 1 := by omega
  have hb2 : ¬ (G = i + 1) := by omega
  have hb4 : ¬ (c = i) := by omega
  have hb5 : (i : Int) ≤ (c : Int) := by omega
  have hb6 : ¬ (G = i) := by omega
  have hb7 : (i : Int) ≤ (c : Int) + 1 := by omega
  have hE1 : ((w.alloc (.cells ROW 107)).drew).heap = (w.drew.alloc (.cells ROW 107)).heap := rfl
  have hF1 := hg1 _ hE1
  have hF2 := ho1 _ hE1
  unfold maxLen at hG63
  clear hG hROW hRl hL1 hL2 l1 l2 ht hcell htake hold lt ld hzc hRs hRs2 hik hkk hgN hold2 hg1 ho1
  generalize L1.toArray = A1 at *
  generalize L2.toArray = A2 at *
  go_enter Tryz.func237, Tryz.ntmps237
  go_wp2_with (first | (at_builtin; refine Lib.wpList_append_run _ rfl _ _ _ _ rfl _ _ rfl rfl _ _ (hrz _) ?_) | (at_builtin; refine wpList_copy_runI _ rfl _ _ 29 29 rfl _ _ rfl rfl (hcpA ((w.alloc (.cells ROW 107)).drew) hE1 _ _) ?_))
  go_region_law_o (refine step_copy_runI rfl _ _ 29 29 rfl (.slice (some ⟨w.heap.size, (i + 1) * 7, none⟩) (c - i) (G - (i + 1))) (.slice (some ⟨g, i * 7, none⟩) (c - i) (c - i)) (by simp [Act.eval, Act.put]) (by simp [Act.eval, Act.put]) (hcpB (((w.alloc (.cells ROW 107)).drew.setRow w.heap.size A1).drew) hF1 hF2 3 (G - (i + 1)) (c - i)) ?_)
  go_wp2_with fail
  go_ret
  refine ⟨G, A2, rfl, hGn, by unfold maxLen; omega, ?_, HE.out.1, HE.out.2, ⟨rfl, rfl, rfl, ?_, fun k hk _ => ?_⟩⟩
  · exact setRow_heap _ w.heap.size A1 _ _ _ hF1
  · simp [World.setRow]
  · exact (setRow_other _ w.heap.size k _ (by omega)).trans (hF2 k hk)
end Go.Proofs.YtpjidogilofppaaGreat

/- The program puts a version into the map. -/
namespace Go.Proofs.YtpjidogilofppaaGreat
open Go.ChangeShapes Go.WideShapes Go.ChangeAt Go.RowKit

theorem insert_any (base i vb : Nat) (v : Value) (xs : List XV) (x : XV) (w : World) (hown : w.ownsRow base 107 7 v xs.length (flat7 xs)) (hn : xs.length ≤ 100) (hi : i ≤ xs.length) (hb : base ≤ w.heap.size) (hvb : v.ownBlock ≠ some vb)
    (hB : Blk w vb #[.int .i64 x.v.k, .int .i64 x.v.t, .int .i64 x.v.s, .int .i64 x.v.val, .int .i64 x.v.cl, .int .i64 x.v.ca, x.p] 107) (h1 : ∀ y ∈ xs, y.p.oneCell' = true) (h1x : x.p.oneCell' = true) :
    Calls Tryz.prog 237 #[v, .int .i64 i, .slice (some ⟨vb, 0, none⟩) 1 1] w fun e w' => ∃ v', e = .returned v' ∧ w'.ownsRow base 107 7 v' (xs.take i ++ x :: xs.drop i).length (flat7 (xs.take i ++ x :: xs.drop i)) ∧ w.grownBy w' v.ownBlock ∧ (v'.ownBlock = v.ownBlock ∨ ∃ j, v'.ownBlock = some j ∧ w.heap.size ≤ j) := by
  have hl : (xs.take i ++ x :: xs.drop i).length = xs.length + 1 := by simp only [List.length_append, List.length_cons, List.length_take, List.length_drop]; rw [Nat.min_eq_left hi]; omega
  rw [hl]
  have hfl : (flat7 (xs.take i ++ x :: xs.drop i)).length = (xs.length + 1) * 7 := by rw [flat7_len, hl]
  by_cases he : i = xs.length
  · subst he
    refine (insert_end base vb v xs x w hown hn hb hB h1x).mono ?_
    rintro e w' ⟨v', rfl, hr, hg, hloc⟩
    refine ⟨v', rfl, ?_, hg, hloc⟩
    rw [List.take_length, List.drop_length, flat7_append]; exact hr
  · have hi2 : i < xs.length := by omega
    rcases hown.2 with ⟨_, h0⟩ | ⟨g, cap, cur, rfl, hbg, hg, hnc, hcm, hcs, ht⟩
    · omega
    · by_cases hroom : xs.length + 1 ≤ cap
      · refine (insert_shift g xs.length cap i vb cur xs x w hi2 hroom hcm (fun e => hvb (by rw [e]; rfl)) hg hcs ht rfl hB h1 h1x).mono ?_
        rintro e w' ⟨rfl, ⟨cur', k1, k2, k3⟩, hgr⟩
        exact ⟨_, rfl, ⟨hfl, .inr ⟨g, cap, cur', rfl, hbg, k1, hroom, hcm, k2, k3⟩⟩, hgr, .inl rfl⟩
      · refine (insert_grow g xs.length cap i vb cur xs x w hi2 hn (by omega) hnc hg ht rfl hB h1 h1x).mono ?_
        rintro e w' ⟨G, cur', rfl, k0, k4, k1, k2, k3, hgr⟩
        exact ⟨_, rfl, ⟨hfl, .inr ⟨w.heap.size, G, cur', rfl, hb, k1, k0, k4, k2, k3⟩⟩, ⟨hgr.os, hgr.tape, hgr.output, hgr.size, fun k hk _ => hgr.block k hk (by simp)⟩, .inr ⟨_, rfl, Nat.le_refl _⟩⟩

end Go.Proofs.YtpjidogilofppaaGreat

/- The program's ChainPut. -/
namespace Go.Proofs.YtpjidogilofppaaGreat
open Go.ChangeShapes Go.WideShapes Go.ChangeAt Go.RowKit

theorem chain_keys {vs : List V} (h : chainP vs) : ∀ v ∈ vs, 0 ≤ v.k ∧ v.k ≤ 5 := fun v hv => okV_key (h.1 v hv)
theorem at_thr (vs : List V) (k t s : Int) : (cAt vs k t s).isSome = thr (grp vs k) t s := by rw [at_grp]; rfl
/-- The versions by key behind a put. -/
theorem upd_grp {vs : List V} {v : V} {f : Int → List XV} {p : Value} (h : Asc vs) (hn : cAt vs v.k v.t v.s = none) (hf : ∀ j, (f j).map XV.v = grp vs j) : ∀ j, (upd f v.k ((f v.k).take (plc (grp vs v.k) v.t v.s) ++ XV.mk v p :: (f v.k).drop (plc (grp vs v.k) v.t v.s)) j).map XV.v = grp (insV v vs) j := fun j => by
  rw [grp_insV h hn]
  by_cases e : j = v.k
  · subst e
    rw [upd_same, if_pos rfl, List.map_append, List.map_cons, List.map_take, List.map_drop, hf]
  · rw [upd_other _ _ e, if_neg e, hf]

end Go.Proofs.YtpjidogilofppaaGreat

