/- The law: a version is newer than all that it came of. -/
import Derived.Test.YtmbjfgebcpjigaaDVOk
import Derived.Test.YtmbjfgebcpjigaaSVer
import Derived.Test.YtmbjfgebcpjigaaThree
import Derived.Deep.AppendLies
namespace Go.Proofs.Ytmbjfgebcpjigaa
open Go.ChangeShapes Go.WideShapes Go.ChangeAt Go.RowKit

/-- An append at a step of a region that draws its order; nothing may be appended, too. -/
theorem step_append {P : Program} (w : World) {ops : Array Oper} {o : Oper} {a : Act} {K : Act → World → Prop} {Q : Exit → Act → World → Prop} {E : Prop} (hgd : o.guard = none) (s x : Operand) (t : TypeId)
    (ho : o.op = .call { callee := .builtin .append, args := #[s, x], argTypes := #[t, t] })
    (base : Nat) (e : TypeId) (i : TypeInfo) (z : Value) (size bytes : Nat) (ht : P.underlying t = some (.slice e)) (hi : P.info? e = some i) (hz : i.zero = some z)
    (hsize : i.size = size) (hby : i.bytes = bytes) (hzs : z.cells.size = size) (hsz : 0 < size)
    (v : Value) (n : Nat) (xs : List Value) (hs : a.eval s = v) (hown : w.ownsRow base e size v n xs)
    (ad : Addr) (m c : Nat) (news : List Value) (hx : a.eval x = .slice (some ad) m c) (hl : news.length = m * size) (hnews : ∀ j u, news[j]? = some u → w.cell? (ad.add j) = some u) (h1 : ∀ u ∈ news, u.oneCell' = true)
    (h63 : n + m ≤ maxLen) (hbytes : (n + m) * bytes ≤ 140737488355328) (hbase : base ≤ w.heap.size)
    (h : ∀ v' w', w'.ownsRow base e size v' (n + m) (xs ++ news) → w.grownBy w' v.ownBlock → K (a.put o.dst v') w') :
    if Region.wanted o (yielded ops a.tmps) = true then Oper.wp P o a w K Q else E := by
  have hw : Region.wanted o (yielded ops a.tmps) = true := by simp [Region.wanted, hgd]
  rw [if_pos hw]
  exact wp_append_own w s x t ho base e i z size bytes ht hi hz hsize hby hzs hsz v n xs hs hown ad m c news hx hl hnews h1 h63 hbytes hbase fun v' w' h2 h3 _ => h v' w' h2 h3

/-- A list less one. -/
theorem less_one (xs : List D) (i : Nat) : (xs.take i ++ xs.drop (i + 1)).Sublist xs := by
  rw [← List.eraseIdx_eq_take_drop_succ]; exact List.eraseIdx_sublist xs i
theorem depsOk_sub {xs ys : List D} (h : depsOk xs = true) (hs : ys.Sublist xs) : depsOk ys = true := by
  rw [ok_iff] at h ⊢
  exact ⟨h.1.sublist hs, fun e he => h.2 e (hs.subset he)⟩
theorem verB_sub {k t s val cl ca : Int} {xs ys : List D} (h : verB k t s val cl ca xs = true) (hs : ys.Sublist xs) : verB k t s val cl ca ys = true := by
  unfold verB at *
  simp only [Bool.and_eq_true] at h ⊢
  refine ⟨⟨h.1.1, depsOk_sub h.1.2 hs⟩, ?_⟩
  have he := h.2
  unfold early at *
  rw [List.all_eq_true] at he ⊢
  exact fun e h' => he e (hs.subset h')
theorem verB_early {k t s val cl ca : Int} {xs : List D} (h : verB k t s val cl ca xs = true) {j : Nat} (hj : j < xs.length) : lessB xs[j].t xs[j].s t s = true := by
  unfold verB early at h
  simp only [Bool.and_eq_true] at h
  have := List.all_eq_true.1 h.2 xs[j] (List.getElem_mem hj)
  simp only [decide_eq_true_eq] at this
  unfold lessB
  rw [decide_eq_true_eq]
  omega

/-- The version lies in the block VB, its deps in the block g, and nothing old has turned. -/
def InV (w0 : World) (VB g : Nat) (k t s val cl ca : Int) (vc : Nat) (xs : List D) (W : World) : Prop :=
  Blk W VB #[.int .i64 k, .int .i64 t, .int .i64 s, .int .i64 val, .int .i64 cl, .int .i64 ca, .slice (some ⟨g, 0, none⟩) xs.length vc] 27 ∧ RowD W w0.heap.size (.slice (some ⟨g, 0, none⟩) xs.length vc) xs ∧ Below w0.heap.size w0 W
/-- .. and so do the cells that the round reads. -/
def InQ (w0 : World) (VB g j : Nat) (k t s val cl ca r q : Int) (vc : Nat) (xs : List D) (W : World) : Prop :=
  InV w0 VB g k t s val cl ca vc xs W ∧ g < W.heap.size ∧ W.cell? ⟨VB, 6, none⟩ = some (.slice (some ⟨g, 0, none⟩) xs.length vc) ∧ W.cell? ⟨VB, 1, none⟩ = some (.int .i64 t) ∧ W.cell? ⟨VB, 2, none⟩ = some (.int .i64 s) ∧ W.cell? ⟨g, j * 3 + 1, none⟩ = some (.int .i64 r) ∧ W.cell? ⟨g, j * 3 + 2, none⟩ = some (.int .i64 q)
section
variable {w0 W W' : World} {VB g j : Nat} {k t s val cl ca r q : Int} {vc : Nat} {xs : List D}
theorem InV.below (h : InV w0 VB g k t s val cl ca vc xs W) (b : Below W.heap.size W W') : InV w0 VB g k t s val cl ca vc xs W' := by
  obtain ⟨h1, h2, h3⟩ := h
  exact ⟨h1.below b h1.lt, row_below h2 b (Nat.le_refl _), h3.trans (b.mono h3.size)⟩
theorem InQ.below (h : InQ w0 VB g j k t s val cl ca r q vc xs W) (b : Below W.heap.size W W') : InQ w0 VB g j k t s val cl ca r q vc xs W' := by
  obtain ⟨h1, h2, h3, h4, h5, h6, h7⟩ := h
  have l := h1.1.lt
  exact ⟨h1.below b, Nat.lt_of_lt_of_le h2 b.size, (b.cell (p := ⟨VB, _, none⟩) l).trans h3, (b.cell (p := ⟨VB, _, none⟩) l).trans h4, (b.cell (p := ⟨VB, _, none⟩) l).trans h5, (b.cell (p := ⟨g, _, none⟩) h2).trans h6, (b.cell (p := ⟨g, _, none⟩) h2).trans h7⟩
theorem InQ.drew (h : InQ w0 VB g j k t s val cl ca r q vc xs W) : InQ w0 VB g j k t s val cl ca r q vc xs W.drew := h.below (Below.refl _ _).drew
theorem InV.round (h : InV w0 VB g k t s val cl ca vc xs W) (hj : j < xs.length) : InQ w0 VB g j k t s val cl ca xs[j].t xs[j].s vc xs W := by
  obtain ⟨b, o, he, hb, e0, e1, e2⟩ := (row_deps' h.2.1).at hj
  simp at he
  obtain ⟨rfl, rfl⟩ := he
  obtain ⟨c, _⟩ := h.1.rules
  exact ⟨h, hb, by rw [c]; rfl, by rw [c]; rfl, by rw [c]; rfl, by simpa using e1, by simpa using e2⟩
end

theorem deps_take {w : World} {g : Nat} {xs : List D} (h : Deps w (some ⟨g, 0, none⟩) xs) (i : Nat) : ∀ (j : Nat) (u : Value), (flat3 (xs.take i))[j]? = some u → w.cell? ((Addr.mk g 0 none).add j) = some u := by
  intro j u hj
  refine deps_cells h j u ?_
  have e : flat3 xs = flat3 (xs.take i) ++ flat3 (xs.drop i) := by rw [← flat3_append, List.take_append_drop]
  rw [e, List.getElem?_append_left (List.getElem?_eq_some_iff.1 hj).1, hj]
theorem deps_drop {w : World} {g : Nat} {xs : List D} (h : Deps w (some ⟨g, 0, none⟩) xs) {i : Nat} (hi : i ≤ xs.length) : ∀ (j : Nat) (u : Value), (flat3 (xs.drop i))[j]? = some u → w.cell? ((Addr.mk g (i * 3) none).add j) = some u := by
  intro j u hj
  have e : flat3 xs = flat3 (xs.take i) ++ flat3 (xs.drop i) := by rw [← flat3_append, List.take_append_drop]
  have hl : (flat3 (xs.take i)).length = i * 3 := by rw [flat3_len, List.length_take]; omega
  have := deps_cells h (i * 3 + j) u (by rw [e, List.getElem?_append_right (by omega), hl, Nat.add_sub_cancel_left, hj])
  have a1 : (Addr.mk g 0 none).add (i * 3 + j) = ⟨g, i * 3 + j, none⟩ := by unfold Addr.add; split <;> simp_all
  have a2 : (Addr.mk g (i * 3) none).add j = ⟨g, i * 3 + j, none⟩ := by unfold Addr.add; split <;> simp_all
  rw [a2, ← a1]; exact this

theorem drop_cells {w : World} {g j m : Nat} {xs : List D} {SD : Addr} (h : Deps w (some ⟨g, 0, none⟩) xs) (hj : j < xs.length) (hS : m = 0 ∨ SD = ⟨g, (j + 1) * 3, none⟩) (hl : (flat3 (xs.drop (j + 1))).length = m * 3) : ∀ (i : Nat) (u : Value), (flat3 (xs.drop (j + 1)))[i]? = some u → w.cell? (SD.add i) = some u := by
  rcases hS with hm | rfl
  · intro i u hi
    have := (List.getElem?_eq_some_iff.1 hi).1
    omega
  · exact deps_drop h hj

set_option maxRecDepth 100000 in
theorem slice_from (g j n vc : Nat) (h : j < n) (hc : n ≤ vc) : ∃ (SD : Addr) (m c : Nat), (m = 0 ∨ SD = ⟨g, (j + 1) * 3, none⟩) ∧ m = n - (j + 1) ∧ ∀ W : World, (Instr.sliceAt 25 (.slice (some ⟨g, 0, none⟩) n vc) (some (.int .i64 ((j : Int) + 1))) none none).run Try.prog W = .ok (.slice (some SD) m c) W := by
  have e : ((j : Int) + 1).toNat = j + 1 := by omega
  have e0 : (0 : Int) ≤ (j : Int) + 1 := by omega
  have e1 : (j : Int) + 1 ≤ (n : Int) := by omega
  by_cases hv : vc = j + 1
  · refine ⟨⟨g, 0, none⟩, n - (j + 1), vc - (j + 1), .inl (by omega), rfl, fun W => ?_⟩
    simp [go_sem, e, hv, e0, e1]
  · refine ⟨⟨g, (j + 1) * 3, none⟩, n - (j + 1), vc - (j + 1), .inr rfl, rfl, fun W => ?_⟩
    simp [go_sem, e, hv, e0, e1, Addr.add]

set_option maxHeartbeats 4000000 in
set_option maxRecDepth 100000 in
theorem lawVer (w : World) (a : Option Addr) (len cap : Nat) (h : Code w a len cap) :
    Calls Try.prog 3 #[.slice a len cap] w fun e w' => e = .returned (.bool true) ∧ Below w.heap.size w w' := by
  have hm := h.2.1
  have hl := h.1
  unfold maxLen at hm
  by_cases hc : 1048576 < (len : Int)
  · go_enter Try.func3, Try.ntmps3
    go_wp2
    go_ret
    exact ⟨rfl, Below.refl _ _⟩
  go_enter Try.func3, Try.ntmps3
  go_wp2_with fail
  refine (drawVOk w a len cap h).mono ?_
  rintro e w1 ⟨k, t, s, val, cl, ca, va, vc, xs, rfl, hx, R, B0⟩
  have hx1 : xs.length ≤ 1099511627776 := by omega
  clear h hm hl
  have V1 := Blk.new w1 #[.int .i64 k, .int .i64 t, .int .i64 s, .int .i64 val, .int .i64 cl, .int .i64 ca, .slice va xs.length vc] 27
  have R1 := R.alloc (.cells #[.int .i64 k, .int .i64 t, .int .i64 s, .int .i64 val, .int .i64 cl, .int .i64 ca, .slice va xs.length vc] 27)
  have B1 := B0.alloc B0.size (.cells #[.int .i64 k, .int .i64 t, .int .i64 s, .int .i64 val, .int .i64 cl, .int .i64 ca, .slice va xs.length vc] 27)
  have hg : ∀ j, (Value.slice va xs.length vc).ownBlock = some j → j < w1.heap.size := fun j hj => (R.lt j hj).2
  have hwV : w.heap.size ≤ w1.heap.size := B0.size
  clear R B0
  go_wp2_with fail
  refine (iVer_any k t s val cl ca va vc xs _ hx1 (row_deps' R1)).mono ?_
  rintro e w2 ⟨rfl, hb2⟩
  have V2 := V1.below hb2 V1.lt
  have R2 := row_below R1 hb2 (Nat.le_refl _)
  have B2 : Below w.heap.size w w2 := B1.trans (hb2.mono B1.size)
  clear V1 R1 B1 hb2
  obtain ⟨q2, g2⟩ := V2.rules
  go_wp2_with fail
  refine (sVer_any k t s val cl ca va vc xs _ hx1 (row_deps' R2)).mono ?_
  rintro e w3 ⟨rfl, hb3⟩
  have V3 := V2.below hb3 V2.lt
  have R3 := row_below R2 hb3 (Nat.le_refl _)
  have B3 : Below w.heap.size w w3 := B2.trans (hb3.mono B2.size)
  clear q2 g2 V2 R2 B2 hb3
  obtain ⟨q3, g3⟩ := V3.rules
  rcases hv : verB k t s val cl ca xs with _ | _
  · go_wp2_with fail
    refine (sVer_any k t s val cl ca va vc xs _ hx1 (row_deps' R3)).mono ?_
    rw [hv]
    rintro e w4 ⟨rfl, hb4⟩
    have B4 : Below w.heap.size w w4 := B3.trans (hb4.mono B3.size)
    clear q3 g3 V3 R3 B3 hb4
    go_wp2
    go_ret
    exact ⟨rfl, B4⟩
  have HV : Hid (verB k t s val cl ca xs = true) := hv
  clear hv
  go_wp2_with fail
  generalize w1.heap.size = VB at *
  clear q3 g3
  go_loopw [5] (fun i wr => ∃ j : Nat, j ≤ xs.length ∧ i = .int .i64 j ∧ Blk wr VB #[.int .i64 k, .int .i64 t, .int .i64 s, .int .i64 val, .int .i64 cl, .int .i64 ca, .slice va xs.length vc] 27 ∧ RowD wr w.heap.size (.slice va xs.length vc) xs ∧ Below w.heap.size w wr) (fun i _ => xs.length - (intOf i).toNat)
  case atStart => exact ⟨0, Nat.zero_le _, rfl, V3, R3, B3⟩
  case round =>
    clear V3 R3 B3
    obtain ⟨j, hj, rfl, V, R, B⟩ := hrel
    obtain ⟨q, f⟩ := V.rules
    have lV := V.lt
    by_cases hlt : j < xs.length
    · obtain ⟨g, rfl⟩ : ∃ g, va = some ⟨g, 0, none⟩ := by
        rcases R.2 with ⟨hn, hn0⟩ | ⟨g, cap, cur, he, _⟩
        · omega
        · simp at he; exact ⟨g, he.1⟩
      have hless := verB_early HV.out hlt
      have hgV : g < VB := hg g rfl
      have I0 : InV w VB g k t s val cl ca vc xs wr := ⟨V, R, B⟩
      have I1 := I0.round hlt
      clear V R B hg I0
      generalize xs[j].t = r at *
      generalize xs[j].s = y at *
      have j0 : (0 : Int) ≤ (j : Int) := by omega
      have j1 : (j : Int) < (xs.length : Int) := by omega
      go_wp2_with fail
      clear q f lV
      go_region_held3 (fun W => ((Blk W VB #[.int .i64 k, .int .i64 t, .int .i64 s, .int .i64 val, .int .i64 cl, .int .i64 ca, .slice (some ⟨g, 0, none⟩) xs.length vc] 27 ∧ RowD W w.heap.size (.slice (some ⟨g, 0, none⟩) xs.length vc) xs ∧ Below w.heap.size w W) ∧ g < W.heap.size ∧ W.cell? ⟨VB, 6, none⟩ = some (.slice (some ⟨g, 0, none⟩) xs.length vc) ∧ W.cell? ⟨VB, 1, none⟩ = some (.int .i64 t) ∧ W.cell? ⟨VB, 2, none⟩ = some (.int .i64 s) ∧ W.cell? ⟨g, j * 3 + 1, none⟩ = some (.int .i64 r) ∧ W.cell? ⟨g, j * 3 + 2, none⟩ = some (.int .i64 y))) (first | exact InQ.drew (by assumption) | exact InQ.below (by assumption) (by assumption)) (first | (go_at_call 22; refine (iLess_any _ _ _ _ _).mono ?_; rw [hless]; rintro e w5 ⟨rfl, hb5⟩))
      rename_i R2
      have I2 : InV w VB g k t s val cl ca vc xs _ := R2.1
      clear R2 I1 hless hb5
      obtain ⟨V5, R5, B5⟩ := I2
      obtain ⟨q, f⟩ := V5.rules
      obtain ⟨hcap, hcm⟩ : xs.length ≤ vc ∧ vc ≤ maxLen := by
        rcases R5.2 with ⟨hn, hn0⟩ | ⟨g', cap', cur, he, _, _, h1, h2, _⟩
        · omega
        · simp at he; rw [he.2]; exact ⟨h1, h2⟩
      have X6 := Blk.new w5 #[.int .i64 k, .int .i64 t, .int .i64 s, .int .i64 val, .int .i64 cl, .int .i64 ca, .slice (some ⟨g, 0, none⟩) xs.length vc] 27
      have I6 : InV w VB g k t s val cl ca vc xs (w5.alloc (.cells #[.int .i64 k, .int .i64 t, .int .i64 s, .int .i64 val, .int .i64 cl, .int .i64 ca, .slice (some ⟨g, 0, none⟩) xs.length vc] 27)) := InV.below ⟨V5, R5, B5⟩ ((Below.refl _ _).alloc (Nat.le_refl _) _)
      have lX : VB < w5.heap.size := V5.lt
      have lw : w.heap.size ≤ w5.heap.size := B5.size
      go_wp2_with fail
      clear q f V5 R5 B5
      generalize w5.heap.size = XB at *
      generalize w5.alloc (.cells #[.int .i64 k, .int .i64 t, .int .i64 s, .int .i64 val, .int .i64 cl, .int .i64 ca, .slice (some ⟨g, 0, none⟩) xs.length vc] 27) = W0 at *
      have lX0 := X6.lt
      have c0 : W0.cell? ⟨VB, 6, none⟩ = some (.slice (some ⟨g, 0, none⟩) xs.length vc) := by obtain ⟨c, _⟩ := I6.1.rules; rw [c]; rfl
      have bA : Below W0.heap.size W0 (W0.alloc (.cells #[] 32)).drew := ((Below.refl _ W0).alloc (Nat.le_refl _) _).drew
      have cA : (W0.alloc (.cells #[] 32)).drew.cell? ⟨VB, 6, none⟩ = some (.slice (some ⟨g, 0, none⟩) xs.length vc) := (bA.cell (p := ⟨VB, 6, none⟩) (by simp; omega)).trans c0
      have rA : (W0.alloc (.cells #[] 32)).drew.ownsRow W0.heap.size 32 3 (.slice (some ⟨W0.heap.size, 0, none⟩) 0 0) 0 [] := (World.ownsRow_made W0 #[] 0 (Nat.le_refl _) (by unfold maxLen; omega) rfl).drew
      have nA := deps_take (row_deps' (I6.below bA).2.1) j
      have j2 : (j : Int) ≤ (vc : Int) := by omega
      obtain ⟨SD, m, c, hSD, hm, hsl⟩ : ∃ (SD : Addr) (m c : Nat), (m = 0 ∨ SD = ⟨g, (j + 1) * 3, none⟩) ∧ m = xs.length - (j + 1) ∧ ∀ W : World, (Instr.sliceAt 25 (.slice (some ⟨g, 0, none⟩) xs.length vc) (some (.int .i64 ((j : Int) + 1))) none none).run Try.prog W = .ok (.slice (some SD) m c) W := slice_from g j xs.length vc hlt hcap
      have lA : (flat3 (xs.take j)).length = j * 3 := by rw [flat3_len, List.length_take]; omega
      have mA : 0 + j ≤ maxLen := by omega
      have zA : (0 + j) * 24 ≤ 140737488355328 := by omega
      have sA : W0.heap.size ≤ (W0.alloc (.cells #[] 32)).drew.heap.size := bA.size
      have hwrap : IntKind.i64.wrap ((j : Int) + 1) = (j : Int) + 1 := by simp only [IntKind.wrap, IntKind.bits, IntKind.signed]; simp; omega
      obtain ⟨i0, hi, hz0, hz1, hz2⟩ := info_parts infoDep
      have lV0 : VB < W0.heap.size := by omega
      have hrw : w.heap.size ≤ W0.heap.size := by omega
      have lB : (flat3 (xs.drop (j + 1))).length = m * 3 := by rw [flat3_len, List.length_drop, hm]
      have mB : j + m ≤ maxLen := by omega
      have zB : (j + m) * 24 ≤ 140737488355328 := by omega
      have HSD : Hid (m = 0 ∨ SD = ⟨g, (j + 1) * 3, none⟩) := hSD
      have HM : Hid (m = xs.length - (j + 1)) := hm
      have HA : Hid ((flat3 (xs.take j)).length = j * 3) := lA
      have HB : Hid ((flat3 (xs.drop (j + 1))).length = m * 3) := lB
      clear hSD hm lA lB
      go_region_held3 (fun W => W.cell? ⟨VB, 6, none⟩ = some (.slice (some ⟨g, 0, none⟩) xs.length vc)) (first | exact c0 | exact cA | exact c1 | exact c2 | exact c3)
        (first
          | (refine step_append _ (by rfl) _ _ 25 (by rfl) W0.heap.size 32 i0 (.agg #[.int .i64 0, .int .i64 0, .int .i64 0]) 3 24 Try.underlying25 hi hz0 hz1 hz2 rfl (by decide) (.slice (some ⟨W0.heap.size, 0, none⟩) 0 0) 0 [] (by rfl) rA ⟨g, 0, none⟩ j vc (flat3 (xs.take j)) (by rfl) HA.out nA (flat3_one _) mA zA sA ?_
             intro v1 W1 own1 grow1
             have b1 : Below W0.heap.size W0 W1 := bA.grown grow1 sA (fun k hk => by simp [Value.ownBlock] at hk; omega)
             have c1 : W1.cell? ⟨VB, 6, none⟩ = some (.slice (some ⟨g, 0, none⟩) xs.length vc) := (b1.cell (p := ⟨VB, 6, none⟩) (by simp; omega)).trans c0
             have n1 := drop_cells (row_deps' (I6.below b1).2.1) hlt HSD.out HB.out
             rw [Nat.zero_add, List.nil_append] at own1
             clear grow1 rA nA)
          | (refine step_append _ (by rfl) _ _ 25 (by rfl) W0.heap.size 32 i0 (.agg #[.int .i64 0, .int .i64 0, .int .i64 0]) 3 24 Try.underlying25 hi hz0 hz1 hz2 rfl (by decide) v1 j (flat3 (xs.take j)) (by rfl) own1 SD m c (flat3 (xs.drop (j + 1))) (by rfl) HB.out n1 (flat3_one _) mB zB b1.size ?_
             intro v2 W2 own2 grow2
             have b2 : Below W0.heap.size W0 W2 := b1.grown grow2 b1.size (fun k hk => (own1.lt k hk).1)
             have c2 : W2.cell? ⟨VB, 6, none⟩ = some (.slice (some ⟨g, 0, none⟩) xs.length vc) := (b2.cell (p := ⟨VB, 6, none⟩) (by simp; omega)).trans c0
             have X7 := X6.below b2 X6.lt
             obtain ⟨qx, fx⟩ := X7.rules
             obtain ⟨ub, ud, rfl, _⟩ := row_slice own2
             have c3 : (W2.setCell ⟨XB, 6, none⟩ (.slice ub (j + m) ud)).cell? ⟨VB, 6, none⟩ = some (.slice (some ⟨g, 0, none⟩) xs.length vc) := (World.cell?_of_block (w := W2) (Below.heap_setCell _ _ _ _ (by simp; omega))).trans c2
             clear grow2))
      obtain ⟨ys, hys⟩ : ∃ ys, xs.take j ++ xs.drop (j + 1) = ys := ⟨_, rfl⟩
      have hy : j + m = ys.length := by rw [← hys, List.length_append, List.length_take, List.length_drop, HM.out]; omega
      have hvy : verB k t s val cl ca ys = true := by rw [← hys]; exact verB_sub HV.out (less_one xs j)
      have hyl : ys.length ≤ 1099511627776 := by rw [← hy, HM.out]; omega
      rw [← flat3_append, hys, hy] at own2
      have I7 := I6.below b2
      have l7 := b2.size
      have own3 := row_set own2 (A := XB) (i := 6) (fun j hj => by have := (own2.lt j hj).1; omega) (.slice ub ys.length ud)
      have X8 : Blk (W2.setCell ⟨XB, 6, none⟩ (.slice ub ys.length ud)) XB #[.int .i64 k, .int .i64 t, .int .i64 s, .int .i64 val, .int .i64 cl, .int .i64 ca, .slice ub ys.length ud] 27 := by have := X7.set 6 (.slice ub ys.length ud); simpa using this
      have V8 := I7.1.other (a := ⟨XB, 6, none⟩) (by simp; omega) (.slice ub ys.length ud)
      have R8 := row_set I7.2.1 (A := XB) (i := 6) (fun j hj => by simp [Value.ownBlock] at hj; omega) (.slice ub ys.length ud)
      have B8 := I7.2.2.setCell (p := ⟨XB, 6, none⟩) (by simp; omega) (.slice ub ys.length ud)
      clear c0 cA c1 c2 c3 n1 own1 own2 b1 b2 bA sA X6 X7 I6 I7 qx fx lX0 hsl hwrap HA HB HSD HM hys hz0 hz1 hz2 hi mA zA mB zB j2
      rw [hy]
      clear hy
      generalize W2.setCell ⟨XB, 6, none⟩ (.slice ub ys.length ud) = W8 at *
      obtain ⟨q8, f8⟩ := X8.rules
      go_wp2_with fail
      refine (iVer_any k t s val cl ca ub ud ys _ hyl (row_deps' own3)).mono ?_
      rw [hvy]
      rintro e w9 ⟨rfl, hb9⟩
      have V9 := V8.below hb9 V8.lt
      have R9 := row_below R8 hb9 (Nat.le_refl _)
      have B9 : Below w.heap.size w w9 := B8.trans (hb9.mono B8.size)
      clear V8 R8 B8 X8 q8 f8 own3 hb9 hvy hyl
      go_wp2_with fail
      go_roundw
      case rel => exact ⟨j + 1, by omega, by go_num, V9, R9, B9⟩
      case measure => simp [intOf]; omega
    · have hk2 : j = xs.length := by omega
      subst hk2
      go_wp2_with fail
      go_ret
      exact ⟨rfl, B⟩
end Go.Proofs.Ytmbjfgebcpjigaa
