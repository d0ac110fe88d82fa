/- 2 texts in one: SPutV, CAtNum. -/
import Derived.Test.YtpjidogilofppaaGreatGAJ
/- The specification puts a version in its place. -/
namespace Go.Proofs.YtpjidogilofppaaGreat
open Go.ChangeShapes Go.WideShapes Go.ChangeAt Go.RowKit

theorem insV_done {v y : V} {l : List V} (h : l.any (fun x => lessV v x) = true) : insV v (l ++ [y]) = insV v l ++ [y] := by
  induction l with
  | nil => simp at h
  | cons x xs ih =>
    rw [List.cons_append, insV, insV]
    by_cases hl : lessV v x = true
    · rw [if_pos hl, if_pos hl]; rfl
    · rw [if_neg hl, if_neg hl]
      rw [List.any_cons] at h
      have : lessV v x = false := by simpa using hl
      rw [this, Bool.false_or] at h
      rw [ih h]; rfl
theorem insV_here {v y : V} {l : List V} (h : l.any (fun x => lessV v x) = false) (hy : lessV v y = true) : insV v (l ++ [y]) = l ++ [v] ++ [y] := by
  induction l with
  | nil => simp [insV, hy]
  | cons x xs ih =>
    rw [List.any_cons, Bool.or_eq_false_iff] at h
    rw [List.cons_append, insV, if_neg (by rw [h.1]; exact Bool.false_ne_true), ih h.2]; rfl
theorem insV_end {v : V} {l : List V} (h : l.any (fun x => lessV v x) = false) : insV v l = l ++ [v] := by
  induction l with
  | nil => rfl
  | cons x xs ih =>
    rw [List.any_cons, Bool.or_eq_false_iff] at h
    rw [insV, if_neg (by rw [h.1]; exact Bool.false_ne_true), ih h.2]; rfl
theorem any_snoc {v y : V} {l : List V} : (l ++ [y]).any (fun x => lessV v x) = (l.any (fun x => lessV v x) || lessV v y) := by simp

/-- What is put together after some rounds. -/
def outTo (v : V) (l : List V) : List V := if l.any (fun x => lessV v x) = true then insV v l else l

set_option maxHeartbeats 4000000 in
set_option maxRecDepth 100000 in
theorem l3Put_any (a : Option Addr) (cap : Nat) (vs : List V) (v : V) (va : Option Addr) (vc : Nat) (w : World) (hn : vs.length ≤ 1000000) (h : Vers w a vs) (hvl : v.ds.length ≤ 1099511627776) (hvd0 : Deps w va v.ds) :
    Calls Tryz.prog 186 #[.slice a vs.length cap, verV v.k v.t v.s v.val v.cl v.ca va v.ds.length vc] w fun e w' => ∃ u ys, e = .returned u ∧ OwnV w' w.heap.size u ys ∧ ys.map XV.v = insV v vs ∧ Below w.heap.size w w' := by
  have hV0 := Blk.new w #[.int .i64 v.k, .int .i64 v.t, .int .i64 v.s, .int .i64 v.val, .int .i64 v.cl, .int .i64 v.ca, .slice va v.ds.length vc] 107
  have b0 : Below w.heap.size w (w.alloc (.cells #[.int .i64 v.k, .int .i64 v.t, .int .i64 v.s, .int .i64 v.val, .int .i64 v.cl, .int .i64 v.ca, .slice va v.ds.length vc] 107)) := (Below.refl _ w).alloc (Nat.le_refl _) _
  have h1 := h.below b0
  have hvd := hvd0.below b0
  have s1 : (w.alloc (.cells #[.int .i64 v.k, .int .i64 v.t, .int .i64 v.s, .int .i64 v.val, .int .i64 v.cl, .int .i64 v.ca, .slice va v.ds.length vc] 107)).heap.size = w.heap.size + 1 := by simp
  have O0 : OwnV ((w.alloc (.cells #[.int .i64 v.k, .int .i64 v.t, .int .i64 v.s, .int .i64 v.val, .int .i64 v.cl, .int .i64 v.ca, .slice va v.ds.length vc] 107)).alloc (.cells #[] 107)) (w.alloc (.cells #[.int .i64 v.k, .int .i64 v.t, .int .i64 v.s, .int .i64 v.val, .int .i64 v.cl, .int .i64 v.ca, .slice va v.ds.length vc] 107)).heap.size (.slice (some ⟨(w.alloc (.cells #[.int .i64 v.k, .int .i64 v.t, .int .i64 v.s, .int .i64 v.val, .int .i64 v.cl, .int .i64 v.ca, .slice va v.ds.length vc] 107)).heap.size, 0, none⟩) 0 0) [] := ⟨World.ownsRow_made _ #[] 0 (Nat.le_refl _) (by unfold maxLen; omega) rfl, fun _ h => (by cases h), List.Pairwise.nil⟩
  have B0 : Below (w.alloc (.cells #[.int .i64 v.k, .int .i64 v.t, .int .i64 v.s, .int .i64 v.val, .int .i64 v.cl, .int .i64 v.ca, .slice va v.ds.length vc] 107)).heap.size (w.alloc (.cells #[.int .i64 v.k, .int .i64 v.t, .int .i64 v.s, .int .i64 v.val, .int .i64 v.cl, .int .i64 v.ca, .slice va v.ds.length vc] 107)) ((w.alloc (.cells #[.int .i64 v.k, .int .i64 v.t, .int .i64 v.s, .int .i64 v.val, .int .i64 v.cl, .int .i64 v.ca, .slice va v.ds.length vc] 107)).alloc (.cells #[] 107)) := (Below.refl _ _).alloc (Nat.le_refl _) _
  go_enter Tryz.func186, Tryz.ntmps186
  go_wp2
  rw [s1] at O0
  clear h hvd0
  generalize hW1 : w.alloc (.cells #[.int .i64 v.k, .int .i64 v.t, .int .i64 v.s, .int .i64 v.val, .int .i64 v.cl, .int .i64 v.ca, .slice va v.ds.length vc] 107) = W1 at *
  have hp : w.heap.size < W1.heap.size := by omega
  have hp2 : w.heap.size ≤ W1.heap.size := by omega
  rw [← s1] at O0
  have s2 : Hid (W1.heap.size = w.heap.size + 1) := s1
  have HF : ∀ wr u ys, Below W1.heap.size W1 wr → OwnV wr W1.heap.size u ys → Below w.heap.size w wr ∧ OwnV wr w.heap.size u ys := fun wr u ys hb ho => ⟨b0.trans (hb.mono hp2), ho.mono hp2⟩
  clear s1 hW1
  go_loopw [5, 6, 7] (fun u d i wr => ∃ (k : Nat) (ys : List XV), k ≤ vs.length ∧ i = .int .i64 k ∧ d = .bool ((vs.take k).any fun x => lessV v x) ∧ Hid (ys.map XV.v = outTo v (vs.take k)) ∧ OwnV wr W1.heap.size u ys ∧ Below W1.heap.size W1 wr) (fun _ _ i _ => vs.length - (intOf i).toNat)
  case atStart => exact ⟨0, [], Nat.zero_le _, rfl, rfl, rfl, (by rw [← s2.out]; exact O0), B0⟩
  case round =>
    obtain ⟨k, ys, hk, rfl, rfl, HY, hO, hB⟩ := hrel
    clear O0 B0
    have hyl : ys.length ≤ 1000001 := by have := congrArg List.length HY.out; unfold outTo at this; split at this <;> simp [insV_len] at this <;> omega
    have hV := hV0.below hB hp
    by_cases hlt : k < vs.length
    · obtain ⟨b, o, da, dc, rfl, hbb, hv1⟩ := h1.at hlt
      have hv := hv1.below hB
      have HS : Hid (vs.take (k + 1) = vs.take k ++ [vs[k]]) := takeV vs k hlt
      obtain ⟨r0, r1, r2, r3, r4, r5, r6⟩ := hv.rules
      have rz : ∀ (n : Wof (Since wr)) (j : Nat), n.W.cell? ⟨w.heap.size, j, none⟩ = #[.int .i64 v.k, .int .i64 v.t, .int .i64 v.s, .int .i64 v.val, .int .i64 v.cl, .int .i64 v.ca, .slice va v.ds.length vc][j]? := fun n j => (hV.below n.h hV.lt).cell j
      have ne := since_ne wr
      rcases hany : (vs.take k).any (fun x => lessV v x) with _ | _
      · rcases hls : lessV v vs[k] with _ | _
        · have HA : Hid ((vs.take (k + 1)).any (fun x => lessV v x) = false) := by show List.any _ _ = _; rw [HS.out, any_snoc, hany, hls]; rfl
          have HO : Hid (outTo v (vs.take (k + 1)) = outTo v (vs.take k) ++ [vs[k]]) := by show outTo _ _ = _; unfold outTo; rw [HA.out, hany, HS.out]; rfl
          clear hany
          generalize vs[k] = x at *
          go_wp2_with fail
          refine wp_region_class (S := Since wr) (by kernel_rfl) (by kernel_rfl) (Below.refl _ _).drew ?_
          repeat (go_big_quiet_step ((rename_i n; first | (go_at_call 184; exact Calls.inClass (sLessV_is hls) Since.keep))))
          refine wpQuiet_nil ?_
          rintro W ⟨n, hnW⟩
          have R2 := n.h
          rw [← hnW] at R2
          have hBW : Below W1.heap.size W1 W := hB.trans (R2.mono hB.size)
          have hOW := hO.below R2 (Nat.le_refl _)
          have hxW := hv.below R2
          obtain ⟨c0, c1, c2, c3, c4, c5, c6, hd, hdl⟩ := hxW
          have hVW := hV.below R2 hV.lt
          obtain ⟨z1, z2⟩ := hVW.rules
          have hvdW := hvd.below hBW
          clear R2 r0 r1 r2 r3 r4 r5 r6 rz ne hnW n hB hO hv hV
          go_wp2_with fail
          refine (sCopy_any x da dc _ hdl hd).mono ?_
          rintro e w2 ⟨pa, pc, rfl, hrow, hb2⟩
          have hO2 := (hOW.below hb2 (Nat.le_refl _)).alloc (.cells #[.int .i64 x.k, .int .i64 x.t, .int .i64 x.s, .int .i64 x.val, .int .i64 x.cl, .int .i64 x.ca, .slice pa x.ds.length pc] 107)
          have hB2 : Below W1.heap.size W1 w2 := hBW.trans (hb2.mono hBW.size)
          have hB3 := hB2.alloc hB2.size (.cells #[.int .i64 x.k, .int .i64 x.t, .int .i64 x.s, .int .i64 x.val, .int .i64 x.cl, .int .i64 x.ca, .slice pa x.ds.length pc] 107)
          have hap : ∀ z ∈ ys, ApartV z.p (.slice pa x.ds.length pc) := fun z hz => apart_new (hOW.deps z hz).1 hrow (Nat.le_refl _)
          have hrow3 := row_mono (hrow.alloc (.cells #[.int .i64 x.k, .int .i64 x.t, .int .i64 x.s, .int .i64 x.val, .int .i64 x.cl, .int .i64 x.ca, .slice pa x.ds.length pc] 107)) hBW.size
          have hN := Blk.new w2 #[.int .i64 x.k, .int .i64 x.t, .int .i64 x.s, .int .i64 x.val, .int .i64 x.cl, .int .i64 x.ca, .slice pa x.ds.length pc] 107
          have hs3 := hB3.size
          clear hrow hb2 hOW hBW hB2 hd c0 c1 c2 c3 c4 c5 c6 hVW z1 z2
          go_wp2_with (first | (at_builtin
                                refine wpList_append_ver _ rfl _ _ rfl W1.heap.size _ ys rfl hO2 ⟨x, .slice pa x.ds.length pc⟩ w2.heap.size rfl hN hrow3 hdl hap (by omega) hs3 ?_
                                intro v' w3 hO3 hg3
                                have hB4 : Below W1.heap.size W1 w3 := hB3.grown hg3 hs3 (fun j hj => (hO2.row.lt j hj).1)
                                clear hg3 hO2 hap hrow3 hN hB3 hs3))
          go_roundw
          case rel => exact ⟨k + 1, _, by omega, by go_num, by rw [HA.out], by show List.map XV.v _ = _; rw [HO.out, List.map_append, HY.out]; rfl, hO3, hB4⟩
          case measure => simp [intOf]; omega
        · have HA : Hid ((vs.take (k + 1)).any (fun x => lessV v x) = true) := by show List.any _ _ = _; rw [HS.out, any_snoc, hany, hls]; rfl
          have HO : Hid (outTo v (vs.take (k + 1)) = outTo v (vs.take k) ++ [v] ++ [vs[k]]) := by show outTo _ _ = _; unfold outTo; rw [if_pos HA.out, hany, HS.out, insV_here hany hls]; rfl
          clear hany
          generalize vs[k] = x at *
          go_wp2_with fail
          refine wp_region_class (S := Since wr) (by kernel_rfl) (by kernel_rfl) (Below.refl _ _).drew ?_
          repeat (go_big_quiet_step ((rename_i n; first | (go_at_call 184; exact Calls.inClass (sLessV_is hls) Since.keep))))
          refine wpQuiet_nil ?_
          rintro W ⟨n, hnW⟩
          have R2 := n.h
          rw [← hnW] at R2
          have hBW : Below W1.heap.size W1 W := hB.trans (R2.mono hB.size)
          have hOW := hO.below R2 (Nat.le_refl _)
          have hxW := hv.below R2
          obtain ⟨c0, c1, c2, c3, c4, c5, c6, hd, hdl⟩ := hxW
          have hVW := hV.below R2 hV.lt
          obtain ⟨z1, z2⟩ := hVW.rules
          have hvdW := hvd.below hBW
          clear R2 r0 r1 r2 r3 r4 r5 r6 rz ne hnW n hB hO hv hV
          go_wp2_with fail
          refine (sCopy_any v va vc _ hvl hvdW).mono ?_
          rintro e w2a ⟨paa, pca, rfl, hrowa, hb2a⟩
          have hO2a := (hOW.below hb2a (Nat.le_refl _)).alloc (.cells #[.int .i64 v.k, .int .i64 v.t, .int .i64 v.s, .int .i64 v.val, .int .i64 v.cl, .int .i64 v.ca, .slice paa v.ds.length pca] 107)
          have hB2a : Below W1.heap.size W1 w2a := hBW.trans (hb2a.mono hBW.size)
          have hB3a := hB2a.alloc hB2a.size (.cells #[.int .i64 v.k, .int .i64 v.t, .int .i64 v.s, .int .i64 v.val, .int .i64 v.cl, .int .i64 v.ca, .slice paa v.ds.length pca] 107)
          have hapa : ∀ z ∈ ys, ApartV z.p (.slice paa v.ds.length pca) := fun z hz => apart_new (hOW.deps z hz).1 hrowa (Nat.le_refl _)
          have hrow3a := row_mono (hrowa.alloc (.cells #[.int .i64 v.k, .int .i64 v.t, .int .i64 v.s, .int .i64 v.val, .int .i64 v.cl, .int .i64 v.ca, .slice paa v.ds.length pca] 107)) hBW.size
          have hNa := Blk.new w2a #[.int .i64 v.k, .int .i64 v.t, .int .i64 v.s, .int .i64 v.val, .int .i64 v.cl, .int .i64 v.ca, .slice paa v.ds.length pca] 107
          have hs3a := hB3a.size
          clear hrowa hb2a hOW hBW hB2a z1 z2 c0 c1 c2 c3 c4 c5 c6 hd
          go_wp2_with (first | (at_builtin
                                refine wpList_append_ver _ rfl _ _ rfl W1.heap.size _ ys rfl hO2a ⟨v, .slice paa v.ds.length pca⟩ w2a.heap.size rfl hNa hrow3a hvl hapa (by omega) hs3a ?_
                                intro v'a w3a hO3 hg3a
                                have hB4 : Below W1.heap.size W1 w3a := hB3a.grown hg3a hs3a (fun j hj => (hO2a.row.lt j hj).1)
                                clear hg3a hO2a hapa hrow3a hNa hB3a hs3a
                                obtain ⟨c0, c1, c2, c3, c4, c5, c6, hd, _⟩ := hv1.below hB4))
          have hyl2 : (ys ++ [XV.mk v (.slice paa v.ds.length pca)]).length ≤ 1099511627776 := by simp; omega
          refine (sCopy_any x da dc _ hdl hd).mono ?_
          rintro e w2 ⟨pa, pc, rfl, hrow, hb2⟩
          have hO2 := (hO3.below hb2 (Nat.le_refl _)).alloc (.cells #[.int .i64 x.k, .int .i64 x.t, .int .i64 x.s, .int .i64 x.val, .int .i64 x.cl, .int .i64 x.ca, .slice pa x.ds.length pc] 107)
          have hB2 : Below W1.heap.size W1 w2 := hB4.trans (hb2.mono hB4.size)
          have hB3 := hB2.alloc hB2.size (.cells #[.int .i64 x.k, .int .i64 x.t, .int .i64 x.s, .int .i64 x.val, .int .i64 x.cl, .int .i64 x.ca, .slice pa x.ds.length pc] 107)
          have hap : ∀ z ∈ (ys ++ [XV.mk v (.slice paa v.ds.length pca)]), ApartV z.p (.slice pa x.ds.length pc) := fun z hz => apart_new (hO3.deps z hz).1 hrow (Nat.le_refl _)
          have hrow3 := row_mono (hrow.alloc (.cells #[.int .i64 x.k, .int .i64 x.t, .int .i64 x.s, .int .i64 x.val, .int .i64 x.cl, .int .i64 x.ca, .slice pa x.ds.length pc] 107)) hB4.size
          have hN := Blk.new w2 #[.int .i64 x.k, .int .i64 x.t, .int .i64 x.s, .int .i64 x.val, .int .i64 x.cl, .int .i64 x.ca, .slice pa x.ds.length pc] 107
          have hs3 := hB3.size
          clear hrow hb2 hO3 hB4 hB2 hd c0 c1 c2 c3 c4 c5 c6
          go_wp2_with (first | (at_builtin
                                refine wpList_append_ver _ rfl _ _ rfl W1.heap.size _ (ys ++ [XV.mk v (.slice paa v.ds.length pca)]) rfl hO2 ⟨x, .slice pa x.ds.length pc⟩ w2.heap.size rfl hN hrow3 hdl hap hyl2 hs3 ?_
                                intro v' w3 hO5 hg3
                                have hB6 : Below W1.heap.size W1 w3 := hB3.grown hg3 hs3 (fun j hj => (hO2.row.lt j hj).1)
                                clear hg3 hO2 hap hrow3 hN hB3 hs3))
          go_roundw
          case rel => exact ⟨k + 1, _, by omega, by go_num, by rw [HA.out], by show List.map XV.v _ = _; rw [HO.out, List.map_append, List.map_append, HY.out]; rfl, hO5, hB6⟩
          case measure => simp [intOf]; omega
      · have HA : Hid ((vs.take (k + 1)).any (fun x => lessV v x) = true) := by show List.any _ _ = _; rw [HS.out, any_snoc, hany]; rfl
        have HO : Hid (outTo v (vs.take (k + 1)) = outTo v (vs.take k) ++ [vs[k]]) := by show outTo _ _ = _; unfold outTo; rw [if_pos HA.out, if_pos hany, HS.out, insV_done hany]
        clear hany
        generalize vs[k] = x at *
        go_wp2_with fail
        refine wp_region_class (S := Since wr) (by kernel_rfl) (by kernel_rfl) (Below.refl _ _).drew ?_
        repeat (go_big_quiet_step ((fail)))
        refine wpQuiet_nil ?_
        rintro W ⟨n, hnW⟩
        have R2 := n.h
        rw [← hnW] at R2
        have hBW : Below W1.heap.size W1 W := hB.trans (R2.mono hB.size)
        have hOW := hO.below R2 (Nat.le_refl _)
        have hxW := hv.below R2
        obtain ⟨c0, c1, c2, c3, c4, c5, c6, hd, hdl⟩ := hxW
        have hVW := hV.below R2 hV.lt
        obtain ⟨z1, z2⟩ := hVW.rules
        have hvdW := hvd.below hBW
        clear R2 r0 r1 r2 r3 r4 r5 r6 rz ne hnW n hB hO hv hV
        go_wp2_with fail
        refine (sCopy_any x da dc _ hdl hd).mono ?_
        rintro e w2 ⟨pa, pc, rfl, hrow, hb2⟩
        have hO2 := (hOW.below hb2 (Nat.le_refl _)).alloc (.cells #[.int .i64 x.k, .int .i64 x.t, .int .i64 x.s, .int .i64 x.val, .int .i64 x.cl, .int .i64 x.ca, .slice pa x.ds.length pc] 107)
        have hB2 : Below W1.heap.size W1 w2 := hBW.trans (hb2.mono hBW.size)
        have hB3 := hB2.alloc hB2.size (.cells #[.int .i64 x.k, .int .i64 x.t, .int .i64 x.s, .int .i64 x.val, .int .i64 x.cl, .int .i64 x.ca, .slice pa x.ds.length pc] 107)
        have hap : ∀ z ∈ ys, ApartV z.p (.slice pa x.ds.length pc) := fun z hz => apart_new (hOW.deps z hz).1 hrow (Nat.le_refl _)
        have hrow3 := row_mono (hrow.alloc (.cells #[.int .i64 x.k, .int .i64 x.t, .int .i64 x.s, .int .i64 x.val, .int .i64 x.cl, .int .i64 x.ca, .slice pa x.ds.length pc] 107)) hBW.size
        have hN := Blk.new w2 #[.int .i64 x.k, .int .i64 x.t, .int .i64 x.s, .int .i64 x.val, .int .i64 x.cl, .int .i64 x.ca, .slice pa x.ds.length pc] 107
        have hs3 := hB3.size
        clear hrow hb2 hOW hBW hB2 hd c0 c1 c2 c3 c4 c5 c6 hVW z1 z2
        go_wp2_with (first | (at_builtin
                              refine wpList_append_ver _ rfl _ _ rfl W1.heap.size _ ys rfl hO2 ⟨x, .slice pa x.ds.length pc⟩ w2.heap.size rfl hN hrow3 hdl hap (by omega) hs3 ?_
                              intro v' w3 hO3 hg3
                              have hB4 : Below W1.heap.size W1 w3 := hB3.grown hg3 hs3 (fun j hj => (hO2.row.lt j hj).1)
                              clear hg3 hO2 hap hrow3 hN hB3 hs3))
        go_roundw
        case rel => exact ⟨k + 1, _, by omega, by go_num, by rw [HA.out], by show List.map XV.v _ = _; rw [HO.out, List.map_append, HY.out]; rfl, hO3, hB4⟩
        case measure => simp [intOf]; omega
    · have hk2 : k = vs.length := by omega
      subst hk2
      rw [List.take_length] at HY
      rcases hany : (vs.take vs.length).any (fun x => lessV v x) with _ | _
      · have HO : Hid (insV v vs = outTo v vs ++ [v]) := by show insV _ _ = _; rw [List.take_length] at hany; unfold outTo; rw [hany, insV_end hany]; rfl
        clear hany
        have hvdW := hvd.below hB
        obtain ⟨z1, z2⟩ := hV.rules
        go_wp2_with fail
        refine (sCopy_any v va vc _ hvl hvdW).mono ?_
        rintro e w2 ⟨pa, pc, rfl, hrow, hb2⟩
        have hO2 := (hO.below hb2 (Nat.le_refl _)).alloc (.cells #[.int .i64 v.k, .int .i64 v.t, .int .i64 v.s, .int .i64 v.val, .int .i64 v.cl, .int .i64 v.ca, .slice pa v.ds.length pc] 107)
        have hB2 : Below W1.heap.size W1 w2 := hB.trans (hb2.mono hB.size)
        have hB3 := hB2.alloc hB2.size (.cells #[.int .i64 v.k, .int .i64 v.t, .int .i64 v.s, .int .i64 v.val, .int .i64 v.cl, .int .i64 v.ca, .slice pa v.ds.length pc] 107)
        have hap : ∀ z ∈ ys, ApartV z.p (.slice pa v.ds.length pc) := fun z hz => apart_new (hO.deps z hz).1 hrow (Nat.le_refl _)
        have hrow3 := row_mono (hrow.alloc (.cells #[.int .i64 v.k, .int .i64 v.t, .int .i64 v.s, .int .i64 v.val, .int .i64 v.cl, .int .i64 v.ca, .slice pa v.ds.length pc] 107)) hB.size
        have hN := Blk.new w2 #[.int .i64 v.k, .int .i64 v.t, .int .i64 v.s, .int .i64 v.val, .int .i64 v.cl, .int .i64 v.ca, .slice pa v.ds.length pc] 107
        have hs3 := hB3.size
        clear hrow hb2 hO hB hB2 z1 z2 hV hvdW
        go_wp2_with (first | (at_builtin
                              refine wpList_append_ver _ rfl _ _ rfl W1.heap.size _ ys rfl hO2 ⟨v, .slice pa v.ds.length pc⟩ w2.heap.size rfl hN hrow3 hvl hap (by omega) hs3 ?_
                              intro v' w3 hO3 hg3
                              have hB4 : Below W1.heap.size W1 w3 := hB3.grown hg3 hs3 (fun j hj => (hO2.row.lt j hj).1)
                              clear hg3 hO2 hap hrow3 hN hB3 hs3))
        go_ret
        obtain ⟨f1, f2⟩ := HF _ _ _ hB4 hO3
        exact ⟨_, _, rfl, f2, by rw [HO.out, List.map_append, HY.out]; rfl, f1⟩
      · have HO : Hid (outTo v vs = insV v vs) := by show outTo _ _ = _; unfold outTo; rw [List.take_length] at hany; rw [if_pos hany]
        go_wp2
        go_ret
        obtain ⟨f1, f2⟩ := HF _ _ _ hB hO
        exact ⟨_, ys, rfl, f2, by rw [HY.out, HO.out], f1⟩
end Go.Proofs.YtpjidogilofppaaGreat

/- Plain facts on what is found among versions. -/
namespace Go.Proofs.YtpjidogilofppaaGreat
open Go.ChangeShapes Go.WideShapes Go.ChangeAt Go.RowKit

theorem below_draws {n : Nat} {a w : World} (h : Below n a w) (m : Nat) : Below n a (w.drewN m) := h.trans ⟨rfl, rfl, rfl, Nat.le_refl _, fun _ _ => rfl⟩
theorem hdraws {w : World} {B : Nat} {vs : Array Value} {T : TypeId} (h : Blk w B vs T) (m : Nat) : Blk (w.drewN m) B vs T := h
/-- Nothing. -/
def zeroV : V := ⟨0, 0, 0, 0, 0, 0, []⟩
/-- What is answered of a key and stamp. -/
def atA (vs : List V) (k t s : Int) : Option V := if chainB vs = true then cAt vs k t s else none
/-- What is answered of a key. -/
def topA (vs : List V) (k : Int) : Option V := if chainB vs = true then cTop vs k else none
theorem atA_no {vs : List V} (h : chainB vs = false) (k t s : Int) : atA vs k t s = none := by unfold atA; rw [h]; rfl
theorem atA_yes {vs : List V} (h : chainB vs = true) (k t s : Int) : atA vs k t s = cAt vs k t s := by unfold atA; rw [h]; rfl
theorem topA_no {vs : List V} (h : chainB vs = false) (k : Int) : topA vs k = none := by unfold topA; rw [h]; rfl
theorem topA_yes {vs : List V} (h : chainB vs = true) (k : Int) : topA vs k = cTop vs k := by unfold topA; rw [h]; rfl
theorem cAt_step {vs : List V} {i : Nat} {k t s : Int} (hi : i < vs.length) (h : cAt (vs.take i) k t s = none) (hs : sameB vs[i] k t s = false) : cAt (vs.take (i + 1)) k t s = none := by
  unfold cAt at *
  rw [takeV vs i hi, List.find?_append, h]
  simp [hs]
theorem cAt_hit {vs : List V} {i : Nat} {k t s : Int} (hi : i < vs.length) (h : cAt (vs.take i) k t s = none) (hs : sameB vs[i] k t s = true) : cAt vs k t s = some vs[i] := by
  unfold cAt at *
  have e : vs = vs.take i ++ vs[i] :: vs.drop (i + 1) := by rw [← List.drop_eq_getElem_cons hi, List.take_append_drop]
  rw [congrArg (List.find? fun v => sameB v k t s) e, List.find?_append, h, List.find?_cons, hs]
  rfl
theorem same_key {v : V} {k t s : Int} (h : v.k ≠ k) : sameB v k t s = false := by unfold sameB; simp [h]
theorem same_time {v : V} {k t s : Int} (h : v.t ≠ t) : sameB v k t s = false := by unfold sameB; simp [h]
theorem same_site {v : V} {k t s : Int} (h : v.s ≠ s) : sameB v k t s = false := by unfold sameB; simp [h]
theorem cTop_step {vs : List V} {i : Nat} {k : Int} (hi : i < vs.length) (h : cTop (vs.drop (i + 1)) k = none) (hs : vs[i].k ≠ k) : cTop (vs.drop i) k = none := by
  unfold cTop at *
  rw [List.find?_eq_none] at *
  intro x hx
  rw [List.mem_reverse, List.drop_eq_getElem_cons hi] at hx
  rcases List.mem_cons.1 hx with rfl | hx
  · simpa using hs
  · exact h x (by simpa using hx)
theorem cTop_hit {vs : List V} {i : Nat} {k : Int} (hi : i < vs.length) (h : cTop (vs.drop (i + 1)) k = none) (hs : vs[i].k = k) : cTop vs k = some vs[i] := by
  unfold cTop at *
  have e0 : vs = vs.take i ++ vs[i] :: vs.drop (i + 1) := by rw [← List.drop_eq_getElem_cons hi, List.take_append_drop]
  have e : vs.reverse = (vs.drop (i + 1)).reverse ++ (vs[i] :: (vs.take i).reverse) := by
    rw [congrArg List.reverse e0]
    simp
  rw [e, List.find?_append, h]
  simp [hs]
theorem cTop_nil (k : Int) : cTop [] k = none := rfl
end Go.Proofs.YtpjidogilofppaaGreat

