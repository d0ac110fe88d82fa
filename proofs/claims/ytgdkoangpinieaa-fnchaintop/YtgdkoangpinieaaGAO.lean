/- 2 texts in one: SHasC, Place2. -/
import Derived.Test.YtgdkoangpinieaaSAtV
import Derived.Test.YtgdkoangpinieaaPlace
/- The specification's ChainHas. -/
namespace Go.Proofs.Ytgdkoangpinieaa
open Go.ChangeShapes Go.WideShapes Go.ChangeAt Go.RowKit

/-- Whether all deps are among versions. -/
def allIn (vs : List V) (ds : List D) : Bool := ds.all fun d => (cAt vs d.k d.t d.s).isSome
theorem has_chain {vs : List V} {ds : List D} (h : chainB vs = false) : cHas vs ds = false := by unfold cHas; rw [h]; rfl
theorem has_deps {vs : List V} {ds : List D} (h : depsOk ds = false) : cHas vs ds = false := by unfold cHas; rw [h]; simp
theorem has_yes {vs : List V} {ds : List D} (h : chainB vs = true) (hd : depsOk ds = true) : cHas vs ds = allIn vs ds := by unfold cHas allIn; rw [h, hd]; rfl
theorem allIn_step {vs : List V} {ds : List D} {k : Nat} (hk : k < ds.length) (h : allIn vs (ds.take k) = true) (hs : (cAt vs ds[k].k ds[k].t ds[k].s).isSome = true) : allIn vs (ds.take (k + 1)) = true := by
  unfold allIn at *; rw [takeD ds k hk, List.all_append, h]; simpa using hs
theorem allIn_bad {vs : List V} {ds : List D} {k : Nat} (hk : k < ds.length) (hs : (cAt vs ds[k].k ds[k].t ds[k].s).isSome = false) : allIn vs ds = false := by
  unfold allIn; rw [List.all_eq_false]; exact ⟨ds[k], List.getElem_mem hk, by rw [hs]; exact Bool.false_ne_true⟩

/-- Three cells that hold a dep. -/
def In3 (b x : Nat) (dk dt ds : Int) (W : World) : Prop := W.cell? ⟨b, x, none⟩ = some (.int .i64 dk) ∧ W.cell? ⟨b, x + 1, none⟩ = some (.int .i64 dt) ∧ W.cell? ⟨b, x + 2, none⟩ = some (.int .i64 ds)
theorem In3.mk {b x : Nat} {dk dt ds : Int} {W : World} (h0 : W.cell? ⟨b, x, none⟩ = some (.int .i64 dk)) (h1 : W.cell? ⟨b, x + 1, none⟩ = some (.int .i64 dt)) (h2 : W.cell? ⟨b, x + 2, none⟩ = some (.int .i64 ds)) : In3 b x dk dt ds W := ⟨h0, h1, h2⟩
theorem InD.new {w0 w : World} {b x y : Nat} {dk dt ds pk : Int} (h : InD w0 b x y dk dt ds pk w) (o : Obj) : InD w0 b x y dk dt ds pk (w.alloc o) := h.below ((Below.refl _ _).alloc (Nat.le_refl _) _)

theorem InD.new7 {w0 w : World} {b x y : Nat} {dk dt ds pk : Int} {v0 v1 v2 v3 v4 v5 v6 : Value} {o : Obj} (h : InD w0 b x y dk dt ds pk (w.alloc o)) (hb : b < w.heap.size) (h0 : w0.heap.size ≤ w.heap.size) : InD w0 b x y dk dt ds pk ((((((((w.alloc o).setCell ⟨w.heap.size, 0, none⟩ v0).setCell ⟨w.heap.size, 1, none⟩ v1).setCell ⟨w.heap.size, 2, none⟩ v2).setCell ⟨w.heap.size, 3, none⟩ v3).setCell ⟨w.heap.size, 4, none⟩ v4).setCell ⟨w.heap.size, 5, none⟩ v5).setCell ⟨w.heap.size, 6, none⟩ v6) := by
  have k : Below w.heap.size (w.alloc o) ((((((((w.alloc o).setCell ⟨w.heap.size, 0, none⟩ v0).setCell ⟨w.heap.size, 1, none⟩ v1).setCell ⟨w.heap.size, 2, none⟩ v2).setCell ⟨w.heap.size, 3, none⟩ v3).setCell ⟨w.heap.size, 4, none⟩ v4).setCell ⟨w.heap.size, 5, none⟩ v5).setCell ⟨w.heap.size, 6, none⟩ v6) := fill7_below (Below.refl _ _) (Nat.le_refl _)
  obtain ⟨h1, h4, h6, h7, h8, h9⟩ := h
  exact ⟨h1.trans (k.mono h0), Nat.lt_of_lt_of_le h4 k.size, (k.cell (p := ⟨b, _, none⟩) hb).trans h6, (k.cell (p := ⟨b, _, none⟩) hb).trans h7, (k.cell (p := ⟨b, _, none⟩) hb).trans h8, (k.cell (p := ⟨b, _, none⟩) hb).trans h9⟩

set_option maxHeartbeats 4000000 in
set_option maxRecDepth 100000 in
theorem sHasC_any (a : Option Addr) (cap : Nat) (vs : List V) (c : Option Addr) (cc : Nat) (ds : List D) (w : World) (hn : vs.length ≤ 1099511627776) (h : Vers w a vs) (hm : ds.length ≤ 1099511627776) (hd : Deps w c ds) :
    Calls Try.prog 45 #[.slice a vs.length cap, .slice c ds.length cc] w fun e w' => e = .returned (.bool (cHas vs ds)) ∧ Below w.heap.size w w' := by
  have hC := sChainOk_any a cap vs w hn h
  rcases hc : chainB vs with _ | _
  · have HN : Hid (cHas vs ds = false) := has_chain hc
    rw [hc] at hC
    clear h hc hd
    go_enter Try.func45, Try.ntmps45
    go_wp2_with fail
    refine hC.mono ?_
    rintro e w1 ⟨rfl, hb1⟩
    clear hC
    go_wp2_with fail
    go_ret
    exact ⟨by rw [HN.out]; rfl, hb1⟩
  have hD := fun W h => sDepsOk_any c cc ds W hm h
  rw [hc] at hC
  rcases hk : depsOk ds with _ | _
  · have HN : Hid (cHas vs ds = false) := has_deps hk
    rw [hk] at hD
    clear h hc hk
    go_enter Try.func45, Try.ntmps45
    go_wp2_with fail
    refine hC.mono ?_
    rintro e w1 ⟨rfl, hb1⟩
    clear hC
    go_wp2_with fail
    refine (hD _ (hd.below hb1)).mono ?_
    rintro e w2 ⟨rfl, hb2⟩
    clear hD
    go_wp2_with fail
    go_ret
    exact ⟨by rw [HN.out]; rfl, hb1.trans (hb2.mono hb1.size)⟩
  have HY : Hid (cHas vs ds = allIn vs ds) := has_yes hc hk
  rw [hk] at hD
  have HA : Hid (∀ k t s, atA vs k t s = cAt vs k t s) := fun k t s => atA_yes hc k t s
  clear hc hk
  go_enter Try.func45, Try.ntmps45
  go_wp2_with fail
  refine hC.mono ?_
  rintro e w1 ⟨rfl, hb1⟩
  clear hC
  go_wp2_with fail
  refine (hD _ (hd.below hb1)).mono ?_
  rintro e w2 ⟨rfl, hb2⟩
  have B2 : Below w.heap.size w w2 := hb1.trans (hb2.mono hb1.size)
  clear hD hb1 hb2
  go_wp2_with fail
  go_loopw [5] (fun i wr => ∃ k : Nat, k ≤ ds.length ∧ i = .int .i64 k ∧ Hid (allIn vs (ds.take k) = true) ∧ Below w.heap.size w wr) (fun i _ => ds.length - (intOf i).toNat)
  case atStart => exact ⟨0, Nat.zero_le _, rfl, rfl, B2⟩
  case round =>
    obtain ⟨k, hk, rfl, HI, hB⟩ := hrel
    clear B2 w1 w2
    by_cases hlt : k < ds.length
    · obtain ⟨b, o, rfl, hbb, e0, e1, e2⟩ := (hd.below hB).at hlt
      rcases hs : (cAt vs ds[k].k ds[k].t ds[k].s).isSome with _ | _
      · have HN : Hid (allIn vs ds = false) := allIn_bad hlt hs
        have hr : (atA vs ds[k].k ds[k].t ds[k].s).isSome = false := by rw [HA.out, hs]
        clear hs HI
        generalize ds[k] = y at *
        obtain ⟨dk, dt, dss⟩ := y
        simp only at e0 e1 e2 hr
        have R : InD w b (o + k * 3) (o + k * 3) dk dt dss dk wr := ⟨hB, hbb, e0, e1, e2, e0⟩
        have j0 : (0 : Int) ≤ (k : Int) := by omega
        have j1 : (k : Int) < (ds.length : Int) := by omega
        have s0 : Hid (wr.cell? ⟨b, o + k * 3, none⟩ = some (.int .i64 dk) ∧ wr.cell? ⟨b, o + k * 3 + 1, none⟩ = some (.int .i64 dt) ∧ wr.cell? ⟨b, o + k * 3 + 2, none⟩ = some (.int .i64 dss)) := In3.mk e0 e1 e2
        have R1 := InD.drew R
        have V1 := h.below R1.1
        have RA := R1.new (.cells #[.int .i64 0, .int .i64 0, .int .i64 0, .int .i64 0, .int .i64 0, .int .i64 0, .slice none 0 0] 28)
        have VA := h.below RA.1
        have sA : Hid ((wr.alloc (.cells #[.int .i64 0, .int .i64 0, .int .i64 0, .int .i64 0, .int .i64 0, .int .i64 0, .slice none 0 0] 28)).cell? ⟨b, o + k * 3, none⟩ = some (.int .i64 dk) ∧ (wr.alloc (.cells #[.int .i64 0, .int .i64 0, .int .i64 0, .int .i64 0, .int .i64 0, .int .i64 0, .slice none 0 0] 28)).cell? ⟨b, o + k * 3 + 1, none⟩ = some (.int .i64 dt) ∧ (wr.alloc (.cells #[.int .i64 0, .int .i64 0, .int .i64 0, .int .i64 0, .int .i64 0, .int .i64 0, .slice none 0 0] 28)).cell? ⟨b, o + k * 3 + 2, none⟩ = some (.int .i64 dss)) := ⟨RA.2.2.1, RA.2.2.2.1, RA.2.2.2.2.1⟩
        have ZA : Blk (wr.drew.alloc (.cells #[.int .i64 0, .int .i64 0, .int .i64 0, .int .i64 0, .int .i64 0, .int .i64 0, .slice none 0 0] 28)) wr.heap.size #[.int .i64 0, .int .i64 0, .int .i64 0, .int .i64 0, .int .i64 0, .int .i64 0, .slice none 0 0] 28 := Blk.new wr.drew _ _
        have lw : w.heap.size ≤ wr.heap.size := hB.size
        clear e0 e1 e2 hB
        go_wp2_with fail
        go_region_held3 (fun W => W.cell? ⟨b, o + k * 3, none⟩ = some (.int .i64 dk) ∧ W.cell? ⟨b, o + k * 3 + 1, none⟩ = some (.int .i64 dt) ∧ W.cell? ⟨b, o + k * 3 + 2, none⟩ = some (.int .i64 dss)) (first | (rw [s4.out.1, s4.out.2.1, s4.out.2.2]; exact ⟨rfl, rfl, rfl⟩) | (rw [s3.out.1, s3.out.2.1, s3.out.2.2]; exact ⟨rfl, rfl, rfl⟩) | (rw [s2.out.1, s2.out.2.1, s2.out.2.2]; exact ⟨rfl, rfl, rfl⟩) | exact sA.out | exact s0.out)
          (first | (go_at_call 41
                    refine (sAtV_any a cap vs dk dt dss _ hn ?hv).mono ?_
                    (case hv => exact V1)
                    rw [hr]
                    rintro e w3 ⟨u, pa, pc, Hu, rfl, hrow, hb3⟩
                    have R3 := R1.below hb3
                    have s2 : Hid (w3.cell? ⟨b, o + k * 3, none⟩ = some (.int .i64 dk) ∧ w3.cell? ⟨b, o + k * 3 + 1, none⟩ = some (.int .i64 dt) ∧ w3.cell? ⟨b, o + k * 3 + 2, none⟩ = some (.int .i64 dss)) := ⟨R3.2.2.1, R3.2.2.2.1, R3.2.2.2.2.1⟩
                    have R4 := R3.new (.cells #[.int .i64 0, .int .i64 0, .int .i64 0, .int .i64 0, .int .i64 0, .int .i64 0, .slice none 0 0] 28)
                    have s3 : Hid ((w3.alloc (.cells #[.int .i64 0, .int .i64 0, .int .i64 0, .int .i64 0, .int .i64 0, .int .i64 0, .slice none 0 0] 28)).cell? ⟨b, o + k * 3, none⟩ = some (.int .i64 dk) ∧ (w3.alloc (.cells #[.int .i64 0, .int .i64 0, .int .i64 0, .int .i64 0, .int .i64 0, .int .i64 0, .slice none 0 0] 28)).cell? ⟨b, o + k * 3 + 1, none⟩ = some (.int .i64 dt) ∧ (w3.alloc (.cells #[.int .i64 0, .int .i64 0, .int .i64 0, .int .i64 0, .int .i64 0, .int .i64 0, .slice none 0 0] 28)).cell? ⟨b, o + k * 3 + 2, none⟩ = some (.int .i64 dss)) := ⟨R4.2.2.1, R4.2.2.2.1, R4.2.2.2.2.1⟩
                    have R5 := R3.new (.cells #[.int .i64 u.k, .int .i64 u.t, .int .i64 u.s, .int .i64 u.val, .int .i64 u.cl, .int .i64 u.ca, .slice pa u.ds.length pc] 28)
                    have s4 : Hid ((w3.alloc (.cells #[.int .i64 u.k, .int .i64 u.t, .int .i64 u.s, .int .i64 u.val, .int .i64 u.cl, .int .i64 u.ca, .slice pa u.ds.length pc] 28)).cell? ⟨b, o + k * 3, none⟩ = some (.int .i64 dk) ∧ (w3.alloc (.cells #[.int .i64 u.k, .int .i64 u.t, .int .i64 u.s, .int .i64 u.val, .int .i64 u.cl, .int .i64 u.ca, .slice pa u.ds.length pc] 28)).cell? ⟨b, o + k * 3 + 1, none⟩ = some (.int .i64 dt) ∧ (w3.alloc (.cells #[.int .i64 u.k, .int .i64 u.t, .int .i64 u.s, .int .i64 u.val, .int .i64 u.cl, .int .i64 u.ca, .slice pa u.ds.length pc] 28)).cell? ⟨b, o + k * 3 + 2, none⟩ = some (.int .i64 dss)) := ⟨R5.2.2.1, R5.2.2.2.1, R5.2.2.2.2.1⟩
                    have B5 := R5.1
                    clear Hu hrow hb3 R3 R4 R5 V1 R1 R RA VA ZA sA)
                 | (go_at_call 41
                    refine (sAtV_any a cap vs dk dt dss _ hn ?hv).mono ?_
                    (case hv => exact VA)
                    rw [hr]
                    rintro e w3 ⟨u, pa, pc, Hu, rfl, hrow, hb3⟩
                    have R3 := RA.below hb3
                    have s2 : Hid (w3.cell? ⟨b, o + k * 3, none⟩ = some (.int .i64 dk) ∧ w3.cell? ⟨b, o + k * 3 + 1, none⟩ = some (.int .i64 dt) ∧ w3.cell? ⟨b, o + k * 3 + 2, none⟩ = some (.int .i64 dss)) := ⟨R3.2.2.1, R3.2.2.2.1, R3.2.2.2.2.1⟩
                    have Z3 := ZA.below hb3 ZA.lt
                    obtain ⟨zq, zf⟩ := Z3.rules
                    have k5 : Below wr.heap.size w3 (((((((w3.setCell ⟨wr.heap.size, 0, none⟩ (.int .i64 u.k)).setCell ⟨wr.heap.size, 1, none⟩ (.int .i64 u.t)).setCell ⟨wr.heap.size, 2, none⟩ (.int .i64 u.s)).setCell ⟨wr.heap.size, 3, none⟩ (.int .i64 u.val)).setCell ⟨wr.heap.size, 4, none⟩ (.int .i64 u.cl)).setCell ⟨wr.heap.size, 5, none⟩ (.int .i64 u.ca)).setCell ⟨wr.heap.size, 6, none⟩ (.slice pa u.ds.length pc)) := fill7_below (Below.refl _ _) (Nat.le_refl _)
                    have s4 : Hid ((((((((w3.setCell ⟨wr.heap.size, 0, none⟩ (.int .i64 u.k)).setCell ⟨wr.heap.size, 1, none⟩ (.int .i64 u.t)).setCell ⟨wr.heap.size, 2, none⟩ (.int .i64 u.s)).setCell ⟨wr.heap.size, 3, none⟩ (.int .i64 u.val)).setCell ⟨wr.heap.size, 4, none⟩ (.int .i64 u.cl)).setCell ⟨wr.heap.size, 5, none⟩ (.int .i64 u.ca)).setCell ⟨wr.heap.size, 6, none⟩ (.slice pa u.ds.length pc)).cell? ⟨b, o + k * 3, none⟩ = some (.int .i64 dk) ∧ (((((((w3.setCell ⟨wr.heap.size, 0, none⟩ (.int .i64 u.k)).setCell ⟨wr.heap.size, 1, none⟩ (.int .i64 u.t)).setCell ⟨wr.heap.size, 2, none⟩ (.int .i64 u.s)).setCell ⟨wr.heap.size, 3, none⟩ (.int .i64 u.val)).setCell ⟨wr.heap.size, 4, none⟩ (.int .i64 u.cl)).setCell ⟨wr.heap.size, 5, none⟩ (.int .i64 u.ca)).setCell ⟨wr.heap.size, 6, none⟩ (.slice pa u.ds.length pc)).cell? ⟨b, o + k * 3 + 1, none⟩ = some (.int .i64 dt) ∧ (((((((w3.setCell ⟨wr.heap.size, 0, none⟩ (.int .i64 u.k)).setCell ⟨wr.heap.size, 1, none⟩ (.int .i64 u.t)).setCell ⟨wr.heap.size, 2, none⟩ (.int .i64 u.s)).setCell ⟨wr.heap.size, 3, none⟩ (.int .i64 u.val)).setCell ⟨wr.heap.size, 4, none⟩ (.int .i64 u.cl)).setCell ⟨wr.heap.size, 5, none⟩ (.int .i64 u.ca)).setCell ⟨wr.heap.size, 6, none⟩ (.slice pa u.ds.length pc)).cell? ⟨b, o + k * 3 + 2, none⟩ = some (.int .i64 dss)) := ⟨(k5.cell (p := ⟨b, _, none⟩) hbb).trans s2.out.1, (k5.cell (p := ⟨b, _, none⟩) hbb).trans s2.out.2.1, (k5.cell (p := ⟨b, _, none⟩) hbb).trans s2.out.2.2⟩
                    have B5 := R3.1.trans (k5.mono lw)
                    clear Hu hrow hb3 R3 V1 R1 R RA VA ZA sA k5))
        all_goals
          try clear s4
          try clear s3
          clear s0 s2
          go_wp2
          go_ret
          exact ⟨by rw [HY.out, HN.out]; rfl, B5⟩
      · have HO : Hid (allIn vs (ds.take (k + 1)) = true) := allIn_step hlt HI.out hs
        have hr : (atA vs ds[k].k ds[k].t ds[k].s).isSome = true := by rw [HA.out, hs]
        clear hs HI
        generalize ds[k] = y at *
        obtain ⟨dk, dt, dss⟩ := y
        simp only at e0 e1 e2 hr
        have R : InD w b (o + k * 3) (o + k * 3) dk dt dss dk wr := ⟨hB, hbb, e0, e1, e2, e0⟩
        have j0 : (0 : Int) ≤ (k : Int) := by omega
        have j1 : (k : Int) < (ds.length : Int) := by omega
        have s0 : Hid (wr.cell? ⟨b, o + k * 3, none⟩ = some (.int .i64 dk) ∧ wr.cell? ⟨b, o + k * 3 + 1, none⟩ = some (.int .i64 dt) ∧ wr.cell? ⟨b, o + k * 3 + 2, none⟩ = some (.int .i64 dss)) := In3.mk e0 e1 e2
        have R1 := InD.drew R
        have V1 := h.below R1.1
        have RA := R1.new (.cells #[.int .i64 0, .int .i64 0, .int .i64 0, .int .i64 0, .int .i64 0, .int .i64 0, .slice none 0 0] 28)
        have VA := h.below RA.1
        have sA : Hid ((wr.alloc (.cells #[.int .i64 0, .int .i64 0, .int .i64 0, .int .i64 0, .int .i64 0, .int .i64 0, .slice none 0 0] 28)).cell? ⟨b, o + k * 3, none⟩ = some (.int .i64 dk) ∧ (wr.alloc (.cells #[.int .i64 0, .int .i64 0, .int .i64 0, .int .i64 0, .int .i64 0, .int .i64 0, .slice none 0 0] 28)).cell? ⟨b, o + k * 3 + 1, none⟩ = some (.int .i64 dt) ∧ (wr.alloc (.cells #[.int .i64 0, .int .i64 0, .int .i64 0, .int .i64 0, .int .i64 0, .int .i64 0, .slice none 0 0] 28)).cell? ⟨b, o + k * 3 + 2, none⟩ = some (.int .i64 dss)) := ⟨RA.2.2.1, RA.2.2.2.1, RA.2.2.2.2.1⟩
        have ZA : Blk (wr.drew.alloc (.cells #[.int .i64 0, .int .i64 0, .int .i64 0, .int .i64 0, .int .i64 0, .int .i64 0, .slice none 0 0] 28)) wr.heap.size #[.int .i64 0, .int .i64 0, .int .i64 0, .int .i64 0, .int .i64 0, .int .i64 0, .slice none 0 0] 28 := Blk.new wr.drew _ _
        have lw : w.heap.size ≤ wr.heap.size := hB.size
        clear e0 e1 e2 hB
        go_wp2_with fail
        go_region_held3 (fun W => W.cell? ⟨b, o + k * 3, none⟩ = some (.int .i64 dk) ∧ W.cell? ⟨b, o + k * 3 + 1, none⟩ = some (.int .i64 dt) ∧ W.cell? ⟨b, o + k * 3 + 2, none⟩ = some (.int .i64 dss)) (first | (rw [s4.out.1, s4.out.2.1, s4.out.2.2]; exact ⟨rfl, rfl, rfl⟩) | (rw [s3.out.1, s3.out.2.1, s3.out.2.2]; exact ⟨rfl, rfl, rfl⟩) | (rw [s2.out.1, s2.out.2.1, s2.out.2.2]; exact ⟨rfl, rfl, rfl⟩) | exact sA.out | exact s0.out)
          (first | (go_at_call 41
                    refine (sAtV_any a cap vs dk dt dss _ hn ?hv).mono ?_
                    (case hv => exact V1)
                    rw [hr]
                    rintro e w3 ⟨u, pa, pc, Hu, rfl, hrow, hb3⟩
                    have R3 := R1.below hb3
                    have s2 : Hid (w3.cell? ⟨b, o + k * 3, none⟩ = some (.int .i64 dk) ∧ w3.cell? ⟨b, o + k * 3 + 1, none⟩ = some (.int .i64 dt) ∧ w3.cell? ⟨b, o + k * 3 + 2, none⟩ = some (.int .i64 dss)) := ⟨R3.2.2.1, R3.2.2.2.1, R3.2.2.2.2.1⟩
                    have R4 := R3.new (.cells #[.int .i64 0, .int .i64 0, .int .i64 0, .int .i64 0, .int .i64 0, .int .i64 0, .slice none 0 0] 28)
                    have s3 : Hid ((w3.alloc (.cells #[.int .i64 0, .int .i64 0, .int .i64 0, .int .i64 0, .int .i64 0, .int .i64 0, .slice none 0 0] 28)).cell? ⟨b, o + k * 3, none⟩ = some (.int .i64 dk) ∧ (w3.alloc (.cells #[.int .i64 0, .int .i64 0, .int .i64 0, .int .i64 0, .int .i64 0, .int .i64 0, .slice none 0 0] 28)).cell? ⟨b, o + k * 3 + 1, none⟩ = some (.int .i64 dt) ∧ (w3.alloc (.cells #[.int .i64 0, .int .i64 0, .int .i64 0, .int .i64 0, .int .i64 0, .int .i64 0, .slice none 0 0] 28)).cell? ⟨b, o + k * 3 + 2, none⟩ = some (.int .i64 dss)) := ⟨R4.2.2.1, R4.2.2.2.1, R4.2.2.2.2.1⟩
                    have R5 := R3.new (.cells #[.int .i64 u.k, .int .i64 u.t, .int .i64 u.s, .int .i64 u.val, .int .i64 u.cl, .int .i64 u.ca, .slice pa u.ds.length pc] 28)
                    have s4 : Hid ((w3.alloc (.cells #[.int .i64 u.k, .int .i64 u.t, .int .i64 u.s, .int .i64 u.val, .int .i64 u.cl, .int .i64 u.ca, .slice pa u.ds.length pc] 28)).cell? ⟨b, o + k * 3, none⟩ = some (.int .i64 dk) ∧ (w3.alloc (.cells #[.int .i64 u.k, .int .i64 u.t, .int .i64 u.s, .int .i64 u.val, .int .i64 u.cl, .int .i64 u.ca, .slice pa u.ds.length pc] 28)).cell? ⟨b, o + k * 3 + 1, none⟩ = some (.int .i64 dt) ∧ (w3.alloc (.cells #[.int .i64 u.k, .int .i64 u.t, .int .i64 u.s, .int .i64 u.val, .int .i64 u.cl, .int .i64 u.ca, .slice pa u.ds.length pc] 28)).cell? ⟨b, o + k * 3 + 2, none⟩ = some (.int .i64 dss)) := ⟨R5.2.2.1, R5.2.2.2.1, R5.2.2.2.2.1⟩
                    have B5 := R5.1
                    clear Hu hrow hb3 R3 R4 R5 V1 R1 R RA VA ZA sA)
                 | (go_at_call 41
                    refine (sAtV_any a cap vs dk dt dss _ hn ?hv).mono ?_
                    (case hv => exact VA)
                    rw [hr]
                    rintro e w3 ⟨u, pa, pc, Hu, rfl, hrow, hb3⟩
                    have R3 := RA.below hb3
                    have s2 : Hid (w3.cell? ⟨b, o + k * 3, none⟩ = some (.int .i64 dk) ∧ w3.cell? ⟨b, o + k * 3 + 1, none⟩ = some (.int .i64 dt) ∧ w3.cell? ⟨b, o + k * 3 + 2, none⟩ = some (.int .i64 dss)) := ⟨R3.2.2.1, R3.2.2.2.1, R3.2.2.2.2.1⟩
                    have Z3 := ZA.below hb3 ZA.lt
                    obtain ⟨zq, zf⟩ := Z3.rules
                    have k5 : Below wr.heap.size w3 (((((((w3.setCell ⟨wr.heap.size, 0, none⟩ (.int .i64 u.k)).setCell ⟨wr.heap.size, 1, none⟩ (.int .i64 u.t)).setCell ⟨wr.heap.size, 2, none⟩ (.int .i64 u.s)).setCell ⟨wr.heap.size, 3, none⟩ (.int .i64 u.val)).setCell ⟨wr.heap.size, 4, none⟩ (.int .i64 u.cl)).setCell ⟨wr.heap.size, 5, none⟩ (.int .i64 u.ca)).setCell ⟨wr.heap.size, 6, none⟩ (.slice pa u.ds.length pc)) := fill7_below (Below.refl _ _) (Nat.le_refl _)
                    have s4 : Hid ((((((((w3.setCell ⟨wr.heap.size, 0, none⟩ (.int .i64 u.k)).setCell ⟨wr.heap.size, 1, none⟩ (.int .i64 u.t)).setCell ⟨wr.heap.size, 2, none⟩ (.int .i64 u.s)).setCell ⟨wr.heap.size, 3, none⟩ (.int .i64 u.val)).setCell ⟨wr.heap.size, 4, none⟩ (.int .i64 u.cl)).setCell ⟨wr.heap.size, 5, none⟩ (.int .i64 u.ca)).setCell ⟨wr.heap.size, 6, none⟩ (.slice pa u.ds.length pc)).cell? ⟨b, o + k * 3, none⟩ = some (.int .i64 dk) ∧ (((((((w3.setCell ⟨wr.heap.size, 0, none⟩ (.int .i64 u.k)).setCell ⟨wr.heap.size, 1, none⟩ (.int .i64 u.t)).setCell ⟨wr.heap.size, 2, none⟩ (.int .i64 u.s)).setCell ⟨wr.heap.size, 3, none⟩ (.int .i64 u.val)).setCell ⟨wr.heap.size, 4, none⟩ (.int .i64 u.cl)).setCell ⟨wr.heap.size, 5, none⟩ (.int .i64 u.ca)).setCell ⟨wr.heap.size, 6, none⟩ (.slice pa u.ds.length pc)).cell? ⟨b, o + k * 3 + 1, none⟩ = some (.int .i64 dt) ∧ (((((((w3.setCell ⟨wr.heap.size, 0, none⟩ (.int .i64 u.k)).setCell ⟨wr.heap.size, 1, none⟩ (.int .i64 u.t)).setCell ⟨wr.heap.size, 2, none⟩ (.int .i64 u.s)).setCell ⟨wr.heap.size, 3, none⟩ (.int .i64 u.val)).setCell ⟨wr.heap.size, 4, none⟩ (.int .i64 u.cl)).setCell ⟨wr.heap.size, 5, none⟩ (.int .i64 u.ca)).setCell ⟨wr.heap.size, 6, none⟩ (.slice pa u.ds.length pc)).cell? ⟨b, o + k * 3 + 2, none⟩ = some (.int .i64 dss)) := ⟨(k5.cell (p := ⟨b, _, none⟩) hbb).trans s2.out.1, (k5.cell (p := ⟨b, _, none⟩) hbb).trans s2.out.2.1, (k5.cell (p := ⟨b, _, none⟩) hbb).trans s2.out.2.2⟩
                    have B5 := R3.1.trans (k5.mono lw)
                    clear Hu hrow hb3 R3 V1 R1 R RA VA ZA sA k5))
        all_goals
          try clear s4
          try clear s3
          clear s0 s2
          go_wp2
          go_roundw
          case rel => exact ⟨k + 1, by omega, by go_num, HO, B5⟩
          case measure => simp [intOf]; omega
    · have hk2 : k = ds.length := by omega
      subst hk2
      rw [List.take_length] at HI
      go_wp2
      go_ret
      exact ⟨by rw [HY.out, HI.out]; rfl, hB⟩
end Go.Proofs.Ytgdkoangpinieaa

/- The place of a stamp in the map. -/
namespace Go.Proofs.Ytgdkoangpinieaa
open Go.ChangeShapes Go.WideShapes Go.ChangeAt Go.RowKit

/-- What lies at a key. -/
theorem Chm.at {w : World} {base b n : Nat} {f : Int → List XV} {g : Int → Value} (h : Chm w base b n f g) (key : Int) {gs : List V} (hgs : (f key).map XV.v = gs) (hgood : ∀ x ∈ f key, GoodX w x) : ∃ ga gc, g key = .slice ga gs.length gc ∧ Vers w ga gs := by
  obtain ⟨ga, gc, h1, h2, _⟩ := vers_of_row (h.row key) hgood
  subst hgs
  exact ⟨ga, gc, by rw [h1, List.length_map], h2⟩

set_option maxHeartbeats 1000000 in
theorem place_any (W : World) (base b n : Nat) (f : Int → List XV) (g : Int → Value) (key t s : Int) (gs : List V) (hM : Chm W base b n f g) (hwf : (Lit.int .i64 key).wf = true) (hgs : (f key).map XV.v = gs) (ha : gs.Pairwise (fun a b => lessB a.t a.s b.t b.s = true)) (hl : gs.length ≤ 100) (hgood : ∀ x ∈ f key, GoodX W x) :
    Calls Try.prog 112 #[.map (some b), .int .i64 key, stampV t s] W fun e w' => e = .returned (.tuple #[.int .i64 (plc gs t s), .bool (thr gs t s)]) ∧ Below W.heap.size W w' := by
  have b0 : Below W.heap.size W (W.alloc (.cells #[.int .i64 t, .int .i64 s] 25)) := (Below.refl _ W).alloc (Nat.le_refl _) _
  have M1 := hM.below b0
  have hlook := M1.look hwf
  obtain ⟨ga, gc, hg, hV⟩ := M1.at key hgs (fun x hx => (hgood x hx).below b0)
  rw [hg] at hlook
  have hP := placeOf_any ga gc gs t s _ hl ha hV
  clear hg hV M1 hM hgood hgs
  generalize plc gs t s = p at *
  generalize thr gs t s = r at *
  go_enter Try.func112, Try.ntmps112
  go_wp2_with fail
  refine hP.mono ?_
  rintro e w1 ⟨rfl, hb1⟩
  clear hP hlook
  go_wp2_with fail
  go_ret2
  exact ⟨rfl, b0.trans (hb1.mono b0.size)⟩

theorem top_at {vs : List V} {key : Int} {gs : List V} (hg : grp vs key = gs) (h : 0 < gs.length) : cTop vs key = some (gs[gs.length - 1]'(by omega)) := by
  rw [top_grp, hg, List.getLast?_eq_getElem?, List.getElem?_eq_getElem (by omega)]
theorem top_none {vs : List V} {key : Int} (hg : grp vs key = []) : cTop vs key = none := by rw [top_grp, hg]; rfl
end Go.Proofs.Ytgdkoangpinieaa

