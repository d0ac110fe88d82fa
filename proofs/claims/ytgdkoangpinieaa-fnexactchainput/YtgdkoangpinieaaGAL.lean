/- 2 texts in one: IPutM, IPutC. -/
import Derived.Test.YtgdkoangpinieaaInsertG
import Derived.Test.YtgdkoangpinieaaIAtV
import Derived.Test.YtgdkoangpinieaaGAP
import Derived.Test.YtgdkoangpinieaaSPutC
/- The program puts a version into the map. -/
namespace Go.Proofs.Ytgdkoangpinieaa
open Go.ChangeShapes Go.WideShapes Go.ChangeAt Go.RowKit

theorem insert_any (base i vb : Nat) (v : Value) (xs : List XV) (x : XV) (w : World) (hown : w.ownsRow base 28 7 v xs.length (flat7 xs)) (hn : xs.length ≤ 100) (hi : i ≤ xs.length) (hb : base ≤ w.heap.size) (hvb : v.ownBlock ≠ some vb)
    (hB : Blk w vb #[.int .i64 x.v.k, .int .i64 x.v.t, .int .i64 x.v.s, .int .i64 x.v.val, .int .i64 x.v.cl, .int .i64 x.v.ca, x.p] 28) (h1 : ∀ y ∈ xs, y.p.oneCell' = true) (h1x : x.p.oneCell' = true) :
    Calls Try.prog 164 #[v, .int .i64 i, .slice (some ⟨vb, 0, none⟩) 1 1] w fun e w' => ∃ v', e = .returned v' ∧ w'.ownsRow base 28 7 v' (xs.take i ++ x :: xs.drop i).length (flat7 (xs.take i ++ x :: xs.drop i)) ∧ w.grownBy w' v.ownBlock ∧ (v'.ownBlock = v.ownBlock ∨ ∃ j, v'.ownBlock = some j ∧ w.heap.size ≤ j) := by
  have hl : (xs.take i ++ x :: xs.drop i).length = xs.length + 1 := by simp only [List.length_append, List.length_cons, List.length_take, List.length_drop]; rw [Nat.min_eq_left hi]; omega
  rw [hl]
  have hfl : (flat7 (xs.take i ++ x :: xs.drop i)).length = (xs.length + 1) * 7 := by rw [flat7_len, hl]
  by_cases he : i = xs.length
  · subst he
    refine (insert_end base vb v xs x w hown hn hb hB h1x).mono ?_
    rintro e w' ⟨v', rfl, hr, hg, hloc⟩
    refine ⟨v', rfl, ?_, hg, hloc⟩
    rw [List.take_length, List.drop_length, flat7_append]; exact hr
  · have hi2 : i < xs.length := by omega
    rcases hown.2 with ⟨_, h0⟩ | ⟨g, cap, cur, rfl, hbg, hg, hnc, hcm, hcs, ht⟩
    · omega
    · by_cases hroom : xs.length + 1 ≤ cap
      · refine (insert_shift g xs.length cap i vb cur xs x w hi2 hroom hcm (fun e => hvb (by rw [e]; rfl)) hg hcs ht rfl hB h1 h1x).mono ?_
        rintro e w' ⟨rfl, ⟨cur', k1, k2, k3⟩, hgr⟩
        exact ⟨_, rfl, ⟨hfl, .inr ⟨g, cap, cur', rfl, hbg, k1, hroom, hcm, k2, k3⟩⟩, hgr, .inl rfl⟩
      · refine (insert_grow g xs.length cap i vb cur xs x w hi2 hn (by omega) hnc hg ht rfl hB h1 h1x).mono ?_
        rintro e w' ⟨G, cur', rfl, k0, k4, k1, k2, k3, hgr⟩
        exact ⟨_, rfl, ⟨hfl, .inr ⟨w.heap.size, G, cur', rfl, hb, k1, k0, k4, k2, k3⟩⟩, ⟨hgr.os, hgr.tape, hgr.output, hgr.size, fun k hk _ => hgr.block k hk (by simp)⟩, .inr ⟨_, rfl, Nat.le_refl _⟩⟩

set_option maxHeartbeats 4000000 in
set_option maxRecDepth 100000 in
theorem put_there (W : World) (base b n : Nat) (f : Int → List XV) (g : Int → Value) (v : V) (da : Option Addr) (dc : Nat) (gs : List V) (hM : Chm W base b n f g) (hok : okV v = true) (hgs : (f v.k).map XV.v = gs) (ha : gs.Pairwise (fun a b => lessB a.t a.s b.t b.s = true)) (hl : gs.length ≤ 80) (hgood : ∀ x ∈ f v.k, GoodX W x) (hth : thr gs v.t v.s = true) :
    Calls Try.prog 100 #[.map (some b), verV v.k v.t v.s v.val v.cl v.ca da v.ds.length dc] W fun e w' => e = .returned (.bool false) ∧ Below W.heap.size W w' := by
  obtain ⟨k0, k5⟩ := okV_key hok
  have wf := wf_key k0 k5
  have b0 : Below W.heap.size W (W.alloc (.cells #[.int .i64 v.k, .int .i64 v.t, .int .i64 v.s, .int .i64 v.val, .int .i64 v.cl, .int .i64 v.ca, .slice da v.ds.length dc] 28)) := (Below.refl _ W).alloc (Nat.le_refl _) _
  have hP := place_any _ base b n f g v.k v.t v.s gs (hM.below b0) wf hgs ha (by omega) (fun x hx => (hgood x hx).below b0)
  rw [hth] at hP
  clear hM hgood hgs ha hth
  generalize plc gs v.t v.s = p at *
  go_enter Try.func100, Try.ntmps100
  go_wp2_with fail
  refine hP.mono ?_
  rintro e w1 ⟨rfl, hb1⟩
  clear hP
  go_wp2_with fail
  go_ret
  exact ⟨rfl, b0.trans (hb1.mono b0.size)⟩

set_option maxHeartbeats 4000000 in
set_option maxRecDepth 100000 in
theorem put_new (W : World) (base b n : Nat) (f : Int → List XV) (g : Int → Value) (v : V) (da : Option Addr) (dc : Nat) (gs : List V) (hM : Chm W base b n f g) (hok : okV v = true) (hgs : (f v.k).map XV.v = gs) (ha : gs.Pairwise (fun a b => lessB a.t a.s b.t b.s = true)) (hl : gs.length ≤ 80) (hgood : ∀ x ∈ f v.k, GoodX W x) (hth : thr gs v.t v.s = false) (hn : n ≤ 100) (hbase : base ≤ b) (hbW : base ≤ W.heap.size) :
    Calls Try.prog 100 #[.map (some b), verV v.k v.t v.s v.val v.cl v.ca da v.ds.length dc] W fun e w' => ∃ u, e = .returned (.bool true) ∧ Chm w' base b (n + 1) (upd f v.k ((f v.k).take (plc gs v.t v.s) ++ XV.mk v (.slice da v.ds.length dc) :: (f v.k).drop (plc gs v.t v.s))) (upd g v.k u) ∧ Below base W w' := by
  obtain ⟨k0, k5⟩ := okV_key hok
  have wf := wf_key k0 k5
  have b0 : Below W.heap.size W (W.alloc (.cells #[.int .i64 v.k, .int .i64 v.t, .int .i64 v.s, .int .i64 v.val, .int .i64 v.cl, .int .i64 v.ca, .slice da v.ds.length dc] 28)) := (Below.refl _ W).alloc (Nat.le_refl _) _
  have hP := place_any _ base b n f g v.k v.t v.s gs (hM.below b0) wf hgs ha (by omega) (fun x hx => (hgood x hx).below b0)
  rw [hth] at hP
  have hpl := plc_le gs v.t v.s
  have hfl : (f v.k).length = gs.length := by rw [← hgs, List.length_map]
  have h1 : ∀ y ∈ f v.k, y.p.oneCell' = true := fun y hy => (hgood y hy).one
  have hgb : ∀ j, (g v.k).ownBlock = some j → j < W.heap.size := fun j hj => ((hM.row v.k).lt j hj).2
  have HBW : Hid (base ≤ W.heap.size) := hbW
  rw [← hfl] at hl hpl
  clear hgood hgs ha hth hfl hok
  generalize plc gs v.t v.s = p at *
  have N1 := Blk.new W #[.int .i64 v.k, .int .i64 v.t, .int .i64 v.s, .int .i64 v.val, .int .i64 v.cl, .int .i64 v.ca, .slice da v.ds.length dc] 28
  go_enter Try.func100, Try.ntmps100
  go_wp2_with fail
  refine hP.mono ?_
  rintro e W0 ⟨rfl, hb1⟩
  have M0 := (hM.below b0).below hb1
  have N0 := N1.below hb1 N1.lt
  have B0 : Below W.heap.size W W0 := b0.trans (hb1.mono b0.size)
  have lL := N0.lt
  clear hP N1 hb1 hM
  obtain ⟨qn, fn⟩ := N0.rules
  go_wp2_with fail
  clear qn fn
  generalize hLB : W.heap.size = LB at *
  have HLB : Hid (W.heap.size = LB) := hLB
  clear hLB
  have g1 := M0.look wf
  have g2 : (Instr.lookup 113 (.map (some b)) (.int .i64 v.k) false).run Try.prog W0.drew = .ok (g v.k) W0.drew := (M0.below (Below.refl _ W0).drew).look wf
  have g3 : (Instr.lookup 113 (.map (some b)) (.int .i64 v.k) false).run Try.prog (W0.drew.alloc (.cells #[.int .i64 v.k, .int .i64 v.t, .int .i64 v.s, .int .i64 v.val, .int .i64 v.cl, .int .i64 v.ca, .slice da v.ds.length dc] 28)) = .ok (g v.k) (W0.drew.alloc (.cells #[.int .i64 v.k, .int .i64 v.t, .int .i64 v.s, .int .i64 v.val, .int .i64 v.cl, .int .i64 v.ca, .slice da v.ds.length dc] 28)) := (M0.below ((Below.refl _ W0).drew.alloc (Nat.le_refl _) (.cells #[.int .i64 v.k, .int .i64 v.t, .int .i64 v.s, .int .i64 v.val, .int .i64 v.cl, .int .i64 v.ca, .slice da v.ds.length dc] 28))).look wf
  have g4 : (Instr.lookup 113 (.map (some b)) (.int .i64 v.k) false).run Try.prog (W0.alloc (.cells #[.int .i64 v.k, .int .i64 v.t, .int .i64 v.s, .int .i64 v.val, .int .i64 v.cl, .int .i64 v.ca, .slice da v.ds.length dc] 28)).drew = .ok (g v.k) (W0.alloc (.cells #[.int .i64 v.k, .int .i64 v.t, .int .i64 v.s, .int .i64 v.val, .int .i64 v.cl, .int .i64 v.ca, .slice da v.ds.length dc] 28)).drew := (M0.below ((Below.refl _ W0).alloc (Nat.le_refl _) (.cells #[.int .i64 v.k, .int .i64 v.t, .int .i64 v.s, .int .i64 v.val, .int .i64 v.cl, .int .i64 v.ca, .slice da v.ds.length dc] 28)).drew).look wf
  have g5 : (Instr.lookup 113 (.map (some b)) (.int .i64 v.k) false).run Try.prog (W0.alloc (.cells #[.int .i64 v.k, .int .i64 v.t, .int .i64 v.s, .int .i64 v.val, .int .i64 v.cl, .int .i64 v.ca, .slice da v.ds.length dc] 28)) = .ok (g v.k) (W0.alloc (.cells #[.int .i64 v.k, .int .i64 v.t, .int .i64 v.s, .int .i64 v.val, .int .i64 v.cl, .int .i64 v.ca, .slice da v.ds.length dc] 28)) := (M0.below ((Below.refl _ W0).alloc (Nat.le_refl _) (.cells #[.int .i64 v.k, .int .i64 v.t, .int .i64 v.s, .int .i64 v.val, .int .i64 v.cl, .int .i64 v.ca, .slice da v.ds.length dc] 28))).look wf
  have rA : (W0.drew.alloc (.cells #[.int .i64 v.k, .int .i64 v.t, .int .i64 v.s, .int .i64 v.val, .int .i64 v.cl, .int .i64 v.ca, .slice da v.ds.length dc] 28)).ownsRow base 28 7 (g v.k) (f v.k).length (flat7 (f v.k)) := (M0.below ((Below.refl _ W0).drew.alloc (Nat.le_refl _) (.cells #[.int .i64 v.k, .int .i64 v.t, .int .i64 v.s, .int .i64 v.val, .int .i64 v.cl, .int .i64 v.ca, .slice da v.ds.length dc] 28))).row v.k
  have NA : Blk (W0.drew.alloc (.cells #[.int .i64 v.k, .int .i64 v.t, .int .i64 v.s, .int .i64 v.val, .int .i64 v.cl, .int .i64 v.ca, .slice da v.ds.length dc] 28)) W0.heap.size #[.int .i64 v.k, .int .i64 v.t, .int .i64 v.s, .int .i64 v.val, .int .i64 v.cl, .int .i64 v.ca, .slice da v.ds.length dc] 28 := Blk.new W0.drew #[.int .i64 v.k, .int .i64 v.t, .int .i64 v.s, .int .i64 v.val, .int .i64 v.cl, .int .i64 v.ca, .slice da v.ds.length dc] 28
  have s0 : Hid (W0.cell? ⟨LB, 0, none⟩ = some (.int .i64 v.k) ∧ W0.cell? ⟨LB, 1, none⟩ = some (.int .i64 v.t) ∧ W0.cell? ⟨LB, 2, none⟩ = some (.int .i64 v.s) ∧ W0.cell? ⟨LB, 3, none⟩ = some (.int .i64 v.val) ∧ W0.cell? ⟨LB, 4, none⟩ = some (.int .i64 v.cl) ∧ W0.cell? ⟨LB, 5, none⟩ = some (.int .i64 v.ca) ∧ W0.cell? ⟨LB, 6, none⟩ = some (.slice da v.ds.length dc)) := by
    obtain ⟨q, _⟩ := N0.rules
    exact ⟨q 0, q 1, q 2, q 3, q 4, q 5, q 6⟩
  have N1 := N0.below ((Below.refl _ W0).drew.alloc (Nat.le_refl _) (.cells #[.int .i64 v.k, .int .i64 v.t, .int .i64 v.s, .int .i64 v.val, .int .i64 v.cl, .int .i64 v.ca, .slice da v.ds.length dc] 28)) lL
  have sA : Hid ((W0.alloc (.cells #[.int .i64 v.k, .int .i64 v.t, .int .i64 v.s, .int .i64 v.val, .int .i64 v.cl, .int .i64 v.ca, .slice da v.ds.length dc] 28)).cell? ⟨LB, 0, none⟩ = some (.int .i64 v.k) ∧ (W0.alloc (.cells #[.int .i64 v.k, .int .i64 v.t, .int .i64 v.s, .int .i64 v.val, .int .i64 v.cl, .int .i64 v.ca, .slice da v.ds.length dc] 28)).cell? ⟨LB, 1, none⟩ = some (.int .i64 v.t) ∧ (W0.alloc (.cells #[.int .i64 v.k, .int .i64 v.t, .int .i64 v.s, .int .i64 v.val, .int .i64 v.cl, .int .i64 v.ca, .slice da v.ds.length dc] 28)).cell? ⟨LB, 2, none⟩ = some (.int .i64 v.s) ∧ (W0.alloc (.cells #[.int .i64 v.k, .int .i64 v.t, .int .i64 v.s, .int .i64 v.val, .int .i64 v.cl, .int .i64 v.ca, .slice da v.ds.length dc] 28)).cell? ⟨LB, 3, none⟩ = some (.int .i64 v.val) ∧ (W0.alloc (.cells #[.int .i64 v.k, .int .i64 v.t, .int .i64 v.s, .int .i64 v.val, .int .i64 v.cl, .int .i64 v.ca, .slice da v.ds.length dc] 28)).cell? ⟨LB, 4, none⟩ = some (.int .i64 v.cl) ∧ (W0.alloc (.cells #[.int .i64 v.k, .int .i64 v.t, .int .i64 v.s, .int .i64 v.val, .int .i64 v.cl, .int .i64 v.ca, .slice da v.ds.length dc] 28)).cell? ⟨LB, 5, none⟩ = some (.int .i64 v.ca) ∧ (W0.alloc (.cells #[.int .i64 v.k, .int .i64 v.t, .int .i64 v.s, .int .i64 v.val, .int .i64 v.cl, .int .i64 v.ca, .slice da v.ds.length dc] 28)).cell? ⟨LB, 6, none⟩ = some (.slice da v.ds.length dc)) := by
    obtain ⟨q, _⟩ := N1.rules
    exact ⟨q 0, q 1, q 2, q 3, q 4, q 5, q 6⟩
  have hb0 : base ≤ W0.heap.size := by have := HBW.out; have := B0.size; omega
  have sB : base ≤ (W0.drew.alloc (.cells #[.int .i64 v.k, .int .i64 v.t, .int .i64 v.s, .int .i64 v.val, .int .i64 v.cl, .int .i64 v.ca, .slice da v.ds.length dc] 28)).heap.size := Nat.le_trans hb0 (by simp)
  have hnv : (g v.k).ownBlock ≠ some W0.heap.size := fun e => by have := hgb _ e; omega
  go_region_held3 (fun W => W.cell? ⟨LB, 0, none⟩ = some (.int .i64 v.k) ∧ W.cell? ⟨LB, 1, none⟩ = some (.int .i64 v.t) ∧ W.cell? ⟨LB, 2, none⟩ = some (.int .i64 v.s) ∧ W.cell? ⟨LB, 3, none⟩ = some (.int .i64 v.val) ∧ W.cell? ⟨LB, 4, none⟩ = some (.int .i64 v.cl) ∧ W.cell? ⟨LB, 5, none⟩ = some (.int .i64 v.ca) ∧ W.cell? ⟨LB, 6, none⟩ = some (.slice da v.ds.length dc)) (first | (rw [s3.out.1, s3.out.2.1, s3.out.2.2.1, s3.out.2.2.2.1, s3.out.2.2.2.2.1, s3.out.2.2.2.2.2.1, s3.out.2.2.2.2.2.2]; exact ⟨rfl, rfl, rfl, rfl, rfl, rfl, rfl⟩) | (rw [s2.out.1, s2.out.2.1, s2.out.2.2.1, s2.out.2.2.2.1, s2.out.2.2.2.2.1, s2.out.2.2.2.2.2.1, s2.out.2.2.2.2.2.2]; exact ⟨rfl, rfl, rfl, rfl, rfl, rfl, rfl⟩) | exact sA.out | exact s0.out)
    (first
      | (go_at_call 164
         refine (insert_any base p W0.heap.size (g v.k) (f v.k) ⟨v, .slice da v.ds.length dc⟩ _ ?ha (by omega) hpl ?hb hnv ?hc h1 rfl).mono ?_
         (case ha => exact rA)
         (case hb => exact sB)
         (case hc => exact NA)
         rintro e W2 ⟨v1, rfl, own1, grow1, loc1⟩
         have gAll : W0.grownBy W2 (g v.k).ownBlock := (World.grownBy.mk (w := W0) (w' := W0.drew.alloc (.cells #[.int .i64 v.k, .int .i64 v.t, .int .i64 v.s, .int .i64 v.val, .int .i64 v.cl, .int .i64 v.ca, .slice da v.ds.length dc] 28)) rfl rfl rfl (by simp) (fun j hj _ => Below.heap_alloc W0.drew _ j hj)).trans grow1
         have N2 := N0.grown gAll (fun e => by have := hgb LB e.symm; omega)
         have s2 : Hid (W2.cell? ⟨LB, 0, none⟩ = some (.int .i64 v.k) ∧ W2.cell? ⟨LB, 1, none⟩ = some (.int .i64 v.t) ∧ W2.cell? ⟨LB, 2, none⟩ = some (.int .i64 v.s) ∧ W2.cell? ⟨LB, 3, none⟩ = some (.int .i64 v.val) ∧ W2.cell? ⟨LB, 4, none⟩ = some (.int .i64 v.cl) ∧ W2.cell? ⟨LB, 5, none⟩ = some (.int .i64 v.ca) ∧ W2.cell? ⟨LB, 6, none⟩ = some (.slice da v.ds.length dc)) := by
           obtain ⟨q, _⟩ := N2.rules
           exact ⟨q 0, q 1, q 2, q 3, q 4, q 5, q 6⟩
         obtain ⟨W3, hup, M3, grow3⟩ := M0.store wf (by omega) (by simp) gAll own1 (loc1.imp id fun ⟨j, e1, e2⟩ => ⟨j, e1, Nat.le_trans (by simp) e2⟩)
         have N3 := N2.grown grow3 (fun e => by simp at e; subst e; obtain ⟨D, hD, _⟩ := M0.own; obtain ⟨es, cl, hb, _⟩ := hD; have := N0; unfold Blk at this; rw [hb] at this; cases this)
         have s3 : Hid (W3.cell? ⟨LB, 0, none⟩ = some (.int .i64 v.k) ∧ W3.cell? ⟨LB, 1, none⟩ = some (.int .i64 v.t) ∧ W3.cell? ⟨LB, 2, none⟩ = some (.int .i64 v.s) ∧ W3.cell? ⟨LB, 3, none⟩ = some (.int .i64 v.val) ∧ W3.cell? ⟨LB, 4, none⟩ = some (.int .i64 v.cl) ∧ W3.cell? ⟨LB, 5, none⟩ = some (.int .i64 v.ca) ∧ W3.cell? ⟨LB, 6, none⟩ = some (.slice da v.ds.length dc)) := by
           obtain ⟨q, _⟩ := N3.rules
           exact ⟨q 0, q 1, q 2, q 3, q 4, q 5, q 6⟩
         have B3 : Below base W W3 := ((B0.mono (by have := HLB.out; have := HBW.out; omega)).grown gAll hb0 (fun j hj => ((M0.row v.k).lt j hj).1)).grown grow3 (Nat.le_trans hb0 gAll.size) (fun j hj => by simp at hj; omega)
         clear own1 grow1 loc1 gAll N2 N3 grow3 g1 g2 g3 g4 g5 rA NA N1 N0 sB)
      | (refine step_update _ (by rfl) _ _ _ 113 (by rfl) (.map (some b)) (.int .i64 v.k) v1 (by rfl) (by rfl) (by rfl) W3 hup ?_))
  all_goals
    clear s0 sA s2 s3
    go_wp2_with fail
    go_ret
    exact ⟨v1, rfl, M3, B3⟩
end Go.Proofs.Ytgdkoangpinieaa

/- The program's ChainPut. -/
namespace Go.Proofs.Ytgdkoangpinieaa
open Go.ChangeShapes Go.WideShapes Go.ChangeAt Go.RowKit

theorem chain_keys {vs : List V} (h : chainP vs) : ∀ v ∈ vs, 0 ≤ v.k ∧ v.k ≤ 5 := fun v hv => okV_key (h.1 v hv)
theorem at_thr (vs : List V) (k t s : Int) : (cAt vs k t s).isSome = thr (grp vs k) t s := by rw [at_grp]; rfl
/-- The versions by key behind a put. -/
theorem upd_grp {vs : List V} {v : V} {f : Int → List XV} {p : Value} (h : Asc vs) (hn : cAt vs v.k v.t v.s = none) (hf : ∀ j, (f j).map XV.v = grp vs j) : ∀ j, (upd f v.k ((f v.k).take (plc (grp vs v.k) v.t v.s) ++ XV.mk v p :: (f v.k).drop (plc (grp vs v.k) v.t v.s)) j).map XV.v = grp (insV v vs) j := fun j => by
  rw [grp_insV h hn]
  by_cases e : j = v.k
  · subst e
    rw [upd_same, if_pos rfl, List.map_append, List.map_cons, List.map_take, List.map_drop, hf]
  · rw [upd_other _ _ e, if_neg e, hf]

set_option maxHeartbeats 4000000 in
set_option maxRecDepth 100000 in
theorem iPutV_any (a : Option Addr) (cap : Nat) (vs : List V) (v : V) (va : Option Addr) (vc : Nat) (w : World) (hn : vs.length ≤ 1099511627776) (h : Vers w a vs) (hvl : v.ds.length ≤ 1099511627776) (hvd0 : Deps w va v.ds) :
    Calls Try.prog 31 #[.slice a vs.length cap, verV v.k v.t v.s v.val v.cl v.ca va v.ds.length vc] w fun e w' => ∃ u ys, e = .returned (.tuple #[u, .bool (cDid vs v)]) ∧ OwnV w' w.heap.size u ys ∧ ys.map XV.v = cPut vs v ∧ Below w.heap.size w w' := by
  have V1 := Blk.new w #[.int .i64 v.k, .int .i64 v.t, .int .i64 v.s, .int .i64 v.val, .int .i64 v.cl, .int .i64 v.ca, .slice va v.ds.length vc] 28
  have b0 : Below w.heap.size w (w.alloc (.cells #[.int .i64 v.k, .int .i64 v.t, .int .i64 v.s, .int .i64 v.val, .int .i64 v.cl, .int .i64 v.ca, .slice va v.ds.length vc] 28)) := (Below.refl _ w).alloc (Nat.le_refl _) _
  have h1 := h.below b0
  have hvd := hvd0.below b0
  have s1 : (w.alloc (.cells #[.int .i64 v.k, .int .i64 v.t, .int .i64 v.s, .int .i64 v.val, .int .i64 v.cl, .int .i64 v.ca, .slice va v.ds.length vc] 28)).heap.size = w.heap.size + 1 := by simp
  rcases hc : chainB vs with _ | _
  · have HP : Hid _ := put_no (v := v) hc
    have hC := iChainOf_no a cap vs _ hn h1 hc
    clear h hc hvd hvd0
    go_enter Try.func31, Try.ntmps31
    go_wp2_with fail
    refine hC.mono ?_
    rintro e w2 ⟨rfl, hb2⟩
    clear hC
    go_wp2_with fail
    go_ret2
    exact ⟨_, [], by rw [HP.out.2]; rfl, OwnV.nil _ _, by rw [HP.out.1]; rfl, b0.trans (hb2.mono b0.size)⟩
  have hC := iChainOf_yes a cap vs _ hn h1 hc
  obtain ⟨hl80, hP⟩ := chainB_iff.1 hc
  have hvs := asc_keys hP.2
  have hvk := chain_keys hP
  have hl100 : vs.length ≤ 100 := by omega
  by_cases hl : 80 ≤ (vs.length : Int)
  · have HP : Hid _ := put_stay hc (putB_full (v := v) (by omega : 80 ≤ vs.length))
    clear h hc hvd0 hP
    go_enter Try.func31, Try.ntmps31
    go_wp2_with fail
    generalize (w.alloc (.cells #[.int .i64 v.k, .int .i64 v.t, .int .i64 v.s, .int .i64 v.val, .int .i64 v.cl, .int .i64 v.ca, .slice va v.ds.length vc] 28)) = W1 at *
    refine hC.mono ?_
    rintro e w2 ⟨b, f, g, rfl, hbb, hM, hf, hgood, hb2⟩
    clear hC
    have V2 := V1.below hb2 V1.lt
    obtain ⟨q1, g1⟩ := V2.rules
    go_wp2_with fail
    refine (all_chain w2 W1.heap.size b vs.length f g vs hM (by omega) hf (fun j x hx => (hgood j x hx).below hb2) hvs hvk hl100).mono ?_
    rintro e w9 ⟨u9, ys, rfl, hO, hys, hb9⟩
    go_wp2_with fail
    go_ret2
    exact ⟨_, ys, by rw [HP.out.2]; rfl, hO.mono (by have := b0.size; have := hb2.size; omega), by rw [hys, HP.out.1], (b0.trans (hb2.mono b0.size)).trans (hb9.mono (by have := b0.size; have := hb2.size; omega))⟩
  have hl2 : (vs.length : Int) < 80 := by omega
  rcases hv : okV v with _ | _
  · have HP : Hid _ := put_stay hc (putB_ok (vs := vs) hv)
    clear h hc hvd0 hP
    go_enter Try.func31, Try.ntmps31
    go_wp2_with fail
    generalize (w.alloc (.cells #[.int .i64 v.k, .int .i64 v.t, .int .i64 v.s, .int .i64 v.val, .int .i64 v.cl, .int .i64 v.ca, .slice va v.ds.length vc] 28)) = W1 at *
    refine hC.mono ?_
    rintro e w2 ⟨b, f, g, rfl, hbb, hM, hf, hgood, hb2⟩
    clear hC
    have V2 := V1.below hb2 V1.lt
    obtain ⟨q1, g1⟩ := V2.rules
    go_wp2_with fail
    refine (iVer_is hv hvl (hvd.below hb2)).mono ?_
    rintro e w3 ⟨rfl, hb3⟩
    have b3 : Below W1.heap.size W1 w3 := hb2.trans (hb3.mono hb2.size)
    have M3 := hM.below hb3
    clear q1 g1 V2 hb3 hM
    go_wp2_with fail
    refine (all_chain w3 W1.heap.size b vs.length f g vs M3 (by omega) hf (fun j x hx => (hgood j x hx).below b3) hvs hvk hl100).mono ?_
    rintro e w9 ⟨u9, ys, rfl, hO, hys, hb9⟩
    go_wp2_with fail
    go_ret2
    exact ⟨_, ys, by rw [HP.out.2]; rfl, hO.mono (by have := b0.size; have := b3.size; omega), by rw [hys, HP.out.1], (b0.trans (b3.mono b0.size)).trans (hb9.mono (by have := b0.size; have := b3.size; omega))⟩
  have hth0 := at_thr vs v.k v.t v.s
  have hgl := grp_le vs v.k
  have hga := grp_asc hP.2 v.k
  rcases hth : thr (grp vs v.k) v.t v.s with _ | _
  · rw [hth] at hth0
    have HP : Hid _ := put_take hc (putB_yes (vs := vs) hv hth0 (by omega))
    have hnone : cAt vs v.k v.t v.s = none := by rcases hx : cAt vs v.k v.t v.s with _ | y; rfl; rw [hx] at hth0; cases hth0
    have hasc2 := insV_asc hP.2 hnone
    have hvs2 := asc_keys hasc2
    have hvk2 : ∀ u ∈ insV v vs, 0 ≤ u.k ∧ u.k ≤ 5 := fun u hu => by
      rcases insV_mem.1 hu with rfl | hu
      · exact okV_key hv
      · exact hvk u hu
    have hl2' : (insV v vs).length ≤ 100 := by rw [insV_len]; omega
    have HU : Hid _ := fun (f : Int → List XV) (p : Value) hf => upd_grp (f := f) (p := p) hP.2 hnone hf
    clear h hc hvd0 hP hth0 hnone hasc2 hvs hvk
    go_enter Try.func31, Try.ntmps31
    go_wp2_with fail
    generalize (w.alloc (.cells #[.int .i64 v.k, .int .i64 v.t, .int .i64 v.s, .int .i64 v.val, .int .i64 v.cl, .int .i64 v.ca, .slice va v.ds.length vc] 28)) = W1 at *
    refine hC.mono ?_
    rintro e w2 ⟨b, f, g, rfl, hbb, hM, hf, hgood, hb2⟩
    clear hC
    have V2 := V1.below hb2 V1.lt
    obtain ⟨q1, g1⟩ := V2.rules
    go_wp2_with fail
    refine (iVer_is hv hvl (hvd.below hb2)).mono ?_
    rintro e w3 ⟨rfl, hb3⟩
    have b3 : Below W1.heap.size W1 w3 := hb2.trans (hb3.mono hb2.size)
    have M3 := hM.below hb3
    have V3 := V2.below hb3 V2.lt
    clear q1 g1 V2 hb3 hM
    obtain ⟨q1, g1⟩ := V3.rules
    go_wp2_with fail
    refine (put_new w3 W1.heap.size b vs.length f g v va vc (grp vs v.k) M3 hv (hf v.k) hga (by omega) (fun x hx => (hgood v.k x hx).below b3) hth (by omega) hbb b3.size).mono ?_
    rintro e w4 ⟨u4, rfl, M4, hb4⟩
    have b4 : Below W1.heap.size W1 w4 := b3.trans hb4
    have hf4 := HU.out f (.slice va v.ds.length vc) hf
    have hgood4 : ∀ j, ∀ x ∈ upd f v.k ((f v.k).take (plc (grp vs v.k) v.t v.s) ++ XV.mk v (.slice va v.ds.length vc) :: (f v.k).drop (plc (grp vs v.k) v.t v.s)) j, GoodX w4 x := fun j x hx => by
      by_cases e : j = v.k
      · subst e
        rw [upd_same] at hx
        rcases List.mem_append.1 hx with hx | hx
        · exact (hgood _ x (List.mem_of_mem_take hx)).below b4
        · rcases List.mem_cons.1 hx with rfl | hx
          · exact ⟨va, vc, rfl, hvd.below b4, hvl⟩
          · exact (hgood _ x (List.mem_of_mem_drop hx)).below b4
      · rw [upd_other _ _ e] at hx
        exact (hgood j x hx).below b4
    clear q1 g1 V3 M3 hb4 hf
    go_wp2_with fail
    refine (all_chain w4 W1.heap.size b (vs.length + 1) _ _ (insV v vs) M4 (by omega) hf4 hgood4 hvs2 hvk2 hl2').mono ?_
    rintro e w9 ⟨u9, ys, rfl, hO, hys, hb9⟩
    go_wp2_with fail
    go_ret2
    exact ⟨_, ys, by rw [HP.out.2]; rfl, hO.mono (by have := b0.size; have := b4.size; omega), by rw [hys, HP.out.1], (b0.trans (b4.mono b0.size)).trans (hb9.mono (by have := b0.size; have := b4.size; omega))⟩
  · rw [hth] at hth0
    have HP : Hid _ := put_stay hc (putB_there (vs := vs) hth0)
    clear h hc hvd0 hP hth0
    go_enter Try.func31, Try.ntmps31
    go_wp2_with fail
    generalize (w.alloc (.cells #[.int .i64 v.k, .int .i64 v.t, .int .i64 v.s, .int .i64 v.val, .int .i64 v.cl, .int .i64 v.ca, .slice va v.ds.length vc] 28)) = W1 at *
    refine hC.mono ?_
    rintro e w2 ⟨b, f, g, rfl, hbb, hM, hf, hgood, hb2⟩
    clear hC
    have V2 := V1.below hb2 V1.lt
    obtain ⟨q1, g1⟩ := V2.rules
    go_wp2_with fail
    refine (iVer_is hv hvl (hvd.below hb2)).mono ?_
    rintro e w3 ⟨rfl, hb3⟩
    have b3 : Below W1.heap.size W1 w3 := hb2.trans (hb3.mono hb2.size)
    have M3 := hM.below hb3
    have V3 := V2.below hb3 V2.lt
    clear q1 g1 V2 hb3 hM
    obtain ⟨q1, g1⟩ := V3.rules
    go_wp2_with fail
    refine (put_there w3 W1.heap.size b vs.length f g v va vc (grp vs v.k) M3 hv (hf v.k) hga (by omega) (fun x hx => (hgood v.k x hx).below b3) hth).mono ?_
    rintro e w4 ⟨rfl, hb4⟩
    have b4 : Below W1.heap.size W1 w4 := b3.trans (hb4.mono b3.size)
    have M4 := M3.below hb4
    clear q1 g1 V3 M3 hb4
    go_wp2_with fail
    refine (all_chain w4 W1.heap.size b vs.length f g vs M4 (by omega) hf (fun j x hx => (hgood j x hx).below b4) hvs hvk hl100).mono ?_
    rintro e w9 ⟨u9, ys, rfl, hO, hys, hb9⟩
    go_wp2_with fail
    go_ret2
    exact ⟨_, ys, by rw [HP.out.2]; rfl, hO.mono (by have := b0.size; have := b4.size; omega), by rw [hys, HP.out.1], (b0.trans (b4.mono b0.size)).trans (hb9.mono (by have := b0.size; have := b4.size; omega))⟩
end Go.Proofs.Ytgdkoangpinieaa

