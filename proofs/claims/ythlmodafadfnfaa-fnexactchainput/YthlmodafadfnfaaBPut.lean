/- 7 texts in one. -/
import Derived.Test.YthlmodafadfnfaaPlace
import Derived.Test.YthlmodafadfnfaaSHasC
import Derived.Test.YthlmodafadfnfaaInsertG
import Derived.Test.YthlmodafadfnfaaSPutC
import Derived.Test.YthlmodafadfnfaaXMarkV
import Derived.Test.YthlmodafadfnfaaOpenVers

/- The place of a stamp in the map. -/
namespace Go.Proofs.Ythlmodafadfnfaa
open Go.ChangeShapes Go.WideShapes Go.ChangeAt Go.RowKit

/-- What lies at a key. -/
theorem Chm.at {w : World} {base b n : Nat} {f : Int → List XV} {g : Int → Value} (h : Chm w base b n f g) (key : Int) {gs : List V} (hgs : (f key).map XV.v = gs) (hgood : ∀ x ∈ f key, GoodX w x) : ∃ ga gc, g key = .slice ga gs.length gc ∧ Vers w ga gs := by
  obtain ⟨ga, gc, h1, h2, _⟩ := vers_of_row (h.row key) hgood
  subst hgs
  exact ⟨ga, gc, by rw [h1, List.length_map], h2⟩

set_option maxHeartbeats 1000000 in
theorem place_any (W : World) (base b n : Nat) (f : Int → List XV) (g : Int → Value) (key t s : Int) (gs : List V) (hM : Chm W base b n f g) (hwf : (Lit.int .i64 key).wf = true) (hgs : (f key).map XV.v = gs) (ha : gs.Pairwise (fun a b => lessB a.t a.s b.t b.s = true)) (hl : gs.length ≤ 100) (hgood : ∀ x ∈ f key, GoodX W x) :
    Calls Try.prog 80 #[.map (some b), .int .i64 key, stampV t s] W fun e w' => e = .returned (.tuple #[.int .i64 (plc gs t s), .bool (thr gs t s)]) ∧ Below W.heap.size W w' := by
  have b0 : Below W.heap.size W (W.alloc (.cells #[.int .i64 t, .int .i64 s] 25)) := (Below.refl _ W).alloc (Nat.le_refl _) _
  have M1 := hM.below b0
  have hlook := M1.look hwf
  obtain ⟨ga, gc, hg, hV⟩ := M1.at key hgs (fun x hx => (hgood x hx).below b0)
  rw [hg] at hlook
  have hP := placeOf_any ga gc gs t s _ hl ha hV
  clear hg hV M1 hM hgood hgs
  generalize plc gs t s = p at *
  generalize thr gs t s = r at *
  go_enter Try.func80, Try.ntmps80
  go_wp2_with fail
  refine hP.mono ?_
  rintro e w1 ⟨rfl, hb1⟩
  clear hP hlook
  go_wp2_with fail
  go_ret2
  exact ⟨rfl, b0.trans (hb1.mono b0.size)⟩

theorem top_at {vs : List V} {key : Int} {gs : List V} (hg : grp vs key = gs) (h : 0 < gs.length) : cTop vs key = some (gs[gs.length - 1]'(by omega)) := by
  rw [top_grp, hg, List.getLast?_eq_getElem?, List.getElem?_eq_getElem (by omega)]
theorem top_none {vs : List V} {key : Int} (hg : grp vs key = []) : cTop vs key = none := by rw [top_grp, hg]; rfl
end Go.Proofs.Ythlmodafadfnfaa

/- The program's ChainAt. -/
namespace Go.Proofs.Ythlmodafadfnfaa
open Go.ChangeShapes Go.WideShapes Go.ChangeAt Go.RowKit

theorem plc_sought (gs : List V) (t s : Int) (ha : gs.Pairwise (fun a b => lessB a.t a.s b.t b.s = true)) : Sought gs t s (plc gs t s) (plc gs t s) := by
  have h1 : ∀ j, (hj : j < gs.length) → j < plc gs t s → lessB gs[j].t gs[j].s t s = true := by
    clear ha
    induction gs with
    | nil => intro j hj; simp at hj
    | cons x xs ih =>
      intro j hj hp
      unfold plc at hp
      split at hp
      · rename_i hx
        cases j with
        | zero => exact hx
        | succ j => exact ih j (by simpa using hj) (by omega)
      · omega
  have h2 : ∀ h : plc gs t s < gs.length, lessB gs[plc gs t s].t gs[plc gs t s].s t s = false := by
    clear ha h1
    induction gs with
    | nil => intro h; simp at h
    | cons x xs ih =>
      intro h
      by_cases hx : lessB x.t x.s t s = true
      · have e : plc (x :: xs) t s = plc xs t s + 1 := by rw [plc, if_pos hx]
        simp only [e] at h ⊢
        exact ih (by simpa using h)
      · have e : plc (x :: xs) t s = 0 := by rw [plc, if_neg hx]
        simp only [e]
        simpa using hx
  refine ⟨h1, fun j hj hp => ?_⟩
  by_cases e : j = plc gs t s
  · subst e; exact h2 hj
  · cases hh : lessB gs[j].t gs[j].s t s
    · rfl
    · have := lessB_trans (List.pairwise_iff_getElem.1 ha (plc gs t s) j (by omega) hj (by omega)) hh
      rw [h2 (by omega)] at this; cases this
theorem thr_found {gs : List V} {t s : Int} (ha : gs.Pairwise (fun a b => lessB a.t a.s b.t b.s = true)) (h : thr gs t s = true) : ∃ hp : plc gs t s < gs.length, gs.find? (fun v => decide (v.t = t ∧ v.s = s)) = some gs[plc gs t s] := by
  have hs := plc_sought gs t s ha
  by_cases hp : plc gs t s < gs.length
  · obtain ⟨h1, h2⟩ := thr_at hs ha hp
    rw [h] at h1
    exact ⟨hp, h2 (by simpa using h1.symm)⟩
  · have e : plc gs t s = gs.length := by have := plc_le gs t s; omega
    rw [e] at hs
    rw [thr_end hs] at h; cases h
theorem thr_at_none {gs : List V} {t s : Int} (h : thr gs t s = false) : gs.find? (fun v => decide (v.t = t ∧ v.s = s)) = none := by
  unfold thr at h
  rcases hf : gs.find? (fun v => decide (v.t = t ∧ v.s = s)) with _ | x
  · exact hf
  · rw [hf] at h; cases h

set_option maxHeartbeats 4000000 in
set_option maxRecDepth 100000 in
theorem iAtV_any (a : Option Addr) (cap : Nat) (vs : List V) (key t s : Int) (w : World) (hn : vs.length ≤ 1099511627776) (h : Vers w a vs) (hwf : (Lit.int .i64 key).wf = true) :
    Calls Try.prog 34 #[.slice a vs.length cap, .int .i64 key, stampV t s] w fun e w' => ∃ u pa pc, Hid (u = (atA vs key t s).getD zeroV) ∧ e = .returned (.tuple #[verV u.k u.t u.s u.val u.cl u.ca pa u.ds.length pc, .bool (atA vs key t s).isSome]) ∧ RowD w' w.heap.size (.slice pa u.ds.length pc) u.ds ∧ Below w.heap.size w w' := by
  have S1 : Blk ((w.alloc (.cells #[.int .i64 t, .int .i64 s] 25)).alloc (.cells #[.int .i64 0, .int .i64 0, .int .i64 0, .int .i64 0, .int .i64 0, .int .i64 0, .slice none 0 0] 28)) w.heap.size #[.int .i64 t, .int .i64 s] 25 := (Blk.new w _ _).alloc _
  have Z1 : Blk ((w.alloc (.cells #[.int .i64 t, .int .i64 s] 25)).alloc (.cells #[.int .i64 0, .int .i64 0, .int .i64 0, .int .i64 0, .int .i64 0, .int .i64 0, .slice none 0 0] 28)) (w.heap.size + 1) #[.int .i64 0, .int .i64 0, .int .i64 0, .int .i64 0, .int .i64 0, .int .i64 0, .slice none 0 0] 28 := by have := Blk.new (w.alloc (.cells #[.int .i64 t, .int .i64 s] 25)) #[.int .i64 0, .int .i64 0, .int .i64 0, .int .i64 0, .int .i64 0, .int .i64 0, .slice none 0 0] 28; simpa using this
  have b0 : Below w.heap.size w ((w.alloc (.cells #[.int .i64 t, .int .i64 s] 25)).alloc (.cells #[.int .i64 0, .int .i64 0, .int .i64 0, .int .i64 0, .int .i64 0, .int .i64 0, .slice none 0 0] 28)) := ((Below.refl _ w).alloc (Nat.le_refl _) _).alloc (by simp) _
  have h1 := h.below b0
  have s1 : ((w.alloc (.cells #[.int .i64 t, .int .i64 s] 25)).alloc (.cells #[.int .i64 0, .int .i64 0, .int .i64 0, .int .i64 0, .int .i64 0, .int .i64 0, .slice none 0 0] 28)).heap.size = w.heap.size + 1 + 1 := by simp
  rcases hc : chainB vs with _ | _
  · have HN : Hid (atA vs key t s = none) := atA_no hc key t s
    have hC := iChainOf_no a cap vs _ hn h1 hc
    clear h hc
    go_enter Try.func34, Try.ntmps34
    go_wp2_with fail
    refine hC.mono ?_
    rintro e w2 ⟨rfl, hb2⟩
    have Z2 := Z1.below hb2 Z1.lt
    have B2 : Below w.heap.size w w2 := b0.trans (hb2.mono b0.size)
    obtain ⟨q1, g1⟩ := Z2.rules
    clear hC h1 S1 Z1 b0 hb2
    go_wp2_with fail
    refine bodyPost_ret (v := .tuple #[verV 0 0 0 0 0 0 none 0 0, .bool false]) ?_ rfl ⟨zeroV, none, 0, by show _ = _; rw [HN.out]; rfl, by rw [HN.out]; rfl, World.ownsRow_nil _ _ _ _, fill7_below B2 (by omega)⟩
    refine Blk.gen (B := w.heap.size + 1) (vs := #[.int .i64 0, .int .i64 0, .int .i64 0, .int .i64 0, .int .i64 0, .int .i64 0, .slice none 0 0]) (T := 28) ?_ (P := fun W => (results Try.f34 _).run Try.prog W = .ok _ W) ?_
    · exact Blk.fill7 Z2
    intro W hW
    obtain ⟨k, f⟩ := hW.rules
    simp [results, Try.results34, go_sem, k]
  have hC := iChainOf_yes a cap vs _ hn h1 hc
  have HA : Hid (atA vs key t s = cAt vs key t s) := atA_yes hc key t s
  obtain ⟨hl80, hP⟩ := chainB_iff.1 hc
  have HG : Hid (cAt vs key t s = (grp vs key).find? fun v => decide (v.t = t ∧ v.s = s)) := at_grp vs key t s
  have hasc := grp_asc hP.2 key
  clear h hc hP
  go_enter Try.func34, Try.ntmps34
  go_wp2_with fail
  generalize ((w.alloc (.cells #[.int .i64 t, .int .i64 s] 25)).alloc (.cells #[.int .i64 0, .int .i64 0, .int .i64 0, .int .i64 0, .int .i64 0, .int .i64 0, .slice none 0 0] 28)) = W1 at *
  refine hC.mono ?_
  rintro e w2 ⟨b, f, g, rfl, hbb, hM, hf, hgood, hb2⟩
  clear hC
  have hgl := grp_le vs key
  have hGs := hf key
  clear hf
  generalize grp vs key = gs at *
  have S2 := S1.below hb2 S1.lt
  obtain ⟨q1, g1⟩ := S2.rules
  go_wp2_with fail
  refine (place_any w2 _ b vs.length f g key t s gs hM hwf hGs hasc (by omega) (fun x hx => (hgood key x hx).below hb2)).mono ?_
  rintro e w3 ⟨rfl, hb3⟩
  have b3 : Below W1.heap.size W1 w3 := hb2.trans (hb3.mono hb2.size)
  have M3 := hM.below hb3
  have Z3 := Z1.below b3 Z1.lt
  have B3 : Below w.heap.size w w3 := b0.trans (b3.mono b0.size)
  have hsz : w.heap.size + 1 + 1 ≤ w3.heap.size := by have := b3.size; omega
  clear q1 g1 S2 hb3
  rcases hth : thr gs t s with _ | _
  · have HO : Hid (gs.find? (fun v => decide (v.t = t ∧ v.s = s)) = none) := thr_at_none hth
    obtain ⟨q1, g1⟩ := Z3.rules
    clear hasc hth
    go_wp2_with fail
    refine bodyPost_ret (v := .tuple #[verV 0 0 0 0 0 0 none 0 0, .bool false]) ?_ rfl ⟨zeroV, none, 0, by show _ = _; rw [HA.out, HG.out, HO.out]; rfl, by rw [HA.out, HG.out, HO.out]; rfl, World.ownsRow_nil _ _ _ _, fill7_below B3 (by omega)⟩
    refine Blk.gen (B := w.heap.size + 1) (vs := #[.int .i64 0, .int .i64 0, .int .i64 0, .int .i64 0, .int .i64 0, .int .i64 0, .slice none 0 0]) (T := 28) ?_ (P := fun W => (results Try.f34 _).run Try.prog W = .ok _ W) ?_
    · exact Blk.fill7 Z3
    intro W hW
    obtain ⟨k, f⟩ := hW.rules
    simp [results, Try.results34, go_sem, k]
  · obtain ⟨hp, HO⟩ := thr_found hasc hth
    have HO : Hid _ := HO
    have hlook := M3.look hwf
    obtain ⟨ga, gc, hg, hV⟩ := M3.at key hGs (fun x hx => (hgood key x hx).below b3)
    rw [hg] at hlook
    obtain ⟨bx, o, da, dc, rfl, hbx, hv⟩ := hV.at hp
    clear hg hV M3 hM hgood hGs hth hasc
    generalize plc gs t s = p at *
    generalize gs[p] = v at *
    obtain ⟨c0, c1, c2, c3, c4, c5, c6, hd, hdl⟩ := hv
    have i1 : (0 : Int) ≤ (p : Int) := by omega
    have i2 : (p : Int) < (gs.length : Int) := by omega
    go_wp2_with fail
    refine (iCopy_any v da dc _ hdl hd).mono ?_
    rintro e w4 ⟨pa, pc, rfl, hrow, hb4⟩
    have Z4 := Z3.below hb4 Z3.lt
    have B4 : Below w.heap.size w w4 := B3.trans (hb4.mono B3.size)
    obtain ⟨q1, g1⟩ := Z4.rules
    clear c0 c1 c2 c3 c4 c5 c6 hd hb4 Z3
    go_wp2_with fail
    refine bodyPost_ret (v := .tuple #[verV v.k v.t v.s v.val v.cl v.ca pa v.ds.length pc, .bool true]) ?_ rfl ⟨v, pa, pc, by show _ = _; rw [HA.out, HG.out, HO.out]; rfl, by rw [HA.out, HG.out, HO.out]; rfl, row_mono (row_fill7 hrow (fun j hj => by have := (hrow.lt j hj).1; omega)) (by omega), fill7_below B4 (by omega)⟩
    refine Blk.gen (B := w.heap.size + 1) (vs := #[.int .i64 v.k, .int .i64 v.t, .int .i64 v.s, .int .i64 v.val, .int .i64 v.cl, .int .i64 v.ca, .slice pa v.ds.length pc]) (T := 28) ?_ (P := fun W => (results Try.f34 _).run Try.prog W = .ok _ W) ?_
    · exact Blk.fill7 Z4
    intro W hW
    obtain ⟨k, f⟩ := hW.rules
    simp [results, Try.results34, go_sem, k]
end Go.Proofs.Ythlmodafadfnfaa

/- The program puts a version into the map. -/
namespace Go.Proofs.Ythlmodafadfnfaa
open Go.ChangeShapes Go.WideShapes Go.ChangeAt Go.RowKit

theorem insert_any (base i vb : Nat) (v : Value) (xs : List XV) (x : XV) (w : World) (hown : w.ownsRow base 28 7 v xs.length (flat7 xs)) (hn : xs.length ≤ 100) (hi : i ≤ xs.length) (hb : base ≤ w.heap.size) (hvb : v.ownBlock ≠ some vb)
    (hB : Blk w vb #[.int .i64 x.v.k, .int .i64 x.v.t, .int .i64 x.v.s, .int .i64 x.v.val, .int .i64 x.v.cl, .int .i64 x.v.ca, x.p] 28) (h1 : ∀ y ∈ xs, y.p.oneCell' = true) (h1x : x.p.oneCell' = true) :
    Calls Try.prog 106 #[v, .int .i64 i, .slice (some ⟨vb, 0, none⟩) 1 1] w fun e w' => ∃ v', e = .returned v' ∧ w'.ownsRow base 28 7 v' (xs.take i ++ x :: xs.drop i).length (flat7 (xs.take i ++ x :: xs.drop i)) ∧ w.grownBy w' v.ownBlock ∧ (v'.ownBlock = v.ownBlock ∨ ∃ j, v'.ownBlock = some j ∧ w.heap.size ≤ j) := by
  have hl : (xs.take i ++ x :: xs.drop i).length = xs.length + 1 := by simp only [List.length_append, List.length_cons, List.length_take, List.length_drop]; rw [Nat.min_eq_left hi]; omega
  rw [hl]
  have hfl : (flat7 (xs.take i ++ x :: xs.drop i)).length = (xs.length + 1) * 7 := by rw [flat7_len, hl]
  by_cases he : i = xs.length
  · subst he
    refine (insert_end base vb v xs x w hown hn hb hB h1x).mono ?_
    rintro e w' ⟨v', rfl, hr, hg, hloc⟩
    refine ⟨v', rfl, ?_, hg, hloc⟩
    rw [List.take_length, List.drop_length, flat7_append]; exact hr
  · have hi2 : i < xs.length := by omega
    rcases hown.2 with ⟨_, h0⟩ | ⟨g, cap, cur, rfl, hbg, hg, hnc, hcm, hcs, ht⟩
    · omega
    · by_cases hroom : xs.length + 1 ≤ cap
      · refine (insert_shift g xs.length cap i vb cur xs x w hi2 hroom hcm (fun e => hvb (by rw [e]; rfl)) hg hcs ht rfl hB h1 h1x).mono ?_
        rintro e w' ⟨rfl, ⟨cur', k1, k2, k3⟩, hgr⟩
        exact ⟨_, rfl, ⟨hfl, .inr ⟨g, cap, cur', rfl, hbg, k1, hroom, hcm, k2, k3⟩⟩, hgr, .inl rfl⟩
      · refine (insert_grow g xs.length cap i vb cur xs x w hi2 hn (by omega) hnc hg ht rfl hB h1 h1x).mono ?_
        rintro e w' ⟨G, cur', rfl, k0, k4, k1, k2, k3, hgr⟩
        exact ⟨_, rfl, ⟨hfl, .inr ⟨w.heap.size, G, cur', rfl, hb, k1, k0, k4, k2, k3⟩⟩, ⟨hgr.os, hgr.tape, hgr.output, hgr.size, fun k hk _ => hgr.block k hk (by simp)⟩, .inr ⟨_, rfl, Nat.le_refl _⟩⟩

set_option maxHeartbeats 4000000 in
set_option maxRecDepth 100000 in
theorem put_there (W : World) (base b n : Nat) (f : Int → List XV) (g : Int → Value) (v : V) (da : Option Addr) (dc : Nat) (gs : List V) (hM : Chm W base b n f g) (hok : okV v = true) (hgs : (f v.k).map XV.v = gs) (ha : gs.Pairwise (fun a b => lessB a.t a.s b.t b.s = true)) (hl : gs.length ≤ 80) (hgood : ∀ x ∈ f v.k, GoodX W x) (hth : thr gs v.t v.s = true) :
    Calls Try.prog 69 #[.map (some b), verV v.k v.t v.s v.val v.cl v.ca da v.ds.length dc] W fun e w' => e = .returned (.bool false) ∧ Below W.heap.size W w' := by
  obtain ⟨k0, k5⟩ := okV_key hok
  have wf := wf_key k0 k5
  have b0 : Below W.heap.size W (W.alloc (.cells #[.int .i64 v.k, .int .i64 v.t, .int .i64 v.s, .int .i64 v.val, .int .i64 v.cl, .int .i64 v.ca, .slice da v.ds.length dc] 28)) := (Below.refl _ W).alloc (Nat.le_refl _) _
  have hP := place_any _ base b n f g v.k v.t v.s gs (hM.below b0) wf hgs ha (by omega) (fun x hx => (hgood x hx).below b0)
  rw [hth] at hP
  clear hM hgood hgs ha hth
  generalize plc gs v.t v.s = p at *
  go_enter Try.func69, Try.ntmps69
  go_wp2_with fail
  refine hP.mono ?_
  rintro e w1 ⟨rfl, hb1⟩
  clear hP
  go_wp2_with fail
  go_ret
  exact ⟨rfl, b0.trans (hb1.mono b0.size)⟩

set_option maxHeartbeats 4000000 in
set_option maxRecDepth 100000 in
theorem put_new (W : World) (base b n : Nat) (f : Int → List XV) (g : Int → Value) (v : V) (da : Option Addr) (dc : Nat) (gs : List V) (hM : Chm W base b n f g) (hok : okV v = true) (hgs : (f v.k).map XV.v = gs) (ha : gs.Pairwise (fun a b => lessB a.t a.s b.t b.s = true)) (hl : gs.length ≤ 80) (hgood : ∀ x ∈ f v.k, GoodX W x) (hth : thr gs v.t v.s = false) (hn : n ≤ 100) (hbase : base ≤ b) (hbW : base ≤ W.heap.size) :
    Calls Try.prog 69 #[.map (some b), verV v.k v.t v.s v.val v.cl v.ca da v.ds.length dc] W fun e w' => ∃ u, e = .returned (.bool true) ∧ Chm w' base b (n + 1) (upd f v.k ((f v.k).take (plc gs v.t v.s) ++ XV.mk v (.slice da v.ds.length dc) :: (f v.k).drop (plc gs v.t v.s))) (upd g v.k u) ∧ Below base W w' := by
  obtain ⟨k0, k5⟩ := okV_key hok
  have wf := wf_key k0 k5
  have b0 : Below W.heap.size W (W.alloc (.cells #[.int .i64 v.k, .int .i64 v.t, .int .i64 v.s, .int .i64 v.val, .int .i64 v.cl, .int .i64 v.ca, .slice da v.ds.length dc] 28)) := (Below.refl _ W).alloc (Nat.le_refl _) _
  have hP := place_any _ base b n f g v.k v.t v.s gs (hM.below b0) wf hgs ha (by omega) (fun x hx => (hgood x hx).below b0)
  rw [hth] at hP
  have hpl := plc_le gs v.t v.s
  have hfl : (f v.k).length = gs.length := by rw [← hgs, List.length_map]
  have h1 : ∀ y ∈ f v.k, y.p.oneCell' = true := fun y hy => (hgood y hy).one
  have hgb : ∀ j, (g v.k).ownBlock = some j → j < W.heap.size := fun j hj => ((hM.row v.k).lt j hj).2
  have HBW : Hid (base ≤ W.heap.size) := hbW
  rw [← hfl] at hl hpl
  clear hgood hgs ha hth hfl hok
  generalize plc gs v.t v.s = p at *
  have N1 := Blk.new W #[.int .i64 v.k, .int .i64 v.t, .int .i64 v.s, .int .i64 v.val, .int .i64 v.cl, .int .i64 v.ca, .slice da v.ds.length dc] 28
  go_enter Try.func69, Try.ntmps69
  go_wp2_with fail
  refine hP.mono ?_
  rintro e W0 ⟨rfl, hb1⟩
  have M0 := (hM.below b0).below hb1
  have N0 := N1.below hb1 N1.lt
  have B0 : Below W.heap.size W W0 := b0.trans (hb1.mono b0.size)
  have lL := N0.lt
  clear hP N1 hb1 hM
  obtain ⟨qn, fn⟩ := N0.rules
  go_wp2_with fail
  clear qn fn
  generalize hLB : W.heap.size = LB at *
  have HLB : Hid (W.heap.size = LB) := hLB
  clear hLB
  have g1 := M0.look wf
  have g2 : (Instr.lookup 85 (.map (some b)) (.int .i64 v.k) false).run Try.prog W0.drew = .ok (g v.k) W0.drew := (M0.below (Below.refl _ W0).drew).look wf
  have g3 : (Instr.lookup 85 (.map (some b)) (.int .i64 v.k) false).run Try.prog (W0.drew.alloc (.cells #[.int .i64 v.k, .int .i64 v.t, .int .i64 v.s, .int .i64 v.val, .int .i64 v.cl, .int .i64 v.ca, .slice da v.ds.length dc] 28)) = .ok (g v.k) (W0.drew.alloc (.cells #[.int .i64 v.k, .int .i64 v.t, .int .i64 v.s, .int .i64 v.val, .int .i64 v.cl, .int .i64 v.ca, .slice da v.ds.length dc] 28)) := (M0.below ((Below.refl _ W0).drew.alloc (Nat.le_refl _) (.cells #[.int .i64 v.k, .int .i64 v.t, .int .i64 v.s, .int .i64 v.val, .int .i64 v.cl, .int .i64 v.ca, .slice da v.ds.length dc] 28))).look wf
  have g4 : (Instr.lookup 85 (.map (some b)) (.int .i64 v.k) false).run Try.prog (W0.alloc (.cells #[.int .i64 v.k, .int .i64 v.t, .int .i64 v.s, .int .i64 v.val, .int .i64 v.cl, .int .i64 v.ca, .slice da v.ds.length dc] 28)).drew = .ok (g v.k) (W0.alloc (.cells #[.int .i64 v.k, .int .i64 v.t, .int .i64 v.s, .int .i64 v.val, .int .i64 v.cl, .int .i64 v.ca, .slice da v.ds.length dc] 28)).drew := (M0.below ((Below.refl _ W0).alloc (Nat.le_refl _) (.cells #[.int .i64 v.k, .int .i64 v.t, .int .i64 v.s, .int .i64 v.val, .int .i64 v.cl, .int .i64 v.ca, .slice da v.ds.length dc] 28)).drew).look wf
  have g5 : (Instr.lookup 85 (.map (some b)) (.int .i64 v.k) false).run Try.prog (W0.alloc (.cells #[.int .i64 v.k, .int .i64 v.t, .int .i64 v.s, .int .i64 v.val, .int .i64 v.cl, .int .i64 v.ca, .slice da v.ds.length dc] 28)) = .ok (g v.k) (W0.alloc (.cells #[.int .i64 v.k, .int .i64 v.t, .int .i64 v.s, .int .i64 v.val, .int .i64 v.cl, .int .i64 v.ca, .slice da v.ds.length dc] 28)) := (M0.below ((Below.refl _ W0).alloc (Nat.le_refl _) (.cells #[.int .i64 v.k, .int .i64 v.t, .int .i64 v.s, .int .i64 v.val, .int .i64 v.cl, .int .i64 v.ca, .slice da v.ds.length dc] 28))).look wf
  have rA : (W0.drew.alloc (.cells #[.int .i64 v.k, .int .i64 v.t, .int .i64 v.s, .int .i64 v.val, .int .i64 v.cl, .int .i64 v.ca, .slice da v.ds.length dc] 28)).ownsRow base 28 7 (g v.k) (f v.k).length (flat7 (f v.k)) := (M0.below ((Below.refl _ W0).drew.alloc (Nat.le_refl _) (.cells #[.int .i64 v.k, .int .i64 v.t, .int .i64 v.s, .int .i64 v.val, .int .i64 v.cl, .int .i64 v.ca, .slice da v.ds.length dc] 28))).row v.k
  have NA : Blk (W0.drew.alloc (.cells #[.int .i64 v.k, .int .i64 v.t, .int .i64 v.s, .int .i64 v.val, .int .i64 v.cl, .int .i64 v.ca, .slice da v.ds.length dc] 28)) W0.heap.size #[.int .i64 v.k, .int .i64 v.t, .int .i64 v.s, .int .i64 v.val, .int .i64 v.cl, .int .i64 v.ca, .slice da v.ds.length dc] 28 := Blk.new W0.drew #[.int .i64 v.k, .int .i64 v.t, .int .i64 v.s, .int .i64 v.val, .int .i64 v.cl, .int .i64 v.ca, .slice da v.ds.length dc] 28
  have s0 : Hid (W0.cell? ⟨LB, 0, none⟩ = some (.int .i64 v.k) ∧ W0.cell? ⟨LB, 1, none⟩ = some (.int .i64 v.t) ∧ W0.cell? ⟨LB, 2, none⟩ = some (.int .i64 v.s) ∧ W0.cell? ⟨LB, 3, none⟩ = some (.int .i64 v.val) ∧ W0.cell? ⟨LB, 4, none⟩ = some (.int .i64 v.cl) ∧ W0.cell? ⟨LB, 5, none⟩ = some (.int .i64 v.ca) ∧ W0.cell? ⟨LB, 6, none⟩ = some (.slice da v.ds.length dc)) := by
    obtain ⟨q, _⟩ := N0.rules
    exact ⟨q 0, q 1, q 2, q 3, q 4, q 5, q 6⟩
  have N1 := N0.below ((Below.refl _ W0).drew.alloc (Nat.le_refl _) (.cells #[.int .i64 v.k, .int .i64 v.t, .int .i64 v.s, .int .i64 v.val, .int .i64 v.cl, .int .i64 v.ca, .slice da v.ds.length dc] 28)) lL
  have sA : Hid ((W0.alloc (.cells #[.int .i64 v.k, .int .i64 v.t, .int .i64 v.s, .int .i64 v.val, .int .i64 v.cl, .int .i64 v.ca, .slice da v.ds.length dc] 28)).cell? ⟨LB, 0, none⟩ = some (.int .i64 v.k) ∧ (W0.alloc (.cells #[.int .i64 v.k, .int .i64 v.t, .int .i64 v.s, .int .i64 v.val, .int .i64 v.cl, .int .i64 v.ca, .slice da v.ds.length dc] 28)).cell? ⟨LB, 1, none⟩ = some (.int .i64 v.t) ∧ (W0.alloc (.cells #[.int .i64 v.k, .int .i64 v.t, .int .i64 v.s, .int .i64 v.val, .int .i64 v.cl, .int .i64 v.ca, .slice da v.ds.length dc] 28)).cell? ⟨LB, 2, none⟩ = some (.int .i64 v.s) ∧ (W0.alloc (.cells #[.int .i64 v.k, .int .i64 v.t, .int .i64 v.s, .int .i64 v.val, .int .i64 v.cl, .int .i64 v.ca, .slice da v.ds.length dc] 28)).cell? ⟨LB, 3, none⟩ = some (.int .i64 v.val) ∧ (W0.alloc (.cells #[.int .i64 v.k, .int .i64 v.t, .int .i64 v.s, .int .i64 v.val, .int .i64 v.cl, .int .i64 v.ca, .slice da v.ds.length dc] 28)).cell? ⟨LB, 4, none⟩ = some (.int .i64 v.cl) ∧ (W0.alloc (.cells #[.int .i64 v.k, .int .i64 v.t, .int .i64 v.s, .int .i64 v.val, .int .i64 v.cl, .int .i64 v.ca, .slice da v.ds.length dc] 28)).cell? ⟨LB, 5, none⟩ = some (.int .i64 v.ca) ∧ (W0.alloc (.cells #[.int .i64 v.k, .int .i64 v.t, .int .i64 v.s, .int .i64 v.val, .int .i64 v.cl, .int .i64 v.ca, .slice da v.ds.length dc] 28)).cell? ⟨LB, 6, none⟩ = some (.slice da v.ds.length dc)) := by
    obtain ⟨q, _⟩ := N1.rules
    exact ⟨q 0, q 1, q 2, q 3, q 4, q 5, q 6⟩
  have hb0 : base ≤ W0.heap.size := by have := HBW.out; have := B0.size; omega
  have sB : base ≤ (W0.drew.alloc (.cells #[.int .i64 v.k, .int .i64 v.t, .int .i64 v.s, .int .i64 v.val, .int .i64 v.cl, .int .i64 v.ca, .slice da v.ds.length dc] 28)).heap.size := Nat.le_trans hb0 (by simp)
  have hnv : (g v.k).ownBlock ≠ some W0.heap.size := fun e => by have := hgb _ e; omega
  go_region_held3 (fun W => W.cell? ⟨LB, 0, none⟩ = some (.int .i64 v.k) ∧ W.cell? ⟨LB, 1, none⟩ = some (.int .i64 v.t) ∧ W.cell? ⟨LB, 2, none⟩ = some (.int .i64 v.s) ∧ W.cell? ⟨LB, 3, none⟩ = some (.int .i64 v.val) ∧ W.cell? ⟨LB, 4, none⟩ = some (.int .i64 v.cl) ∧ W.cell? ⟨LB, 5, none⟩ = some (.int .i64 v.ca) ∧ W.cell? ⟨LB, 6, none⟩ = some (.slice da v.ds.length dc)) (first | (rw [s3.out.1, s3.out.2.1, s3.out.2.2.1, s3.out.2.2.2.1, s3.out.2.2.2.2.1, s3.out.2.2.2.2.2.1, s3.out.2.2.2.2.2.2]; exact ⟨rfl, rfl, rfl, rfl, rfl, rfl, rfl⟩) | (rw [s2.out.1, s2.out.2.1, s2.out.2.2.1, s2.out.2.2.2.1, s2.out.2.2.2.2.1, s2.out.2.2.2.2.2.1, s2.out.2.2.2.2.2.2]; exact ⟨rfl, rfl, rfl, rfl, rfl, rfl, rfl⟩) | exact sA.out | exact s0.out)
    (first
      | (go_at_call 106
         refine (insert_any base p W0.heap.size (g v.k) (f v.k) ⟨v, .slice da v.ds.length dc⟩ _ ?ha (by omega) hpl ?hb hnv ?hc h1 rfl).mono ?_
         (case ha => exact rA)
         (case hb => exact sB)
         (case hc => exact NA)
         rintro e W2 ⟨v1, rfl, own1, grow1, loc1⟩
         have gAll : W0.grownBy W2 (g v.k).ownBlock := (World.grownBy.mk (w := W0) (w' := W0.drew.alloc (.cells #[.int .i64 v.k, .int .i64 v.t, .int .i64 v.s, .int .i64 v.val, .int .i64 v.cl, .int .i64 v.ca, .slice da v.ds.length dc] 28)) rfl rfl rfl (by simp) (fun j hj _ => Below.heap_alloc W0.drew _ j hj)).trans grow1
         have N2 := N0.grown gAll (fun e => by have := hgb LB e.symm; omega)
         have s2 : Hid (W2.cell? ⟨LB, 0, none⟩ = some (.int .i64 v.k) ∧ W2.cell? ⟨LB, 1, none⟩ = some (.int .i64 v.t) ∧ W2.cell? ⟨LB, 2, none⟩ = some (.int .i64 v.s) ∧ W2.cell? ⟨LB, 3, none⟩ = some (.int .i64 v.val) ∧ W2.cell? ⟨LB, 4, none⟩ = some (.int .i64 v.cl) ∧ W2.cell? ⟨LB, 5, none⟩ = some (.int .i64 v.ca) ∧ W2.cell? ⟨LB, 6, none⟩ = some (.slice da v.ds.length dc)) := by
           obtain ⟨q, _⟩ := N2.rules
           exact ⟨q 0, q 1, q 2, q 3, q 4, q 5, q 6⟩
         obtain ⟨W3, hup, M3, grow3⟩ := M0.store wf (by omega) (by simp) gAll own1 (loc1.imp id fun ⟨j, e1, e2⟩ => ⟨j, e1, Nat.le_trans (by simp) e2⟩)
         have N3 := N2.grown grow3 (fun e => by simp at e; subst e; obtain ⟨D, hD, _⟩ := M0.own; obtain ⟨es, cl, hb, _⟩ := hD; have := N0; unfold Blk at this; rw [hb] at this; cases this)
         have s3 : Hid (W3.cell? ⟨LB, 0, none⟩ = some (.int .i64 v.k) ∧ W3.cell? ⟨LB, 1, none⟩ = some (.int .i64 v.t) ∧ W3.cell? ⟨LB, 2, none⟩ = some (.int .i64 v.s) ∧ W3.cell? ⟨LB, 3, none⟩ = some (.int .i64 v.val) ∧ W3.cell? ⟨LB, 4, none⟩ = some (.int .i64 v.cl) ∧ W3.cell? ⟨LB, 5, none⟩ = some (.int .i64 v.ca) ∧ W3.cell? ⟨LB, 6, none⟩ = some (.slice da v.ds.length dc)) := by
           obtain ⟨q, _⟩ := N3.rules
           exact ⟨q 0, q 1, q 2, q 3, q 4, q 5, q 6⟩
         have B3 : Below base W W3 := ((B0.mono (by have := HLB.out; have := HBW.out; omega)).grown gAll hb0 (fun j hj => ((M0.row v.k).lt j hj).1)).grown grow3 (Nat.le_trans hb0 gAll.size) (fun j hj => by simp at hj; omega)
         clear own1 grow1 loc1 gAll N2 N3 grow3 g1 g2 g3 g4 g5 rA NA N1 N0 sB)
      | (refine step_update _ (by rfl) _ _ _ 85 (by rfl) (.map (some b)) (.int .i64 v.k) v1 (by rfl) (by rfl) (by rfl) W3 hup ?_))
  all_goals
    clear s0 sA s2 s3
    go_wp2_with fail
    go_ret
    exact ⟨v1, rfl, M3, B3⟩
end Go.Proofs.Ythlmodafadfnfaa

/- Versions of wanted keys, told in order: what is shared. -/
namespace Go.Proofs.Ythlmodafadfnfaa
open Go.ChangeShapes Go.WideShapes Go.ChangeAt Go.RowKit

/-- The keys of such a map, and how many. -/
theorem Chm.keys' {w : World} {base b n : Nat} {f : Int → List XV} {g : Int → Value} (h : Chm w base b n f g) : ∃ D : DataW Value, w.ownsMap Try.prog 3 heldR b n D ∧ Maps.size D ≤ n ∧ ∀ ss : List Int, ss.Perm (intKeys D) → ∃ ks : List Int, ss.mergeSort (fun x y => decide (x ≤ y)) = ks ∧ ks.length = ss.length ∧ ks.length ≤ n ∧ ks.Pairwise (· < ·) ∧ ∀ k, k ∈ ks ↔ f k ≠ [] := by
  obtain ⟨D, hD, hk⟩ := h.keys
  refine ⟨D, hD, hD.size_le, fun ss hp => ⟨_, rfl, List.length_mergeSort ss, ?_, (hk ss hp).1, (hk ss hp).2⟩⟩
  rw [List.length_mergeSort, hp.length_eq]
  refine Nat.le_trans (Nat.le_of_eq ?_) hD.size_le
  cases D <;> simp [intKeys, Maps.size]
/-- One of a row of numbers. -/
theorem ints_at {w : World} {base vc : Nat} {e : TypeId} {va : Option Addr} {n : Nat} {ks : List Int} (h : w.ownsRow base e 1 (.slice va n vc) n (ks.map encZ)) {i : Nat} (hi : i < ks.length) : ∃ gb, va = some ⟨gb, 0, none⟩ ∧ gb < w.heap.size ∧ base ≤ gb ∧ w.cell? ⟨gb, i, none⟩ = some (.int .i64 ks[i]) := by
  have hl := h.1
  simp at hl
  rcases h.2 with ⟨_, hn⟩ | ⟨gb, cap, cur, he, hb, hg, _⟩
  · omega
  · simp at he
    obtain ⟨rfl, rfl⟩ := he
    refine ⟨gb, rfl, (Array.getElem?_eq_some_iff.1 hg).1, hb, ?_⟩
    have := h.cells (g := gb) rfl i (.int .i64 ks[i]) (by simp [hi])
    rwa [addr_add, Nat.zero_add] at this
/-- Versions of the first wanted keys. -/
def toldTo (p : Int → Bool) (vs : List V) (ks : List Int) : List V := ks.flatMap fun k => if p k = true then grp vs k else []
theorem toldTo_snoc (p : Int → Bool) (vs : List V) (ks : List Int) (k : Int) : toldTo p vs (ks ++ [k]) = toldTo p vs ks ++ if p k = true then grp vs k else [] := by simp [toldTo]
end Go.Proofs.Ythlmodafadfnfaa

/- All versions of the map, in order. -/
namespace Go.Proofs.Ythlmodafadfnfaa
open Go.ChangeShapes Go.WideShapes Go.ChangeAt Go.RowKit

set_option maxHeartbeats 4000000 in
set_option maxRecDepth 100000 in
theorem ofAll_any (W : World) (base b n : Nat) (f : Int → List XV) (g : Int → Value) (vs : List V)  (p : Int → Bool) (hM : Chm W base b n f g) (hn : n ≤ 1000) (hf : ∀ j, (f j).map XV.v = grp vs j) (hgood : ∀ j, ∀ x ∈ f j, GoodX W x) (hvs : vs.Pairwise (fun a b => a.k ≤ b.k)) (hvk : ∀ v ∈ vs, 0 ≤ v.k ∧ v.k ≤ 5) (hl : vs.length ≤ 100)
    (hw : ∀ (W' : World) (k : Int), Below W.heap.size W W' → Calls Try.prog 107 #[.int .i64 k] W' fun e w' => e = .returned (.bool (p k)) ∧ Below W'.heap.size W' w') :
    Calls Try.prog 90 #[.map (some b), .func (.func 107) #[] #[]] W fun e w' => ∃ u ys, e = .returned u ∧ OwnV w' W.heap.size u ys ∧ ys.map XV.v = vs.filter (fun v => p v.k) ∧ Below W.heap.size W w' := by
  obtain ⟨i0, hi, hz0, hz1, hz2⟩ := info_parts infoVer
  have b1 : Below W.heap.size W (W.alloc (.cells #[.map (some b)] 85)) := (Below.refl _ W).alloc (Nat.le_refl _) _
  have M1 := hM.below b1
  have lb := hM.lt
  obtain ⟨D, hD, hsz, hks⟩ := M1.keys'
  have hcell : (W.alloc (.cells #[.map (some b)] 85)).cell? ⟨W.heap.size, 0, none⟩ = some (.map (some b)) := (Blk.new W #[.map (some b)] 85).cell 0
  go_enter Try.func90, Try.ntmps90
  go_wp2_with fail
  refine (keys_any (some b) _).mono ?_
  rintro e w1 ⟨rfl, rfl⟩
  go_wp2_with fail
  refine (sorted_any b n W.heap.size D heldR _ (by simp) hcell hD (by omega)).mono ?_
  rintro e w2 ⟨v, ss, rfl, hperm, hrow, hb2⟩
  obtain ⟨ks, hke, hkl, hkn, hkp, hkm⟩ := hks ss hperm
  rw [hke] at hrow
  obtain ⟨va, vc, rfl, _⟩ := row_slice hrow
  have B2 : Below W.heap.size W w2 := b1.trans (hb2.mono b1.size)
  have M2 := hM.below B2
  have HT : Hid (toldTo p vs ks = vs.filter fun v => p v.k) := told_keys p ks vs hvs hkp (fun k => by rw [hkm k, ← hf k]; simp)
  have HM : Hid (∀ k ∈ ks, f k ≠ []) := fun k hk => (hkm k).1 hk
  have HK : Hid (∀ k ∈ ks, 0 ≤ k ∧ k ≤ 5) := fun k hk => by
    have := (hkm k).1 hk
    rcases hx : f k with _ | ⟨x, l⟩
    · exact absurd hx this
    · have hg : x.v ∈ grp vs k := by rw [← hf k, hx]; simp
      have h1 := List.mem_filter.1 hg
      have h2 := hvk _ h1.1
      have h3 := h1.2
      simp at h3
      omega
  have hs2 := B2.size
  rw [← hkl] at hrow
  clear hks hke hperm hsz hD hcell M1 b1 hb2 hkm hkp hM
  rw [← hkl]
  clear hkl
  go_wp2_with fail
  go_loopw [5, 12] (fun u i wr => ∃ (k : Nat) (ys : List XV), k ≤ ks.length ∧ i = .int .i64 k ∧ OwnV wr w2.heap.size u ys ∧ Hid (ys.map XV.v = toldTo p vs (ks.take k)) ∧ ys.length ≤ k * 100 ∧ Below w2.heap.size w2 wr) (fun _ i _ => ks.length - (intOf i).toNat)
  case atStart => exact ⟨0, [], Nat.zero_le _, rfl, OwnV.nil _ _, rfl, Nat.zero_le _, Below.refl _ _⟩
  case round =>
    obtain ⟨k, ys, hk, rfl, hO, HY, hyl, hB⟩ := hrel
    by_cases hlt : k < ks.length
    · obtain ⟨gb, rfl, hgb, _, hc⟩ := ints_at hrow hlt
      have hc2 := (hB.cell (p := ⟨gb, k, none⟩) hgb).trans hc
      have HS : Hid (ks.take (k + 1) = ks.take k ++ [ks[k]]) := takeV ks k hlt
      have hne := HM.out ks[k] (List.getElem_mem hlt)
      obtain ⟨k0, k5⟩ := HK.out ks[k] (List.getElem_mem hlt)
      generalize ks[k] = key at *
      have i1 : (0 : Int) ≤ (k : Int) := by omega
      have i2 : (k : Int) < (ks.length : Int) := by omega
      have BW : Below W.heap.size W wr := B2.trans (hB.mono hs2)
      go_wp2_with fail
      refine (hw wr key BW).mono ?_
      rintro e w3 ⟨rfl, hb3⟩
      have B3 : Below w2.heap.size w2 w3 := hB.trans (hb3.mono hB.size)
      have O3 := hO.below hb3 (Nat.le_refl _)
      clear hc hc2 hO hb3 BW hB
      rcases hp : p key with _ | _
      · have HN : Hid (toldTo p vs (ks.take (k + 1)) = toldTo p vs (ks.take k)) := by show toldTo _ _ _ = _; rw [HS.out, toldTo_snoc, hp]; simp
        go_wp2_with fail
        go_roundw
        case rel => exact ⟨k + 1, ys, by omega, by go_num, O3, (by show _ = _; rw [HN.out, HY.out]), by omega, B3⟩
        case measure => simp [intOf]; omega
      · have HN : Hid (toldTo p vs (ks.take (k + 1)) = toldTo p vs (ks.take k) ++ grp vs key) := by show toldTo _ _ _ = _; rw [HS.out, toldTo_snoc, hp]; simp
        have M3 := M2.below B3
        have hlook := M3.look (wf_key k0 k5)
        have BW3 : Below W.heap.size W w3 := B2.trans (B3.mono hs2)
        obtain ⟨ga, gc, hg, hV⟩ := M3.at key (hf key) (fun x hx => (hgood key x hx).below BW3)
        rw [hg] at hlook
        have hgl := grp_le vs key
        have hgp : 0 < (grp vs key).length := by
          rw [← hf key, List.length_map]
          exact List.length_pos_iff.2 hne
        clear hg M3 hp
        generalize grp vs key = gs at *
        go_wp2_with fail
        refine (iVers_any ga gc gs _ (by omega) hV).mono ?_
        rintro e w4 ⟨cv, zs, rfl, OC, hzs, hb4⟩
        have B4 : Below w2.heap.size w2 w4 := B3.trans (hb4.mono B3.size)
        have O4 := O3.below hb4 (Nat.le_refl _)
        have hzl : zs.length = gs.length := by rw [← hzs, List.length_map]
        have hap : ∀ x ∈ ys, ∀ y ∈ zs, ApartV x.p y.p := fun x hx y hy => apart_new (O3.deps x hx).1 (OC.deps y hy).1 (Nat.le_refl _)
        have OC4 := OC.mono (base' := w2.heap.size) B3.size
        obtain ⟨cb, cc, rfl⟩ : ∃ cb cc, cv = .slice (some ⟨cb, 0, none⟩) zs.length cc := by
          rcases OC.row.2 with ⟨_, h0⟩ | ⟨cb, cc, cur, h0, _⟩
          · omega
          · exact ⟨cb, cc, h0⟩
        have hcells := OC4.row.cells (g := cb) rfl
        have hone := flat7_one (fun y hy => (OC4.good y hy).one)
        have h63 : ys.length + zs.length ≤ maxLen := by unfold maxLen; omega
        have hby : (ys.length + zs.length) * 72 ≤ 140737488355328 := by omega
        have hs4 := B4.size
        have HL : Hid ((flat7 zs).length = zs.length * 7) := flat7_len zs
        have hzb : zs.length ≤ 100 := by omega
        have HZ : Hid (zs.map XV.v = gs) := hzs
        clear hlook hV hb4 O3 OC B3 BW3 hzl hzs
        go_wp2_with (first | (at_builtin
                              refine wpList_append_own _ rfl _ _ 23 rfl w2.heap.size 28 i0 (.agg #[.int .i64 0, .int .i64 0, .int .i64 0, .int .i64 0, .int .i64 0, .int .i64 0, .slice none 0 0]) 7 72 Try.underlying23 hi hz0 hz1 hz2 rfl (by decide) _ ys.length (flat7 ys) rfl O4.row ⟨cb, 0, none⟩ zs.length cc (flat7 zs) rfl HL.out hcells hone h63 hby hs4 ?_
                              intro u5 w5 hrow5 hg5 _
                              have O5 := O4.append hg5 hrow5 OC4.deps OC4.apart hap
                              have B5 : Below w2.heap.size w2 w5 := B4.grown hg5 hs4 (fun j hj => (O4.row.lt j hj).1)
                              clear hrow5 hg5 O4 OC4 hap hcells hone B4))
        go_roundw
        case rel => exact ⟨k + 1, ys ++ zs, by omega, by go_num, O5, (by show _ = _; rw [HN.out, List.map_append, HY.out, HZ.out]), by rw [List.length_append]; omega, B5⟩
        case measure => simp [intOf]; omega
    · have hk2 : k = ks.length := by omega
      subst hk2
      rw [List.take_length] at HY
      go_wp2_with fail
      go_ret
      exact ⟨_, ys, rfl, hO.mono hs2, by rw [HY.out, HT.out], B2.trans (hB.mono hs2)⟩

theorem all1_any (k : Int) (w : World) : Calls Try.prog 107 #[.int .i64 k] w fun e w' => e = .returned (.bool true) ∧ w' = w := by
  go_enter Try.func107, Try.ntmps107
  go_wp2
  go_ret
  exact ⟨rfl, rfl⟩
theorem all_chain (W : World) (base b n : Nat) (f : Int → List XV) (g : Int → Value) (vs : List V) (hM : Chm W base b n f g) (hn : n ≤ 1000) (hf : ∀ j, (f j).map XV.v = grp vs j) (hgood : ∀ j, ∀ x ∈ f j, GoodX W x) (hvs : vs.Pairwise (fun a b => a.k ≤ b.k)) (hvk : ∀ v ∈ vs, 0 ≤ v.k ∧ v.k ≤ 5) (hl : vs.length ≤ 100) :
    Calls Try.prog 70 #[.map (some b)] W fun e w' => ∃ u ys, e = .returned u ∧ OwnV w' W.heap.size u ys ∧ ys.map XV.v = vs ∧ Below W.heap.size W w' := by
  have hO := ofAll_any W base b n f g vs (fun _ => true) hM hn hf hgood hvs hvk hl (fun W' k _ => (all1_any k W').mono fun e w' ⟨h1, h2⟩ => ⟨h1, by rw [h2]; exact Below.refl _ _⟩)
  go_enter Try.func70, Try.ntmps70
  go_wp2_with fail
  refine hO.mono ?_
  rintro e w1 ⟨u, ys, rfl, O1, hy, hb⟩
  go_wp2_with fail
  go_ret
  exact ⟨_, ys, rfl, O1, by rw [hy]; simp, hb⟩
end Go.Proofs.Ythlmodafadfnfaa

/- The program's ChainPut. -/
namespace Go.Proofs.Ythlmodafadfnfaa
open Go.ChangeShapes Go.WideShapes Go.ChangeAt Go.RowKit

theorem chain_keys {vs : List V} (h : chainP vs) : ∀ v ∈ vs, 0 ≤ v.k ∧ v.k ≤ 5 := fun v hv => okV_key (h.1 v hv)
theorem at_thr (vs : List V) (k t s : Int) : (cAt vs k t s).isSome = thr (grp vs k) t s := by rw [at_grp]; rfl
/-- The versions by key behind a put. -/
theorem upd_grp {vs : List V} {v : V} {f : Int → List XV} {p : Value} (h : Asc vs) (hn : cAt vs v.k v.t v.s = none) (hf : ∀ j, (f j).map XV.v = grp vs j) : ∀ j, (upd f v.k ((f v.k).take (plc (grp vs v.k) v.t v.s) ++ XV.mk v p :: (f v.k).drop (plc (grp vs v.k) v.t v.s)) j).map XV.v = grp (insV v vs) j := fun j => by
  rw [grp_insV h hn]
  by_cases e : j = v.k
  · subst e
    rw [upd_same, if_pos rfl, List.map_append, List.map_cons, List.map_take, List.map_drop, hf]
  · rw [upd_other _ _ e, if_neg e, hf]

set_option maxHeartbeats 4000000 in
set_option maxRecDepth 100000 in
theorem iPutV_any (a : Option Addr) (cap : Nat) (vs : List V) (v : V) (va : Option Addr) (vc : Nat) (w : World) (hn : vs.length ≤ 1099511627776) (h : Vers w a vs) (hvl : v.ds.length ≤ 1099511627776) (hvd0 : Deps w va v.ds) :
    Calls Try.prog 23 #[.slice a vs.length cap, verV v.k v.t v.s v.val v.cl v.ca va v.ds.length vc] w fun e w' => ∃ u ys, e = .returned (.tuple #[u, .bool (cDid vs v)]) ∧ OwnV w' w.heap.size u ys ∧ ys.map XV.v = cPut vs v ∧ Below w.heap.size w w' := by
  have V1 := Blk.new w #[.int .i64 v.k, .int .i64 v.t, .int .i64 v.s, .int .i64 v.val, .int .i64 v.cl, .int .i64 v.ca, .slice va v.ds.length vc] 28
  have b0 : Below w.heap.size w (w.alloc (.cells #[.int .i64 v.k, .int .i64 v.t, .int .i64 v.s, .int .i64 v.val, .int .i64 v.cl, .int .i64 v.ca, .slice va v.ds.length vc] 28)) := (Below.refl _ w).alloc (Nat.le_refl _) _
  have h1 := h.below b0
  have hvd := hvd0.below b0
  have s1 : (w.alloc (.cells #[.int .i64 v.k, .int .i64 v.t, .int .i64 v.s, .int .i64 v.val, .int .i64 v.cl, .int .i64 v.ca, .slice va v.ds.length vc] 28)).heap.size = w.heap.size + 1 := by simp
  rcases hc : chainB vs with _ | _
  · have HP : Hid _ := put_no (v := v) hc
    have hC := iChainOf_no a cap vs _ hn h1 hc
    clear h hc hvd hvd0
    go_enter Try.func23, Try.ntmps23
    go_wp2_with fail
    refine hC.mono ?_
    rintro e w2 ⟨rfl, hb2⟩
    clear hC
    go_wp2_with fail
    go_ret2
    exact ⟨_, [], by rw [HP.out.2]; rfl, OwnV.nil _ _, by rw [HP.out.1]; rfl, b0.trans (hb2.mono b0.size)⟩
  have hC := iChainOf_yes a cap vs _ hn h1 hc
  obtain ⟨hl80, hP⟩ := chainB_iff.1 hc
  have hvs := asc_keys hP.2
  have hvk := chain_keys hP
  have hl100 : vs.length ≤ 100 := by omega
  by_cases hl : 80 ≤ (vs.length : Int)
  · have HP : Hid _ := put_stay hc (putB_full (v := v) (by omega : 80 ≤ vs.length))
    clear h hc hvd0 hP
    go_enter Try.func23, Try.ntmps23
    go_wp2_with fail
    generalize (w.alloc (.cells #[.int .i64 v.k, .int .i64 v.t, .int .i64 v.s, .int .i64 v.val, .int .i64 v.cl, .int .i64 v.ca, .slice va v.ds.length vc] 28)) = W1 at *
    refine hC.mono ?_
    rintro e w2 ⟨b, f, g, rfl, hbb, hM, hf, hgood, hb2⟩
    clear hC
    have V2 := V1.below hb2 V1.lt
    obtain ⟨q1, g1⟩ := V2.rules
    go_wp2_with fail
    refine (all_chain w2 W1.heap.size b vs.length f g vs hM (by omega) hf (fun j x hx => (hgood j x hx).below hb2) hvs hvk hl100).mono ?_
    rintro e w9 ⟨u9, ys, rfl, hO, hys, hb9⟩
    go_wp2_with fail
    go_ret2
    exact ⟨_, ys, by rw [HP.out.2]; rfl, hO.mono (by have := b0.size; have := hb2.size; omega), by rw [hys, HP.out.1], (b0.trans (hb2.mono b0.size)).trans (hb9.mono (by have := b0.size; have := hb2.size; omega))⟩
  have hl2 : (vs.length : Int) < 80 := by omega
  rcases hv : okV v with _ | _
  · have HP : Hid _ := put_stay hc (putB_ok (vs := vs) hv)
    clear h hc hvd0 hP
    go_enter Try.func23, Try.ntmps23
    go_wp2_with fail
    generalize (w.alloc (.cells #[.int .i64 v.k, .int .i64 v.t, .int .i64 v.s, .int .i64 v.val, .int .i64 v.cl, .int .i64 v.ca, .slice va v.ds.length vc] 28)) = W1 at *
    refine hC.mono ?_
    rintro e w2 ⟨b, f, g, rfl, hbb, hM, hf, hgood, hb2⟩
    clear hC
    have V2 := V1.below hb2 V1.lt
    obtain ⟨q1, g1⟩ := V2.rules
    go_wp2_with fail
    refine (iVer_is hv hvl (hvd.below hb2)).mono ?_
    rintro e w3 ⟨rfl, hb3⟩
    have b3 : Below W1.heap.size W1 w3 := hb2.trans (hb3.mono hb2.size)
    have M3 := hM.below hb3
    clear q1 g1 V2 hb3 hM
    go_wp2_with fail
    refine (all_chain w3 W1.heap.size b vs.length f g vs M3 (by omega) hf (fun j x hx => (hgood j x hx).below b3) hvs hvk hl100).mono ?_
    rintro e w9 ⟨u9, ys, rfl, hO, hys, hb9⟩
    go_wp2_with fail
    go_ret2
    exact ⟨_, ys, by rw [HP.out.2]; rfl, hO.mono (by have := b0.size; have := b3.size; omega), by rw [hys, HP.out.1], (b0.trans (b3.mono b0.size)).trans (hb9.mono (by have := b0.size; have := b3.size; omega))⟩
  have hth0 := at_thr vs v.k v.t v.s
  have hgl := grp_le vs v.k
  have hga := grp_asc hP.2 v.k
  rcases hth : thr (grp vs v.k) v.t v.s with _ | _
  · rw [hth] at hth0
    have HP : Hid _ := put_take hc (putB_yes (vs := vs) hv hth0 (by omega))
    have hnone : cAt vs v.k v.t v.s = none := by rcases hx : cAt vs v.k v.t v.s with _ | y; rfl; rw [hx] at hth0; cases hth0
    have hasc2 := insV_asc hP.2 hnone
    have hvs2 := asc_keys hasc2
    have hvk2 : ∀ u ∈ insV v vs, 0 ≤ u.k ∧ u.k ≤ 5 := fun u hu => by
      rcases insV_mem.1 hu with rfl | hu
      · exact okV_key hv
      · exact hvk u hu
    have hl2' : (insV v vs).length ≤ 100 := by rw [insV_len]; omega
    have HU : Hid _ := fun (f : Int → List XV) (p : Value) hf => upd_grp (f := f) (p := p) hP.2 hnone hf
    clear h hc hvd0 hP hth0 hnone hasc2 hvs hvk
    go_enter Try.func23, Try.ntmps23
    go_wp2_with fail
    generalize (w.alloc (.cells #[.int .i64 v.k, .int .i64 v.t, .int .i64 v.s, .int .i64 v.val, .int .i64 v.cl, .int .i64 v.ca, .slice va v.ds.length vc] 28)) = W1 at *
    refine hC.mono ?_
    rintro e w2 ⟨b, f, g, rfl, hbb, hM, hf, hgood, hb2⟩
    clear hC
    have V2 := V1.below hb2 V1.lt
    obtain ⟨q1, g1⟩ := V2.rules
    go_wp2_with fail
    refine (iVer_is hv hvl (hvd.below hb2)).mono ?_
    rintro e w3 ⟨rfl, hb3⟩
    have b3 : Below W1.heap.size W1 w3 := hb2.trans (hb3.mono hb2.size)
    have M3 := hM.below hb3
    have V3 := V2.below hb3 V2.lt
    clear q1 g1 V2 hb3 hM
    obtain ⟨q1, g1⟩ := V3.rules
    go_wp2_with fail
    refine (put_new w3 W1.heap.size b vs.length f g v va vc (grp vs v.k) M3 hv (hf v.k) hga (by omega) (fun x hx => (hgood v.k x hx).below b3) hth (by omega) hbb b3.size).mono ?_
    rintro e w4 ⟨u4, rfl, M4, hb4⟩
    have b4 : Below W1.heap.size W1 w4 := b3.trans hb4
    have hf4 := HU.out f (.slice va v.ds.length vc) hf
    have hgood4 : ∀ j, ∀ x ∈ upd f v.k ((f v.k).take (plc (grp vs v.k) v.t v.s) ++ XV.mk v (.slice va v.ds.length vc) :: (f v.k).drop (plc (grp vs v.k) v.t v.s)) j, GoodX w4 x := fun j x hx => by
      by_cases e : j = v.k
      · subst e
        rw [upd_same] at hx
        rcases List.mem_append.1 hx with hx | hx
        · exact (hgood _ x (List.mem_of_mem_take hx)).below b4
        · rcases List.mem_cons.1 hx with rfl | hx
          · exact ⟨va, vc, rfl, hvd.below b4, hvl⟩
          · exact (hgood _ x (List.mem_of_mem_drop hx)).below b4
      · rw [upd_other _ _ e] at hx
        exact (hgood j x hx).below b4
    clear q1 g1 V3 M3 hb4 hf
    go_wp2_with fail
    refine (all_chain w4 W1.heap.size b (vs.length + 1) _ _ (insV v vs) M4 (by omega) hf4 hgood4 hvs2 hvk2 hl2').mono ?_
    rintro e w9 ⟨u9, ys, rfl, hO, hys, hb9⟩
    go_wp2_with fail
    go_ret2
    exact ⟨_, ys, by rw [HP.out.2]; rfl, hO.mono (by have := b0.size; have := b4.size; omega), by rw [hys, HP.out.1], (b0.trans (b4.mono b0.size)).trans (hb9.mono (by have := b0.size; have := b4.size; omega))⟩
  · rw [hth] at hth0
    have HP : Hid _ := put_stay hc (putB_there (vs := vs) hth0)
    clear h hc hvd0 hP hth0
    go_enter Try.func23, Try.ntmps23
    go_wp2_with fail
    generalize (w.alloc (.cells #[.int .i64 v.k, .int .i64 v.t, .int .i64 v.s, .int .i64 v.val, .int .i64 v.cl, .int .i64 v.ca, .slice va v.ds.length vc] 28)) = W1 at *
    refine hC.mono ?_
    rintro e w2 ⟨b, f, g, rfl, hbb, hM, hf, hgood, hb2⟩
    clear hC
    have V2 := V1.below hb2 V1.lt
    obtain ⟨q1, g1⟩ := V2.rules
    go_wp2_with fail
    refine (iVer_is hv hvl (hvd.below hb2)).mono ?_
    rintro e w3 ⟨rfl, hb3⟩
    have b3 : Below W1.heap.size W1 w3 := hb2.trans (hb3.mono hb2.size)
    have M3 := hM.below hb3
    have V3 := V2.below hb3 V2.lt
    clear q1 g1 V2 hb3 hM
    obtain ⟨q1, g1⟩ := V3.rules
    go_wp2_with fail
    refine (put_there w3 W1.heap.size b vs.length f g v va vc (grp vs v.k) M3 hv (hf v.k) hga (by omega) (fun x hx => (hgood v.k x hx).below b3) hth).mono ?_
    rintro e w4 ⟨rfl, hb4⟩
    have b4 : Below W1.heap.size W1 w4 := b3.trans (hb4.mono b3.size)
    have M4 := M3.below hb4
    clear q1 g1 V3 M3 hb4
    go_wp2_with fail
    refine (all_chain w4 W1.heap.size b vs.length f g vs M4 (by omega) hf (fun j x hx => (hgood j x hx).below b4) hvs hvk hl100).mono ?_
    rintro e w9 ⟨u9, ys, rfl, hO, hys, hb9⟩
    go_wp2_with fail
    go_ret2
    exact ⟨_, ys, by rw [HP.out.2]; rfl, hO.mono (by have := b0.size; have := b4.size; omega), by rw [hys, HP.out.1], (b0.trans (b4.mono b0.size)).trans (hb9.mono (by have := b0.size; have := b4.size; omega))⟩
end Go.Proofs.Ythlmodafadfnfaa

/- The exact law of ChainPut. -/
namespace Go.Proofs.Ythlmodafadfnfaa
open Go.ChangeShapes Go.WideShapes Go.ChangeAt Go.RowKit Go.Deep

theorem OwnV.asP {w : World} {base : Nat} {u : Value} {ys : List XV} {vs : List V} (h : OwnV w base u ys) (hy : ys.map XV.v = vs) : ∃ a cap, u = .slice a vs.length cap ∧ Vers w a vs := by
  obtain ⟨a, cap, h1, h2, h3⟩ := h.vers
  subst hy
  exact ⟨a, cap, by rw [h1, List.length_map], h2⟩
theorem OwnV.atP {w : World} {base : Nat} {a : Option Addr} {n cap : Nat} {ys : List XV} {vs : List V} (h : OwnV w base (.slice a n cap) ys) (hy : ys.map XV.v = vs) : Vers w a vs := by
  obtain ⟨a', c', e, V⟩ := h.asP hy
  injection e with e1 e2 e3
  subst e1; exact V
theorem Blk.onlyP {w w' : World} {S : Nat → Prop} {B : Nat} {vs : Array Value} {T : TypeId} (h : Blk w B vs T) (o : Only w w' S) (hB : ¬ S B) : Blk w' B vs T := (o.block B h.lt hB).trans h
theorem insV_parts (v : V) (vs : List V) : (insV v vs).length = vs.length + 1 ∧ tot (insV v vs) = tot vs + v.ds.length ∧ ∀ x ∈ insV v vs, x = v ∨ x ∈ vs := by
  induction vs with
  | nil => exact ⟨rfl, by simp [insV, tot], fun x hx => by simpa [insV] using hx⟩
  | cons y ys ih =>
    unfold insV
    split
    · exact ⟨rfl, by simp only [tot_cons]; omega, fun x hx => by simpa using hx⟩
    · refine ⟨by simp only [List.length_cons]; omega, by simp only [tot_cons]; omega, fun x hx => ?_⟩
      rcases List.mem_cons.1 hx with rfl | hx
      · exact .inr (by simp)
      · rcases ih.2.2 x hx with h | h
        · exact .inl h
        · exact .inr (by simp [h])
theorem put_parts (v : V) (vs : List V) : ((cPut vs v).length ≤ vs.length ∨ (cPut vs v).length ≤ 80) ∧ (cPut vs v).length ≤ vs.length + 1 ∧ tot (cPut vs v) ≤ tot vs + v.ds.length ∧ ∀ x ∈ cPut vs v, x = v ∨ x ∈ vs := by
  unfold cPut
  split
  · split
    · rename_i hp
      have h80 : vs.length < 80 := by unfold putB at hp; simp at hp; omega
      have := insV_parts v vs
      exact ⟨.inr (by omega), by omega, by omega, this.2.2⟩
    · exact ⟨.inl (Nat.le_refl _), by omega, by omega, fun x hx => .inr hx⟩
  · exact ⟨.inl (by simp), by simp, by simp [tot], fun x hx => (by cases hx)⟩
/-- What is known in a region of the law: nothing old has turned, and the version that came in. -/
def InW (w0 : World) (E : Nat) (vs : Array Value) (W : World) : Prop := Below w0.heap.size w0 W ∧ (E < W.heap.size ∧ ∀ j, W.cell? ⟨E, j, none⟩ = vs[j]?)
theorem InW.below {w0 w w' : World} {E : Nat} {vs : Array Value} (h : InW w0 E vs w) (k : Below w.heap.size w w') : InW w0 E vs w' := by
  obtain ⟨h1, ⟨a1, a2⟩⟩ := h
  exact ⟨h1.trans (k.mono h1.size), ⟨Nat.lt_of_lt_of_le a1 k.size, fun j => (k.cell (p := ⟨E, j, none⟩) a1).trans (a2 j)⟩⟩
theorem InW.only {w0 w w' : World} {E : Nat} {vs : Array Value} {S : Nat → Prop} (h : InW w0 E vs w) (o : Only w w' S) (hS : ∀ j, S j → w0.heap.size ≤ j ∧ j ≠ E) : InW w0 E vs w' := by
  obtain ⟨h1, ⟨a1, a2⟩⟩ := h
  have hk : w'.heap[E]? = w.heap[E]? := o.block E a1 (fun e => (hS E e).2 rfl)
  have hc : ∀ j, w'.cell? ⟨E, j, none⟩ = w.cell? ⟨E, j, none⟩ := fun j => World.cell?_of_block (w := w) hk
  exact ⟨h1.trans (o.below h1.size fun j hj => (hS j hj).1), Nat.lt_of_lt_of_le a1 o.size, fun j => (hc j).trans (a2 j)⟩
theorem InW.drew {w0 w : World} {E : Nat} {vs : Array Value} (h : InW w0 E vs w) : InW w0 E vs w.drew := h.below (Below.refl _ _).drew

set_option maxHeartbeats 8000000 in
set_option maxRecDepth 100000 in
theorem lawXChainPut (a : Option Addr) (cap : Nat) (vs : List V) (v : V) (va : Option Addr) (vc : Nat) (w : World) (hn : vs.length ≤ maxLen) (h : VersI w a vs) (hm : v.ds.length ≤ maxLen) (hd : Deps w va v.ds) :
    Calls Try.prog 15 #[.slice a vs.length cap, verV v.k v.t v.s v.val v.cl v.ca va v.ds.length vc] w fun e w' => e = .returned (.bool true) ∧ Below w.heap.size w w' := by
  have b0 : Below w.heap.size w (w.alloc (.cells #[.int .i64 v.k, .int .i64 v.t, .int .i64 v.s, .int .i64 v.val, .int .i64 v.cl, .int .i64 v.ca, .slice va v.ds.length vc] 64)) := (Below.refl _ w).alloc (Nat.le_refl _) _
  have A0 := Blk.new w #[.int .i64 v.k, .int .i64 v.t, .int .i64 v.s, .int .i64 v.val, .int .i64 v.cl, .int .i64 v.ca, .slice va v.ds.length vc] 64
  have hz := szVers_any a cap vs _ hn (h.below b0)
  by_cases hbig : (1048576 : Int) < (vs.length : Int) + tot vs
  · rw [if_pos hbig] at hz
    go_enter Try.func15, Try.ntmps15
    go_wp2_with fail
    refine hz.mono ?_
    rintro e w1 ⟨rfl, hb1⟩
    clear hz
    go_wp2
    go_ret
    exact ⟨rfl, b0.trans (hb1.mono b0.size)⟩
  rw [if_neg hbig] at hz
  have hx : vs.length ≤ 1048576 := by omega
  have hl : ∀ v ∈ vs, v.ds.length ≤ 1048576 := fun v hv => by have := tot_mem hv; omega
  have hV := h.vers (fun v hv => by have := hl v hv; omega)
  have hpos : (0 : Int) ≤ 1048576 - vs.length - (tot vs : Int) := by omega
  have hz2 := fun w => szVerL_any v.k v.t v.s v.val v.cl v.ca (1048576 - vs.length - (tot vs : Int)) va v.ds.length vc w hm hpos (by omega)
  by_cases hbig2 : (1048576 - vs.length - (tot vs : Int)) < (v.ds.length : Int)
  · rw [if_pos hbig2] at hz2
    go_enter Try.func15, Try.ntmps15
    go_wp2_with fail
    refine hz.mono ?_
    rintro e w1 ⟨rfl, hb1⟩
    have A1 := A0.below hb1 A0.lt
    have B1 : Below w.heap.size w w1 := b0.trans (hb1.mono b0.size)
    clear hz hb1 A0 b0
    obtain ⟨q1, g1⟩ := A1.rules
    go_wp2_with fail
    refine (hz2 _).mono ?_
    rintro e w2 ⟨rfl, hb2⟩
    clear hz2 q1 g1 A1
    go_wp2
    go_ret
    exact ⟨rfl, B1.trans (hb2.mono B1.size)⟩
  rw [if_neg hbig2] at hz2
  have hpos2 : (0 : Int) ≤ 1048576 - vs.length - (tot vs : Int) - (v.ds.length : Int) := by omega
  have hvl : v.ds.length ≤ 1048576 := by omega
  have hvl' : v.ds.length ≤ 1099511627776 := by omega
  have hend : endV 1 vs ≤ 10000000 := by unfold endV; omega
  have hend0 : 0 ≤ endV 1 vs := by unfold endV; omega
  have hend2 : 0 ≤ endV 1 vs + 3 * (v.ds.length : Int) := by omega
  obtain ⟨p1, p2, p3, p4⟩ := put_parts v vs
  have hS := fun b c W va vc h h' => sPutV_any b c vs v va vc W (by omega) h hvl' h'
  have hI := fun b c W va vc h h' => iPutV_any b c vs v va vc W (by omega) h hvl' h'
  generalize cPut vs v = pl at *
  generalize cDid vs v = r at *
  have lp : pl.length ≤ 1048576 := by omega
  have dp : ∀ x ∈ pl, x.ds.length ≤ 1048576 := fun x hx' => (p4 x hx').elim (fun e => e ▸ hvl) (hl x)
  have ep : endV 1 pl ≤ 10000000 := by unfold endV; omega
  have ep0 : 0 ≤ endV 1 pl := by unfold endV; omega
  clear hbig hbig2 h hn hm p1 p2 p3 p4
  go_enter Try.func15, Try.ntmps15
  go_wp2_with fail
  refine hz.mono ?_
  rintro e w0 ⟨rfl, hb0⟩
  have A1 := A0.below hb0 A0.lt
  have B1 : Below w.heap.size w w0 := b0.trans (hb0.mono b0.size)
  clear hz hb0 A0 b0
  obtain ⟨q1, g1⟩ := A1.rules
  go_wp2_with fail
  refine (hz2 _).mono ?_
  rintro e w1 ⟨rfl, hb1⟩
  have A2 := A1.below hb1 A1.lt
  have R : InW w w.heap.size #[.int .i64 v.k, .int .i64 v.t, .int .i64 v.s, .int .i64 v.val, .int .i64 v.cl, .int .i64 v.ca, .slice va v.ds.length vc] w1 := ⟨B1.trans (hb1.mono B1.size), A2.lt, A2.cell⟩
  clear hz2 q1 g1 A1 A2 B1 hb1
  go_wp2_with fail
  go_region_held3 (fun W => Below w.heap.size w W ∧ (w.heap.size < W.heap.size ∧ ∀ j, W.cell? ⟨w.heap.size, j, none⟩ = #[.int .i64 v.k, .int .i64 v.t, .int .i64 v.s, .int .i64 v.val, .int .i64 v.cl, .int .i64 v.ca, .slice va v.ds.length vc][j]?)) (first | exact InW.drew (by assumption) | exact InW.below (by assumption) (by assumption)) (first | (go_at_call 46; refine (toVers_any a cap vs _ hx hl (hV.below (InW.drew R).1)).mono ?_; rintro e w2 ⟨u2, ys2, rfl, O2, hy2, hb2⟩; obtain ⟨a2, c2, rfl, V2⟩ := O2.asP hy2) | (go_at_call 49; refine (toVer_any v.k v.t v.s v.val v.cl v.ca va vc v.ds _ hvl (hd.below (((InW.drew R).below hb2).1))).mono ?_; rintro e w2' ⟨b2, rfl, D2, hb2'⟩) | (go_at_call 21; refine (hS a2 c2 _ _ _ (V2.below hb2') (row_deps D2)).mono ?_; rintro e w3 ⟨u3, ys3, rfl, P3, hy3, hb3⟩; obtain ⟨aP, cP, rfl, _⟩ := P3.asP hy3))
  rename_i I3
  have I3 : InW w w.heap.size #[.int .i64 v.k, .int .i64 v.t, .int .i64 v.s, .int .i64 v.val, .int .i64 v.cl, .int .i64 v.ca, .slice va v.ds.length vc] w3 := I3
  have hP : ∀ j, inV (Value.slice aP pl.length cP) ys3 j → w.heap.size + 1 ≤ j ∧ j < w3.heap.size := fun j hj => by
    have h1 := P3.lt hj
    have h2 := (((InW.drew R).below hb2).below hb2').2.1
    omega
  clear R O2 V2 hb2 hb2' D2 hb3 hS hy2
  go_wp2_with fail
  refine (toVers_any a cap vs _ hx hl (hV.below I3.1)).mono ?_
  rintro e w4 ⟨u4, ys4, rfl, X4, hy4, hb4⟩
  obtain ⟨a4, c4, rfl, V4⟩ := X4.asP hy4
  have hX : ∀ j, inV (Value.slice a4 vs.length c4) ys4 j → w3.heap.size ≤ j ∧ j < w4.heap.size := fun j hj => X4.lt hj
  have hA : w.heap.size < w3.heap.size := I3.2.1
  have P4 := P3.below hb4 (Nat.le_refl _)
  have I4 := I3.below hb4
  have z4 := hb4.size
  clear hb4 P3 I3
  have q1 := I4.2.2
  go_wp2_with fail
  clear q1
  refine (toVer_any v.k v.t v.s v.val v.cl v.ca va vc v.ds _ hvl (hd.below I4.1)).mono ?_
  rintro e w5 ⟨b5, rfl, D5, hb5⟩
  have hD : ∀ j, (Value.slice (some ⟨b5, 0, none⟩) v.ds.length v.ds.length).ownBlock = some j → w4.heap.size ≤ j ∧ j < w5.heap.size := fun j hj => D5.lt j hj
  have P5 := (P4.below hb5 (Nat.le_refl _)).alloc (.cells #[.int .i64 v.k, .int .i64 v.t, .int .i64 v.s, .int .i64 v.val, .int .i64 v.cl, .int .i64 v.ca, .slice (some ⟨b5, 0, none⟩) v.ds.length v.ds.length] 28)
  have X5 := (X4.below hb5 (Nat.le_refl _)).alloc (.cells #[.int .i64 v.k, .int .i64 v.t, .int .i64 v.s, .int .i64 v.val, .int .i64 v.cl, .int .i64 v.ca, .slice (some ⟨b5, 0, none⟩) v.ds.length v.ds.length] 28)
  have V5 := (V4.below hb5).below ((Below.refl _ _).alloc (Nat.le_refl _) (.cells #[.int .i64 v.k, .int .i64 v.t, .int .i64 v.s, .int .i64 v.val, .int .i64 v.cl, .int .i64 v.ca, .slice (some ⟨b5, 0, none⟩) v.ds.length v.ds.length] 28))
  have I5 := (I4.below hb5).below ((Below.refl _ _).alloc (Nat.le_refl _) (.cells #[.int .i64 v.k, .int .i64 v.t, .int .i64 v.s, .int .i64 v.val, .int .i64 v.cl, .int .i64 v.ca, .slice (some ⟨b5, 0, none⟩) v.ds.length v.ds.length] 28))
  have D5' := D5.alloc (.cells #[.int .i64 v.k, .int .i64 v.t, .int .i64 v.s, .int .i64 v.val, .int .i64 v.cl, .int .i64 v.ca, .slice (some ⟨b5, 0, none⟩) v.ds.length v.ds.length] 28)
  have E5 := Blk.new w5 #[.int .i64 v.k, .int .i64 v.t, .int .i64 v.s, .int .i64 v.val, .int .i64 v.cl, .int .i64 v.ca, .slice (some ⟨b5, 0, none⟩) v.ds.length v.ds.length] 28
  have z5 := hb5.size
  have z5' : (w5.alloc (.cells #[.int .i64 v.k, .int .i64 v.t, .int .i64 v.s, .int .i64 v.val, .int .i64 v.cl, .int .i64 v.ca, .slice (some ⟨b5, 0, none⟩) v.ds.length v.ds.length] 28)).heap.size = w5.heap.size + 1 := by simp
  clear P4 X4 V4 I4 D5 hb5
  obtain ⟨q2, g2⟩ := E5.rules
  go_wp2_with fail
  clear q2 g2
  generalize w5.alloc (.cells #[.int .i64 v.k, .int .i64 v.t, .int .i64 v.s, .int .i64 v.val, .int .i64 v.cl, .int .i64 v.ca, .slice (some ⟨b5, 0, none⟩) v.ds.length v.ds.length] 28) = w5' at *
  refine (hI a4 c4 _ _ _ V5 (row_deps D5')).mono ?_
  rintro e w6 ⟨u6, ys6, rfl, G6, hy6, hb6⟩
  obtain ⟨aG, cG, rfl, _⟩ := G6.asP hy6
  have hG : ∀ j, inV (Value.slice aG pl.length cG) ys6 j → w5.heap.size + 1 ≤ j := fun j hj => by have := (G6.lt hj).1; omega
  have P6 := P5.below hb6 (Nat.le_refl _)
  have X6 := X5.below hb6 (Nat.le_refl _)
  have D6 := row_below D5' hb6 (Nat.le_refl _)
  have E6 := E5.below hb6 E5.lt
  have I6 := I5.below hb6
  clear P5 X5 V5 I5 D5' E5 hb6
  go_wp2_with fail
  refine (eqVers_any aG aP pl cG cP _ lp dp (G6.atP hy6) (P6.atP hy3)).mono ?_
  rintro e w7 ⟨rfl, hb7⟩
  have G7 := G6.below hb7 (Nat.le_refl _)
  have P7 := P6.below hb7 (Nat.le_refl _)
  have X7 := X6.below hb7 (Nat.le_refl _)
  have D7 := row_below D6 hb7 (Nat.le_refl _)
  have E7 := E6.below hb7 E6.lt
  have I7 := I6.below hb7
  clear G6 P6 X6 D6 E6 I6 hb7
  go_wp2_with fail
  refine (toVers_any a cap vs _ hx hl (hV.below I7.1)).mono ?_
  rintro e w8 ⟨u8, ys8, rfl, O8, hy8, hb8⟩
  obtain ⟨a8, c8, rfl, V8⟩ := O8.asP hy8
  clear O8
  have G8 := G7.below hb8 (Nat.le_refl _)
  have P8 := P7.below hb8 (Nat.le_refl _)
  have X8 := X7.below hb8 (Nat.le_refl _)
  have D8 := row_below D7 hb8 (Nat.le_refl _)
  have E8 := E7.below hb8 E7.lt
  have I8 := I7.below hb8
  clear G7 P7 X7 D7 E7 I7 hb8
  go_wp2_with fail
  refine (eqVers_any a4 a8 vs c4 c8 _ hx hl (X8.atP hy4) V8).mono ?_
  rintro e w9 ⟨rfl, hb9⟩
  clear V8
  have G9 := G8.below hb9 (Nat.le_refl _)
  have P9 := P8.below hb9 (Nat.le_refl _)
  have X9 := X8.below hb9 (Nat.le_refl _)
  have D9 := row_below D8 hb9 (Nat.le_refl _)
  have E9 := E8.below hb9 E8.lt
  have I9 := I8.below hb9
  clear G8 P8 X8 D8 E8 I8 hb9
  have J9 : InV w w.heap.size w5.heap.size _ _ w9 := ⟨I9.1, I9.2, ⟨E9.lt, E9.cell⟩⟩
  go_wp2_with fail
  go_region_held3 (fun W => Below w.heap.size w W ∧ (w.heap.size < W.heap.size ∧ ∀ j, W.cell? ⟨w.heap.size, j, none⟩ = #[.int .i64 v.k, .int .i64 v.t, .int .i64 v.s, .int .i64 v.val, .int .i64 v.cl, .int .i64 v.ca, .slice va v.ds.length vc][j]?) ∧ (w5.heap.size < W.heap.size ∧ ∀ j, W.cell? ⟨w5.heap.size, j, none⟩ = #[.int .i64 v.k, .int .i64 v.t, .int .i64 v.s, .int .i64 v.val, .int .i64 v.cl, .int .i64 v.ca, .slice (some ⟨b5, 0, none⟩) v.ds.length v.ds.length][j]?)) (first | exact InV.drew (by assumption) | exact InV.below (by assumption) (by assumption)) (first | (go_at_call 49; refine (toVer_any v.k v.t v.s v.val v.cl v.ca va vc v.ds _ hvl (hd.below (InV.drew J9).1)).mono ?_; rintro e w10 ⟨b10, rfl, T10, hb10⟩) | (go_at_call 50; refine (eqVer_any v.k v.t v.s v.val v.cl v.ca _ _ _ _ v.ds _ hvl (row_deps (row_below (row_below D9 (Below.refl _ _).drew (Nat.le_refl _)) hb10 (Nat.le_refl _))) (row_deps T10)).mono ?_; rintro e w11 ⟨rfl, hb11⟩))
  rename_i J11
  have hbb : Below w9.heap.size w9 w11 := ((Below.refl _ _).drew.trans (hb10.mono (Nat.le_refl _))).trans (hb11.mono hb10.size)
  clear J11 J9 T10 hb10 hb11
  have G11 := G9.below hbb (Nat.le_refl _)
  have P11 := P9.below hbb (Nat.le_refl _)
  have X11 := X9.below hbb (Nat.le_refl _)
  have D11 := row_below D9 hbb (Nat.le_refl _)
  have E11 := E9.below hbb E9.lt
  have I11 := I9.below hbb
  clear G9 P9 X9 D9 E9 I9 hbb
  go_wp2_with fail
  refine (markVers_as _ _ ys4 vs 1 _ hy4 (by omega) hl (by omega) hend X11).mono ?_
  rintro e w12 ⟨rfl, _, on12⟩
  have P12 := on12.ownV P11 (fun j hj hj' => by have := hX j hj'; have := hP j hj; omega)
  have G12 := on12.ownV G11 (fun j hj hj' => by have := hX j hj'; have := hG j hj; omega)
  have D12 := on12.row D11 (fun j hj hj' => by have := hX j hj'; have := hD j hj; omega)
  have E12 := E11.onlyP on12 (fun hj => by have := hX _ hj; omega)
  have I12 := I11.only on12 (fun j hj => by have := hX j hj; omega)
  clear P11 G11 D11 E11 I11 X11 on12
  obtain ⟨q2, g2⟩ := E12.rules
  go_wp2_with fail
  clear q2 g2
  refine (markVer_any v (some ⟨b5, 0, none⟩) v.ds.length _ (endV 1 vs) _ hvl hend0 hend D12).mono ?_
  rintro e w13 ⟨rfl, _, on13⟩
  have P13 := on13.ownV P12 (fun j hj hj' => by
    have a1 := hP j hj; have a2 := (P12.lt hj).2
    rcases hj' with hj' | hj'
    · omega
    · have := hD _ hj'; omega)
  have G13 := on13.ownV G12 (fun j hj hj' => by
    have a1 := hG j hj; have a2 := (G12.lt hj).2
    rcases hj' with hj' | hj'
    · omega
    · have := hD _ hj'; omega)
  have I13 := I12.only on13 (fun j hj => by
    have a2 := I12.2.1; have a3 := I12.1.size
    rcases hj with hj | hj
    · omega
    · have := hD _ hj; omega)
  clear P12 G12 D12 E12 I12 on13
  generalize endV 1 vs + 3 * (v.ds.length : Int) = k13 at *
  go_wp2_with fail
  refine (eqVers_any aG aP pl cG cP _ lp dp (G13.atP hy6) (P13.atP hy3)).mono ?_
  rintro e w14 ⟨rfl, hb14⟩
  have G14 := G13.below hb14 (Nat.le_refl _)
  have P14 := P13.below hb14 (Nat.le_refl _)
  have I14 := I13.below hb14
  clear G13 P13 I13 hb14
  go_wp2_with fail
  refine (markVers_as _ _ ys6 pl 1 _ hy6 (by omega) dp (by omega) ep G14).mono ?_
  rintro e w15 ⟨rfl, ⟨gs, G15, hgs, _⟩, on15⟩
  have P15 := on15.ownV P14 (fun j hj hj' => by have := hG j hj'; have := hP j hj; omega)
  have I15 := I14.only on15 (fun j hj => by have := hG j hj; omega)
  clear P14 G14 I14 on15
  go_wp2_with fail
  refine (heldVers_any aG cG pl 1 _ (by omega) dp (by omega) ep (G15.atP hgs)).mono ?_
  rintro e w16 ⟨rfl, rfl⟩
  have R := I15
  go_wp2_with fail
  go_region_held3 (fun W => Below w.heap.size w W ∧ (w.heap.size < W.heap.size ∧ ∀ j, W.cell? ⟨w.heap.size, j, none⟩ = #[.int .i64 v.k, .int .i64 v.t, .int .i64 v.s, .int .i64 v.val, .int .i64 v.cl, .int .i64 v.ca, .slice va v.ds.length vc][j]?)) (first | exact InW.drew (by assumption) | exact InW.below (by assumption) (by assumption)) (first | (go_at_call 46; refine (toVers_any a cap vs _ hx hl (hV.below (InW.drew R).1)).mono ?_; rintro e w17 ⟨u17, ys17, rfl, O17, hy17, hb17⟩; obtain ⟨a17, c17, rfl, V17⟩ := O17.asP hy17) | (go_at_call 49; refine (toVer_any v.k v.t v.s v.val v.cl v.ca va vc v.ds _ hvl (hd.below (((InW.drew R).below hb17).1))).mono ?_; rintro e w17' ⟨b17, rfl, D17, hb17'⟩) | (go_at_call 23; refine (hI a17 c17 _ _ _ (V17.below hb17') (row_deps D17)).mono ?_; rintro e w18 ⟨u18, ys18, rfl, S18, hy18, hb18⟩; obtain ⟨aS, cS, rfl, _⟩ := S18.asP hy18))
  rename_i I18
  have I18 : InW w w.heap.size #[.int .i64 v.k, .int .i64 v.t, .int .i64 v.s, .int .i64 v.val, .int .i64 v.cl, .int .i64 v.ca, .slice va v.ds.length vc] w18 := I18
  have hbb : Below w16.heap.size w16 w18 := (((Below.refl _ _).drew.trans (hb17.mono (Nat.le_refl _))).trans (hb17'.mono hb17.size)).trans (hb18.mono (Nat.le_trans hb17.size hb17'.size))
  have P18 := P15.below hbb (Nat.le_refl _)
  have G18 := G15.below hbb (Nat.le_refl _)
  clear R I15 O17 V17 hb17 hb17' D17 hb18 hbb P15 G15 hI
  go_wp2_with fail
  refine (eqVers_any aS aP pl cS cP _ lp dp (S18.atP hy18) (P18.atP hy3)).mono ?_
  rintro e w19 ⟨rfl, hb19⟩
  have G19 := G18.below hb19 (Nat.le_refl _)
  have I19 := I18.below hb19
  clear P18 G18 S18 I18 hb19
  go_wp2_with fail
  refine (heldVers_any aG cG pl 1 _ (by omega) dp (by omega) ep (G19.atP hgs)).mono ?_
  rintro e w20 ⟨rfl, rfl⟩
  have BB := I19.1
  clear G19 I19
  go_wp2_with fail
  go_ret
  exact ⟨rfl, BB⟩
end Go.Proofs.Ythlmodafadfnfaa

