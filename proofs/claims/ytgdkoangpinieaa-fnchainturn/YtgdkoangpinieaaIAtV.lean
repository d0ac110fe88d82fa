/- The program's ChainAt. -/
import Derived.Test.YtgdkoangpinieaaGAO
namespace Go.Proofs.Ytgdkoangpinieaa
open Go.ChangeShapes Go.WideShapes Go.ChangeAt Go.RowKit

theorem plc_sought (gs : List V) (t s : Int) (ha : gs.Pairwise (fun a b => lessB a.t a.s b.t b.s = true)) : Sought gs t s (plc gs t s) (plc gs t s) := by
  have h1 : ∀ j, (hj : j < gs.length) → j < plc gs t s → lessB gs[j].t gs[j].s t s = true := by
    clear ha
    induction gs with
    | nil => intro j hj; simp at hj
    | cons x xs ih =>
      intro j hj hp
      unfold plc at hp
      split at hp
      · rename_i hx
        cases j with
        | zero => exact hx
        | succ j => exact ih j (by simpa using hj) (by omega)
      · omega
  have h2 : ∀ h : plc gs t s < gs.length, lessB gs[plc gs t s].t gs[plc gs t s].s t s = false := by
    clear ha h1
    induction gs with
    | nil => intro h; simp at h
    | cons x xs ih =>
      intro h
      by_cases hx : lessB x.t x.s t s = true
      · have e : plc (x :: xs) t s = plc xs t s + 1 := by rw [plc, if_pos hx]
        simp only [e] at h ⊢
        exact ih (by simpa using h)
      · have e : plc (x :: xs) t s = 0 := by rw [plc, if_neg hx]
        simp only [e]
        simpa using hx
  refine ⟨h1, fun j hj hp => ?_⟩
  by_cases e : j = plc gs t s
  · subst e; exact h2 hj
  · cases hh : lessB gs[j].t gs[j].s t s
    · rfl
    · have := lessB_trans (List.pairwise_iff_getElem.1 ha (plc gs t s) j (by omega) hj (by omega)) hh
      rw [h2 (by omega)] at this; cases this
theorem thr_found {gs : List V} {t s : Int} (ha : gs.Pairwise (fun a b => lessB a.t a.s b.t b.s = true)) (h : thr gs t s = true) : ∃ hp : plc gs t s < gs.length, gs.find? (fun v => decide (v.t = t ∧ v.s = s)) = some gs[plc gs t s] := by
  have hs := plc_sought gs t s ha
  by_cases hp : plc gs t s < gs.length
  · obtain ⟨h1, h2⟩ := thr_at hs ha hp
    rw [h] at h1
    exact ⟨hp, h2 (by simpa using h1.symm)⟩
  · have e : plc gs t s = gs.length := by have := plc_le gs t s; omega
    rw [e] at hs
    rw [thr_end hs] at h; cases h
theorem thr_at_none {gs : List V} {t s : Int} (h : thr gs t s = false) : gs.find? (fun v => decide (v.t = t ∧ v.s = s)) = none := by
  unfold thr at h
  rcases hf : gs.find? (fun v => decide (v.t = t ∧ v.s = s)) with _ | x
  · exact hf
  · rw [hf] at h; cases h

set_option maxHeartbeats 4000000 in
set_option maxRecDepth 100000 in
theorem iAtV_if (a : Option Addr) (cap : Nat) (vs : List V) (key t s : Int) (w : World) (hn : vs.length ≤ 1099511627776) (h : Vers w a vs) (hwf : chainB vs = true → (Lit.int .i64 key).wf = true) :
    Calls Try.prog 42 #[.slice a vs.length cap, .int .i64 key, stampV t s] w fun e w' => ∃ u pa pc, Hid (u = (atA vs key t s).getD zeroV) ∧ e = .returned (.tuple #[verV u.k u.t u.s u.val u.cl u.ca pa u.ds.length pc, .bool (atA vs key t s).isSome]) ∧ RowD w' w.heap.size (.slice pa u.ds.length pc) u.ds ∧ Below w.heap.size w w' := by
  have S1 : Blk ((w.alloc (.cells #[.int .i64 t, .int .i64 s] 25)).alloc (.cells #[.int .i64 0, .int .i64 0, .int .i64 0, .int .i64 0, .int .i64 0, .int .i64 0, .slice none 0 0] 28)) w.heap.size #[.int .i64 t, .int .i64 s] 25 := (Blk.new w _ _).alloc _
  have Z1 : Blk ((w.alloc (.cells #[.int .i64 t, .int .i64 s] 25)).alloc (.cells #[.int .i64 0, .int .i64 0, .int .i64 0, .int .i64 0, .int .i64 0, .int .i64 0, .slice none 0 0] 28)) (w.heap.size + 1) #[.int .i64 0, .int .i64 0, .int .i64 0, .int .i64 0, .int .i64 0, .int .i64 0, .slice none 0 0] 28 := by have := Blk.new (w.alloc (.cells #[.int .i64 t, .int .i64 s] 25)) #[.int .i64 0, .int .i64 0, .int .i64 0, .int .i64 0, .int .i64 0, .int .i64 0, .slice none 0 0] 28; simpa using this
  have b0 : Below w.heap.size w ((w.alloc (.cells #[.int .i64 t, .int .i64 s] 25)).alloc (.cells #[.int .i64 0, .int .i64 0, .int .i64 0, .int .i64 0, .int .i64 0, .int .i64 0, .slice none 0 0] 28)) := ((Below.refl _ w).alloc (Nat.le_refl _) _).alloc (by simp) _
  have h1 := h.below b0
  have s1 : ((w.alloc (.cells #[.int .i64 t, .int .i64 s] 25)).alloc (.cells #[.int .i64 0, .int .i64 0, .int .i64 0, .int .i64 0, .int .i64 0, .int .i64 0, .slice none 0 0] 28)).heap.size = w.heap.size + 1 + 1 := by simp
  rcases hc : chainB vs with _ | _
  · have HN : Hid (atA vs key t s = none) := atA_no hc key t s
    have hC := iChainOf_no a cap vs _ hn h1 hc
    clear h hc hwf
    go_enter Try.func42, Try.ntmps42
    go_wp2_with fail
    refine hC.mono ?_
    rintro e w2 ⟨rfl, hb2⟩
    have Z2 := Z1.below hb2 Z1.lt
    have B2 : Below w.heap.size w w2 := b0.trans (hb2.mono b0.size)
    obtain ⟨q1, g1⟩ := Z2.rules
    clear hC h1 S1 Z1 b0 hb2
    go_wp2_with fail
    refine bodyPost_ret (v := .tuple #[verV 0 0 0 0 0 0 none 0 0, .bool false]) ?_ rfl ⟨zeroV, none, 0, by show _ = _; rw [HN.out]; rfl, by rw [HN.out]; rfl, World.ownsRow_nil _ _ _ _, fill7_below B2 (by omega)⟩
    refine Blk.gen (B := w.heap.size + 1) (vs := #[.int .i64 0, .int .i64 0, .int .i64 0, .int .i64 0, .int .i64 0, .int .i64 0, .slice none 0 0]) (T := 28) ?_ (P := fun W => (results Try.f42 _).run Try.prog W = .ok _ W) ?_
    · exact Blk.fill7 Z2
    intro W hW
    obtain ⟨k, f⟩ := hW.rules
    simp [results, Try.results42, go_sem, k]
  have hwf := hwf hc
  have hC := iChainOf_yes a cap vs _ hn h1 hc
  have HA : Hid (atA vs key t s = cAt vs key t s) := atA_yes hc key t s
  obtain ⟨hl80, hP⟩ := chainB_iff.1 hc
  have HG : Hid (cAt vs key t s = (grp vs key).find? fun v => decide (v.t = t ∧ v.s = s)) := at_grp vs key t s
  have hasc := grp_asc hP.2 key
  clear h hc hP
  go_enter Try.func42, Try.ntmps42
  go_wp2_with fail
  generalize ((w.alloc (.cells #[.int .i64 t, .int .i64 s] 25)).alloc (.cells #[.int .i64 0, .int .i64 0, .int .i64 0, .int .i64 0, .int .i64 0, .int .i64 0, .slice none 0 0] 28)) = W1 at *
  refine hC.mono ?_
  rintro e w2 ⟨b, f, g, rfl, hbb, hM, hf, hgood, hb2⟩
  clear hC
  have hgl := grp_le vs key
  have hGs := hf key
  clear hf
  generalize grp vs key = gs at *
  have S2 := S1.below hb2 S1.lt
  obtain ⟨q1, g1⟩ := S2.rules
  go_wp2_with fail
  refine (place_any w2 _ b vs.length f g key t s gs hM hwf hGs hasc (by omega) (fun x hx => (hgood key x hx).below hb2)).mono ?_
  rintro e w3 ⟨rfl, hb3⟩
  have b3 : Below W1.heap.size W1 w3 := hb2.trans (hb3.mono hb2.size)
  have M3 := hM.below hb3
  have Z3 := Z1.below b3 Z1.lt
  have B3 : Below w.heap.size w w3 := b0.trans (b3.mono b0.size)
  have hsz : w.heap.size + 1 + 1 ≤ w3.heap.size := by have := b3.size; omega
  clear q1 g1 S2 hb3
  rcases hth : thr gs t s with _ | _
  · have HO : Hid (gs.find? (fun v => decide (v.t = t ∧ v.s = s)) = none) := thr_at_none hth
    obtain ⟨q1, g1⟩ := Z3.rules
    clear hasc hth
    go_wp2_with fail
    refine bodyPost_ret (v := .tuple #[verV 0 0 0 0 0 0 none 0 0, .bool false]) ?_ rfl ⟨zeroV, none, 0, by show _ = _; rw [HA.out, HG.out, HO.out]; rfl, by rw [HA.out, HG.out, HO.out]; rfl, World.ownsRow_nil _ _ _ _, fill7_below B3 (by omega)⟩
    refine Blk.gen (B := w.heap.size + 1) (vs := #[.int .i64 0, .int .i64 0, .int .i64 0, .int .i64 0, .int .i64 0, .int .i64 0, .slice none 0 0]) (T := 28) ?_ (P := fun W => (results Try.f42 _).run Try.prog W = .ok _ W) ?_
    · exact Blk.fill7 Z3
    intro W hW
    obtain ⟨k, f⟩ := hW.rules
    simp [results, Try.results42, go_sem, k]
  · obtain ⟨hp, HO⟩ := thr_found hasc hth
    have HO : Hid _ := HO
    have hlook := M3.look hwf
    obtain ⟨ga, gc, hg, hV⟩ := M3.at key hGs (fun x hx => (hgood key x hx).below b3)
    rw [hg] at hlook
    obtain ⟨bx, o, da, dc, rfl, hbx, hv⟩ := hV.at hp
    clear hg hV M3 hM hgood hGs hth hasc
    generalize plc gs t s = p at *
    generalize gs[p] = v at *
    obtain ⟨c0, c1, c2, c3, c4, c5, c6, hd, hdl⟩ := hv
    have i1 : (0 : Int) ≤ (p : Int) := by omega
    have i2 : (p : Int) < (gs.length : Int) := by omega
    go_wp2_with fail
    refine (iCopy_any v da dc _ hdl hd).mono ?_
    rintro e w4 ⟨pa, pc, rfl, hrow, hb4⟩
    have Z4 := Z3.below hb4 Z3.lt
    have B4 : Below w.heap.size w w4 := B3.trans (hb4.mono B3.size)
    obtain ⟨q1, g1⟩ := Z4.rules
    clear c0 c1 c2 c3 c4 c5 c6 hd hb4 Z3
    go_wp2_with fail
    refine bodyPost_ret (v := .tuple #[verV v.k v.t v.s v.val v.cl v.ca pa v.ds.length pc, .bool true]) ?_ rfl ⟨v, pa, pc, by show _ = _; rw [HA.out, HG.out, HO.out]; rfl, by rw [HA.out, HG.out, HO.out]; rfl, row_mono (row_fill7 hrow (fun j hj => by have := (hrow.lt j hj).1; omega)) (by omega), fill7_below B4 (by omega)⟩
    refine Blk.gen (B := w.heap.size + 1) (vs := #[.int .i64 v.k, .int .i64 v.t, .int .i64 v.s, .int .i64 v.val, .int .i64 v.cl, .int .i64 v.ca, .slice pa v.ds.length pc]) (T := 28) ?_ (P := fun W => (results Try.f42 _).run Try.prog W = .ok _ W) ?_
    · exact Blk.fill7 Z4
    intro W hW
    obtain ⟨k, f⟩ := hW.rules
    simp [results, Try.results42, go_sem, k]

theorem iAtV_any (a : Option Addr) (cap : Nat) (vs : List V) (key t s : Int) (w : World) (hn : vs.length ≤ 1099511627776) (h : Vers w a vs) (hwf : (Lit.int .i64 key).wf = true) :
    Calls Try.prog 42 #[.slice a vs.length cap, .int .i64 key, stampV t s] w fun e w' => ∃ u pa pc, Hid (u = (atA vs key t s).getD zeroV) ∧ e = .returned (.tuple #[verV u.k u.t u.s u.val u.cl u.ca pa u.ds.length pc, .bool (atA vs key t s).isSome]) ∧ RowD w' w.heap.size (.slice pa u.ds.length pc) u.ds ∧ Below w.heap.size w w' := iAtV_if a cap vs key t s w hn h fun _ => hwf
end Go.Proofs.Ytgdkoangpinieaa
