/- 5 texts in one: Against, Place, SHasC, Place2, IAtV. -/
import Derived.Test.YtpjidogilofppaaGreatGAN
import Derived.Test.YtpjidogilofppaaGreatSAtV
/- The program's search among versions of a key. -/
namespace Go.Proofs.YtpjidogilofppaaGreat
open Go.ChangeShapes Go.WideShapes Go.ChangeAt Go.RowKit

set_option maxHeartbeats 4000000 in
theorem against_any (v : V) (da : Option Addr) (n dc : Nat) (t s : Int) (w : World) :
    Calls Tryz.prog 271 #[verV v.k v.t v.s v.val v.cl v.ca da n dc, stampV t s] w fun e w' => e = .returned (.int .i64 (ordV v.t v.s t s)) ∧ Below w.heap.size w w' := by
  obtain ⟨k, t', s', val, cl, ca, ds⟩ := v
  go_enter Tryz.func271, Tryz.ntmps271
  go_wp2
  go_region_with (first | (go_at_call 219; refine (then_any _).mono ?_; rintro e w1 ⟨rfl, rfl⟩) | (go_at_call 257; refine (order_any _ _ _ _ _ _ _ ?_ ?_).mono ?_; go_simp; go_simp; rintro e w1 ⟨rfl, hb⟩))
  all_goals
    go_wp2
    go_ret
    exact ⟨rfl, ((((((Below.refl _ _).alloc (Nat.le_refl _) _).alloc (by simp) _).alloc (by simp; omega) _).alloc (by simp; omega) _).drew).trans (hb.mono (by simp; omega))⟩
end Go.Proofs.YtpjidogilofppaaGreat

/- The program's search among versions of a key. -/
namespace Go.Proofs.YtpjidogilofppaaGreat
open Go.ChangeShapes Go.WideShapes Go.ChangeAt Go.RowKit

/-- Whether a stamp is among versions of one key. -/
def thr (gs : List V) (t s : Int) : Bool := (gs.find? fun v => decide (v.t = t ∧ v.s = s)).isSome
theorem ord_zero (t s t' s' : Int) : (ordV t s t' s' = 0) ↔ (t = t' ∧ s = s') := by
  unfold ordV cmpV
  by_cases h1 : t < t' <;> by_cases h2 : t' < t <;> by_cases h3 : s < s' <;> by_cases h4 : s' < s <;> simp [*] <;> omega
theorem against_is {v : V} {t s : Int} {r : Int} (h : ordV v.t v.s t s = r) {da : Option Addr} {n dc : Nat} {w : World} :
    Calls Tryz.prog 271 #[verV v.k v.t v.s v.val v.cl v.ca da n dc, stampV t s] w fun e w' => e = .returned (.int .i64 r) ∧ Below w.heap.size w w' := by rw [← h]; exact against_any v da n dc t s w
theorem lessB_trans {a b c d e f : Int} (h : lessB a b c d = true) (h' : lessB c d e f = true) : lessB a b e f = true := by unfold lessB at *; simp at *; omega
theorem lessB_irr (a b : Int) : lessB a b a b = false := by unfold lessB; simp
/-- What the search knows: all ahead of l are ahead of the stamp, none from h on is. -/
def Sought (gs : List V) (t s : Int) (l h : Nat) : Prop := (∀ j, (hj : j < gs.length) → j < l → lessB gs[j].t gs[j].s t s = true) ∧ (∀ j, (hj : j < gs.length) → h ≤ j → lessB gs[j].t gs[j].s t s = false)
theorem Sought.up {gs : List V} {t s : Int} {l h m : Nat} (hs : Sought gs t s l h) (ha : gs.Pairwise (fun a b => lessB a.t a.s b.t b.s = true)) (hm : m < gs.length) (hl : lessB gs[m].t gs[m].s t s = true) : Sought gs t s (m + 1) h := by
  refine ⟨fun j hj hjm => ?_, hs.2⟩
  by_cases e : j = m
  · subst e; exact hl
  · exact lessB_trans (List.pairwise_iff_getElem.1 ha j m hj hm (by omega)) hl
theorem Sought.down {gs : List V} {t s : Int} {l h m : Nat} (hs : Sought gs t s l h) (ha : gs.Pairwise (fun a b => lessB a.t a.s b.t b.s = true)) (hm : m < gs.length) (hl : lessB gs[m].t gs[m].s t s = false) : Sought gs t s l m := by
  refine ⟨hs.1, fun j hj hjm => ?_⟩
  by_cases e : j = m
  · subst e; exact hl
  · cases hh : lessB gs[j].t gs[j].s t s
    · rfl
    · have := lessB_trans (List.pairwise_iff_getElem.1 ha m j hm hj (by omega)) hh
      rw [hl] at this; cases this
theorem Sought.plc {gs : List V} {t s : Int} {l : Nat} (hs : Sought gs t s l l) (hl : l ≤ gs.length) : plc gs t s = l := plc_eq gs t s l hl (fun j hj h => hs.1 j hj h) (fun h => hs.2 l h (Nat.le_refl _))
theorem thr_at {gs : List V} {t s : Int} {l : Nat} (hs : Sought gs t s l l) (ha : gs.Pairwise (fun a b => lessB a.t a.s b.t b.s = true)) (hl : l < gs.length) : thr gs t s = decide (gs[l].t = t ∧ gs[l].s = s) ∧ (gs[l].t = t ∧ gs[l].s = s → gs.find? (fun v => decide (v.t = t ∧ v.s = s)) = some gs[l]) := by
  have h0 : ∀ v ∈ gs.take l, ¬ (v.t = t ∧ v.s = s) := fun v hv e => by
    obtain ⟨j, hj, rfl⟩ := List.getElem_of_mem hv
    rw [List.length_take] at hj
    simp only [List.getElem_take] at e
    have := hs.1 j (by omega) (by omega)
    rw [e.1, e.2, lessB_irr] at this; cases this
  have h1 : (gs.take l).find? (fun v => decide (v.t = t ∧ v.s = s)) = none := List.find?_eq_none.2 fun v hv => by simpa using h0 v hv
  have e : gs = gs.take l ++ gs[l] :: gs.drop (l + 1) := by rw [← List.drop_eq_getElem_cons hl, List.take_append_drop]
  have h2 : gs.find? (fun v => decide (v.t = t ∧ v.s = s)) = (gs[l] :: gs.drop (l + 1)).find? (fun v => decide (v.t = t ∧ v.s = s)) := by
    rw [congrArg (List.find? fun v : V => decide (v.t = t ∧ v.s = s)) e, List.find?_append, h1]; simp
  by_cases hq : gs[l].t = t ∧ gs[l].s = s
  · have h3 : gs.find? (fun v => decide (v.t = t ∧ v.s = s)) = some gs[l] := by rw [h2, List.find?_cons]; simp [hq]
    exact ⟨by unfold thr; rw [h3]; simp [hq], fun _ => h3⟩
  · refine ⟨?_, fun h => absurd h hq⟩
    have h3 : gs.find? (fun v => decide (v.t = t ∧ v.s = s)) = none := by
      rw [h2, List.find?_eq_none]
      intro v hv
      rcases List.mem_cons.1 hv with rfl | hv
      · simpa using hq
      · obtain ⟨j, hj, rfl⟩ := List.getElem_of_mem hv
        simp only [List.getElem_drop]
        simp at hj
        intro e2
        simp at e2
        have h5 := List.pairwise_iff_getElem.1 ha l (l + 1 + j) hl (by omega) (by omega)
        rw [e2.1, e2.2, hs.2 l hl (Nat.le_refl _)] at h5; cases h5
    unfold thr; rw [h3]; simp [hq]
theorem thr_end {gs : List V} {t s : Int} (hs : Sought gs t s gs.length gs.length) : thr gs t s = false := by
  unfold thr
  rw [List.find?_eq_none.2]
  · rfl
  · intro v hv
    obtain ⟨j, hj, rfl⟩ := List.getElem_of_mem hv
    have := hs.1 j hj hj
    intro e
    simp at e
    rw [e.1, e.2, lessB_irr] at this; cases this

set_option maxHeartbeats 4000000 in
set_option maxRecDepth 100000 in
theorem placeOf_any (a : Option Addr) (cap : Nat) (gs : List V) (t s : Int) (w : World) (hn : gs.length ≤ 100) (ha : gs.Pairwise (fun a b => lessB a.t a.s b.t b.s = true)) (h : Vers w a gs) :
    Calls Tryz.prog 270 #[.slice a gs.length cap, stampV t s, .func (.func 271) #[] #[]] w fun e w' => e = .returned (.tuple #[.int .i64 (plc gs t s), .bool (thr gs t s)]) ∧ Below w.heap.size w w' := by
  have S1 := Blk.new w #[.int .i64 t, .int .i64 s] 39
  have b0 : Below w.heap.size w (w.alloc (.cells #[.int .i64 t, .int .i64 s] 39)) := (Below.refl _ w).alloc (Nat.le_refl _) _
  have h1 := h.below b0
  have hp := S1.lt
  clear h
  go_enter Tryz.func270, Tryz.ntmps270
  go_wp2
  generalize w.alloc (.cells #[.int .i64 t, .int .i64 s] 39) = W1 at *
  go_loopw [8, 9] (fun lo hi wr => ∃ l h : Nat, l ≤ h ∧ h ≤ gs.length ∧ lo = .int .i64 l ∧ hi = .int .i64 h ∧ Hid (Sought gs t s l h) ∧ Below W1.heap.size W1 wr) (fun lo hi _ => (intOf hi - intOf lo).toNat)
  case atStart => exact ⟨0, gs.length, Nat.zero_le _, Nat.le_refl _, rfl, rfl, ⟨fun j hj h => absurd h (Nat.not_lt_zero _), fun j hj h => absurd hj (by omega)⟩, Below.refl _ _⟩
  case round =>
    obtain ⟨l, h, hlh, hh, rfl, rfl, HS, hB⟩ := hrel
    have hS := S1.below hB hp
    have rz : ∀ (n : Wof (Since wr)) (j : Nat), n.W.cell? ⟨w.heap.size, j, none⟩ = #[.int .i64 t, .int .i64 s][j]? := fun n j => (hS.below n.h hS.lt).cell j
    have ne := since_ne wr
    by_cases hlt : l < h
    · obtain ⟨m, hm⟩ : ∃ m : Nat, (m : Int) = (l : Int) + ((h : Int) - l) / 2 := ⟨l + (h - l) / 2, by omega⟩
      have hm1 : l ≤ m := by omega
      have hm2 : m < h := by omega
      have HM : Hid ((m : Int) = (l : Int) + ((h : Int) - l) / 2) := hm
      clear hm
      have hmg : m < gs.length := by omega
      obtain ⟨b, o, da, dc, rfl, hbb, hv1⟩ := h1.at hmg
      obtain ⟨r0, r1, r2, r3, r4, r5, r6⟩ := (hv1.below hB).rules
      obtain ⟨r, hr⟩ : ∃ r, ordV gs[m].t gs[m].s t s = r := ⟨_, rfl⟩
      have hlB := ord_less gs[m].t gs[m].s t s
      rw [hr] at hlB
      by_cases hneg : r < 0
      · have HU : Hid (Sought gs t s (m + 1) h) := HS.out.up ha hmg (by rw [← hlB]; simpa using hneg)
        clear hv1 hlB
        generalize gs[m] = v at *
        have m0 : (0 : Int) ≤ (m : Int) := by omega
        have m1 : (m : Int) < (gs.length : Int) := by omega
        have m2 : (m : Int) < 100 := by omega
        go_wp2_with fail
        rw [← HM.out]
        refine wp_region_class (S := Since wr) (by kernel_rfl) (by kernel_rfl) (Below.refl _ _).drew ?_
        repeat (go_big_quiet_step ((rename_i n; first | (go_at_call 271; exact Calls.inClass (against_is hr) Since.keep))))
        refine wpQuiet_nil ?_
        rintro W ⟨n, hnW⟩
        have R2 := n.h
        rw [← hnW] at R2
        have hB2 : Below W1.heap.size W1 W := hB.trans (R2.mono hB.size)
        clear R2 r0 r1 r2 r3 r4 r5 r6 rz ne hnW n hB hS
        go_wp2
        go_roundw
        case rel => exact ⟨m + 1, h, by omega, hh, by go_num, rfl, HU, hB2⟩
        case measure => simp [intOf]; omega
      · have HU : Hid (Sought gs t s l m) := HS.out.down ha hmg (by rw [← hlB]; simpa using hneg)
        have hneg2 : decide (r < 0) = false := by simpa using hneg
        clear hv1 hlB
        generalize gs[m] = v at *
        have m0 : (0 : Int) ≤ (m : Int) := by omega
        have m1 : (m : Int) < (gs.length : Int) := by omega
        go_wp2_with fail
        rw [← HM.out]
        refine wp_region_class (S := Since wr) (by kernel_rfl) (by kernel_rfl) (Below.refl _ _).drew ?_
        repeat (go_big_quiet_step ((rename_i n; first | (go_at_call 271; exact Calls.inClass (against_is hr) Since.keep))))
        refine wpQuiet_nil ?_
        rintro W ⟨n, hnW⟩
        have R2 := n.h
        rw [← hnW] at R2
        have hB2 : Below W1.heap.size W1 W := hB.trans (R2.mono hB.size)
        clear R2 r0 r1 r2 r3 r4 r5 r6 rz ne hnW n hB hS
        go_wp2
        go_roundw
        case rel => exact ⟨l, m, hm1, by omega, rfl, rfl, HU, hB2⟩
        case measure => simp [intOf]; omega
    · have hk2 : l = h := by omega
      subst hk2
      have HP : Hid (plc gs t s = l) := HS.out.plc hh
      by_cases hend : l < gs.length
      · obtain ⟨b, o, da, dc, rfl, hbb, hv1⟩ := h1.at hend
        obtain ⟨r0, r1, r2, r3, r4, r5, r6⟩ := (hv1.below hB).rules
        obtain ⟨r, hr⟩ : ∃ r, ordV gs[l].t gs[l].s t s = r := ⟨_, rfl⟩
        have HT : Hid (thr gs t s = (r == 0)) := by
          show thr gs t s = (r == 0)
          rw [(thr_at HS.out ha hend).1, ← hr, Bool.eq_iff_iff]
          simp [ord_zero]
        clear hv1
        generalize gs[l] = v at *
        have m0 : (0 : Int) ≤ (l : Int) := by omega
        have m1 : (l : Int) < (gs.length : Int) := by omega
        go_wp2_with fail
        refine wp_region_class (S := Since wr) (by kernel_rfl) (by kernel_rfl) (Below.refl _ _).drew ?_
        repeat (go_big_quiet_step ((rename_i n; first | (go_at_call 271; exact Calls.inClass (against_is hr) Since.keep))))
        refine wpQuiet_nil ?_
        rintro W ⟨n, hnW⟩
        have R2 := n.h
        rw [← hnW] at R2
        have hB2 : Below W1.heap.size W1 W := hB.trans (R2.mono hB.size)
        clear R2 r0 r1 r2 r3 r4 r5 r6 rz ne hnW n hB hS
        go_wp2
        go_ret2
        exact ⟨by rw [HP.out, HT.out]; rfl, b0.trans (hB2.mono b0.size)⟩
      · have he : l = gs.length := by omega
        subst he
        have HT : Hid (thr gs t s = false) := thr_end HS.out
        clear hS
        go_wp2_with fail
        refine wp_region_class (S := Since wr) (by kernel_rfl) (by kernel_rfl) (Below.refl _ _).drew ?_
        repeat (go_big_quiet_step ((fail)))
        refine wpQuiet_nil ?_
        rintro W ⟨n, hnW⟩
        have R2 := n.h
        rw [← hnW] at R2
        have hB2 : Below W1.heap.size W1 W := hB.trans (R2.mono hB.size)
        clear R2 rz ne hnW n hB
        go_wp2
        go_ret2
        exact ⟨by rw [HP.out, HT.out]; rfl, b0.trans (hB2.mono b0.size)⟩
end Go.Proofs.YtpjidogilofppaaGreat

/- The specification's ChainHas. -/
namespace Go.Proofs.YtpjidogilofppaaGreat
open Go.ChangeShapes Go.WideShapes Go.ChangeAt Go.RowKit

/-- Whether all deps are among versions. -/
def allIn (vs : List V) (ds : List D) : Bool := ds.all fun d => (cAt vs d.k d.t d.s).isSome
theorem has_chain {vs : List V} {ds : List D} (h : chainB vs = false) : cHas vs ds = false := by unfold cHas; rw [h]; rfl
theorem has_deps {vs : List V} {ds : List D} (h : depsOk ds = false) : cHas vs ds = false := by unfold cHas; rw [h]; simp
theorem has_yes {vs : List V} {ds : List D} (h : chainB vs = true) (hd : depsOk ds = true) : cHas vs ds = allIn vs ds := by unfold cHas allIn; rw [h, hd]; rfl
theorem allIn_step {vs : List V} {ds : List D} {k : Nat} (hk : k < ds.length) (h : allIn vs (ds.take k) = true) (hs : (cAt vs ds[k].k ds[k].t ds[k].s).isSome = true) : allIn vs (ds.take (k + 1)) = true := by
  unfold allIn at *; rw [takeD ds k hk, List.all_append, h]; simpa using hs
theorem allIn_bad {vs : List V} {ds : List D} {k : Nat} (hk : k < ds.length) (hs : (cAt vs ds[k].k ds[k].t ds[k].s).isSome = false) : allIn vs ds = false := by
  unfold allIn; rw [List.all_eq_false]; exact ⟨ds[k], List.getElem_mem hk, by rw [hs]; exact Bool.false_ne_true⟩

/-- Three cells that hold a dep. -/
def In3 (b x : Nat) (dk dt ds : Int) (W : World) : Prop := W.cell? ⟨b, x, none⟩ = some (.int .i64 dk) ∧ W.cell? ⟨b, x + 1, none⟩ = some (.int .i64 dt) ∧ W.cell? ⟨b, x + 2, none⟩ = some (.int .i64 ds)
theorem In3.mk {b x : Nat} {dk dt ds : Int} {W : World} (h0 : W.cell? ⟨b, x, none⟩ = some (.int .i64 dk)) (h1 : W.cell? ⟨b, x + 1, none⟩ = some (.int .i64 dt)) (h2 : W.cell? ⟨b, x + 2, none⟩ = some (.int .i64 ds)) : In3 b x dk dt ds W := ⟨h0, h1, h2⟩
theorem InD.new {w0 w : World} {b x y : Nat} {dk dt ds pk : Int} (h : InD w0 b x y dk dt ds pk w) (o : Obj) : InD w0 b x y dk dt ds pk (w.alloc o) := h.below ((Below.refl _ _).alloc (Nat.le_refl _) _)

theorem InD.new7 {w0 w : World} {b x y : Nat} {dk dt ds pk : Int} {v0 v1 v2 v3 v4 v5 v6 : Value} {o : Obj} (h : InD w0 b x y dk dt ds pk (w.alloc o)) (hb : b < w.heap.size) (h0 : w0.heap.size ≤ w.heap.size) : InD w0 b x y dk dt ds pk ((((((((w.alloc o).setCell ⟨w.heap.size, 0, none⟩ v0).setCell ⟨w.heap.size, 1, none⟩ v1).setCell ⟨w.heap.size, 2, none⟩ v2).setCell ⟨w.heap.size, 3, none⟩ v3).setCell ⟨w.heap.size, 4, none⟩ v4).setCell ⟨w.heap.size, 5, none⟩ v5).setCell ⟨w.heap.size, 6, none⟩ v6) := by
  have k : Below w.heap.size (w.alloc o) ((((((((w.alloc o).setCell ⟨w.heap.size, 0, none⟩ v0).setCell ⟨w.heap.size, 1, none⟩ v1).setCell ⟨w.heap.size, 2, none⟩ v2).setCell ⟨w.heap.size, 3, none⟩ v3).setCell ⟨w.heap.size, 4, none⟩ v4).setCell ⟨w.heap.size, 5, none⟩ v5).setCell ⟨w.heap.size, 6, none⟩ v6) := fill7_below (Below.refl _ _) (Nat.le_refl _)
  obtain ⟨h1, h4, h6, h7, h8, h9⟩ := h
  exact ⟨h1.trans (k.mono h0), Nat.lt_of_lt_of_le h4 k.size, (k.cell (p := ⟨b, _, none⟩) hb).trans h6, (k.cell (p := ⟨b, _, none⟩) hb).trans h7, (k.cell (p := ⟨b, _, none⟩) hb).trans h8, (k.cell (p := ⟨b, _, none⟩) hb).trans h9⟩

end Go.Proofs.YtpjidogilofppaaGreat

/- The place of a stamp in the map. -/
namespace Go.Proofs.YtpjidogilofppaaGreat
open Go.ChangeShapes Go.WideShapes Go.ChangeAt Go.RowKit

/-- What lies at a key. -/
theorem Chm.at {w : World} {base b n : Nat} {f : Int → List XV} {g : Int → Value} (h : Chm w base b n f g) (key : Int) {gs : List V} (hgs : (f key).map XV.v = gs) (hgood : ∀ x ∈ f key, GoodX w x) : ∃ ga gc, g key = .slice ga gs.length gc ∧ Vers w ga gs := by
  obtain ⟨ga, gc, h1, h2, _⟩ := vers_of_row (h.row key) hgood
  subst hgs
  exact ⟨ga, gc, by rw [h1, List.length_map], h2⟩

set_option maxHeartbeats 1000000 in
theorem place_any (W : World) (base b n : Nat) (f : Int → List XV) (g : Int → Value) (key t s : Int) (gs : List V) (hM : Chm W base b n f g) (hwf : (Lit.int .i64 key).wf = true) (hgs : (f key).map XV.v = gs) (ha : gs.Pairwise (fun a b => lessB a.t a.s b.t b.s = true)) (hl : gs.length ≤ 100) (hgood : ∀ x ∈ f key, GoodX W x) :
    Calls Tryz.prog 251 #[.map (some b), .int .i64 key, stampV t s] W fun e w' => e = .returned (.tuple #[.int .i64 (plc gs t s), .bool (thr gs t s)]) ∧ Below W.heap.size W w' := by
  have b0 : Below W.heap.size W (W.alloc (.cells #[.int .i64 t, .int .i64 s] 39)) := (Below.refl _ W).alloc (Nat.le_refl _) _
  have M1 := hM.below b0
  have hlook := M1.look hwf
  obtain ⟨ga, gc, hg, hV⟩ := M1.at key hgs (fun x hx => (hgood x hx).below b0)
  rw [hg] at hlook
  have hP := placeOf_any ga gc gs t s _ hl ha hV
  clear hg hV M1 hM hgood hgs
  generalize plc gs t s = p at *
  generalize thr gs t s = r at *
  go_enter Tryz.func251, Tryz.ntmps251
  go_wp2_with fail
  refine hP.mono ?_
  rintro e w1 ⟨rfl, hb1⟩
  clear hP hlook
  go_wp2_with fail
  go_ret2
  exact ⟨rfl, b0.trans (hb1.mono b0.size)⟩

theorem top_at {vs : List V} {key : Int} {gs : List V} (hg : grp vs key = gs) (h : 0 < gs.length) : cTop vs key = some (gs[gs.length - 1]'(by omega)) := by
  rw [top_grp, hg, List.getLast?_eq_getElem?, List.getElem?_eq_getElem (by omega)]
theorem top_none {vs : List V} {key : Int} (hg : grp vs key = []) : cTop vs key = none := by rw [top_grp, hg]; rfl
end Go.Proofs.YtpjidogilofppaaGreat

/- The program's ChainAt. -/
namespace Go.Proofs.YtpjidogilofppaaGreat
open Go.ChangeShapes Go.WideShapes Go.ChangeAt Go.RowKit

theorem plc_sought (gs : List V) (t s : Int) (ha : gs.Pairwise (fun a b => lessB a.t a.s b.t b.s = true)) : Sought gs t s (plc gs t s) (plc gs t s) := by
  have h1 : ∀ j, (hj : j < gs.length) → j < plc gs t s → lessB gs[j].t gs[j].s t s = true := by
    clear ha
    induction gs with
    | nil => intro j hj; simp at hj
    | cons x xs ih =>
      intro j hj hp
      unfold plc at hp
      split at hp
      · rename_i hx
        cases j with
        | zero => exact hx
        | succ j => exact ih j (by simpa using hj) (by omega)
      · omega
  have h2 : ∀ h : plc gs t s < gs.length, lessB gs[plc gs t s].t gs[plc gs t s].s t s = false := by
    clear ha h1
    induction gs with
    | nil => intro h; simp at h
    | cons x xs ih =>
      intro h
      by_cases hx : lessB x.t x.s t s = true
      · have e : plc (x :: xs) t s = plc xs t s + 1 := by rw [plc, if_pos hx]
        simp only [e] at h ⊢
        exact ih (by simpa using h)
      · have e : plc (x :: xs) t s = 0 := by rw [plc, if_neg hx]
        simp only [e]
        simpa using hx
  refine ⟨h1, fun j hj hp => ?_⟩
  by_cases e : j = plc gs t s
  · subst e; exact h2 hj
  · cases hh : lessB gs[j].t gs[j].s t s
    · rfl
    · have := lessB_trans (List.pairwise_iff_getElem.1 ha (plc gs t s) j (by omega) hj (by omega)) hh
      rw [h2 (by omega)] at this; cases this
theorem thr_found {gs : List V} {t s : Int} (ha : gs.Pairwise (fun a b => lessB a.t a.s b.t b.s = true)) (h : thr gs t s = true) : ∃ hp : plc gs t s < gs.length, gs.find? (fun v => decide (v.t = t ∧ v.s = s)) = some gs[plc gs t s] := by
  have hs := plc_sought gs t s ha
  by_cases hp : plc gs t s < gs.length
  · obtain ⟨h1, h2⟩ := thr_at hs ha hp
    rw [h] at h1
    exact ⟨hp, h2 (by simpa using h1.symm)⟩
  · have e : plc gs t s = gs.length := by have := plc_le gs t s; omega
    rw [e] at hs
    rw [thr_end hs] at h; cases h
theorem thr_at_none {gs : List V} {t s : Int} (h : thr gs t s = false) : gs.find? (fun v => decide (v.t = t ∧ v.s = s)) = none := by
  unfold thr at h
  rcases hf : gs.find? (fun v => decide (v.t = t ∧ v.s = s)) with _ | x
  · exact hf
  · rw [hf] at h; cases h

set_option maxHeartbeats 4000000 in
set_option maxRecDepth 100000 in
theorem iAtV_if (a : Option Addr) (cap : Nat) (vs : List V) (key t s : Int) (w : World) (hn : vs.length ≤ 1099511627776) (h : Vers w a vs) (hwf : chainB vs = true → (Lit.int .i64 key).wf = true) :
    Calls Tryz.prog 213 #[.slice a vs.length cap, .int .i64 key, stampV t s] w fun e w' => ∃ u pa pc, Hid (u = (atA vs key t s).getD zeroV) ∧ e = .returned (.tuple #[verV u.k u.t u.s u.val u.cl u.ca pa u.ds.length pc, .bool (atA vs key t s).isSome]) ∧ RowD w' w.heap.size (.slice pa u.ds.length pc) u.ds ∧ Below w.heap.size w w' := by
  have S1 : Blk ((w.alloc (.cells #[.int .i64 t, .int .i64 s] 39)).alloc (.cells #[.int .i64 0, .int .i64 0, .int .i64 0, .int .i64 0, .int .i64 0, .int .i64 0, .slice none 0 0] 107)) w.heap.size #[.int .i64 t, .int .i64 s] 39 := (Blk.new w _ _).alloc _
  have Z1 : Blk ((w.alloc (.cells #[.int .i64 t, .int .i64 s] 39)).alloc (.cells #[.int .i64 0, .int .i64 0, .int .i64 0, .int .i64 0, .int .i64 0, .int .i64 0, .slice none 0 0] 107)) (w.heap.size + 1) #[.int .i64 0, .int .i64 0, .int .i64 0, .int .i64 0, .int .i64 0, .int .i64 0, .slice none 0 0] 107 := by have := Blk.new (w.alloc (.cells #[.int .i64 t, .int .i64 s] 39)) #[.int .i64 0, .int .i64 0, .int .i64 0, .int .i64 0, .int .i64 0, .int .i64 0, .slice none 0 0] 107; simpa using this
  have b0 : Below w.heap.size w ((w.alloc (.cells #[.int .i64 t, .int .i64 s] 39)).alloc (.cells #[.int .i64 0, .int .i64 0, .int .i64 0, .int .i64 0, .int .i64 0, .int .i64 0, .slice none 0 0] 107)) := ((Below.refl _ w).alloc (Nat.le_refl _) _).alloc (by simp) _
  have h1 := h.below b0
  have s1 : ((w.alloc (.cells #[.int .i64 t, .int .i64 s] 39)).alloc (.cells #[.int .i64 0, .int .i64 0, .int .i64 0, .int .i64 0, .int .i64 0, .int .i64 0, .slice none 0 0] 107)).heap.size = w.heap.size + 1 + 1 := by simp
  rcases hc : chainB vs with _ | _
  · have HN : Hid (atA vs key t s = none) := atA_no hc key t s
    have hC := iChainOf_no a cap vs _ hn h1 hc
    clear h hc hwf
    go_enter Tryz.func213, Tryz.ntmps213
    go_wp2_with fail
    refine hC.mono ?_
    rintro e w2 ⟨rfl, hb2⟩
    have Z2 := Z1.below hb2 Z1.lt
    have B2 : Below w.heap.size w w2 := b0.trans (hb2.mono b0.size)
    obtain ⟨q1, g1⟩ := Z2.rules
    clear hC h1 S1 Z1 b0 hb2
    go_wp2_with fail
    refine bodyPost_ret (v := .tuple #[verV 0 0 0 0 0 0 none 0 0, .bool false]) ?_ rfl ⟨zeroV, none, 0, by show _ = _; rw [HN.out]; rfl, by rw [HN.out]; rfl, World.ownsRow_nil _ _ _ _, fill7_below B2 (by omega)⟩
    refine Blk.gen (B := w.heap.size + 1) (vs := #[.int .i64 0, .int .i64 0, .int .i64 0, .int .i64 0, .int .i64 0, .int .i64 0, .slice none 0 0]) (T := 107) ?_ (P := fun W => (results Tryz.f213 _).run Tryz.prog W = .ok _ W) ?_
    · exact Blk.fill7 Z2
    intro W hW
    obtain ⟨k, f⟩ := hW.rules
    simp [results, Tryz.results213, go_sem, k]
  have hwf := hwf hc
  have hC := iChainOf_yes a cap vs _ hn h1 hc
  have HA : Hid (atA vs key t s = cAt vs key t s) := atA_yes hc key t s
  obtain ⟨hl80, hP⟩ := chainB_iff.1 hc
  have HG : Hid (cAt vs key t s = (grp vs key).find? fun v => decide (v.t = t ∧ v.s = s)) := at_grp vs key t s
  have hasc := grp_asc hP.2 key
  clear h hc hP
  go_enter Tryz.func213, Tryz.ntmps213
  go_wp2_with fail
  generalize ((w.alloc (.cells #[.int .i64 t, .int .i64 s] 39)).alloc (.cells #[.int .i64 0, .int .i64 0, .int .i64 0, .int .i64 0, .int .i64 0, .int .i64 0, .slice none 0 0] 107)) = W1 at *
  refine hC.mono ?_
  rintro e w2 ⟨b, f, g, rfl, hbb, hM, hf, hgood, hb2⟩
  clear hC
  have hgl := grp_le vs key
  have hGs := hf key
  clear hf
  generalize grp vs key = gs at *
  have S2 := S1.below hb2 S1.lt
  obtain ⟨q1, g1⟩ := S2.rules
  go_wp2_with fail
  refine (place_any w2 _ b vs.length f g key t s gs hM hwf hGs hasc (by omega) (fun x hx => (hgood key x hx).below hb2)).mono ?_
  rintro e w3 ⟨rfl, hb3⟩
  have b3 : Below W1.heap.size W1 w3 := hb2.trans (hb3.mono hb2.size)
  have M3 := hM.below hb3
  have Z3 := Z1.below b3 Z1.lt
  have B3 : Below w.heap.size w w3 := b0.trans (b3.mono b0.size)
  have hsz : w.heap.size + 1 + 1 ≤ w3.heap.size := by have := b3.size; omega
  clear q1 g1 S2 hb3
  rcases hth : thr gs t s with _ | _
  · have HO : Hid (gs.find? (fun v => decide (v.t = t ∧ v.s = s)) = none) := thr_at_none hth
    obtain ⟨q1, g1⟩ := Z3.rules
    clear hasc hth
    go_wp2_with fail
    refine bodyPost_ret (v := .tuple #[verV 0 0 0 0 0 0 none 0 0, .bool false]) ?_ rfl ⟨zeroV, none, 0, by show _ = _; rw [HA.out, HG.out, HO.out]; rfl, by rw [HA.out, HG.out, HO.out]; rfl, World.ownsRow_nil _ _ _ _, fill7_below B3 (by omega)⟩
    refine Blk.gen (B := w.heap.size + 1) (vs := #[.int .i64 0, .int .i64 0, .int .i64 0, .int .i64 0, .int .i64 0, .int .i64 0, .slice none 0 0]) (T := 107) ?_ (P := fun W => (results Tryz.f213 _).run Tryz.prog W = .ok _ W) ?_
    · exact Blk.fill7 Z3
    intro W hW
    obtain ⟨k, f⟩ := hW.rules
    simp [results, Tryz.results213, go_sem, k]
  · obtain ⟨hp, HO⟩ := thr_found hasc hth
    have HO : Hid _ := HO
    have hlook := M3.look hwf
    obtain ⟨ga, gc, hg, hV⟩ := M3.at key hGs (fun x hx => (hgood key x hx).below b3)
    rw [hg] at hlook
    obtain ⟨bx, o, da, dc, rfl, hbx, hv⟩ := hV.at hp
    clear hg hV M3 hM hgood hGs hth hasc
    generalize plc gs t s = p at *
    generalize gs[p] = v at *
    obtain ⟨c0, c1, c2, c3, c4, c5, c6, hd, hdl⟩ := hv
    have i1 : (0 : Int) ≤ (p : Int) := by omega
    have i2 : (p : Int) < (gs.length : Int) := by omega
    go_wp2_with fail
    refine (iCopy_any v da dc _ hdl hd).mono ?_
    rintro e w4 ⟨pa, pc, rfl, hrow, hb4⟩
    have Z4 := Z3.below hb4 Z3.lt
    have B4 : Below w.heap.size w w4 := B3.trans (hb4.mono B3.size)
    obtain ⟨q1, g1⟩ := Z4.rules
    clear c0 c1 c2 c3 c4 c5 c6 hd hb4 Z3
    go_wp2_with fail
    refine bodyPost_ret (v := .tuple #[verV v.k v.t v.s v.val v.cl v.ca pa v.ds.length pc, .bool true]) ?_ rfl ⟨v, pa, pc, by show _ = _; rw [HA.out, HG.out, HO.out]; rfl, by rw [HA.out, HG.out, HO.out]; rfl, row_mono (row_fill7 hrow (fun j hj => by have := (hrow.lt j hj).1; omega)) (by omega), fill7_below B4 (by omega)⟩
    refine Blk.gen (B := w.heap.size + 1) (vs := #[.int .i64 v.k, .int .i64 v.t, .int .i64 v.s, .int .i64 v.val, .int .i64 v.cl, .int .i64 v.ca, .slice pa v.ds.length pc]) (T := 107) ?_ (P := fun W => (results Tryz.f213 _).run Tryz.prog W = .ok _ W) ?_
    · exact Blk.fill7 Z4
    intro W hW
    obtain ⟨k, f⟩ := hW.rules
    simp [results, Tryz.results213, go_sem, k]

theorem iAtV_any (a : Option Addr) (cap : Nat) (vs : List V) (key t s : Int) (w : World) (hn : vs.length ≤ 1099511627776) (h : Vers w a vs) (hwf : (Lit.int .i64 key).wf = true) :
    Calls Tryz.prog 213 #[.slice a vs.length cap, .int .i64 key, stampV t s] w fun e w' => ∃ u pa pc, Hid (u = (atA vs key t s).getD zeroV) ∧ e = .returned (.tuple #[verV u.k u.t u.s u.val u.cl u.ca pa u.ds.length pc, .bool (atA vs key t s).isSome]) ∧ RowD w' w.heap.size (.slice pa u.ds.length pc) u.ds ∧ Below w.heap.size w w' := iAtV_if a cap vs key t s w hn h fun _ => hwf
end Go.Proofs.YtpjidogilofppaaGreat

