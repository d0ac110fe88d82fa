/- The specification's ChainSlot. -/
import Derived.Test.YtpjidogilofppaaGreatISlotC
namespace Go.Proofs.YtpjidogilofppaaGreat
open Go.ChangeShapes Go.WideShapes Go.ChangeAt Go.RowKit

/-- Two lists of the call's own that share nothing. -/
structure TwoV (w : World) (base : Nat) (u : Value) (ys : List XV) (u' : Value) (zs : List XV) : Prop where
  a : OwnV w base u ys
  b : OwnV w base u' zs
  rows : ApartV u u'
  deps : ∀ y ∈ ys, ∀ z ∈ zs, ApartV y.p z.p
theorem ApartV.symm {u v : Value} (h : ApartV u v) : ApartV v u := fun j hj hu => h j hu hj
theorem TwoV.swap {w : World} {base : Nat} {u u' : Value} {ys zs : List XV} (h : TwoV w base u ys u' zs) : TwoV w base u' zs u ys := ⟨h.b, h.a, h.rows.symm, fun y hy z hz => (h.deps z hz y hy).symm⟩
theorem TwoV.below {w w' : World} {base : Nat} {u u' : Value} {ys zs : List XV} (h : TwoV w base u ys u' zs) {m : Nat} (k : Below m w w') (hm : w.heap.size ≤ m) : TwoV w' base u ys u' zs := ⟨h.a.below k hm, h.b.below k hm, h.rows, h.deps⟩
theorem TwoV.alloc {w : World} {base : Nat} {u u' : Value} {ys zs : List XV} (h : TwoV w base u ys u' zs) (o : Obj) : TwoV (w.alloc o) base u ys u' zs := ⟨h.a.alloc o, h.b.alloc o, h.rows, h.deps⟩
theorem TwoV.mono {w : World} {base base' : Nat} {u u' : Value} {ys zs : List XV} (h : TwoV w base u ys u' zs) (hb : base' ≤ base) : TwoV w base' u ys u' zs := ⟨h.a.mono hb, h.b.mono hb, h.rows, h.deps⟩
theorem OwnV.other {w w' : World} {base : Nat} {u u' : Value} {ys zs : List XV} (h : OwnV w base u ys) (k : OwnV w base u' zs) (hap : ApartV u u') (hg : w.grownBy w' u.ownBlock) : OwnV w' base u' zs :=
  ⟨k.row.kept hg (by rcases hu : u'.ownBlock with _ | j; exact .inl rfl; exact .inr fun e => hap j e.symm hu), fun z hz => ⟨(k.deps z hz).1.kept hg (row_other h.row (k.deps z hz).1), (k.deps z hz).2⟩, k.apart⟩

/-- A version that was laid in a block of its own is appended to one of two lists. -/
theorem wpList_append_two (w : World) {ops : Array Oper} {rest : List Oper} {o : Oper} {a : Act} {Q : Exit → Act → World → Prop} (hgd : o.guard = none) (s x : Operand)
    (ho : o.op = .call { callee := .builtin .append, args := #[s, x], argTypes := #[29, 29] })
    (base : Nat) (v : Value) (ys : List XV) (v2 : Value) (zs : List XV) (hs : a.eval s = v) (hT : TwoV w base v ys v2 zs) (y : XV) (g : Nat) (hx : a.eval x = .slice (some ⟨g, 0, none⟩) 1 1)
    (hB : Blk w g #[.int .i64 y.v.k, .int .i64 y.v.t, .int .i64 y.v.s, .int .i64 y.v.val, .int .i64 y.v.cl, .int .i64 y.v.ca, y.p] 107)
    (hd : w.ownsRow base 116 3 y.p y.v.ds.length (flat3 y.v.ds)) (hl : y.v.ds.length ≤ 1099511627776) (ha : ∀ z ∈ ys, ApartV z.p y.p) (ha2 : ∀ z ∈ zs, ApartV z.p y.p) (hn : ys.length ≤ 1099511627776) (hb : base ≤ w.heap.size)
    (h : ∀ v' w', TwoV w' base v' (ys ++ [y]) v2 zs → w.grownBy w' v.ownBlock → wpList Tryz.prog ops Q rest (a.put o.dst v') w') : wpList Tryz.prog ops Q (o :: rest) a w := by
  obtain ⟨i0, hi, hz0, hz1, hz2⟩ := info_parts infoVer
  refine wpList_append_own_at w hgd s x 29 ho base 107 i0 (.agg #[.int .i64 0, .int .i64 0, .int .i64 0, .int .i64 0, .int .i64 0, .int .i64 0, .slice none 0 0]) 7 72 Tryz.underlying29 hi hz0 hz1 hz2 rfl (by decide) v ys.length (flat7 ys) hs hT.a.row ⟨g, 0, none⟩ 1 1 (flat7 [y]) hx rfl (cells7 hB) (flat7_one fun z hz => ?_) (by unfold maxLen; omega) (by omega) hb fun v' w' h2 h3 _ h5 => h v' w' ⟨hT.a.snoc h3 h2 hd hl ha, hT.a.other hT.b hT.rows h3, ?_, ?_⟩ h3
  · simp at hz
    subst hz
    exact (good_of_row hd hl).one
  · intro j hj hj2
    rcases h5 with e | e
    · rw [e] at hj; exact hT.rows j hj hj2
    · rw [e] at hj; simp at hj; subst hj; have := (hT.b.row.lt _ hj2).2; omega
  · intro z hz q hq
    rcases List.mem_append.1 hz with hz | hz
    · exact hT.deps z hz q hq
    · simp at hz; subst hz; exact (ha2 q hq).symm

theorem filter_snoc (p : V → Bool) (vs : List V) (k : Nat) (h : k < vs.length) : (vs.take (k + 1)).filter p = (vs.take k).filter p ++ if p vs[k] = true then [vs[k]] else [] := by
  rw [takeV vs k h, List.filter_append]
  by_cases e : p vs[k] = true
  · rw [if_pos e]; simp [e]
  · rw [if_neg e]; simp [e]

set_option maxHeartbeats 4000000 in
set_option maxRecDepth 100000 in
theorem sSlotC_any (a : Option Addr) (cap : Nat) (vs : List V) (slot : Int) (w : World) (hn : vs.length ≤ 1099511627776) (h : Vers w a vs) :
    Calls Tryz.prog 136 #[.slice a vs.length cap, .int .i64 slot] w fun e w' => ∃ u ys u' zs, e = .returned (.tuple #[u, u']) ∧ TwoV w' w.heap.size u ys u' zs ∧ ys.map XV.v = slotL vs slot ∧ zs.map XV.v = restL vs slot ∧ Below w.heap.size w w' := by
  have b0 : Below w.heap.size w ((w.alloc (.cells #[] 107)).alloc (.cells #[] 107)) := ((Below.refl _ w).alloc (Nat.le_refl _) _).alloc (by simp) _
  have O1 : OwnV (w.alloc (.cells #[] 107)) w.heap.size (.slice (some ⟨w.heap.size, 0, none⟩) 0 0) [] := ⟨World.ownsRow_made w #[] 0 (Nat.le_refl _) (by unfold maxLen; omega) rfl, fun _ h => (by cases h), List.Pairwise.nil⟩
  have O2 : OwnV ((w.alloc (.cells #[] 107)).alloc (.cells #[] 107)) w.heap.size (.slice (some ⟨w.heap.size + 1, 0, none⟩) 0 0) [] := ⟨by have := World.ownsRow_made (base := w.heap.size) (e := 107) (size := 7) (w.alloc (.cells #[] 107)) #[] 0 (by simp) (by unfold maxLen; omega) rfl; simpa [flat7] using this, fun _ h => (by cases h), List.Pairwise.nil⟩
  have T0 : TwoV ((w.alloc (.cells #[] 107)).alloc (.cells #[] 107)) w.heap.size (.slice (some ⟨w.heap.size, 0, none⟩) 0 0) [] (.slice (some ⟨w.heap.size + 1, 0, none⟩) 0 0) [] := ⟨O1.alloc _, O2, fun j hj hj2 => by simp [Value.ownBlock] at hj hj2; omega, fun y hy => (by cases hy)⟩
  have hC := sChainOk_any a cap vs _ hn (h.below b0)
  clear O1 O2
  rcases hc : chainB vs with _ | _
  · have HP : Hid _ := slotL_no hc slot
    rw [hc] at hC
    clear h hc
    go_enter Tryz.func136, Tryz.ntmps136
    go_wp2_with fail
    refine hC.mono ?_
    rintro e w2 ⟨rfl, hb2⟩
    clear hC
    go_wp2_with fail
    go_ret2
    exact ⟨_, [], _, [], rfl, T0.below hb2 (Nat.le_refl _), by rw [HP.out.1]; rfl, by rw [HP.out.2]; rfl, b0.trans (hb2.mono b0.size)⟩
  have HP : Hid _ := slotL_yes hc slot
  have hl80 := (chainB_iff.1 hc).1
  rw [hc] at hC
  clear hc
  go_enter Tryz.func136, Tryz.ntmps136
  go_wp2_with fail
  refine hC.mono ?_
  rintro e w1 ⟨rfl, hb1⟩
  have T1 := T0.below hb1 (Nat.le_refl _)
  have B1 : Below w.heap.size w w1 := b0.trans (hb1.mono b0.size)
  clear hC T0 hb1 b0
  go_wp2_with fail
  go_loopw [6, 7, 8] (fun u u' i wr => ∃ (k : Nat) (ys zs : List XV), k ≤ vs.length ∧ i = .int .i64 k ∧ TwoV wr w.heap.size u ys u' zs ∧ Hid (ys.map XV.v = (vs.take k).filter (fun v => slotOf v.k == slot) ∧ zs.map XV.v = (vs.take k).filter (fun v => !(slotOf v.k == slot))) ∧ Below w.heap.size w wr) (fun _ _ i _ => vs.length - (intOf i).toNat)
  case atStart => exact ⟨0, [], [], Nat.zero_le _, rfl, T1, ⟨rfl, rfl⟩, B1⟩
  case round =>
    obtain ⟨k, ys, zs, hk, rfl, hT, HY, hB⟩ := hrel
    clear T1 B1
    by_cases hlt : k < vs.length
    · obtain ⟨b, o, da, dc, rfl, hbb, hv⟩ := (h.below hB).at hlt
      have hyl : ys.length ≤ 1099511627776 := by
        have h1 := congrArg List.length HY.out.1
        have h2 := List.length_filter_le (fun v => slotOf v.k == slot) (vs.take k)
        simp at h1 h2; omega
      have hyl2 : zs.length ≤ 1099511627776 := by
        have h1 := congrArg List.length HY.out.2
        have h2 := List.length_filter_le (fun v => !(slotOf v.k == slot)) (vs.take k)
        simp at h1 h2; omega
      have HA : Hid _ := filter_snoc (fun v => slotOf v.k == slot) vs k hlt
      have HB : Hid _ := filter_snoc (fun v => !(slotOf v.k == slot)) vs k hlt
      obtain ⟨c0, c1, c2, c3, c4, c5, c6, hd, hdl⟩ := hv
      generalize vs[k] = v at *
      obtain ⟨r, hr⟩ : ∃ r, slotOf v.k = r := ⟨_, rfl⟩
      have hsl := fun w => sslot_is hr w
      by_cases he : r = slot
      · subst he
        have HA2 : Hid ((vs.take (k + 1)).filter (fun v => slotOf v.k == r) = (vs.take k).filter (fun v => slotOf v.k == r) ++ [v]) := by show List.filter _ _ = _; rw [HA.out]; simp [hr]
        have HB2 : Hid ((vs.take (k + 1)).filter (fun v => !(slotOf v.k == r)) = (vs.take k).filter (fun v => !(slotOf v.k == r))) := by show List.filter _ _ = _; rw [HB.out]; simp [hr]
        clear hr HA HB
        go_wp2_with fail
        refine (hsl _).mono ?_
        rintro e w9 ⟨rfl, rfl⟩
        clear hsl
        go_wp2_with fail
        refine (sCopy_any v da dc _ hdl hd).mono ?_
        rintro e w2 ⟨pa, pc, rfl, hrow, hb2⟩
        have hT2 := (hT.below hb2 (Nat.le_refl _)).alloc (.cells #[.int .i64 v.k, .int .i64 v.t, .int .i64 v.s, .int .i64 v.val, .int .i64 v.cl, .int .i64 v.ca, .slice pa v.ds.length pc] 107)
        have hB2 : Below w.heap.size w w2 := hB.trans (hb2.mono hB.size)
        have hB3 := hB2.alloc hB2.size (.cells #[.int .i64 v.k, .int .i64 v.t, .int .i64 v.s, .int .i64 v.val, .int .i64 v.cl, .int .i64 v.ca, .slice pa v.ds.length pc] 107)
        have hap : ∀ z ∈ ys, ApartV z.p (.slice pa v.ds.length pc) := fun z hz => apart_new (hT.a.deps z hz).1 hrow (Nat.le_refl _)
        have hap2 : ∀ z ∈ zs, ApartV z.p (.slice pa v.ds.length pc) := fun z hz => apart_new (hT.b.deps z hz).1 hrow (Nat.le_refl _)
        have hrow3 := row_mono (hrow.alloc (.cells #[.int .i64 v.k, .int .i64 v.t, .int .i64 v.s, .int .i64 v.val, .int .i64 v.cl, .int .i64 v.ca, .slice pa v.ds.length pc] 107)) hB.size
        have hN := Blk.new w2 #[.int .i64 v.k, .int .i64 v.t, .int .i64 v.s, .int .i64 v.val, .int .i64 v.cl, .int .i64 v.ca, .slice pa v.ds.length pc] 107
        have hs3 := hB3.size
        clear hrow hb2 hT hB hB2 c0 c1 c2 c3 c4 c5 c6 hd
        go_wp2_with (first | (at_builtin
                              refine wpList_append_two _ rfl _ _ rfl w.heap.size _ ys _ zs rfl hT2 ⟨v, .slice pa v.ds.length pc⟩ w2.heap.size rfl hN hrow3 hdl hap hap2 hyl hs3 ?_
                              intro v' w3 hT3 hg3
                              have hB4 : Below w.heap.size w w3 := hB3.grown hg3 hs3 (fun j hj => (hT2.a.row.lt j hj).1)
                              clear hg3 hT2 hap hap2 hrow3 hN hB3 hs3))
        go_roundw
        case rel => exact ⟨k + 1, _, _, by omega, by go_num, hT3, ⟨by rw [HA2.out, List.map_append, HY.out.1]; rfl, by rw [HB2.out, HY.out.2]⟩, hB4⟩
        case measure => simp [intOf]; omega
      · have HA2 : Hid ((vs.take (k + 1)).filter (fun v => slotOf v.k == slot) = (vs.take k).filter (fun v => slotOf v.k == slot)) := by show List.filter _ _ = _; rw [HA.out]; simp [hr, he]
        have HB2 : Hid ((vs.take (k + 1)).filter (fun v => !(slotOf v.k == slot)) = (vs.take k).filter (fun v => !(slotOf v.k == slot)) ++ [v]) := by show List.filter _ _ = _; rw [HB.out]; simp [hr, he]
        have he2 : (r == slot) = false := by simpa using he
        clear hr HA HB he
        go_wp2_with fail
        refine (hsl _).mono ?_
        rintro e w9 ⟨rfl, rfl⟩
        clear hsl
        go_wp2_with fail
        refine (sCopy_any v da dc _ hdl hd).mono ?_
        rintro e w2 ⟨pa, pc, rfl, hrow, hb2⟩
        have hT2 := (hT.swap.below hb2 (Nat.le_refl _)).alloc (.cells #[.int .i64 v.k, .int .i64 v.t, .int .i64 v.s, .int .i64 v.val, .int .i64 v.cl, .int .i64 v.ca, .slice pa v.ds.length pc] 107)
        have hB2 : Below w.heap.size w w2 := hB.trans (hb2.mono hB.size)
        have hB3 := hB2.alloc hB2.size (.cells #[.int .i64 v.k, .int .i64 v.t, .int .i64 v.s, .int .i64 v.val, .int .i64 v.cl, .int .i64 v.ca, .slice pa v.ds.length pc] 107)
        have hap : ∀ z ∈ zs, ApartV z.p (.slice pa v.ds.length pc) := fun z hz => apart_new (hT.b.deps z hz).1 hrow (Nat.le_refl _)
        have hap2 : ∀ z ∈ ys, ApartV z.p (.slice pa v.ds.length pc) := fun z hz => apart_new (hT.a.deps z hz).1 hrow (Nat.le_refl _)
        have hrow3 := row_mono (hrow.alloc (.cells #[.int .i64 v.k, .int .i64 v.t, .int .i64 v.s, .int .i64 v.val, .int .i64 v.cl, .int .i64 v.ca, .slice pa v.ds.length pc] 107)) hB.size
        have hN := Blk.new w2 #[.int .i64 v.k, .int .i64 v.t, .int .i64 v.s, .int .i64 v.val, .int .i64 v.cl, .int .i64 v.ca, .slice pa v.ds.length pc] 107
        have hs3 := hB3.size
        clear hrow hb2 hT hB hB2 c0 c1 c2 c3 c4 c5 c6 hd
        go_wp2_with (first | (at_builtin
                              refine wpList_append_two _ rfl _ _ rfl w.heap.size _ zs _ ys rfl hT2 ⟨v, .slice pa v.ds.length pc⟩ w2.heap.size rfl hN hrow3 hdl hap hap2 hyl2 hs3 ?_
                              intro v' w3 hT3 hg3
                              have hB4 : Below w.heap.size w w3 := hB3.grown hg3 hs3 (fun j hj => (hT2.a.row.lt j hj).1)
                              clear hg3 hT2 hap hap2 hrow3 hN hB3 hs3))
        go_roundw
        case rel => exact ⟨k + 1, _, _, by omega, by go_num, hT3.swap, ⟨by rw [HA2.out, HY.out.1], by rw [HB2.out, List.map_append, HY.out.2]; rfl⟩, hB4⟩
        case measure => simp [intOf]; omega
    · have hk2 : k = vs.length := by omega
      subst hk2
      rw [List.take_length] at HY
      go_wp2_with fail
      go_ret2
      exact ⟨_, ys, _, zs, rfl, hT, by rw [HY.out.1, HP.out.1], by rw [HY.out.2, HP.out.2], hB⟩
end Go.Proofs.YtpjidogilofppaaGreat
