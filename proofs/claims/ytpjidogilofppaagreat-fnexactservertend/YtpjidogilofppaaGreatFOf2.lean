/- Versions of a slot's keys, and of all others. -/
import Derived.Test.YtpjidogilofppaaGreatGAP
namespace Go.Proofs.YtpjidogilofppaaGreat
open Go.ChangeShapes Go.WideShapes Go.ChangeAt Go.RowKit

set_option maxHeartbeats 4000000 in
set_option maxRecDepth 100000 in
theorem ofSlot_any (W : World) (base b n : Nat) (f : Int → List XV) (g : Int → Value) (vs : List V) (sb : Nat) (p : Int → Bool) (hM : Chm W base b n f g) (hn : n ≤ 1000) (hf : ∀ j, (f j).map XV.v = grp vs j) (hgood : ∀ j, ∀ x ∈ f j, GoodX W x) (hvs : vs.Pairwise (fun a b => a.k ≤ b.k)) (hvk : ∀ v ∈ vs, 0 ≤ v.k ∧ v.k ≤ 5) (hl : vs.length ≤ 100)
    (hw : ∀ (W' : World) (k : Int), Below W.heap.size W W' → Calls Tryz.prog 241 #[.int .i64 k, .pointer (some ⟨sb, 0, none⟩)] W' fun e w' => e = .returned (.bool (p k)) ∧ Below W'.heap.size W' w') :
    Calls Tryz.prog 243 #[.map (some b), .func (.func 241) #[] #[.pointer (some ⟨sb, 0, none⟩)]] W fun e w' => ∃ u ys, e = .returned u ∧ OwnV w' W.heap.size u ys ∧ ys.map XV.v = vs.filter (fun v => p v.k) ∧ Below W.heap.size W w' := by
  obtain ⟨i0, hi, hz0, hz1, hz2⟩ := info_parts infoVer
  have b1 : Below W.heap.size W (W.alloc (.cells #[.map (some b)] 271)) := (Below.refl _ W).alloc (Nat.le_refl _) _
  have M1 := hM.below b1
  have lb := hM.lt
  obtain ⟨D, hD, hsz, hks⟩ := M1.keys'
  have hcell : (W.alloc (.cells #[.map (some b)] 271)).cell? ⟨W.heap.size, 0, none⟩ = some (.map (some b)) := (Blk.new W #[.map (some b)] 271).cell 0
  go_enter Tryz.func243, Tryz.ntmps243
  go_wp2_with fail
  refine (keys_any (some b) _).mono ?_
  rintro e w1 ⟨rfl, rfl⟩
  go_wp2_with fail
  refine (sorted_any b n W.heap.size D heldR _ (by simp) hcell hD (by omega)).mono ?_
  rintro e w2 ⟨v, ss, rfl, hperm, hrow, hb2⟩
  obtain ⟨ks, hke, hkl, hkn, hkp, hkm⟩ := hks ss hperm
  rw [hke] at hrow
  obtain ⟨va, vc, rfl, _⟩ := row_slice hrow
  have B2 : Below W.heap.size W w2 := b1.trans (hb2.mono b1.size)
  have M2 := hM.below B2
  have HT : Hid (toldTo p vs ks = vs.filter fun v => p v.k) := told_keys p ks vs hvs hkp (fun k => by rw [hkm k, ← hf k]; simp)
  have HM : Hid (∀ k ∈ ks, f k ≠ []) := fun k hk => (hkm k).1 hk
  have HK : Hid (∀ k ∈ ks, 0 ≤ k ∧ k ≤ 5) := fun k hk => by
    have := (hkm k).1 hk
    rcases hx : f k with _ | ⟨x, l⟩
    · exact absurd hx this
    · have hg : x.v ∈ grp vs k := by rw [← hf k, hx]; simp
      have h1 := List.mem_filter.1 hg
      have h2 := hvk _ h1.1
      have h3 := h1.2
      simp at h3
      omega
  have hs2 := B2.size
  rw [← hkl] at hrow
  clear hks hke hperm hsz hD hcell M1 b1 hb2 hkm hkp hM
  rw [← hkl]
  clear hkl
  go_wp2_with fail
  go_loopw [5, 12] (fun u i wr => ∃ (k : Nat) (ys : List XV), k ≤ ks.length ∧ i = .int .i64 k ∧ OwnV wr w2.heap.size u ys ∧ Hid (ys.map XV.v = toldTo p vs (ks.take k)) ∧ ys.length ≤ k * 100 ∧ Below w2.heap.size w2 wr) (fun _ i _ => ks.length - (intOf i).toNat)
  case atStart => exact ⟨0, [], Nat.zero_le _, rfl, OwnV.nil _ _, rfl, Nat.zero_le _, Below.refl _ _⟩
  case round =>
    obtain ⟨k, ys, hk, rfl, hO, HY, hyl, hB⟩ := hrel
    by_cases hlt : k < ks.length
    · obtain ⟨gb, rfl, hgb, _, hc⟩ := ints_at hrow hlt
      have hc2 := (hB.cell (p := ⟨gb, k, none⟩) hgb).trans hc
      have HS : Hid (ks.take (k + 1) = ks.take k ++ [ks[k]]) := takeV ks k hlt
      have hne := HM.out ks[k] (List.getElem_mem hlt)
      obtain ⟨k0, k5⟩ := HK.out ks[k] (List.getElem_mem hlt)
      generalize ks[k] = key at *
      have i1 : (0 : Int) ≤ (k : Int) := by omega
      have i2 : (k : Int) < (ks.length : Int) := by omega
      have BW : Below W.heap.size W wr := B2.trans (hB.mono hs2)
      go_wp2_with fail
      refine (hw wr key BW).mono ?_
      rintro e w3 ⟨rfl, hb3⟩
      have B3 : Below w2.heap.size w2 w3 := hB.trans (hb3.mono hB.size)
      have O3 := hO.below hb3 (Nat.le_refl _)
      clear hc hc2 hO hb3 BW hB
      rcases hp : p key with _ | _
      · have HN : Hid (toldTo p vs (ks.take (k + 1)) = toldTo p vs (ks.take k)) := by show toldTo _ _ _ = _; rw [HS.out, toldTo_snoc, hp]; simp
        go_wp2_with fail
        go_roundw
        case rel => exact ⟨k + 1, ys, by omega, by go_num, O3, (by show _ = _; rw [HN.out, HY.out]), by omega, B3⟩
        case measure => simp [intOf]; omega
      · have HN : Hid (toldTo p vs (ks.take (k + 1)) = toldTo p vs (ks.take k) ++ grp vs key) := by show toldTo _ _ _ = _; rw [HS.out, toldTo_snoc, hp]; simp
        have M3 := M2.below B3
        have hlook := M3.look (wf_key k0 k5)
        have BW3 : Below W.heap.size W w3 := B2.trans (B3.mono hs2)
        obtain ⟨ga, gc, hg, hV⟩ := M3.at key (hf key) (fun x hx => (hgood key x hx).below BW3)
        rw [hg] at hlook
        have hgl := grp_le vs key
        have hgp : 0 < (grp vs key).length := by
          rw [← hf key, List.length_map]
          exact List.length_pos_iff.2 hne
        clear hg M3 hp
        generalize grp vs key = gs at *
        go_wp2_with fail
        refine (iVers_any ga gc gs _ (by omega) hV).mono ?_
        rintro e w4 ⟨cv, zs, rfl, OC, hzs, hb4⟩
        have B4 : Below w2.heap.size w2 w4 := B3.trans (hb4.mono B3.size)
        have O4 := O3.below hb4 (Nat.le_refl _)
        have hzl : zs.length = gs.length := by rw [← hzs, List.length_map]
        have hap : ∀ x ∈ ys, ∀ y ∈ zs, ApartV x.p y.p := fun x hx y hy => apart_new (O3.deps x hx).1 (OC.deps y hy).1 (Nat.le_refl _)
        have OC4 := OC.mono (base' := w2.heap.size) B3.size
        obtain ⟨cb, cc, rfl⟩ : ∃ cb cc, cv = .slice (some ⟨cb, 0, none⟩) zs.length cc := by
          rcases OC.row.2 with ⟨_, h0⟩ | ⟨cb, cc, cur, h0, _⟩
          · omega
          · exact ⟨cb, cc, h0⟩
        have hcells := OC4.row.cells (g := cb) rfl
        have hone := flat7_one (fun y hy => (OC4.good y hy).one)
        have h63 : ys.length + zs.length ≤ maxLen := by unfold maxLen; omega
        have hby : (ys.length + zs.length) * 72 ≤ 140737488355328 := by omega
        have hs4 := B4.size
        have HL : Hid ((flat7 zs).length = zs.length * 7) := flat7_len zs
        have hzb : zs.length ≤ 100 := by omega
        have HZ : Hid (zs.map XV.v = gs) := hzs
        clear hlook hV hb4 O3 OC B3 BW3 hzl hzs
        go_wp2_with (first | (at_builtin
                              refine wpList_append_own _ rfl _ _ 29 rfl w2.heap.size 107 i0 (.agg #[.int .i64 0, .int .i64 0, .int .i64 0, .int .i64 0, .int .i64 0, .int .i64 0, .slice none 0 0]) 7 72 Tryz.underlying29 hi hz0 hz1 hz2 rfl (by decide) _ ys.length (flat7 ys) rfl O4.row ⟨cb, 0, none⟩ zs.length cc (flat7 zs) rfl HL.out hcells hone h63 hby hs4 ?_
                              intro u5 w5 hrow5 hg5 _
                              have O5 := O4.append hg5 hrow5 OC4.deps OC4.apart hap
                              have B5 : Below w2.heap.size w2 w5 := B4.grown hg5 hs4 (fun j hj => (O4.row.lt j hj).1)
                              clear hrow5 hg5 O4 OC4 hap hcells hone B4))
        go_roundw
        case rel => exact ⟨k + 1, ys ++ zs, by omega, by go_num, O5, (by show _ = _; rw [HN.out, List.map_append, HY.out, HZ.out]), by rw [List.length_append]; omega, B5⟩
        case measure => simp [intOf]; omega
    · have hk2 : k = ks.length := by omega
      subst hk2
      rw [List.take_length] at HY
      go_wp2_with fail
      go_ret
      exact ⟨_, ys, rfl, hO.mono hs2, by rw [HY.out, HT.out], B2.trans (hB.mono hs2)⟩

set_option maxHeartbeats 4000000 in
set_option maxRecDepth 100000 in
theorem ofOther_any (W : World) (base b n : Nat) (f : Int → List XV) (g : Int → Value) (vs : List V) (sb : Nat) (p : Int → Bool) (hM : Chm W base b n f g) (hn : n ≤ 1000) (hf : ∀ j, (f j).map XV.v = grp vs j) (hgood : ∀ j, ∀ x ∈ f j, GoodX W x) (hvs : vs.Pairwise (fun a b => a.k ≤ b.k)) (hvk : ∀ v ∈ vs, 0 ≤ v.k ∧ v.k ≤ 5) (hl : vs.length ≤ 100)
    (hw : ∀ (W' : World) (k : Int), Below W.heap.size W W' → Calls Tryz.prog 242 #[.int .i64 k, .pointer (some ⟨sb, 0, none⟩)] W' fun e w' => e = .returned (.bool (p k)) ∧ Below W'.heap.size W' w') :
    Calls Tryz.prog 243 #[.map (some b), .func (.func 242) #[] #[.pointer (some ⟨sb, 0, none⟩)]] W fun e w' => ∃ u ys, e = .returned u ∧ OwnV w' W.heap.size u ys ∧ ys.map XV.v = vs.filter (fun v => p v.k) ∧ Below W.heap.size W w' := by
  obtain ⟨i0, hi, hz0, hz1, hz2⟩ := info_parts infoVer
  have b1 : Below W.heap.size W (W.alloc (.cells #[.map (some b)] 271)) := (Below.refl _ W).alloc (Nat.le_refl _) _
  have M1 := hM.below b1
  have lb := hM.lt
  obtain ⟨D, hD, hsz, hks⟩ := M1.keys'
  have hcell : (W.alloc (.cells #[.map (some b)] 271)).cell? ⟨W.heap.size, 0, none⟩ = some (.map (some b)) := (Blk.new W #[.map (some b)] 271).cell 0
  go_enter Tryz.func243, Tryz.ntmps243
  go_wp2_with fail
  refine (keys_any (some b) _).mono ?_
  rintro e w1 ⟨rfl, rfl⟩
  go_wp2_with fail
  refine (sorted_any b n W.heap.size D heldR _ (by simp) hcell hD (by omega)).mono ?_
  rintro e w2 ⟨v, ss, rfl, hperm, hrow, hb2⟩
  obtain ⟨ks, hke, hkl, hkn, hkp, hkm⟩ := hks ss hperm
  rw [hke] at hrow
  obtain ⟨va, vc, rfl, _⟩ := row_slice hrow
  have B2 : Below W.heap.size W w2 := b1.trans (hb2.mono b1.size)
  have M2 := hM.below B2
  have HT : Hid (toldTo p vs ks = vs.filter fun v => p v.k) := told_keys p ks vs hvs hkp (fun k => by rw [hkm k, ← hf k]; simp)
  have HM : Hid (∀ k ∈ ks, f k ≠ []) := fun k hk => (hkm k).1 hk
  have HK : Hid (∀ k ∈ ks, 0 ≤ k ∧ k ≤ 5) := fun k hk => by
    have := (hkm k).1 hk
    rcases hx : f k with _ | ⟨x, l⟩
    · exact absurd hx this
    · have hg : x.v ∈ grp vs k := by rw [← hf k, hx]; simp
      have h1 := List.mem_filter.1 hg
      have h2 := hvk _ h1.1
      have h3 := h1.2
      simp at h3
      omega
  have hs2 := B2.size
  rw [← hkl] at hrow
  clear hks hke hperm hsz hD hcell M1 b1 hb2 hkm hkp hM
  rw [← hkl]
  clear hkl
  go_wp2_with fail
  go_loopw [5, 12] (fun u i wr => ∃ (k : Nat) (ys : List XV), k ≤ ks.length ∧ i = .int .i64 k ∧ OwnV wr w2.heap.size u ys ∧ Hid (ys.map XV.v = toldTo p vs (ks.take k)) ∧ ys.length ≤ k * 100 ∧ Below w2.heap.size w2 wr) (fun _ i _ => ks.length - (intOf i).toNat)
  case atStart => exact ⟨0, [], Nat.zero_le _, rfl, OwnV.nil _ _, rfl, Nat.zero_le _, Below.refl _ _⟩
  case round =>
    obtain ⟨k, ys, hk, rfl, hO, HY, hyl, hB⟩ := hrel
    by_cases hlt : k < ks.length
    · obtain ⟨gb, rfl, hgb, _, hc⟩ := ints_at hrow hlt
      have hc2 := (hB.cell (p := ⟨gb, k, none⟩) hgb).trans hc
      have HS : Hid (ks.take (k + 1) = ks.take k ++ [ks[k]]) := takeV ks k hlt
      have hne := HM.out ks[k] (List.getElem_mem hlt)
      obtain ⟨k0, k5⟩ := HK.out ks[k] (List.getElem_mem hlt)
      generalize ks[k] = key at *
      have i1 : (0 : Int) ≤ (k : Int) := by omega
      have i2 : (k : Int) < (ks.length : Int) := by omega
      have BW : Below W.heap.size W wr := B2.trans (hB.mono hs2)
      go_wp2_with fail
      refine (hw wr key BW).mono ?_
      rintro e w3 ⟨rfl, hb3⟩
      have B3 : Below w2.heap.size w2 w3 := hB.trans (hb3.mono hB.size)
      have O3 := hO.below hb3 (Nat.le_refl _)
      clear hc hc2 hO hb3 BW hB
      rcases hp : p key with _ | _
      · have HN : Hid (toldTo p vs (ks.take (k + 1)) = toldTo p vs (ks.take k)) := by show toldTo _ _ _ = _; rw [HS.out, toldTo_snoc, hp]; simp
        go_wp2_with fail
        go_roundw
        case rel => exact ⟨k + 1, ys, by omega, by go_num, O3, (by show _ = _; rw [HN.out, HY.out]), by omega, B3⟩
        case measure => simp [intOf]; omega
      · have HN : Hid (toldTo p vs (ks.take (k + 1)) = toldTo p vs (ks.take k) ++ grp vs key) := by show toldTo _ _ _ = _; rw [HS.out, toldTo_snoc, hp]; simp
        have M3 := M2.below B3
        have hlook := M3.look (wf_key k0 k5)
        have BW3 : Below W.heap.size W w3 := B2.trans (B3.mono hs2)
        obtain ⟨ga, gc, hg, hV⟩ := M3.at key (hf key) (fun x hx => (hgood key x hx).below BW3)
        rw [hg] at hlook
        have hgl := grp_le vs key
        have hgp : 0 < (grp vs key).length := by
          rw [← hf key, List.length_map]
          exact List.length_pos_iff.2 hne
        clear hg M3 hp
        generalize grp vs key = gs at *
        go_wp2_with fail
        refine (iVers_any ga gc gs _ (by omega) hV).mono ?_
        rintro e w4 ⟨cv, zs, rfl, OC, hzs, hb4⟩
        have B4 : Below w2.heap.size w2 w4 := B3.trans (hb4.mono B3.size)
        have O4 := O3.below hb4 (Nat.le_refl _)
        have hzl : zs.length = gs.length := by rw [← hzs, List.length_map]
        have hap : ∀ x ∈ ys, ∀ y ∈ zs, ApartV x.p y.p := fun x hx y hy => apart_new (O3.deps x hx).1 (OC.deps y hy).1 (Nat.le_refl _)
        have OC4 := OC.mono (base' := w2.heap.size) B3.size
        obtain ⟨cb, cc, rfl⟩ : ∃ cb cc, cv = .slice (some ⟨cb, 0, none⟩) zs.length cc := by
          rcases OC.row.2 with ⟨_, h0⟩ | ⟨cb, cc, cur, h0, _⟩
          · omega
          · exact ⟨cb, cc, h0⟩
        have hcells := OC4.row.cells (g := cb) rfl
        have hone := flat7_one (fun y hy => (OC4.good y hy).one)
        have h63 : ys.length + zs.length ≤ maxLen := by unfold maxLen; omega
        have hby : (ys.length + zs.length) * 72 ≤ 140737488355328 := by omega
        have hs4 := B4.size
        have HL : Hid ((flat7 zs).length = zs.length * 7) := flat7_len zs
        have hzb : zs.length ≤ 100 := by omega
        have HZ : Hid (zs.map XV.v = gs) := hzs
        clear hlook hV hb4 O3 OC B3 BW3 hzl hzs
        go_wp2_with (first | (at_builtin
                              refine wpList_append_own _ rfl _ _ 29 rfl w2.heap.size 107 i0 (.agg #[.int .i64 0, .int .i64 0, .int .i64 0, .int .i64 0, .int .i64 0, .int .i64 0, .slice none 0 0]) 7 72 Tryz.underlying29 hi hz0 hz1 hz2 rfl (by decide) _ ys.length (flat7 ys) rfl O4.row ⟨cb, 0, none⟩ zs.length cc (flat7 zs) rfl HL.out hcells hone h63 hby hs4 ?_
                              intro u5 w5 hrow5 hg5 _
                              have O5 := O4.append hg5 hrow5 OC4.deps OC4.apart hap
                              have B5 : Below w2.heap.size w2 w5 := B4.grown hg5 hs4 (fun j hj => (O4.row.lt j hj).1)
                              clear hrow5 hg5 O4 OC4 hap hcells hone B4))
        go_roundw
        case rel => exact ⟨k + 1, ys ++ zs, by omega, by go_num, O5, (by show _ = _; rw [HN.out, List.map_append, HY.out, HZ.out]), by rw [List.length_append]; omega, B5⟩
        case measure => simp [intOf]; omega
    · have hk2 : k = ks.length := by omega
      subst hk2
      rw [List.take_length] at HY
      go_wp2_with fail
      go_ret
      exact ⟨_, ys, rfl, hO.mono hs2, by rw [HY.out, HT.out], B2.trans (hB.mono hs2)⟩

end Go.Proofs.YtpjidogilofppaaGreat
