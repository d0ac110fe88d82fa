/- The specification's ChainAt. -/
import Derived.Test.YtpjidogilofppaaGreatGAI
namespace Go.Proofs.YtpjidogilofppaaGreat
open Go.ChangeShapes Go.WideShapes Go.ChangeAt Go.RowKit

set_option maxHeartbeats 4000000 in
set_option maxRecDepth 100000 in
theorem sAtV_any (a : Option Addr) (cap : Nat) (vs : List V) (key t s : Int) (w : World) (hn : vs.length ≤ 1099511627776) (h : Vers w a vs) :
    Calls Tryz.prog 70 #[.slice a vs.length cap, .int .i64 key, stampV t s] w fun e w' => ∃ u pa pc, Hid (u = (atA vs key t s).getD zeroV) ∧ e = .returned (.tuple #[verV u.k u.t u.s u.val u.cl u.ca pa u.ds.length pc, .bool (atA vs key t s).isSome]) ∧ RowD w' w.heap.size (.slice pa u.ds.length pc) u.ds ∧ Below w.heap.size w w' := by
  have S1 : Blk ((w.alloc (.cells #[.int .i64 t, .int .i64 s] 39)).alloc (.cells #[.int .i64 0, .int .i64 0, .int .i64 0, .int .i64 0, .int .i64 0, .int .i64 0, .slice none 0 0] 107)) w.heap.size #[.int .i64 t, .int .i64 s] 39 := (Blk.new w _ _).alloc _
  have Z1 : Blk ((w.alloc (.cells #[.int .i64 t, .int .i64 s] 39)).alloc (.cells #[.int .i64 0, .int .i64 0, .int .i64 0, .int .i64 0, .int .i64 0, .int .i64 0, .slice none 0 0] 107)) (w.heap.size + 1) #[.int .i64 0, .int .i64 0, .int .i64 0, .int .i64 0, .int .i64 0, .int .i64 0, .slice none 0 0] 107 := by have := Blk.new (w.alloc (.cells #[.int .i64 t, .int .i64 s] 39)) #[.int .i64 0, .int .i64 0, .int .i64 0, .int .i64 0, .int .i64 0, .int .i64 0, .slice none 0 0] 107; simpa using this
  have b0 : Below w.heap.size w ((w.alloc (.cells #[.int .i64 t, .int .i64 s] 39)).alloc (.cells #[.int .i64 0, .int .i64 0, .int .i64 0, .int .i64 0, .int .i64 0, .int .i64 0, .slice none 0 0] 107)) := ((Below.refl _ w).alloc (Nat.le_refl _) _).alloc (by simp) _
  have h1 := h.below b0
  have hC := fun W h => sChainOk_any a cap vs W hn h
  have s1 : ((w.alloc (.cells #[.int .i64 t, .int .i64 s] 39)).alloc (.cells #[.int .i64 0, .int .i64 0, .int .i64 0, .int .i64 0, .int .i64 0, .int .i64 0, .slice none 0 0] 107)).heap.size = w.heap.size + 1 + 1 := by simp
  rcases hc : chainB vs with _ | _
  · have HN : Hid (atA vs key t s = none) := atA_no hc key t s
    rw [hc] at hC
    clear h hc
    go_enter Tryz.func70, Tryz.ntmps70
    go_wp2_with fail
    refine (hC _ h1).mono ?_
    rintro e w2 ⟨rfl, hb2⟩
    have Z2 := Z1.below hb2 Z1.lt
    have B2 : Below w.heap.size w w2 := b0.trans (hb2.mono b0.size)
    obtain ⟨q1, g1⟩ := Z2.rules
    clear hC h1 S1 Z1 b0 hb2
    go_wp2_with fail
    refine bodyPost_ret (v := .tuple #[verV 0 0 0 0 0 0 none 0 0, .bool false]) ?_ rfl ⟨zeroV, none, 0, by show _ = _; rw [HN.out]; rfl, by rw [HN.out]; rfl, World.ownsRow_nil _ _ _ _, fill7_below B2 (by omega)⟩
    refine Blk.gen (B := w.heap.size + 1) (vs := #[.int .i64 0, .int .i64 0, .int .i64 0, .int .i64 0, .int .i64 0, .int .i64 0, .slice none 0 0]) (T := 107) ?_ (P := fun W => (results Tryz.f70 _).run Tryz.prog W = .ok _ W) ?_
    · exact Blk.fill7 Z2
    intro W hW
    obtain ⟨k, f⟩ := hW.rules
    simp [results, Tryz.results70, go_sem, k]
  have HA : Hid (atA vs key t s = cAt vs key t s) := atA_yes hc key t s
  rw [hc] at hC
  clear h hc
  go_enter Tryz.func70, Tryz.ntmps70
  go_wp2_with fail
  generalize ((w.alloc (.cells #[.int .i64 t, .int .i64 s] 39)).alloc (.cells #[.int .i64 0, .int .i64 0, .int .i64 0, .int .i64 0, .int .i64 0, .int .i64 0, .slice none 0 0] 107)) = W1 at *
  refine (hC _ h1).mono ?_
  rintro e w2 ⟨rfl, hb2⟩
  clear hC
  have hp : w.heap.size < W1.heap.size := by omega
  have hp1 : w.heap.size + 1 < W1.heap.size := by omega
  clear s1
  go_wp2_with fail
  go_loopw [8] (fun i wr => ∃ k : Nat, k ≤ vs.length ∧ i = .int .i64 k ∧ Hid (cAt (vs.take k) key t s = none) ∧ Below W1.heap.size W1 wr) (fun i _ => vs.length - (intOf i).toNat)
  case atStart => exact ⟨0, Nat.zero_le _, rfl, rfl, hb2⟩
  case round =>
    obtain ⟨k, hk, rfl, HC, hB⟩ := hrel
    clear hb2 w2
    by_cases hlt : k < vs.length
    · obtain ⟨b, o, da, dc, rfl, hbb, hv1⟩ := h1.at hlt
      have hv := hv1.below hB
      have hS := S1.below hB hp
      obtain ⟨q1, g1⟩ := hS.rules
      by_cases hkey : vs[k].k = key
      · by_cases ht : vs[k].t = t
        · by_cases hs : vs[k].s = s
          · have HO : Hid (cAt vs key t s = some vs[k]) := cAt_hit hlt HC.out (sameB_iff.2 ⟨hkey, ht, hs⟩)
            obtain ⟨c0, c1, c2, c3, c4, c5, c6, hd, hdl⟩ := hv
            generalize vs[k] = v at *
            subst hkey ht hs
            go_wp2_with fail
            go_quiet (fail)
            have hB2 := below_draws hB nq
            have hv2 := hv1.below hB2
            have Z2 := Z1.below hB2 hp1
            clear c0 c1 c2 c3 c4 c5 c6 hd q1 g1
            obtain ⟨c0, c1, c2, c3, c4, c5, c6, hd, _⟩ := hv2
            generalize wr.drewN nq = W at *
            go_wp2_with fail
            refine (sCopy_any v da dc _ hdl hd).mono ?_
            rintro e w3 ⟨pa, pc, rfl, hrow, hb3⟩
            have Z3 := Z2.below hb3 Z2.lt
            have B3 : Below w.heap.size w w3 := (b0.trans (hB2.mono b0.size)).trans (hb3.mono (Nat.le_trans b0.size hB2.size))
            have hsz : w.heap.size + 1 + 1 ≤ W.heap.size := by have := hB2.size; omega
            obtain ⟨q1, g1⟩ := Z3.rules
            clear c0 c1 c2 c3 c4 c5 c6 hd hb3 Z2
            go_wp2_with fail
            refine bodyPost_ret (v := .tuple #[verV v.k v.t v.s v.val v.cl v.ca pa v.ds.length pc, .bool true]) ?_ rfl ⟨v, pa, pc, by show _ = _; rw [HA.out, HO.out]; rfl, by rw [HA.out, HO.out]; rfl, row_mono (row_fill7 hrow (fun j hj => by have := (hrow.lt j hj).1; omega)) (by omega), fill7_below B3 (by omega)⟩
            refine Blk.gen (B := w.heap.size + 1) (vs := #[.int .i64 v.k, .int .i64 v.t, .int .i64 v.s, .int .i64 v.val, .int .i64 v.cl, .int .i64 v.ca, .slice pa v.ds.length pc]) (T := 107) ?_ (P := fun W => (results Tryz.f70 _).run Tryz.prog W = .ok _ W) ?_
            · exact Blk.fill7 Z3
            intro W hW
            obtain ⟨k, f⟩ := hW.rules
            simp [results, Tryz.results70, go_sem, k]
          · have HO : Hid (cAt (vs.take (k + 1)) key t s = none) := cAt_step hlt HC.out (same_site hs)
            have hk0 : (vs[k].s == s) = false := by simpa using hs
            obtain ⟨c0, c1, c2, c3, c4, c5, c6, hd, hdl⟩ := hv
            clear HC hv1
            generalize vs[k] = v at *
            subst hkey ht
            go_wp2_with fail
            go_quiet (fail)
            go_wp2
            go_roundw
            case rel => exact ⟨k + 1, by omega, by go_num, HO, below_draws hB _⟩
            case measure => simp [intOf]; omega
        · have HO : Hid (cAt (vs.take (k + 1)) key t s = none) := cAt_step hlt HC.out (same_time ht)
          have hk0 : (vs[k].t == t) = false := by simpa using ht
          obtain ⟨c0, c1, c2, c3, c4, c5, c6, hd, hdl⟩ := hv
          clear HC hv1
          generalize vs[k] = v at *
          subst hkey
          go_wp2_with fail
          go_quiet (fail)
          go_wp2
          go_roundw
          case rel => exact ⟨k + 1, by omega, by go_num, HO, below_draws hB _⟩
          case measure => simp [intOf]; omega
      · have HO : Hid (cAt (vs.take (k + 1)) key t s = none) := cAt_step hlt HC.out (same_key hkey)
        have hk0 : (vs[k].k == key) = false := by simpa using hkey
        obtain ⟨c0, c1, c2, c3, c4, c5, c6, hd, hdl⟩ := hv
        clear HC hv1
        generalize vs[k] = v at *
        go_wp2_with fail
        go_quiet (fail)
        go_wp2
        go_roundw
        case rel => exact ⟨k + 1, by omega, by go_num, HO, below_draws hB _⟩
        case measure => simp [intOf]; omega
    · have hk2 : k = vs.length := by omega
      subst hk2
      rw [List.take_length] at HC
      have Z2 := Z1.below hB hp1
      obtain ⟨q1, g1⟩ := Z2.rules
      have B2 : Below w.heap.size w wr := b0.trans (hB.mono b0.size)
      go_wp2_with fail
      refine bodyPost_ret (v := .tuple #[verV 0 0 0 0 0 0 none 0 0, .bool false]) ?_ rfl ⟨zeroV, none, 0, by show _ = _; rw [HA.out, HC.out]; rfl, by rw [HA.out, HC.out]; rfl, World.ownsRow_nil _ _ _ _, fill7_below B2 (by omega)⟩
      refine Blk.gen (B := w.heap.size + 1) (vs := #[.int .i64 0, .int .i64 0, .int .i64 0, .int .i64 0, .int .i64 0, .int .i64 0, .slice none 0 0]) (T := 107) ?_ (P := fun W => (results Tryz.f70 _).run Tryz.prog W = .ok _ W) ?_
      · exact Blk.fill7 Z2
      intro W hW
      obtain ⟨k, f⟩ := hW.rules
      simp [results, Tryz.results70, go_sem, k]
end Go.Proofs.YtpjidogilofppaaGreat
