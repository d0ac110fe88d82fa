/- The specification's ChainTop. -/
import Derived.Test.YtgdkoangpinieaaGAI
namespace Go.Proofs.Ytgdkoangpinieaa
open Go.ChangeShapes Go.WideShapes Go.ChangeAt Go.RowKit

set_option maxHeartbeats 4000000 in
set_option maxRecDepth 100000 in
theorem sTopV_any (a : Option Addr) (cap : Nat) (vs : List V) (key : Int) (w : World) (hn : vs.length ≤ 1099511627776) (h : Vers w a vs) :
    Calls Try.prog 36 #[.slice a vs.length cap, .int .i64 key] w fun e w' => ∃ u pa pc, Hid (u = (topA vs key).getD zeroV) ∧ e = .returned (.tuple #[verV u.k u.t u.s u.val u.cl u.ca pa u.ds.length pc, .bool (topA vs key).isSome]) ∧ RowD w' w.heap.size (.slice pa u.ds.length pc) u.ds ∧ Below w.heap.size w w' := by
  have Z1 : Blk (w.alloc (.cells #[.int .i64 0, .int .i64 0, .int .i64 0, .int .i64 0, .int .i64 0, .int .i64 0, .slice none 0 0] 28)) w.heap.size #[.int .i64 0, .int .i64 0, .int .i64 0, .int .i64 0, .int .i64 0, .int .i64 0, .slice none 0 0] 28 := Blk.new w _ _
  have b0 : Below w.heap.size w (w.alloc (.cells #[.int .i64 0, .int .i64 0, .int .i64 0, .int .i64 0, .int .i64 0, .int .i64 0, .slice none 0 0] 28)) := (Below.refl _ w).alloc (Nat.le_refl _) _
  have h1 := h.below b0
  have hC := fun W h => sChainOk_any a cap vs W hn h
  have s1 : (w.alloc (.cells #[.int .i64 0, .int .i64 0, .int .i64 0, .int .i64 0, .int .i64 0, .int .i64 0, .slice none 0 0] 28)).heap.size = w.heap.size + 1 := by simp
  rcases hc : chainB vs with _ | _
  · have HN : Hid (topA vs key = none) := topA_no hc key
    rw [hc] at hC
    clear h hc
    go_enter Try.func36, Try.ntmps36
    go_wp2_with fail
    refine (hC _ h1).mono ?_
    rintro e w2 ⟨rfl, hb2⟩
    have Z2 := Z1.below hb2 Z1.lt
    have B2 : Below w.heap.size w w2 := b0.trans (hb2.mono b0.size)
    obtain ⟨q1, g1⟩ := Z2.rules
    clear hC h1 Z1 b0 hb2
    go_wp2_with fail
    refine bodyPost_ret (v := .tuple #[verV 0 0 0 0 0 0 none 0 0, .bool false]) ?_ rfl ⟨zeroV, none, 0, by show _ = _; rw [HN.out]; rfl, by rw [HN.out]; rfl, World.ownsRow_nil _ _ _ _, fill7_below B2 (by omega)⟩
    refine Blk.gen (B := w.heap.size) (vs := #[.int .i64 0, .int .i64 0, .int .i64 0, .int .i64 0, .int .i64 0, .int .i64 0, .slice none 0 0]) (T := 28) ?_ (P := fun W => (results Try.f36 _).run Try.prog W = .ok _ W) ?_
    · exact Blk.fill7 Z2
    intro W hW
    obtain ⟨k, f⟩ := hW.rules
    simp [results, Try.results36, go_sem, k]
  have HA : Hid (topA vs key = cTop vs key) := topA_yes hc key
  have hl80 := (chainB_iff.1 hc).1
  rw [hc] at hC
  clear h hc
  go_enter Try.func36, Try.ntmps36
  go_wp2_with fail
  generalize (w.alloc (.cells #[.int .i64 0, .int .i64 0, .int .i64 0, .int .i64 0, .int .i64 0, .int .i64 0, .slice none 0 0] 28)) = W1 at *
  refine (hC _ h1).mono ?_
  rintro e w2 ⟨rfl, hb2⟩
  clear hC
  have hp : w.heap.size < W1.heap.size := by omega
  clear s1
  go_wp2_with fail
  go_loopw [6] (fun i wr => ∃ k : Nat, k ≤ vs.length ∧ i = .int .i64 ((k : Int) - 1) ∧ Hid (cTop (vs.drop k) key = none) ∧ Below W1.heap.size W1 wr) (fun i _ => (intOf i + 1).toNat)
  case atStart => exact ⟨vs.length, Nat.le_refl _, rfl, (by show cTop _ _ = _; rw [List.drop_length]; rfl), hb2⟩
  case round =>
    obtain ⟨k, hk, rfl, HC, hB⟩ := hrel
    clear hb2 w2
    rcases k with _ | k
    · rw [List.drop_zero] at HC
      have Z2 := Z1.below hB hp
      obtain ⟨q1, g1⟩ := Z2.rules
      have B2 : Below w.heap.size w wr := b0.trans (hB.mono b0.size)
      go_wp2_with fail
      refine bodyPost_ret (v := .tuple #[verV 0 0 0 0 0 0 none 0 0, .bool false]) ?_ rfl ⟨zeroV, none, 0, by show _ = _; rw [HA.out, HC.out]; rfl, by rw [HA.out, HC.out]; rfl, World.ownsRow_nil _ _ _ _, fill7_below B2 (by omega)⟩
      refine Blk.gen (B := w.heap.size) (vs := #[.int .i64 0, .int .i64 0, .int .i64 0, .int .i64 0, .int .i64 0, .int .i64 0, .slice none 0 0]) (T := 28) ?_ (P := fun W => (results Try.f36 _).run Try.prog W = .ok _ W) ?_
      · exact Blk.fill7 Z2
      intro W hW
      obtain ⟨k, f⟩ := hW.rules
      simp [results, Try.results36, go_sem, k]
    · have hlt : k < vs.length := by omega
      obtain ⟨b, o, da, dc, rfl, hbb, hv1⟩ := h1.at hlt
      have hv := hv1.below hB
      have ei : ((k + 1 : Nat) : Int) - 1 = (k : Int) := by omega
      rw [ei]
      by_cases hkey : vs[k].k = key
      · have HO : Hid (cTop vs key = some vs[k]) := cTop_hit hlt HC.out hkey
        obtain ⟨c0, c1, c2, c3, c4, c5, c6, hd, hdl⟩ := hv
        clear ei
        generalize vs[k] = v at *
        subst hkey
        have Z2 := Z1.below hB hp
        go_wp2_with fail
        refine (sCopy_any v da dc _ hdl hd).mono ?_
        rintro e w3 ⟨pa, pc, rfl, hrow, hb3⟩
        have Z3 := Z2.below hb3 Z2.lt
        have B3 : Below w.heap.size w w3 := (b0.trans (hB.mono b0.size)).trans (hb3.mono (Nat.le_trans b0.size hB.size))
        have hsz : w.heap.size + 1 ≤ wr.heap.size := by have := hB.size; omega
        obtain ⟨q1, g1⟩ := Z3.rules
        clear c0 c1 c2 c3 c4 c5 c6 hd hb3 Z2
        go_wp2_with fail
        refine bodyPost_ret (v := .tuple #[verV v.k v.t v.s v.val v.cl v.ca pa v.ds.length pc, .bool true]) ?_ rfl ⟨v, pa, pc, by show _ = _; rw [HA.out, HO.out]; rfl, by rw [HA.out, HO.out]; rfl, row_mono (row_fill7 hrow (fun j hj => by have := (hrow.lt j hj).1; omega)) (by omega), fill7_below B3 (by omega)⟩
        refine Blk.gen (B := w.heap.size) (vs := #[.int .i64 v.k, .int .i64 v.t, .int .i64 v.s, .int .i64 v.val, .int .i64 v.cl, .int .i64 v.ca, .slice pa v.ds.length pc]) (T := 28) ?_ (P := fun W => (results Try.f36 _).run Try.prog W = .ok _ W) ?_
        · exact Blk.fill7 Z3
        intro W hW
        obtain ⟨k, f⟩ := hW.rules
        simp [results, Try.results36, go_sem, k]
      · have HO : Hid (cTop (vs.drop k) key = none) := cTop_step hlt HC.out hkey
        have hk0 : (vs[k].k == key) = false := by simpa using hkey
        obtain ⟨c0, c1, c2, c3, c4, c5, c6, hd, hdl⟩ := hv
        clear HC hv1 ei
        generalize vs[k] = v at *
        go_wp2
        go_roundw
        case rel => exact ⟨k, by omega, by go_num, HO, hB⟩
        case measure => simp [intOf] <;> omega
end Go.Proofs.Ytgdkoangpinieaa
