/- The program's ChainTop. -/
import Derived.Test.YtgdkoangpinieaaGAO
namespace Go.Proofs.Ytgdkoangpinieaa
open Go.ChangeShapes Go.WideShapes Go.ChangeAt Go.RowKit

set_option maxHeartbeats 4000000 in
set_option maxRecDepth 100000 in
theorem iTopV_any (a : Option Addr) (cap : Nat) (vs : List V) (key : Int) (w : World) (hn : vs.length ≤ 1099511627776) (h : Vers w a vs) (hwf : (Lit.int .i64 key).wf = true) :
    Calls Try.prog 37 #[.slice a vs.length cap, .int .i64 key] w fun e w' => ∃ u pa pc, Hid (u = (topA vs key).getD zeroV) ∧ e = .returned (.tuple #[verV u.k u.t u.s u.val u.cl u.ca pa u.ds.length pc, .bool (topA vs key).isSome]) ∧ RowD w' w.heap.size (.slice pa u.ds.length pc) u.ds ∧ Below w.heap.size w w' := by
  have Z1 : Blk (w.alloc (.cells #[.int .i64 0, .int .i64 0, .int .i64 0, .int .i64 0, .int .i64 0, .int .i64 0, .slice none 0 0] 28)) w.heap.size #[.int .i64 0, .int .i64 0, .int .i64 0, .int .i64 0, .int .i64 0, .int .i64 0, .slice none 0 0] 28 := Blk.new w _ _
  have b0 : Below w.heap.size w (w.alloc (.cells #[.int .i64 0, .int .i64 0, .int .i64 0, .int .i64 0, .int .i64 0, .int .i64 0, .slice none 0 0] 28)) := (Below.refl _ w).alloc (Nat.le_refl _) _
  have h1 := h.below b0
  have s1 : (w.alloc (.cells #[.int .i64 0, .int .i64 0, .int .i64 0, .int .i64 0, .int .i64 0, .int .i64 0, .slice none 0 0] 28)).heap.size = w.heap.size + 1 := by simp
  rcases hc : chainB vs with _ | _
  · have HN : Hid (topA vs key = none) := topA_no hc key
    have hC := iChainOf_no a cap vs _ hn h1 hc
    clear h hc
    go_enter Try.func37, Try.ntmps37
    go_wp2_with fail
    refine hC.mono ?_
    rintro e w2 ⟨rfl, hb2⟩
    have Z2 := Z1.below hb2 Z1.lt
    have B2 : Below w.heap.size w w2 := b0.trans (hb2.mono b0.size)
    obtain ⟨q1, g1⟩ := Z2.rules
    clear hC h1 Z1 b0 hb2
    go_wp2_with fail
    refine bodyPost_ret (v := .tuple #[verV 0 0 0 0 0 0 none 0 0, .bool false]) ?_ rfl ⟨zeroV, none, 0, by show _ = _; rw [HN.out]; rfl, by rw [HN.out]; rfl, World.ownsRow_nil _ _ _ _, fill7_below B2 (by omega)⟩
    refine Blk.gen (B := w.heap.size) (vs := #[.int .i64 0, .int .i64 0, .int .i64 0, .int .i64 0, .int .i64 0, .int .i64 0, .slice none 0 0]) (T := 28) ?_ (P := fun W => (results Try.f37 _).run Try.prog W = .ok _ W) ?_
    · exact Blk.fill7 Z2
    intro W hW
    obtain ⟨k, f⟩ := hW.rules
    simp [results, Try.results37, go_sem, k]
  have hC := iChainOf_yes a cap vs _ hn h1 hc
  have HA : Hid (topA vs key = cTop vs key) := topA_yes hc key
  have hl80 := (chainB_iff.1 hc).1
  clear h hc
  go_enter Try.func37, Try.ntmps37
  go_wp2_with fail
  generalize (w.alloc (.cells #[.int .i64 0, .int .i64 0, .int .i64 0, .int .i64 0, .int .i64 0, .int .i64 0, .slice none 0 0] 28)) = W1 at *
  refine hC.mono ?_
  rintro e w2 ⟨b, f, g, rfl, hbb, hM, hf, hgood, hb2⟩
  clear hC
  have hlook := hM.look hwf
  obtain ⟨ga, gc, hg, hV⟩ := hM.at key (hf key) (fun x hx => (hgood key x hx).below hb2)
  rw [hg] at hlook
  have hgl := grp_le vs key
  have hT1 := fun h => top_at (vs := vs) (key := key) rfl h
  have hT0 := fun h => top_none (vs := vs) (key := key) h
  have Z2 := Z1.below hb2 Z1.lt
  have B2 : Below w.heap.size w w2 := b0.trans (hb2.mono b0.size)
  clear hg hM hf hgood h1
  generalize grp vs key = gs at *
  by_cases hz : gs.length = 0
  · have HO : Hid (cTop vs key = none) := hT0 (List.length_eq_zero_iff.1 hz)
    clear hT0 hT1
    have hz2 : ((gs.length : Int) == 0) = true := by simpa using hz
    obtain ⟨q1, g1⟩ := Z2.rules
    go_wp2_with fail
    refine bodyPost_ret (v := .tuple #[verV 0 0 0 0 0 0 none 0 0, .bool false]) ?_ rfl ⟨zeroV, none, 0, by show _ = _; rw [HA.out, HO.out]; rfl, by rw [HA.out, HO.out]; rfl, World.ownsRow_nil _ _ _ _, fill7_below B2 (by omega)⟩
    refine Blk.gen (B := w.heap.size) (vs := #[.int .i64 0, .int .i64 0, .int .i64 0, .int .i64 0, .int .i64 0, .int .i64 0, .slice none 0 0]) (T := 28) ?_ (P := fun W => (results Try.f37 _).run Try.prog W = .ok _ W) ?_
    · exact Blk.fill7 Z2
    intro W hW
    obtain ⟨k, f⟩ := hW.rules
    simp [results, Try.results37, go_sem, k]
  · have HO : Hid (cTop vs key = some (gs[gs.length - 1]'(by omega))) := hT1 (by omega)
    clear hT0 hT1
    have hz2 : ((gs.length : Int) == 0) = false := by rw [beq_eq_false_iff_ne]; omega
    obtain ⟨l, hl⟩ : ∃ l, gs.length = l + 1 := ⟨gs.length - 1, by omega⟩
    obtain ⟨bx, o, da, dc, rfl, hbx, hv⟩ := hV.at (k := gs.length - 1) (by omega)
    have el : gs.length - 1 = l := by omega
    simp only [el] at HO hv
    have hls : l < gs.length := by omega
    generalize gs[l] = v at *
    obtain ⟨c0, c1, c2, c3, c4, c5, c6, hd, hdl⟩ := hv
    have i1 : (gs.length : Int) - 1 = (l : Int) := by omega
    have i2 : (l : Int) < (gs.length : Int) := by omega
    have HL : Hid (gs.length = l + 1) := hl
    clear hz el hl hV
    generalize gs.length = gl at *
    go_wp2_with fail
    refine (iCopy_any v da dc _ hdl hd).mono ?_
    rintro e w3 ⟨pa, pc, rfl, hrow, hb3⟩
    have Z3 := Z2.below hb3 Z2.lt
    have B3 : Below w.heap.size w w3 := B2.trans (hb3.mono B2.size)
    have hsz : w.heap.size + 1 ≤ w2.heap.size := by have := hb2.size; omega
    obtain ⟨q1, g1⟩ := Z3.rules
    clear c0 c1 c2 c3 c4 c5 c6 hd hb3 Z2
    go_wp2_with fail
    refine bodyPost_ret (v := .tuple #[verV v.k v.t v.s v.val v.cl v.ca pa v.ds.length pc, .bool true]) ?_ rfl ⟨v, pa, pc, by show _ = _; rw [HA.out, HO.out]; rfl, by rw [HA.out, HO.out]; rfl, row_mono (row_fill7 hrow (fun j hj => by have := (hrow.lt j hj).1; omega)) (by omega), fill7_below B3 (by omega)⟩
    refine Blk.gen (B := w.heap.size) (vs := #[.int .i64 v.k, .int .i64 v.t, .int .i64 v.s, .int .i64 v.val, .int .i64 v.cl, .int .i64 v.ca, .slice pa v.ds.length pc]) (T := 28) ?_ (P := fun W => (results Try.f37 _).run Try.prog W = .ok _ W) ?_
    · exact Blk.fill7 Z3
    intro W hW
    obtain ⟨k, f⟩ := hW.rules
    simp [results, Try.results37, go_sem, k]
end Go.Proofs.Ytgdkoangpinieaa
