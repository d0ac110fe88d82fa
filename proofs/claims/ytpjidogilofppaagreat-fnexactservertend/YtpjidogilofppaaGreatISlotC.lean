/- The program's ChainSlot. -/
import Derived.Test.YtpjidogilofppaaGreatFOf2
import Derived.Test.YtpjidogilofppaaGreatZI
import Derived.Test.YtpjidogilofppaaGreatZA
namespace Go.Proofs.YtpjidogilofppaaGreat
open Go.ChangeShapes Go.WideShapes Go.ChangeAt Go.RowKit

/-- Those of a slot. -/
def slotL (vs : List V) (s : Int) : List V := if chainB vs = true then vs.filter (fun v => slotOf v.k == s) else []
/-- All others. -/
def restL (vs : List V) (s : Int) : List V := if chainB vs = true then vs.filter (fun v => !(slotOf v.k == s)) else []
theorem slotL_no {vs : List V} (h : chainB vs = false) (s : Int) : slotL vs s = [] ∧ restL vs s = [] := by unfold slotL restL; rw [h]; exact ⟨rfl, rfl⟩
theorem slotL_yes {vs : List V} (h : chainB vs = true) (s : Int) : slotL vs s = vs.filter (fun v => slotOf v.k == s) ∧ restL vs s = vs.filter (fun v => !(slotOf v.k == s)) := by unfold slotL restL; rw [h]; exact ⟨rfl, rfl⟩

theorem slot1_any (k slot : Int) (sb : Nat) (w : World) (h : w.cell? ⟨sb, 0, none⟩ = some (.int .i64 slot)) :
    Calls Tryz.prog 241 #[.int .i64 k, .pointer (some ⟨sb, 0, none⟩)] w fun e w' => e = .returned (.bool (slotOf k == slot)) ∧ Below w.heap.size w w' := by
  obtain ⟨r, hr⟩ : ∃ r, slotOf k = r := ⟨_, rfl⟩
  rw [hr]
  go_enter Tryz.func241, Tryz.ntmps241
  go_wp2_with fail
  go_quiet ((go_at_call 201; exact Calls.quiet_of_same (slot_is hr _)))
  go_wp2
  go_ret
  exact ⟨rfl, below_draws (Below.refl _ _) _⟩
theorem slot2_any (k slot : Int) (sb fb : Nat) (w : World) (h : w.cell? ⟨sb, 0, none⟩ = some (.int .i64 slot)) (h2 : w.cell? ⟨fb, 0, none⟩ = some (.func (.func 241) #[] #[.pointer (some ⟨sb, 0, none⟩)])) :
    Calls Tryz.prog 242 #[.int .i64 k, .pointer (some ⟨fb, 0, none⟩)] w fun e w' => e = .returned (.bool (!(slotOf k == slot))) ∧ Below w.heap.size w w' := by
  have h3 := slot1_any k slot sb _ h
  generalize (slotOf k == slot) = r at *
  go_enter Tryz.func242, Tryz.ntmps242
  go_wp2_with fail
  refine h3.mono ?_
  rintro e w1 ⟨rfl, hb⟩
  go_wp2_with fail
  go_ret
  exact ⟨rfl, hb⟩

set_option maxHeartbeats 4000000 in
set_option maxRecDepth 100000 in
theorem iSlotC_any (a : Option Addr) (cap : Nat) (vs : List V) (slot : Int) (w : World) (hn : vs.length ≤ 1099511627776) (h : Vers w a vs) :
    Calls Tryz.prog 203 #[.slice a vs.length cap, .int .i64 slot] w fun e w' => ∃ u ys u' zs, e = .returned (.tuple #[u, u']) ∧ OwnV w' w.heap.size u ys ∧ OwnV w' w.heap.size u' zs ∧ ApartV u u' ∧ (∀ y ∈ ys, ∀ z ∈ zs, ApartV y.p z.p) ∧ ys.map XV.v = slotL vs slot ∧ zs.map XV.v = restL vs slot ∧ Below w.heap.size w w' := by
  have S1 := Blk.new w #[.int .i64 slot] 3
  have b0 : Below w.heap.size w (w.alloc (.cells #[.int .i64 slot] 3)) := (Below.refl _ w).alloc (Nat.le_refl _) _
  have h1 := h.below b0
  rcases hc : chainB vs with _ | _
  · have HP : Hid _ := slotL_no hc slot
    have hC := iChainOf_no a cap vs _ hn h1 hc
    clear h hc
    go_enter Tryz.func203, Tryz.ntmps203
    go_wp2_with fail
    refine hC.mono ?_
    rintro e w2 ⟨rfl, hb2⟩
    clear hC
    go_wp2_with fail
    go_ret2
    exact ⟨_, [], _, [], rfl, OwnV.nil _ _, OwnV.nil _ _, fun j hj => (by simp [Value.ownBlock] at hj), fun y hy => (by cases hy), by rw [HP.out.1]; rfl, by rw [HP.out.2]; rfl, b0.trans (hb2.mono b0.size)⟩
  have HP : Hid _ := slotL_yes hc slot
  have hC := iChainOf_yes a cap vs _ hn h1 hc
  obtain ⟨hl80, hP⟩ := chainB_iff.1 hc
  have hvs := asc_keys hP.2
  have hvk := chain_keys hP
  have hl100 : vs.length ≤ 100 := by omega
  clear h hc hP
  go_enter Tryz.func203, Tryz.ntmps203
  go_wp2_with fail
  generalize hW1 : w.alloc (.cells #[.int .i64 slot] 3) = W1 at *
  clear hW1
  refine hC.mono ?_
  rintro e w2 ⟨b, f, g, rfl, hbb, hM, hf, hgood, hb2⟩
  clear hC
  have hst : (store ⟨w2.heap.size, 0, none⟩ (.func (.func 241) #[] #[.pointer (some ⟨w.heap.size, 0, none⟩)])).run Tryz.prog (w2.alloc (.cells #[.nilFunc] 100)) = .ok () ((w2.alloc (.cells #[.nilFunc] 100)).setCell ⟨w2.heap.size, 0, none⟩ (.func (.func 241) #[] #[.pointer (some ⟨w.heap.size, 0, none⟩)])) := by
    rw [run_store Tryz.prog _ _ (.func (.func 241) #[] #[.pointer (some ⟨w.heap.size, 0, none⟩)]) _ rfl]
    simp
  have b3 := hb2.alloc hb2.size (.cells #[.func (.func 241) #[] #[.pointer (some ⟨w.heap.size, 0, none⟩)]] 100)
  have M3 := hM.below ((Below.refl _ w2).alloc (Nat.le_refl _) (.cells #[.func (.func 241) #[] #[.pointer (some ⟨w.heap.size, 0, none⟩)]] 100))
  have S3 := S1.below b3 S1.lt
  have F3 := Blk.new w2 #[(.func (.func 241) #[] #[.pointer (some ⟨w.heap.size, 0, none⟩)])] 100
  have hsB := b3.size
  obtain ⟨q1, g1⟩ := F3.rules
  go_wp2_with fail
  clear hst
  generalize w2.alloc (.cells #[.func (.func 241) #[] #[.pointer (some ⟨w.heap.size, 0, none⟩)]] 100) = W3 at *
  generalize w2.heap.size = fb at *
  refine (ofSlot_any W3 W1.heap.size b vs.length f g vs w.heap.size (fun k => slotOf k == slot) M3 (by omega) hf (fun j x hx => (hgood j x hx).below b3) hvs hvk hl100 (fun W' k hb => slot1_any k slot w.heap.size W' ((S3.below hb S3.lt).cell 0))).mono ?_
  rintro e w4 ⟨u, ys, rfl, O4, hys, hb4⟩
  have M4 := M3.below hb4
  have b4 : Below W1.heap.size W1 w4 := b3.trans (hb4.mono hsB)
  have S4 := S3.below hb4 S3.lt
  have F4 := F3.below hb4 F3.lt
  have s4 := hb4.size
  clear q1 g1 M3
  go_wp2_with fail
  refine (ofOther_any w4 W1.heap.size b vs.length f g vs fb (fun k => !(slotOf k == slot)) M4 (by omega) hf (fun j x hx => (hgood j x hx).below b4) hvs hvk hl100 (fun W' k hb => slot2_any k slot w.heap.size fb W' ((S4.below hb S4.lt).cell 0) ((F4.below hb F4.lt).cell 0))).mono ?_
  rintro e w5 ⟨u', zs, rfl, O5, hzs, hb5⟩
  have O4' := O4.below hb5 (Nat.le_refl _)
  have b5 : Below W1.heap.size W1 w5 := b4.trans (hb5.mono (Nat.le_trans hsB s4))
  go_wp2_with fail
  go_ret2
  have sw := b0.size
  exact ⟨_, ys, _, zs, rfl, O4'.mono (by omega), O5.mono (by omega), apart_new O4.row O5.row (Nat.le_refl _), fun y hy z hz => apart_new (O4.deps y hy).1 (O5.deps z hz).1 (Nat.le_refl _), by rw [hys, HP.out.1], by rw [hzs, HP.out.2], b0.trans (b5.mono sw)⟩
end Go.Proofs.YtpjidogilofppaaGreat
