/- The program's ServerOk, part by part. -/
import Derived.Test.YtgdkoangpinieaaSlotsI
import Derived.Test.YtgdkoangpinieaaPlaceD
import Derived.Test.YtgdkoangpinieaaWOwesI
import Derived.Test.YtgdkoangpinieaaGAF
namespace Go.Proofs.Ytgdkoangpinieaa
open Go.ChangeShapes Go.WideShapes Go.ChangeAt Go.RowKit

theorem all_step {α : Type} {p : α → Bool} {xs : List α} {k : Nat} (hk : k < xs.length) (h : (xs.take k).all p = true) (hp : p xs[k] = true) : (xs.take (k + 1)).all p = true := by
  rw [List.take_succ_eq_append_getElem hk, List.all_append, h]; simpa using hp
theorem all_bad {α : Type} {p : α → Bool} {xs : List α} {k : Nat} (hk : k < xs.length) (hp : p xs[k] = false) : xs.all p = false := by
  rw [List.all_eq_false]; exact ⟨xs[k], List.getElem_mem hk, by rw [hp]; exact Bool.false_ne_true⟩
theorem here_step {xs : List Sl} {vs : List V} {k : Nat} (hk : k < vs.length) (h : allHere xs (vs.take k) = true) (hp : hereB xs vs[k].k = true) : allHere xs (vs.take (k + 1)) = true := by
  unfold allHere at *; rw [List.take_succ_eq_append_getElem hk, List.all_append, h]; simp [hp]
theorem here_bad {xs : List Sl} {vs : List V} {k : Nat} (hk : k < vs.length) (hp : hereB xs vs[k].k = false) : allHere xs vs = false := by
  unfold allHere; rw [List.all_eq_false]; exact ⟨vs[k], List.getElem_mem hk, by simp [hp]⟩
theorem stand0 (x y z : Sl) : standAt [x, y, z] 0 = x.st := rfl
theorem stand1 (x y z : Sl) : standAt [x, y, z] 1 = y.st := rfl
theorem stand2 (x y z : Sl) : standAt [x, y, z] 2 = z.st := rfl

set_option maxHeartbeats 4000000 in
theorem holdsAll_any (x y z : Sl) (a : Option Addr) (cap : Nat) (vs : List V) (w : World) (hc : chainB vs = true) (h : Vers w a vs) :
    Calls Try.prog 153 #[.agg (tab6 x y z), .slice a vs.length cap] w fun e w' => e = .returned (.bool (allHere [x, y, z] vs)) ∧ Below w.heap.size w w' := by
  have A0 := Blk.new w (tab6 x y z) 137
  have b0 : Below w.heap.size w (w.alloc (.cells (tab6 x y z) 137)) := (Below.refl _ _).alloc (Nat.le_refl _) _
  have hl : vs.length ≤ 80 := (chainB_iff.1 hc).1
  have hk5 : Hid (∀ v ∈ vs, inB v.k 0 5 = true) := fun v hv => chain_key hc hv
  have h1 := h.below b0
  clear h hc
  go_enter Try.func153, Try.ntmps153
  go_wp2_with fail
  generalize w.alloc (.cells (tab6 x y z) 137) = W1 at *
  go_loopw [9] (fun i wr => ∃ k : Nat, k ≤ vs.length ∧ i = .int .i64 k ∧ Hid (allHere [x, y, z] (vs.take k) = true) ∧ Blk wr w.heap.size (tab6 x y z) 137 ∧ Below W1.heap.size W1 wr) (fun i _ => vs.length - (intOf i).toNat)
  case atStart => exact ⟨0, Nat.zero_le _, rfl, rfl, A0, Below.refl _ _⟩
  case round =>
    obtain ⟨k, hk, rfl, HA, A1, hB⟩ := hrel
    have z1 := A1.lt
    by_cases hlt : k < vs.length
    · obtain ⟨b, o, da, dc, rfl, hbb, hv⟩ := (h1.below hB).at hlt
      have hin := hk5.out vs[k] (List.getElem_mem hlt)
      have HY : Hid (hereB [x, y, z] vs[k].k = true → allHere [x, y, z] (vs.take (k + 1)) = true) := by show _ → _; intro hp; exact here_step hlt HA.out hp
      have HN : Hid (hereB [x, y, z] vs[k].k = false → allHere [x, y, z] vs = false) := by show _ → _; intro hp; exact here_bad hlt hp
      have HH : Hid (hereB [x, y, z] vs[k].k = !(standAt [x, y, z] (slotOf vs[k].k) == 0)) := by show _ = _; unfold hereB; rfl
      obtain ⟨c0, c1, c2, c3, c4, c5, c6, hd, hdl⟩ := hv
      have hB1 : Below W1.heap.size W1 (wr.alloc (.cells #[.int .i64 vs[k].k, .int .i64 vs[k].t, .int .i64 vs[k].s, .int .i64 vs[k].val, .int .i64 vs[k].cl, .int .i64 vs[k].ca, .slice da vs[k].ds.length dc] 28)) := hB.alloc hB.size _
      have A2 := A1.alloc (.cells #[.int .i64 vs[k].k, .int .i64 vs[k].t, .int .i64 vs[k].s, .int .i64 vs[k].val, .int .i64 vs[k].cl, .int .i64 vs[k].ca, .slice da vs[k].ds.length dc] 28)
      obtain ⟨q1, g1⟩ := A1.rules
      have hs := slot_in hin
      have j0 : (0 : Int) ≤ (k : Int) := by omega
      have j1 : (k : Int) < (vs.length : Int) := by omega
      clear h1 HA hd hdl hB hin A1
      generalize vs[k] = v at *
      rcases hs with hs | hs | hs
      · rw [hs] at HH
        have hS := fun W => slot_is hs W
        by_cases hz : x.st = 0
        · have HR : Hid (allHere [x, y, z] vs = false) := HN.out (by rw [HH.out, stand0]; simp [hz])
          clear HN HY HH hs
          go_wp2_with (first | (go_at_call 50; refine (hS _).mono ?_; rintro e w' ⟨rfl, rfl⟩))
          go_ret
          exact ⟨by rw [HR.out]; rfl, b0.trans (hB1.mono b0.size)⟩
        · have HR : Hid (allHere [x, y, z] (vs.take (k + 1)) = true) := HY.out (by rw [HH.out, stand0]; simp [hz])
          have hz' : (x.st == 0) = false := by simpa using hz
          clear HN HY HH hs
          go_wp2_with (first | (go_at_call 50; refine (hS _).mono ?_; rintro e w' ⟨rfl, rfl⟩))
          go_roundw
          case rel => exact ⟨k + 1, by omega, by go_num, HR, A2, hB1⟩
          case measure => simp [intOf]; omega
      · rw [hs] at HH
        have hS := fun W => slot_is hs W
        by_cases hz : y.st = 0
        · have HR : Hid (allHere [x, y, z] vs = false) := HN.out (by rw [HH.out, stand1]; simp [hz])
          clear HN HY HH hs
          go_wp2_with (first | (go_at_call 50; refine (hS _).mono ?_; rintro e w' ⟨rfl, rfl⟩))
          go_ret
          exact ⟨by rw [HR.out]; rfl, b0.trans (hB1.mono b0.size)⟩
        · have HR : Hid (allHere [x, y, z] (vs.take (k + 1)) = true) := HY.out (by rw [HH.out, stand1]; simp [hz])
          have hz' : (y.st == 0) = false := by simpa using hz
          clear HN HY HH hs
          go_wp2_with (first | (go_at_call 50; refine (hS _).mono ?_; rintro e w' ⟨rfl, rfl⟩))
          go_roundw
          case rel => exact ⟨k + 1, by omega, by go_num, HR, A2, hB1⟩
          case measure => simp [intOf]; omega
      · rw [hs] at HH
        have hS := fun W => slot_is hs W
        by_cases hz : z.st = 0
        · have HR : Hid (allHere [x, y, z] vs = false) := HN.out (by rw [HH.out, stand2]; simp [hz])
          clear HN HY HH hs
          go_wp2_with (first | (go_at_call 50; refine (hS _).mono ?_; rintro e w' ⟨rfl, rfl⟩))
          go_ret
          exact ⟨by rw [HR.out]; rfl, b0.trans (hB1.mono b0.size)⟩
        · have HR : Hid (allHere [x, y, z] (vs.take (k + 1)) = true) := HY.out (by rw [HH.out, stand2]; simp [hz])
          have hz' : (z.st == 0) = false := by simpa using hz
          clear HN HY HH hs
          go_wp2_with (first | (go_at_call 50; refine (hS _).mono ?_; rintro e w' ⟨rfl, rfl⟩))
          go_roundw
          case rel => exact ⟨k + 1, by omega, by go_num, HR, A2, hB1⟩
          case measure => simp [intOf]; omega
    · have hk2 : k = vs.length := by omega
      subst hk2
      rw [List.take_length] at HA
      go_wp2_with fail
      go_ret
      exact ⟨by rw [HA.out]; rfl, b0.trans (hB.mono b0.size)⟩

theorem named_is {v : V} {da : Option Addr} {n dc : Nat} {w : World} : Calls Try.prog 184 #[verV v.k v.t v.s v.val v.cl v.ca da n dc] w fun e w' => e = .returned (depV v.k v.t v.s) ∧ Below w.heap.size w w' := named_any v da n dc w
theorem hasVer_is {a : Option Addr} {cap : Nat} {gs : List V} {k t s : Int} {r : Bool} (h : hasB gs k t s = r) {w : World} (hc : chainB gs = true) (hv : Vers w a gs) : Calls Try.prog 183 #[.slice a gs.length cap, depV k t s] w fun e w' => e = .returned (.bool r) ∧ Below w.heap.size w w' := by rw [← h]; exact hasVer_any a cap gs k t s w hc hv

end Go.Proofs.Ytgdkoangpinieaa
