/- A table is told by key: the iterator's contract. -/
import Derived.RangeFuncNested
import Derived.RangeFuncBound
import Derived.RangeFuncCalls
import Derived.RangeFuncLeaves
import Derived.Shelf.Abstract
import Derived.Shelf.RegionOpen
import Derived.OwnWalkIn
import Derived.TacticsInMore
import Derived.LoopNIn
import Derived.LoopIn
import Derived.Test.YtpjidogilofppaaGreatGAE
namespace Go.Proofs.YtpjidogilofppaaGreat
open Go.ChangeShapes Go.WideShapes Go.ChangeAt Go.RowKit Go.Shelf
attribute [local go_sem] Oper.semAt_some

/-- A dep that is ok. -/
abbrev OD := { d : D // okD d = true }
/-- What a round is handed. -/
abbrev encD (x : OD) : Array Value := #[depV x.1.k x.1.t x.1.s]
theorem okD_of {f : Tbl} (hf : Good f) {k c : Int} (h : f k = some c) (h0 : 0 ≤ k) (h5 : k ≤ 5) : okD ⟨k, c / 4, c % 4⟩ = true := by
  have := hf k c h
  simp [okD, okB, inB]; omega
theorem grown_of_below {W W' : World} (h : Below W.heap.size W W') : W.grownBy W' none := ⟨h.os, h.tape, h.output, h.size, fun k hk _ => h.block k hk⟩

set_option maxRecDepth 100000 in
set_option maxHeartbeats 2000000 in
theorem all1_in (n n₀ : Nat) (hn : 1 ≤ n) (l Bt : Nat) (f : Tbl) (hf : Good f) (J Jx : List OD → World → Prop) (hJ : AbidesFrom n₀ J)
    (hY : ∀ pre x W, J pre W → pre.length < 6 → YieldAt Fence.wide (n - 1) Tryz.prog l (encD x) W fun e W' =>
      (e = .returned (.bool true) ∧ J (pre ++ [x]) W' ∧ Below 0 W W') ∨ (e = .returned (.bool false) ∧ Jx (pre ++ [x]) W'))
    (W : World) (hBt : Blk W Bt (tabA f) 257) (h0 : J [] W) :
    CallsIn Fence.wide n Tryz.prog 337 #[.func (.yield l) #[] #[], .pointer (some ⟨Bt, 0, none⟩)] W fun e W' => (∃ v, e = .returned v) ∧
      ((∃ ys, ys.map Subtype.val = lst f ∧ J ys W') ∨ (∃ pre : List OD, True ∧ Jx pre W')) := by
  obtain ⟨r1, f1⟩ := hBt.rules
  unfold tabA at r1
  generalize hb0 : (f 0).isSome = b0 at r1
  generalize hc0 : (f 0).getD 0 = c0 at r1
  generalize hb1 : (f 1).isSome = b1 at r1
  generalize hc1 : (f 1).getD 0 = c1 at r1
  generalize hb2 : (f 2).isSome = b2 at r1
  generalize hc2 : (f 2).getD 0 = c2 at r1
  generalize hb3 : (f 3).isSome = b3 at r1
  generalize hc3 : (f 3).getD 0 = c3 at r1
  generalize hb4 : (f 4).isSome = b4 at r1
  generalize hc4 : (f 4).getD 0 = c4 at r1
  generalize hb5 : (f 5).isSome = b5 at r1
  generalize hc5 : (f 5).getD 0 = c5 at r1
  refine callsIn_of_wp Tryz.func337 rfl trivial ?_ rfl
  simp only [Tryz.ntmps337, List.size_toArray, List.length_cons, List.length_nil, Nat.reduceAdd, Nat.reduceSub, Array.replicate_succ, Array.replicate_zero, List.push_toArray, List.append_toArray, List.nil_append, List.cons_append]
  gi_wp2
  gi_loopw [6] (fun p wr => ∃ (k : Nat) (pre : List OD), k ≤ 6 ∧ p = .int .i64 k ∧ pre.map Subtype.val = lstFrom f 0 k ∧ J pre wr) (fun p _ => 6 - (intOf p).toNat)
  case atStart => exact ⟨0, [], by omega, rfl, rfl, h0⟩
  case round =>
    obtain ⟨k, pre, hk, rfl, hpre, hJs⟩ := hrel
    have HP : Hid _ := hpre
    have hlen : pre.length ≤ k := by have := lstFrom_len f k 0; rw [← hpre] at this; simpa using this
    clear hpre r1 f1
    by_cases hlt : k < 6
    · have hk' : k = 0 ∨ k = 1 ∨ k = 2 ∨ k = 3 ∨ k = 4 ∨ k = 5 := by omega
      rcases hk' with rfl | rfl | rfl | rfl | rfl | rfl
      · have ii : ∀ w, (Instr.index 257 (.agg #[.bool b0, .int .i64 c0, .bool b1, .int .i64 c1, .bool b2, .int .i64 c2, .bool b3, .int .i64 c3, .bool b4, .int .i64 c4, .bool b5, .int .i64 c5]) (.int .i64 0)).run Tryz.prog w = .ok (.agg #[.bool b0, .int .i64 c0]) w := fun _ => by kernel_rfl
        rcases hc : f 0 with _ | c
        · have E : lstFrom f 0 1 = lstFrom f 0 0 := by rw [lstFrom_snoc]; simp [oneOf, hc]
          rw [hc] at hb0 hc0
          simp only [Option.isSome_none, Option.getD_none] at hb0 hc0
          subst hb0 hc0
          have HE : Hid _ := E
          clear E hb1 hc1 hb2 hc2 hb3 hc3 hb4 hc4 hb5 hc5
          have hJ1 := hJ pre wr _ none hJs (World.grownBy_alloc wr (.cells #[.bool false, .int .i64 0] 255) none) (by simp)
          gi_wp2
          refine ⟨trivial, ?_⟩
          gi_wp2
          refine ⟨fun _ h => (by cases h), ?_⟩
          gi_wp2
          go_roundw
          case rel => exact ⟨1, pre, by omega, by go_num, by rw [HP.out, HE.out], hJ1⟩
          case measure => simp [intOf]
        · have hok := okD_of hf hc (by omega) (by omega)
          have E : lstFrom f 0 1 = lstFrom f 0 0 ++ [⟨0, c / 4, c % 4⟩] := by rw [lstFrom_snoc]; simp [oneOf, hc]
          have hcb := hf _ _ hc
          rw [hc] at hb0 hc0
          simp only [Option.isSome_some, Option.getD_some] at hb0 hc0
          subst hb0 hc0
          have HE : Hid _ := E
          clear E hb1 hc1 hb2 hc2 hb3 hc3 hb4 hc4 hb5 hc5
          gi_wp2
          refine ⟨trivial, ?_⟩
          gi_at_call 338
          refine (callsIn_wide.2 (stamp_any c _ (by omega) (by omega))).mono ?_
          rintro e w1 ⟨rfl, hb1⟩
          have hJ1 := hJ pre wr _ none hJs (World.grownBy_alloc wr (.cells #[.bool true, .int .i64 c] 255) none) (by simp)
          have hJ2 := hJ pre _ w1 none hJ1 (grown_of_below hb1) (by simp)
          obtain ⟨fn, tmps, assign, body, hy, hR⟩ := hY pre ⟨_, hok⟩ w1 hJ2 (by omega)
          dsimp only [encD] at hy
          gi_wp2
          refine hR.mono ?_
          rintro e W3 (⟨rfl, hJ3, _⟩ | ⟨rfl, hJx3⟩)
          · gi_wp2
            go_roundw
            case rel => exact ⟨1, _, by omega, by go_num, by rw [HE.out, ← HP.out]; simp, hJ3⟩
            case measure => simp [intOf]
          · gi_wp2
            refine bodyPost_ret (results_none rfl _ _ _) rfl ?_
            exact ⟨⟨_, rfl⟩, .inr ⟨_, trivial, hJx3⟩⟩
      · have ii : ∀ w, (Instr.index 257 (.agg #[.bool b0, .int .i64 c0, .bool b1, .int .i64 c1, .bool b2, .int .i64 c2, .bool b3, .int .i64 c3, .bool b4, .int .i64 c4, .bool b5, .int .i64 c5]) (.int .i64 1)).run Tryz.prog w = .ok (.agg #[.bool b1, .int .i64 c1]) w := fun _ => by kernel_rfl
        rcases hc : f 1 with _ | c
        · have E : lstFrom f 0 2 = lstFrom f 0 1 := by rw [lstFrom_snoc]; simp [oneOf, hc]
          rw [hc] at hb1 hc1
          simp only [Option.isSome_none, Option.getD_none] at hb1 hc1
          subst hb1 hc1
          have HE : Hid _ := E
          clear E hb0 hc0 hb2 hc2 hb3 hc3 hb4 hc4 hb5 hc5
          have hJ1 := hJ pre wr _ none hJs (World.grownBy_alloc wr (.cells #[.bool false, .int .i64 0] 255) none) (by simp)
          gi_wp2
          refine ⟨trivial, ?_⟩
          gi_wp2
          refine ⟨fun _ h => (by cases h), ?_⟩
          gi_wp2
          go_roundw
          case rel => exact ⟨2, pre, by omega, by go_num, by rw [HP.out, HE.out], hJ1⟩
          case measure => simp [intOf]
        · have hok := okD_of hf hc (by omega) (by omega)
          have E : lstFrom f 0 2 = lstFrom f 0 1 ++ [⟨1, c / 4, c % 4⟩] := by rw [lstFrom_snoc]; simp [oneOf, hc]
          have hcb := hf _ _ hc
          rw [hc] at hb1 hc1
          simp only [Option.isSome_some, Option.getD_some] at hb1 hc1
          subst hb1 hc1
          have HE : Hid _ := E
          clear E hb0 hc0 hb2 hc2 hb3 hc3 hb4 hc4 hb5 hc5
          gi_wp2
          refine ⟨trivial, ?_⟩
          gi_at_call 338
          refine (callsIn_wide.2 (stamp_any c _ (by omega) (by omega))).mono ?_
          rintro e w1 ⟨rfl, hb1⟩
          have hJ1 := hJ pre wr _ none hJs (World.grownBy_alloc wr (.cells #[.bool true, .int .i64 c] 255) none) (by simp)
          have hJ2 := hJ pre _ w1 none hJ1 (grown_of_below hb1) (by simp)
          obtain ⟨fn, tmps, assign, body, hy, hR⟩ := hY pre ⟨_, hok⟩ w1 hJ2 (by omega)
          dsimp only [encD] at hy
          gi_wp2
          refine hR.mono ?_
          rintro e W3 (⟨rfl, hJ3, _⟩ | ⟨rfl, hJx3⟩)
          · gi_wp2
            go_roundw
            case rel => exact ⟨2, _, by omega, by go_num, by rw [HE.out, ← HP.out]; simp, hJ3⟩
            case measure => simp [intOf]
          · gi_wp2
            refine bodyPost_ret (results_none rfl _ _ _) rfl ?_
            exact ⟨⟨_, rfl⟩, .inr ⟨_, trivial, hJx3⟩⟩
      · have ii : ∀ w, (Instr.index 257 (.agg #[.bool b0, .int .i64 c0, .bool b1, .int .i64 c1, .bool b2, .int .i64 c2, .bool b3, .int .i64 c3, .bool b4, .int .i64 c4, .bool b5, .int .i64 c5]) (.int .i64 2)).run Tryz.prog w = .ok (.agg #[.bool b2, .int .i64 c2]) w := fun _ => by kernel_rfl
        rcases hc : f 2 with _ | c
        · have E : lstFrom f 0 3 = lstFrom f 0 2 := by rw [lstFrom_snoc]; simp [oneOf, hc]
          rw [hc] at hb2 hc2
          simp only [Option.isSome_none, Option.getD_none] at hb2 hc2
          subst hb2 hc2
          have HE : Hid _ := E
          clear E hb0 hc0 hb1 hc1 hb3 hc3 hb4 hc4 hb5 hc5
          have hJ1 := hJ pre wr _ none hJs (World.grownBy_alloc wr (.cells #[.bool false, .int .i64 0] 255) none) (by simp)
          gi_wp2
          refine ⟨trivial, ?_⟩
          gi_wp2
          refine ⟨fun _ h => (by cases h), ?_⟩
          gi_wp2
          go_roundw
          case rel => exact ⟨3, pre, by omega, by go_num, by rw [HP.out, HE.out], hJ1⟩
          case measure => simp [intOf]
        · have hok := okD_of hf hc (by omega) (by omega)
          have E : lstFrom f 0 3 = lstFrom f 0 2 ++ [⟨2, c / 4, c % 4⟩] := by rw [lstFrom_snoc]; simp [oneOf, hc]
          have hcb := hf _ _ hc
          rw [hc] at hb2 hc2
          simp only [Option.isSome_some, Option.getD_some] at hb2 hc2
          subst hb2 hc2
          have HE : Hid _ := E
          clear E hb0 hc0 hb1 hc1 hb3 hc3 hb4 hc4 hb5 hc5
          gi_wp2
          refine ⟨trivial, ?_⟩
          gi_at_call 338
          refine (callsIn_wide.2 (stamp_any c _ (by omega) (by omega))).mono ?_
          rintro e w1 ⟨rfl, hb1⟩
          have hJ1 := hJ pre wr _ none hJs (World.grownBy_alloc wr (.cells #[.bool true, .int .i64 c] 255) none) (by simp)
          have hJ2 := hJ pre _ w1 none hJ1 (grown_of_below hb1) (by simp)
          obtain ⟨fn, tmps, assign, body, hy, hR⟩ := hY pre ⟨_, hok⟩ w1 hJ2 (by omega)
          dsimp only [encD] at hy
          gi_wp2
          refine hR.mono ?_
          rintro e W3 (⟨rfl, hJ3, _⟩ | ⟨rfl, hJx3⟩)
          · gi_wp2
            go_roundw
            case rel => exact ⟨3, _, by omega, by go_num, by rw [HE.out, ← HP.out]; simp, hJ3⟩
            case measure => simp [intOf]
          · gi_wp2
            refine bodyPost_ret (results_none rfl _ _ _) rfl ?_
            exact ⟨⟨_, rfl⟩, .inr ⟨_, trivial, hJx3⟩⟩
      · have ii : ∀ w, (Instr.index 257 (.agg #[.bool b0, .int .i64 c0, .bool b1, .int .i64 c1, .bool b2, .int .i64 c2, .bool b3, .int .i64 c3, .bool b4, .int .i64 c4, .bool b5, .int .i64 c5]) (.int .i64 3)).run Tryz.prog w = .ok (.agg #[.bool b3, .int .i64 c3]) w := fun _ => by kernel_rfl
        rcases hc : f 3 with _ | c
        · have E : lstFrom f 0 4 = lstFrom f 0 3 := by rw [lstFrom_snoc]; simp [oneOf, hc]
          rw [hc] at hb3 hc3
          simp only [Option.isSome_none, Option.getD_none] at hb3 hc3
          subst hb3 hc3
          have HE : Hid _ := E
          clear E hb0 hc0 hb1 hc1 hb2 hc2 hb4 hc4 hb5 hc5
          have hJ1 := hJ pre wr _ none hJs (World.grownBy_alloc wr (.cells #[.bool false, .int .i64 0] 255) none) (by simp)
          gi_wp2
          refine ⟨trivial, ?_⟩
          gi_wp2
          refine ⟨fun _ h => (by cases h), ?_⟩
          gi_wp2
          go_roundw
          case rel => exact ⟨4, pre, by omega, by go_num, by rw [HP.out, HE.out], hJ1⟩
          case measure => simp [intOf]
        · have hok := okD_of hf hc (by omega) (by omega)
          have E : lstFrom f 0 4 = lstFrom f 0 3 ++ [⟨3, c / 4, c % 4⟩] := by rw [lstFrom_snoc]; simp [oneOf, hc]
          have hcb := hf _ _ hc
          rw [hc] at hb3 hc3
          simp only [Option.isSome_some, Option.getD_some] at hb3 hc3
          subst hb3 hc3
          have HE : Hid _ := E
          clear E hb0 hc0 hb1 hc1 hb2 hc2 hb4 hc4 hb5 hc5
          gi_wp2
          refine ⟨trivial, ?_⟩
          gi_at_call 338
          refine (callsIn_wide.2 (stamp_any c _ (by omega) (by omega))).mono ?_
          rintro e w1 ⟨rfl, hb1⟩
          have hJ1 := hJ pre wr _ none hJs (World.grownBy_alloc wr (.cells #[.bool true, .int .i64 c] 255) none) (by simp)
          have hJ2 := hJ pre _ w1 none hJ1 (grown_of_below hb1) (by simp)
          obtain ⟨fn, tmps, assign, body, hy, hR⟩ := hY pre ⟨_, hok⟩ w1 hJ2 (by omega)
          dsimp only [encD] at hy
          gi_wp2
          refine hR.mono ?_
          rintro e W3 (⟨rfl, hJ3, _⟩ | ⟨rfl, hJx3⟩)
          · gi_wp2
            go_roundw
            case rel => exact ⟨4, _, by omega, by go_num, by rw [HE.out, ← HP.out]; simp, hJ3⟩
            case measure => simp [intOf]
          · gi_wp2
            refine bodyPost_ret (results_none rfl _ _ _) rfl ?_
            exact ⟨⟨_, rfl⟩, .inr ⟨_, trivial, hJx3⟩⟩
      · have ii : ∀ w, (Instr.index 257 (.agg #[.bool b0, .int .i64 c0, .bool b1, .int .i64 c1, .bool b2, .int .i64 c2, .bool b3, .int .i64 c3, .bool b4, .int .i64 c4, .bool b5, .int .i64 c5]) (.int .i64 4)).run Tryz.prog w = .ok (.agg #[.bool b4, .int .i64 c4]) w := fun _ => by kernel_rfl
        rcases hc : f 4 with _ | c
        · have E : lstFrom f 0 5 = lstFrom f 0 4 := by rw [lstFrom_snoc]; simp [oneOf, hc]
          rw [hc] at hb4 hc4
          simp only [Option.isSome_none, Option.getD_none] at hb4 hc4
          subst hb4 hc4
          have HE : Hid _ := E
          clear E hb0 hc0 hb1 hc1 hb2 hc2 hb3 hc3 hb5 hc5
          have hJ1 := hJ pre wr _ none hJs (World.grownBy_alloc wr (.cells #[.bool false, .int .i64 0] 255) none) (by simp)
          gi_wp2
          refine ⟨trivial, ?_⟩
          gi_wp2
          refine ⟨fun _ h => (by cases h), ?_⟩
          gi_wp2
          go_roundw
          case rel => exact ⟨5, pre, by omega, by go_num, by rw [HP.out, HE.out], hJ1⟩
          case measure => simp [intOf]
        · have hok := okD_of hf hc (by omega) (by omega)
          have E : lstFrom f 0 5 = lstFrom f 0 4 ++ [⟨4, c / 4, c % 4⟩] := by rw [lstFrom_snoc]; simp [oneOf, hc]
          have hcb := hf _ _ hc
          rw [hc] at hb4 hc4
          simp only [Option.isSome_some, Option.getD_some] at hb4 hc4
          subst hb4 hc4
          have HE : Hid _ := E
          clear E hb0 hc0 hb1 hc1 hb2 hc2 hb3 hc3 hb5 hc5
          gi_wp2
          refine ⟨trivial, ?_⟩
          gi_at_call 338
          refine (callsIn_wide.2 (stamp_any c _ (by omega) (by omega))).mono ?_
          rintro e w1 ⟨rfl, hb1⟩
          have hJ1 := hJ pre wr _ none hJs (World.grownBy_alloc wr (.cells #[.bool true, .int .i64 c] 255) none) (by simp)
          have hJ2 := hJ pre _ w1 none hJ1 (grown_of_below hb1) (by simp)
          obtain ⟨fn, tmps, assign, body, hy, hR⟩ := hY pre ⟨_, hok⟩ w1 hJ2 (by omega)
          dsimp only [encD] at hy
          gi_wp2
          refine hR.mono ?_
          rintro e W3 (⟨rfl, hJ3, _⟩ | ⟨rfl, hJx3⟩)
          · gi_wp2
            go_roundw
            case rel => exact ⟨5, _, by omega, by go_num, by rw [HE.out, ← HP.out]; simp, hJ3⟩
            case measure => simp [intOf]
          · gi_wp2
            refine bodyPost_ret (results_none rfl _ _ _) rfl ?_
            exact ⟨⟨_, rfl⟩, .inr ⟨_, trivial, hJx3⟩⟩
      · have ii : ∀ w, (Instr.index 257 (.agg #[.bool b0, .int .i64 c0, .bool b1, .int .i64 c1, .bool b2, .int .i64 c2, .bool b3, .int .i64 c3, .bool b4, .int .i64 c4, .bool b5, .int .i64 c5]) (.int .i64 5)).run Tryz.prog w = .ok (.agg #[.bool b5, .int .i64 c5]) w := fun _ => by kernel_rfl
        rcases hc : f 5 with _ | c
        · have E : lstFrom f 0 6 = lstFrom f 0 5 := by rw [lstFrom_snoc]; simp [oneOf, hc]
          rw [hc] at hb5 hc5
          simp only [Option.isSome_none, Option.getD_none] at hb5 hc5
          subst hb5 hc5
          have HE : Hid _ := E
          clear E hb0 hc0 hb1 hc1 hb2 hc2 hb3 hc3 hb4 hc4
          have hJ1 := hJ pre wr _ none hJs (World.grownBy_alloc wr (.cells #[.bool false, .int .i64 0] 255) none) (by simp)
          gi_wp2
          refine ⟨trivial, ?_⟩
          gi_wp2
          refine ⟨fun _ h => (by cases h), ?_⟩
          gi_wp2
          go_roundw
          case rel => exact ⟨6, pre, by omega, by go_num, by rw [HP.out, HE.out], hJ1⟩
          case measure => simp [intOf]
        · have hok := okD_of hf hc (by omega) (by omega)
          have E : lstFrom f 0 6 = lstFrom f 0 5 ++ [⟨5, c / 4, c % 4⟩] := by rw [lstFrom_snoc]; simp [oneOf, hc]
          have hcb := hf _ _ hc
          rw [hc] at hb5 hc5
          simp only [Option.isSome_some, Option.getD_some] at hb5 hc5
          subst hb5 hc5
          have HE : Hid _ := E
          clear E hb0 hc0 hb1 hc1 hb2 hc2 hb3 hc3 hb4 hc4
          gi_wp2
          refine ⟨trivial, ?_⟩
          gi_at_call 338
          refine (callsIn_wide.2 (stamp_any c _ (by omega) (by omega))).mono ?_
          rintro e w1 ⟨rfl, hb1⟩
          have hJ1 := hJ pre wr _ none hJs (World.grownBy_alloc wr (.cells #[.bool true, .int .i64 c] 255) none) (by simp)
          have hJ2 := hJ pre _ w1 none hJ1 (grown_of_below hb1) (by simp)
          obtain ⟨fn, tmps, assign, body, hy, hR⟩ := hY pre ⟨_, hok⟩ w1 hJ2 (by omega)
          dsimp only [encD] at hy
          gi_wp2
          refine hR.mono ?_
          rintro e W3 (⟨rfl, hJ3, _⟩ | ⟨rfl, hJx3⟩)
          · gi_wp2
            go_roundw
            case rel => exact ⟨6, _, by omega, by go_num, by rw [HE.out, ← HP.out]; simp, hJ3⟩
            case measure => simp [intOf]
          · gi_wp2
            refine bodyPost_ret (results_none rfl _ _ _) rfl ?_
            exact ⟨⟨_, rfl⟩, .inr ⟨_, trivial, hJx3⟩⟩
    · have hk6 : k = 6 := by omega
      subst hk6
      gi_wp2
      go_end0
      exact ⟨⟨_, rfl⟩, .inl ⟨pre, HP.out, hJs⟩⟩
end Go.Proofs.YtpjidogilofppaaGreat
