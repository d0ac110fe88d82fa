/- The law: what is told of a key among deps is there. -/
import Derived.Test.YtmbjfgebcpjigaaThree
namespace Go.Proofs.Ytmbjfgebcpjigaa
open Go.ChangeShapes Go.WideShapes Go.ChangeAt Go.RowKit

/-- Whether one of the first k is of that key. -/
def fnd (xs : List D) (key : Int) (k : Nat) : Bool := (xs.take k).any fun e => e.k == key
theorem fnd_step {xs : List D} {key : Int} {k : Nat} (hk : k < xs.length) : fnd xs key (k + 1) = (fnd xs key k || (xs[k].k == key)) := by
  unfold fnd; rw [takeD xs k hk, List.any_append]; simp only [List.any_cons, List.any_nil, Bool.or_false]
theorem fnd_all (xs : List D) (key : Int) : fnd xs key xs.length = (tab xs key).isSome := by
  unfold fnd
  rw [List.take_length]
  rcases hf : tab xs key with _ | c
  · rw [Option.isSome_none, List.any_eq_false]
    intro e he hk
    have hk' : e.k = key := by simpa using hk
    unfold tab at hf
    rcases hx : xs.find? (fun d => d.k == key) with _ | y
    · have := List.find?_eq_none.1 hx e he; simp at this; exact this hk'
    · rw [hx] at hf; cases hf
  · obtain ⟨d, hd, hk, _⟩ := tab_some hf
    rw [Option.isSome_some, List.any_eq_true]
    exact ⟨d, hd, by simpa using hk⟩
theorem at_stamp {xs : List D} (hx : depsOk xs = true) {k : Nat} (hk : k < xs.length) : xs[k].t = atC xs xs[k].k / 4 ∧ xs[k].s = atC xs xs[k].k % 4 := by
  have hb := okD_bounds ((ok_iff.1 hx).2 _ (List.getElem_mem hk))
  rw [atC_ok hx, tab_mem (ok_iff.1 hx) (List.getElem_mem hk)]
  simp only [Option.getD_some, codeD]; omega

set_option maxHeartbeats 4000000 in
set_option maxRecDepth 100000 in
theorem lawAt (w : World) (a : Option Addr) (len cap : Nat) (h : Code w a len cap) :
    Calls Try.prog 9 #[.slice a len cap] w fun e w' => e = .returned (.bool true) ∧ Below w.heap.size w w' := by
  have hm := h.2.1
  have hl := h.1
  unfold maxLen at hm
  by_cases hc : 1048576 < (len : Int)
  · go_enter Try.func9, Try.ntmps9
    go_wp2
    go_ret
    exact ⟨rfl, Below.refl _ _⟩
  go_enter Try.func9, Try.ntmps9
  go_wp2_with fail
  refine (drawDAt w a len cap h).mono ?_
  rintro e w1 ⟨v1, xs, key, rfl, hx, R, B0⟩
  obtain ⟨va, vc, rfl, _⟩ := row_slice R
  have hx1 : xs.length ≤ 1000 := by omega
  clear h hm hl
  have hS := fun (W9 : World) h => sAt_row (w := W9) (v := .slice va xs.length vc) (base := w.heap.size) key hx1 h
  have hI := fun (W9 : World) h => iAt_row (w := W9) (v := .slice va xs.length vc) (base := w.heap.size) key hx1 h
  simp only [atV] at hS hI
  obtain ⟨T, hT⟩ : ∃ T, atC xs key / 4 = T := ⟨_, rfl⟩
  obtain ⟨S, hS'⟩ : ∃ S, atC xs key % 4 = S := ⟨_, rfl⟩
  rw [hT, hS'] at hS hI
  have HT : Hid (atC xs key / 4 = T) := hT
  have HS : Hid (atC xs key % 4 = S) := hS'
  clear hT hS'
  go_wp2_with fail
  refine (hS _ R).mono ?_
  rintro e w2 ⟨rfl, hb2⟩
  have R2 := (row_below R hb2 (Nat.le_refl _)).alloc (.cells #[.int .i64 T, .int .i64 S] 24)
  have B2 : Below w.heap.size w w2 := B0.trans (hb2.mono B0.size)
  have B2' := B2.alloc B2.size (.cells #[.int .i64 T, .int .i64 S] 24)
  clear R B0 hb2 B2
  go_wp2_with fail
  refine (hI _ R2).mono ?_
  rintro e w3 ⟨rfl, hb3⟩
  have R3 := (row_below R2 hb3 (Nat.le_refl _)).alloc (.cells #[.int .i64 T, .int .i64 S] 24)
  have B3 : Below w.heap.size w w3 := B2'.trans (hb3.mono B2'.size)
  have B3' := B3.alloc B3.size (.cells #[.int .i64 T, .int .i64 S] 24)
  have D1 := ((Blk.new w2 _ _).below hb3 (by simp)).alloc (.cells #[.int .i64 T, .int .i64 S] 24)
  have l1 := ((Blk.new w2 _ _).below hb3 (by simp)).lt
  have D2 := Blk.new w3 #[.int .i64 T, .int .i64 S] 24
  clear R2 B2' hb3 B3 hS hI
  rcases hok : depsOk xs with _ | _
  · obtain ⟨q1, g1⟩ := D1.rules
    obtain ⟨q2, g2⟩ := D2.rules
    go_wp2_with fail
    refine (sOk_row hx1 R3).mono ?_
    rw [hok]
    rintro e w4 ⟨rfl, hb4⟩
    have B4 : Below w.heap.size w w4 := B3'.trans (hb4.mono B3'.size)
    have D14 := D1.below hb4 D1.lt
    have D24 := D2.below hb4 D2.lt
    clear q1 g1 q2 g2 hb4 D1 D2 R3 B3'
    obtain ⟨q1, g1⟩ := D14.rules
    obtain ⟨q2, g2⟩ := D24.rules
    go_wp2
    go_ret
    exact ⟨rfl, B4⟩
  · obtain ⟨q1, g1⟩ := D1.rules
    obtain ⟨q2, g2⟩ := D2.rules
    go_wp2_with fail
    refine (sOk_row hx1 R3).mono ?_
    rw [hok]
    rintro e w4 ⟨rfl, hb4⟩
    have B4 : Below w.heap.size w w4 := B3'.trans (hb4.mono B3'.size)
    have R4 := row_below R3 hb4 (Nat.le_refl _)
    have D4 := D2.below hb4 D2.lt
    clear q1 g1 q2 g2 hb4 D1 D2 R3 B3' l1
    generalize w3.heap.size = E at *
    go_wp2_with fail
    go_loopw [7, 8] (fun f i wr => ∃ k : Nat, k ≤ xs.length ∧ i = .int .i64 k ∧ f = .bool (fnd xs key k) ∧ Below w4.heap.size w4 wr) (fun _ i _ => xs.length - (intOf i).toNat)
    case atStart => exact ⟨0, Nat.zero_le _, rfl, by simp [fnd], Below.refl _ _⟩
    case round =>
      obtain ⟨k, hk, rfl, rfl, hB⟩ := hrel
      have Dr := D4.below hB D4.lt
      have Rr := row_below R4 hB (Nat.le_refl _)
      by_cases hlt : k < xs.length
      · have HF : Hid _ := fnd_step (key := key) hlt
        have HA := at_stamp hok hlt
        obtain ⟨b, f, rfl, hbb, e0, e1, e2⟩ := (row_deps' Rr).at hlt
        have r4 := since_rules Dr
        have ne := since_ne wr
        rcases hf : fnd xs key k with _ | _
        · by_cases he : xs[k].k = key
          · rw [he, HT.out, HS.out] at HA
            rw [HA.1] at e1
            rw [HA.2] at e2
            have he' : (xs[k].k == key) = true := by simpa using he
            rw [hf, he'] at HF
            clear HA he
            generalize xs[k] = y at *
            have r0 := since_cell e0
            have r1 := since_cell e1
            have r2 := since_cell e2
            clear e0 e1 e2
            go_wp2_with fail
            refine wp_region_class (S := Since wr) (by kernel_rfl) (by kernel_rfl) (Below.refl _ _).drew ?_
            repeat (go_big_quiet_step ((fail)))
            refine wpQuiet_nil ?_
            rintro W2 ⟨n, hnW⟩
            have N2 := n.h
            rw [← hnW] at N2
            have hB2 : Below w4.heap.size w4 W2 := hB.trans (N2.mono hB.size)
            clear N2 r0 r1 r2 r4 ne hnW n Dr Rr hB
            go_wp2_with fail
            go_roundw
            case rel => exact ⟨k + 1, by omega, by go_num, by rw [HF.out]; rfl, hB2⟩
            case measure => simp [intOf]; omega
          · have he' : (xs[k].k == key) = false := by simpa using he
            rw [hf, he'] at HF
            clear HA he
            generalize xs[k] = y at *
            have r0 := since_cell e0
            have r1 := since_cell e1
            have r2 := since_cell e2
            clear e0 e1 e2
            go_wp2_with fail
            refine wp_region_class (S := Since wr) (by kernel_rfl) (by kernel_rfl) (Below.refl _ _).drew ?_
            repeat (go_big_quiet_step ((fail)))
            refine wpQuiet_nil ?_
            rintro W2 ⟨n, hnW⟩
            have N2 := n.h
            rw [← hnW] at N2
            have hB2 : Below w4.heap.size w4 W2 := hB.trans (N2.mono hB.size)
            clear N2 r0 r1 r2 r4 ne hnW n Dr Rr hB
            go_wp2_with fail
            go_roundw
            case rel => exact ⟨k + 1, by omega, by go_num, by rw [HF.out]; rfl, hB2⟩
            case measure => simp [intOf]; omega
        · rw [hf] at HF
          clear HA
          go_wp2_with fail
          refine wp_region_class (S := Since wr) (by kernel_rfl) (by kernel_rfl) (Below.refl _ _).drew ?_
          repeat (go_big_quiet_step ((fail)))
          refine wpQuiet_nil ?_
          rintro W2 ⟨n, hnW⟩
          have N2 := n.h
          rw [← hnW] at N2
          have hB2 : Below w4.heap.size w4 W2 := hB.trans (N2.mono hB.size)
          clear N2 r4 ne hnW n Dr Rr hB e0 e1 e2
          go_wp2_with fail
          go_roundw
          case rel => exact ⟨k + 1, by omega, by go_num, by rw [HF.out]; simp, hB2⟩
          case measure => simp [intOf]; omega
      · have hk2 : k = xs.length := by omega
        subst hk2
        have hfa := fnd_all xs key
        have BB : Below w.heap.size w wr := B4.trans (hB.mono B4.size)
        obtain ⟨q2, g2⟩ := Dr.rules
        rcases htb : tab xs key with _ | c
        · rw [htb] at hfa
          have hT0 : T = 0 := by rw [← HT.out, atC_ok hok, htb]; rfl
          have hS0 : S = 0 := by rw [← HS.out, atC_ok hok, htb]; rfl
          subst hT0 hS0
          simp only [Option.isSome_none] at hfa
          clear Rr R4 D4 Dr B4 hB
          go_wp2_with fail
          go_ret
          exact ⟨rfl, BB⟩
        · rw [htb] at hfa
          have hg := good_tab (ok_iff.1 hok) _ _ htb
          have hT0 : 1 ≤ T := by rw [← HT.out, atC_ok hok, htb]; simp only [Option.getD_some]; omega
          have hT1 : (T == 0) = false := by rw [beq_eq_false_iff_ne]; omega
          have hT2 : T ≠ 0 := by omega
          simp only [Option.isSome_some] at hfa
          clear Rr R4 D4 Dr B4 hB
          go_wp2_with fail
          go_ret
          exact ⟨rfl, BB⟩
end Go.Proofs.Ytmbjfgebcpjigaa
