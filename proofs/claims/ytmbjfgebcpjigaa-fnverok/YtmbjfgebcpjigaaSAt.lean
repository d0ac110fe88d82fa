/- The specification's DepsAt. -/
import Derived.Test.YtmbjfgebcpjigaaSDepsOk
import Derived.Test.YtmbjfgebcpjigaaIAt
namespace Go.Proofs.Ytmbjfgebcpjigaa
open Go.ChangeShapes Go.WideShapes Go.ChangeAt Go.RowKit

theorem tab_first {xs : List D} {k : Nat} (hk : k < xs.length) {key : Int} (h : ∀ e ∈ xs.take k, e.k ≠ key) (he : xs[k].k = key) : tab xs key = some (codeD xs[k]) := by
  unfold tab
  have hx : xs = xs.take k ++ xs[k] :: xs.drop (k + 1) := by rw [List.getElem_cons_drop, List.take_append_drop]
  have hn : (xs.take k).find? (fun d => d.k == key) = none := by rw [List.find?_eq_none]; intro e h'; simpa using h e h'
  have hf : xs.find? (fun d => d.k == key) = some xs[k] := by
    conv => lhs; rw [hx]
    rw [List.find?_append, hn, List.find?_cons]
    simp [he]
  rw [hf]; rfl

set_option maxHeartbeats 1000000 in
theorem sAt_any (a : Option Addr) (cap : Nat) (xs : List D) (key : Int) (w : World) (hn : xs.length ≤ 1099511627776) (h : Deps w a xs) :
    Calls Try.prog 38 #[.slice a xs.length cap, .int .i64 key] w fun e w' => e = .returned (atV xs key) ∧ Below w.heap.size w w' := by
  have B0 : Below w.heap.size w (w.alloc (.cells #[.int .i64 0, .int .i64 0] 24)) := (Below.refl _ _).alloc (Nat.le_refl _) _
  have hS := sDepsOk_any a cap xs _ hn (h.below B0)
  rcases hok : depsOk xs with _ | _
  · have HZ : Hid (atV xs key = stampV 0 0) := atV_zero (atC_no hok key)
    rw [hok] at hS
    clear h
    go_enter Try.func38, Try.ntmps38
    go_wp2_with fail
    refine hS.mono ?_
    rintro e w1 ⟨rfl, hb1⟩
    have hB1 : Below w.heap.size w w1 := B0.trans (hb1.mono (by simp))
    have S1 := (Blk.new w _ _).below hb1 (by simp)
    obtain ⟨r1, f1⟩ := S1.rules
    clear hb1 hS B0
    go_wp2_with fail
    refine bodyPost_ret (v := stampV 0 0) ?_ rfl ⟨by rw [HZ.out], (hB1.setCell (by simp) _).setCell (by simp) _⟩
    refine Blk.gen (B := w.heap.size) (vs := #[.int .i64 0, .int .i64 0]) (T := 24) ?_ (P := fun W => (results Try.f38 _).run Try.prog W = .ok _ W) ?_
    · exact Blk.fill2 S1
    intro W hW
    obtain ⟨k, f⟩ := hW.rules
    simp [results, Try.results38, go_sem, k]
  · rw [hok] at hS
    have hOk : Hid _ := ok_iff.1 hok
    have HAt : Hid _ := atC_ok hok key
    go_enter Try.func38, Try.ntmps38
    go_wp2_with fail
    refine hS.mono ?_
    rintro e w1 ⟨rfl, hb1⟩
    have hB1 : Below w.heap.size w w1 := B0.trans (hb1.mono (by simp))
    have S1 := (Blk.new w _ _).below hb1 (by simp)
    obtain ⟨r1, f1⟩ := S1.rules
    have hD := h.below hB1
    clear hb1 hS B0 h
    go_wp2_with fail
    go_loop [5] (fun i => ∃ k : Nat, k ≤ xs.length ∧ i = .int .i64 k ∧ Hid (∀ e ∈ xs.take k, e.k ≠ key)) (fun i => xs.length - (intOf i).toNat)
    case atStart => exact ⟨0, Nat.zero_le _, rfl, fun _ h => by simp at h⟩
    case round =>
      obtain ⟨k, hk, rfl, HN⟩ := hrel
      by_cases hlt : k < xs.length
      · obtain ⟨b, o, rfl, hbb, e0, e1, e2⟩ := hD.at hlt
        by_cases he : xs[k].k = key
        · have HT := tab_first hlt HN.out he
          have hbd := okD_bounds (hOk.out.2 _ (List.getElem_mem hlt))
          generalize xs[k] = y at *
          have HZ : Hid (atV xs key = stampV y.t y.s) := by
            show atV xs key = stampV y.t y.s
            have h1 : (y.t * 4 + y.s) / 4 = y.t := by omega
            have h2 : (y.t * 4 + y.s) % 4 = y.s := by omega
            simp only [atV, HAt.out, HT, Option.getD_some, codeD, h1, h2]
          clear HT hbd
          have he' : (y.k == key) = true := by simpa using he
          go_wp2_with fail
          refine bodyPost_ret (v := stampV y.t y.s) ?_ rfl ⟨by rw [HZ.out], (hB1.setCell (by simp) _).setCell (by simp) _⟩
          refine Blk.gen (B := w.heap.size) (vs := #[.int .i64 y.t, .int .i64 y.s]) (T := 24) ?_ (P := fun W => (results Try.f38 _).run Try.prog W = .ok _ W) ?_
          · exact Blk.fill2 S1
          intro W hW
          obtain ⟨k, f⟩ := hW.rules
          simp [results, Try.results38, go_sem, k]
        · have HN2 : Hid (∀ e ∈ xs.take (k + 1), e.k ≠ key) := by
            show ∀ e ∈ xs.take (k + 1), e.k ≠ key
            rw [takeD xs k hlt]
            intro e h'
            rcases List.mem_append.1 h' with h' | h'
            · exact HN.out e h'
            · simp at h'; subst h'; exact he
          generalize xs[k] = y at *
          have he' : (y.k == key) = false := by simpa using he
          go_wp2_with fail
          go_round
          case rel => exact ⟨k + 1, by omega, by go_num, HN2⟩
          case measure => simp [intOf]; omega
      · have hk2 : k = xs.length := by omega
        subst hk2
        have HZ : Hid (atV xs key = stampV 0 0) := by
          refine atV_zero ?_
          rw [HAt.out, tab_none (fun e he => HN.out e (by rw [List.take_length]; exact he))]; rfl
        go_wp2_with fail
        refine bodyPost_ret (v := stampV 0 0) ?_ rfl ⟨by rw [HZ.out], (hB1.setCell (by simp) _).setCell (by simp) _⟩
        refine Blk.gen (B := w.heap.size) (vs := #[.int .i64 0, .int .i64 0]) (T := 24) ?_ (P := fun W => (results Try.f38 _).run Try.prog W = .ok _ W) ?_
        · exact Blk.fill2 S1
        intro W hW
        obtain ⟨k, f⟩ := hW.rules
        simp [results, Try.results38, go_sem, k]
end Go.Proofs.Ytmbjfgebcpjigaa
