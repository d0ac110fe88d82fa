/- The program's DepsAt. -/
import Derived.Test.YtmbjfgebcpjigaaIDeps
namespace Go.Proofs.Ytmbjfgebcpjigaa
open Go.ChangeShapes Go.WideShapes Go.ChangeAt Go.RowKit

/-- What is told of a key among deps, as one number: two cells are written. -/
theorem Blk.fill2 {w : World} {B : Nat} {x0 x1 v0 v1 : Value} {T : TypeId} (h : Blk w B #[x0, x1] T) : Blk ((w.setCell ⟨B, 0, none⟩ v0).setCell ⟨B, 1, none⟩ v1) B #[v0, v1] T := by
  have := (h.set 0 v0).set 1 v1
  simpa using this
/-- What is told of a key among deps, as one number. -/
def atC (xs : List D) (key : Int) : Int := if depsOk xs = true then (tab xs key).getD 0 else 0
theorem atC_no {xs : List D} (h : depsOk xs = false) (key : Int) : atC xs key = 0 := if_neg (by rw [h]; exact Bool.false_ne_true)
theorem atC_ok {xs : List D} (h : depsOk xs = true) (key : Int) : atC xs key = (tab xs key).getD 0 := if_pos h
theorem tab_out {xs : List D} (h : depsOk xs = true) {key : Int} (hk : inB key 0 5 = false) : tab xs key = none := by
  refine tab_none fun e he => ?_
  have := okD_bounds ((ok_iff.1 h).2 e he)
  simp [inB] at hk
  omega
/-- .. and as a stamp. -/
abbrev atV (xs : List D) (key : Int) : Value := stampV (atC xs key / 4) (atC xs key % 4)
theorem atV_zero {xs : List D} {key : Int} (h : atC xs key = 0) : atV xs key = stampV 0 0 := by simp [h]

set_option maxHeartbeats 2000000 in
theorem iAt_any (a : Option Addr) (cap : Nat) (xs : List D) (key : Int) (w : World) (hn : xs.length ≤ 1099511627776) (h : Deps w a xs) :
    Calls Try.prog 32 #[.slice a xs.length cap, .int .i64 key] w fun e w' => e = .returned (atV xs key) ∧ Below w.heap.size w w' := by
  have B0 : Below w.heap.size w (w.alloc (.cells #[.int .i64 0, .int .i64 0] 24)) := (Below.refl _ _).alloc (Nat.le_refl _) _
  have hT := tableOf_any a cap xs _ hn (h.below B0)
  unfold tabA at hT
  generalize hb0 : (tabOf xs 0).isSome = b0 at hT
  generalize hc0 : (tabOf xs 0).getD 0 = c0 at hT
  generalize hb1 : (tabOf xs 1).isSome = b1 at hT
  generalize hc1 : (tabOf xs 1).getD 0 = c1 at hT
  generalize hb2 : (tabOf xs 2).isSome = b2 at hT
  generalize hc2 : (tabOf xs 2).getD 0 = c2 at hT
  generalize hb3 : (tabOf xs 3).isSome = b3 at hT
  generalize hc3 : (tabOf xs 3).getD 0 = c3 at hT
  generalize hb4 : (tabOf xs 4).isSome = b4 at hT
  generalize hc4 : (tabOf xs 4).getD 0 = c4 at hT
  generalize hb5 : (tabOf xs 5).isSome = b5 at hT
  generalize hc5 : (tabOf xs 5).getD 0 = c5 at hT
  rcases hok : depsOk xs with _ | _
  · have HZ : Hid (atV xs key = stampV 0 0) := atV_zero (atC_no hok key)
    rw [hok] at hT
    clear h hb0 hc0 hb1 hc1 hb2 hc2 hb3 hc3 hb4 hc4 hb5 hc5
    go_enter Try.func32, Try.ntmps32
    go_wp2_with fail
    refine hT.mono ?_
    rintro e w1 ⟨rfl, hb1⟩
    have hB1 : Below w.heap.size w w1 := B0.trans (hb1.mono (by simp))
    have S1 := (Blk.new w _ _).below hb1 (by simp)
    obtain ⟨r1, f1⟩ := S1.rules
    have hz := S1.lt
    clear hb1 hT B0
    go_wp2_with fail
    refine bodyPost_ret (v := stampV 0 0) ?_ rfl ⟨by rw [HZ.out], ?_⟩
    · refine Blk.gen (B := w.heap.size) (vs := #[.int .i64 0, .int .i64 0]) (T := 24) ?_ (P := fun W => (results Try.f32 _).run Try.prog W = .ok _ W) ?_
      · first | exact (Blk.fill2 S1).alloc _ | exact Blk.fill2 (S1.alloc _)
      intro W hW
      obtain ⟨k, f⟩ := hW.rules
      simp [results, Try.results32, go_sem, k]
    first | exact ((hB1.setCell (by simp) _).setCell (by simp) _).alloc (by have := hB1.size; simp [World.setCell]; omega) _ | exact ((hB1.alloc hB1.size _).setCell (by simp) _).setCell (by simp) _
  · rw [hok] at hT
    rcases hkey : inB key 0 5 with _ | _
    · have HZ : Hid (atV xs key = stampV 0 0) := atV_zero (by rw [atC_ok hok, tab_out hok hkey]; rfl)
      clear h hb0 hc0 hb1 hc1 hb2 hc2 hb3 hc3 hb4 hc4 hb5 hc5
      go_enter Try.func32, Try.ntmps32
      go_wp2_with fail
      refine hT.mono ?_
      rintro e w1 ⟨rfl, hb1⟩
      have hB1 : Below w.heap.size w w1 := B0.trans (hb1.mono (by simp))
      have S1 := (Blk.new w _ _).below hb1 (by simp)
      obtain ⟨r1, f1⟩ := S1.rules
      have hz := S1.lt
      clear hb1 hT B0
      go_wp2_with (first | (go_at_call 51; refine (iKey_any key _).mono ?_; rw [hkey]; rintro e w' ⟨rfl, rfl⟩))
      refine bodyPost_ret (v := stampV 0 0) ?_ rfl ⟨by rw [HZ.out], ?_⟩
      · refine Blk.gen (B := w.heap.size) (vs := #[.int .i64 0, .int .i64 0]) (T := 24) ?_ (P := fun W => (results Try.f32 _).run Try.prog W = .ok _ W) ?_
        · first | exact (Blk.fill2 S1).alloc _ | exact Blk.fill2 (S1.alloc _)
        intro W hW
        obtain ⟨k, f⟩ := hW.rules
        simp [results, Try.results32, go_sem, k]
      first | exact ((hB1.setCell (by simp) _).setCell (by simp) _).alloc (by have := hB1.size; simp [World.setCell]; omega) _ | exact ((hB1.alloc hB1.size _).setCell (by simp) _).setCell (by simp) _
    · have hk : key = 0 ∨ key = 1 ∨ key = 2 ∨ key = 3 ∨ key = 4 ∨ key = 5 := by simp [inB] at hkey; omega
      rcases hk with rfl | rfl | rfl | rfl | rfl | rfl
      · rcases hf : tab xs 0 with _ | c
        · have HZ : Hid (atV xs 0 = stampV 0 0) := atV_zero (by rw [atC_ok hok, hf]; rfl)
          rw [tabOf_ok hok, hf] at hb0 hc0
          simp only [Option.isSome_none, Option.getD_none] at hb0 hc0
          subst hb0 hc0
          clear h hb1 hc1 hb2 hc2 hb3 hc3 hb4 hc4 hb5 hc5
          go_enter Try.func32, Try.ntmps32
          go_wp2_with fail
          refine hT.mono ?_
          rintro e w1 ⟨rfl, hb1⟩
          have hB1 : Below w.heap.size w w1 := B0.trans (hb1.mono (by simp))
          have S1 := (Blk.new w _ _).below hb1 (by simp)
          obtain ⟨r1, f1⟩ := S1.rules
          have hz := S1.lt
          clear hb1 hT B0
          go_wp2_with (first | (go_at_call 51; refine (iKey_any 0 _).mono ?_; rw [hkey]; rintro e w' ⟨rfl, rfl⟩))
          refine bodyPost_ret (v := stampV 0 0) ?_ rfl ⟨by rw [HZ.out], ?_⟩
          · refine Blk.gen (B := w.heap.size) (vs := #[.int .i64 0, .int .i64 0]) (T := 24) ?_ (P := fun W => (results Try.f32 _).run Try.prog W = .ok _ W) ?_
            · first | exact (Blk.fill2 S1).alloc _ | exact Blk.fill2 (S1.alloc _)
            intro W hW
            obtain ⟨k, f⟩ := hW.rules
            simp [results, Try.results32, go_sem, k]
          first | exact ((hB1.setCell (by simp) _).setCell (by simp) _).alloc (by have := hB1.size; simp [World.setCell]; omega) _ | exact ((hB1.alloc hB1.size _).setCell (by simp) _).setCell (by simp) _
        · have hcb := good_tab (ok_iff.1 hok) _ _ hf
          have HZ : Hid (atV xs 0 = stampV (c / 4) (c % 4)) := by show atV xs 0 = _; simp [atV, atC_ok hok, hf]
          rw [tabOf_ok hok, hf] at hb0 hc0
          simp only [Option.isSome_some, Option.getD_some] at hb0 hc0
          subst hb0 hc0
          clear h hb1 hc1 hb2 hc2 hb3 hc3 hb4 hc4 hb5 hc5
          go_enter Try.func32, Try.ntmps32
          go_wp2_with fail
          refine hT.mono ?_
          rintro e w1 ⟨rfl, hb1⟩
          have hB1 : Below w.heap.size w w1 := B0.trans (hb1.mono (by simp))
          have S1 := (Blk.new w _ _).below hb1 (by simp)
          obtain ⟨r1, f1⟩ := S1.rules
          have hz := S1.lt
          clear hb1 hT B0
          go_wp2_with (first | (go_at_call 51; refine (iKey_any 0 _).mono ?_; rw [hkey]; rintro e w' ⟨rfl, rfl⟩))
          refine (stamp_any c _ (by omega) (by omega)).mono ?_
          rintro e w2 ⟨rfl, hb2⟩
          have S2 := (S1.alloc _).below hb2 (by simp; omega)
          have hB2 : Below w.heap.size w w2 := (hB1.alloc hB1.size _).trans (hb2.mono (by have := hB1.size; simp; omega))
          clear r1 f1 hb2
          obtain ⟨r1, f1⟩ := S2.rules
          go_wp2_with fail
          refine bodyPost_ret (v := stampV (c / 4) (c % 4)) ?_ rfl ⟨by rw [HZ.out], ?_⟩
          · refine Blk.gen (B := w.heap.size) (vs := #[.int .i64 (c / 4), .int .i64 (c % 4)]) (T := 24) ?_ (P := fun W => (results Try.f32 _).run Try.prog W = .ok _ W) ?_
            · exact Blk.fill2 S2
            intro W hW
            obtain ⟨k, f⟩ := hW.rules
            simp [results, Try.results32, go_sem, k]
          exact (hB2.setCell (by simp) _).setCell (by simp) _
      · rcases hf : tab xs 1 with _ | c
        · have HZ : Hid (atV xs 1 = stampV 0 0) := atV_zero (by rw [atC_ok hok, hf]; rfl)
          rw [tabOf_ok hok, hf] at hb1 hc1
          simp only [Option.isSome_none, Option.getD_none] at hb1 hc1
          subst hb1 hc1
          clear h hb0 hc0 hb2 hc2 hb3 hc3 hb4 hc4 hb5 hc5
          go_enter Try.func32, Try.ntmps32
          go_wp2_with fail
          refine hT.mono ?_
          rintro e w1 ⟨rfl, hb1⟩
          have hB1 : Below w.heap.size w w1 := B0.trans (hb1.mono (by simp))
          have S1 := (Blk.new w _ _).below hb1 (by simp)
          obtain ⟨r1, f1⟩ := S1.rules
          have hz := S1.lt
          clear hb1 hT B0
          go_wp2_with (first | (go_at_call 51; refine (iKey_any 1 _).mono ?_; rw [hkey]; rintro e w' ⟨rfl, rfl⟩))
          refine bodyPost_ret (v := stampV 0 0) ?_ rfl ⟨by rw [HZ.out], ?_⟩
          · refine Blk.gen (B := w.heap.size) (vs := #[.int .i64 0, .int .i64 0]) (T := 24) ?_ (P := fun W => (results Try.f32 _).run Try.prog W = .ok _ W) ?_
            · first | exact (Blk.fill2 S1).alloc _ | exact Blk.fill2 (S1.alloc _)
            intro W hW
            obtain ⟨k, f⟩ := hW.rules
            simp [results, Try.results32, go_sem, k]
          first | exact ((hB1.setCell (by simp) _).setCell (by simp) _).alloc (by have := hB1.size; simp [World.setCell]; omega) _ | exact ((hB1.alloc hB1.size _).setCell (by simp) _).setCell (by simp) _
        · have hcb := good_tab (ok_iff.1 hok) _ _ hf
          have HZ : Hid (atV xs 1 = stampV (c / 4) (c % 4)) := by show atV xs 1 = _; simp [atV, atC_ok hok, hf]
          rw [tabOf_ok hok, hf] at hb1 hc1
          simp only [Option.isSome_some, Option.getD_some] at hb1 hc1
          subst hb1 hc1
          clear h hb0 hc0 hb2 hc2 hb3 hc3 hb4 hc4 hb5 hc5
          go_enter Try.func32, Try.ntmps32
          go_wp2_with fail
          refine hT.mono ?_
          rintro e w1 ⟨rfl, hb1⟩
          have hB1 : Below w.heap.size w w1 := B0.trans (hb1.mono (by simp))
          have S1 := (Blk.new w _ _).below hb1 (by simp)
          obtain ⟨r1, f1⟩ := S1.rules
          have hz := S1.lt
          clear hb1 hT B0
          go_wp2_with (first | (go_at_call 51; refine (iKey_any 1 _).mono ?_; rw [hkey]; rintro e w' ⟨rfl, rfl⟩))
          refine (stamp_any c _ (by omega) (by omega)).mono ?_
          rintro e w2 ⟨rfl, hb2⟩
          have S2 := (S1.alloc _).below hb2 (by simp; omega)
          have hB2 : Below w.heap.size w w2 := (hB1.alloc hB1.size _).trans (hb2.mono (by have := hB1.size; simp; omega))
          clear r1 f1 hb2
          obtain ⟨r1, f1⟩ := S2.rules
          go_wp2_with fail
          refine bodyPost_ret (v := stampV (c / 4) (c % 4)) ?_ rfl ⟨by rw [HZ.out], ?_⟩
          · refine Blk.gen (B := w.heap.size) (vs := #[.int .i64 (c / 4), .int .i64 (c % 4)]) (T := 24) ?_ (P := fun W => (results Try.f32 _).run Try.prog W = .ok _ W) ?_
            · exact Blk.fill2 S2
            intro W hW
            obtain ⟨k, f⟩ := hW.rules
            simp [results, Try.results32, go_sem, k]
          exact (hB2.setCell (by simp) _).setCell (by simp) _
      · rcases hf : tab xs 2 with _ | c
        · have HZ : Hid (atV xs 2 = stampV 0 0) := atV_zero (by rw [atC_ok hok, hf]; rfl)
          rw [tabOf_ok hok, hf] at hb2 hc2
          simp only [Option.isSome_none, Option.getD_none] at hb2 hc2
          subst hb2 hc2
          clear h hb0 hc0 hb1 hc1 hb3 hc3 hb4 hc4 hb5 hc5
          go_enter Try.func32, Try.ntmps32
          go_wp2_with fail
          refine hT.mono ?_
          rintro e w1 ⟨rfl, hb1⟩
          have hB1 : Below w.heap.size w w1 := B0.trans (hb1.mono (by simp))
          have S1 := (Blk.new w _ _).below hb1 (by simp)
          obtain ⟨r1, f1⟩ := S1.rules
          have hz := S1.lt
          clear hb1 hT B0
          go_wp2_with (first | (go_at_call 51; refine (iKey_any 2 _).mono ?_; rw [hkey]; rintro e w' ⟨rfl, rfl⟩))
          refine bodyPost_ret (v := stampV 0 0) ?_ rfl ⟨by rw [HZ.out], ?_⟩
          · refine Blk.gen (B := w.heap.size) (vs := #[.int .i64 0, .int .i64 0]) (T := 24) ?_ (P := fun W => (results Try.f32 _).run Try.prog W = .ok _ W) ?_
            · first | exact (Blk.fill2 S1).alloc _ | exact Blk.fill2 (S1.alloc _)
            intro W hW
            obtain ⟨k, f⟩ := hW.rules
            simp [results, Try.results32, go_sem, k]
          first | exact ((hB1.setCell (by simp) _).setCell (by simp) _).alloc (by have := hB1.size; simp [World.setCell]; omega) _ | exact ((hB1.alloc hB1.size _).setCell (by simp) _).setCell (by simp) _
        · have hcb := good_tab (ok_iff.1 hok) _ _ hf
          have HZ : Hid (atV xs 2 = stampV (c / 4) (c % 4)) := by show atV xs 2 = _; simp [atV, atC_ok hok, hf]
          rw [tabOf_ok hok, hf] at hb2 hc2
          simp only [Option.isSome_some, Option.getD_some] at hb2 hc2
          subst hb2 hc2
          clear h hb0 hc0 hb1 hc1 hb3 hc3 hb4 hc4 hb5 hc5
          go_enter Try.func32, Try.ntmps32
          go_wp2_with fail
          refine hT.mono ?_
          rintro e w1 ⟨rfl, hb1⟩
          have hB1 : Below w.heap.size w w1 := B0.trans (hb1.mono (by simp))
          have S1 := (Blk.new w _ _).below hb1 (by simp)
          obtain ⟨r1, f1⟩ := S1.rules
          have hz := S1.lt
          clear hb1 hT B0
          go_wp2_with (first | (go_at_call 51; refine (iKey_any 2 _).mono ?_; rw [hkey]; rintro e w' ⟨rfl, rfl⟩))
          refine (stamp_any c _ (by omega) (by omega)).mono ?_
          rintro e w2 ⟨rfl, hb2⟩
          have S2 := (S1.alloc _).below hb2 (by simp; omega)
          have hB2 : Below w.heap.size w w2 := (hB1.alloc hB1.size _).trans (hb2.mono (by have := hB1.size; simp; omega))
          clear r1 f1 hb2
          obtain ⟨r1, f1⟩ := S2.rules
          go_wp2_with fail
          refine bodyPost_ret (v := stampV (c / 4) (c % 4)) ?_ rfl ⟨by rw [HZ.out], ?_⟩
          · refine Blk.gen (B := w.heap.size) (vs := #[.int .i64 (c / 4), .int .i64 (c % 4)]) (T := 24) ?_ (P := fun W => (results Try.f32 _).run Try.prog W = .ok _ W) ?_
            · exact Blk.fill2 S2
            intro W hW
            obtain ⟨k, f⟩ := hW.rules
            simp [results, Try.results32, go_sem, k]
          exact (hB2.setCell (by simp) _).setCell (by simp) _
      · rcases hf : tab xs 3 with _ | c
        · have HZ : Hid (atV xs 3 = stampV 0 0) := atV_zero (by rw [atC_ok hok, hf]; rfl)
          rw [tabOf_ok hok, hf] at hb3 hc3
          simp only [Option.isSome_none, Option.getD_none] at hb3 hc3
          subst hb3 hc3
          clear h hb0 hc0 hb1 hc1 hb2 hc2 hb4 hc4 hb5 hc5
          go_enter Try.func32, Try.ntmps32
          go_wp2_with fail
          refine hT.mono ?_
          rintro e w1 ⟨rfl, hb1⟩
          have hB1 : Below w.heap.size w w1 := B0.trans (hb1.mono (by simp))
          have S1 := (Blk.new w _ _).below hb1 (by simp)
          obtain ⟨r1, f1⟩ := S1.rules
          have hz := S1.lt
          clear hb1 hT B0
          go_wp2_with (first | (go_at_call 51; refine (iKey_any 3 _).mono ?_; rw [hkey]; rintro e w' ⟨rfl, rfl⟩))
          refine bodyPost_ret (v := stampV 0 0) ?_ rfl ⟨by rw [HZ.out], ?_⟩
          · refine Blk.gen (B := w.heap.size) (vs := #[.int .i64 0, .int .i64 0]) (T := 24) ?_ (P := fun W => (results Try.f32 _).run Try.prog W = .ok _ W) ?_
            · first | exact (Blk.fill2 S1).alloc _ | exact Blk.fill2 (S1.alloc _)
            intro W hW
            obtain ⟨k, f⟩ := hW.rules
            simp [results, Try.results32, go_sem, k]
          first | exact ((hB1.setCell (by simp) _).setCell (by simp) _).alloc (by have := hB1.size; simp [World.setCell]; omega) _ | exact ((hB1.alloc hB1.size _).setCell (by simp) _).setCell (by simp) _
        · have hcb := good_tab (ok_iff.1 hok) _ _ hf
          have HZ : Hid (atV xs 3 = stampV (c / 4) (c % 4)) := by show atV xs 3 = _; simp [atV, atC_ok hok, hf]
          rw [tabOf_ok hok, hf] at hb3 hc3
          simp only [Option.isSome_some, Option.getD_some] at hb3 hc3
          subst hb3 hc3
          clear h hb0 hc0 hb1 hc1 hb2 hc2 hb4 hc4 hb5 hc5
          go_enter Try.func32, Try.ntmps32
          go_wp2_with fail
          refine hT.mono ?_
          rintro e w1 ⟨rfl, hb1⟩
          have hB1 : Below w.heap.size w w1 := B0.trans (hb1.mono (by simp))
          have S1 := (Blk.new w _ _).below hb1 (by simp)
          obtain ⟨r1, f1⟩ := S1.rules
          have hz := S1.lt
          clear hb1 hT B0
          go_wp2_with (first | (go_at_call 51; refine (iKey_any 3 _).mono ?_; rw [hkey]; rintro e w' ⟨rfl, rfl⟩))
          refine (stamp_any c _ (by omega) (by omega)).mono ?_
          rintro e w2 ⟨rfl, hb2⟩
          have S2 := (S1.alloc _).below hb2 (by simp; omega)
          have hB2 : Below w.heap.size w w2 := (hB1.alloc hB1.size _).trans (hb2.mono (by have := hB1.size; simp; omega))
          clear r1 f1 hb2
          obtain ⟨r1, f1⟩ := S2.rules
          go_wp2_with fail
          refine bodyPost_ret (v := stampV (c / 4) (c % 4)) ?_ rfl ⟨by rw [HZ.out], ?_⟩
          · refine Blk.gen (B := w.heap.size) (vs := #[.int .i64 (c / 4), .int .i64 (c % 4)]) (T := 24) ?_ (P := fun W => (results Try.f32 _).run Try.prog W = .ok _ W) ?_
            · exact Blk.fill2 S2
            intro W hW
            obtain ⟨k, f⟩ := hW.rules
            simp [results, Try.results32, go_sem, k]
          exact (hB2.setCell (by simp) _).setCell (by simp) _
      · rcases hf : tab xs 4 with _ | c
        · have HZ : Hid (atV xs 4 = stampV 0 0) := atV_zero (by rw [atC_ok hok, hf]; rfl)
          rw [tabOf_ok hok, hf] at hb4 hc4
          simp only [Option.isSome_none, Option.getD_none] at hb4 hc4
          subst hb4 hc4
          clear h hb0 hc0 hb1 hc1 hb2 hc2 hb3 hc3 hb5 hc5
          go_enter Try.func32, Try.ntmps32
          go_wp2_with fail
          refine hT.mono ?_
          rintro e w1 ⟨rfl, hb1⟩
          have hB1 : Below w.heap.size w w1 := B0.trans (hb1.mono (by simp))
          have S1 := (Blk.new w _ _).below hb1 (by simp)
          obtain ⟨r1, f1⟩ := S1.rules
          have hz := S1.lt
          clear hb1 hT B0
          go_wp2_with (first | (go_at_call 51; refine (iKey_any 4 _).mono ?_; rw [hkey]; rintro e w' ⟨rfl, rfl⟩))
          refine bodyPost_ret (v := stampV 0 0) ?_ rfl ⟨by rw [HZ.out], ?_⟩
          · refine Blk.gen (B := w.heap.size) (vs := #[.int .i64 0, .int .i64 0]) (T := 24) ?_ (P := fun W => (results Try.f32 _).run Try.prog W = .ok _ W) ?_
            · first | exact (Blk.fill2 S1).alloc _ | exact Blk.fill2 (S1.alloc _)
            intro W hW
            obtain ⟨k, f⟩ := hW.rules
            simp [results, Try.results32, go_sem, k]
          first | exact ((hB1.setCell (by simp) _).setCell (by simp) _).alloc (by have := hB1.size; simp [World.setCell]; omega) _ | exact ((hB1.alloc hB1.size _).setCell (by simp) _).setCell (by simp) _
        · have hcb := good_tab (ok_iff.1 hok) _ _ hf
          have HZ : Hid (atV xs 4 = stampV (c / 4) (c % 4)) := by show atV xs 4 = _; simp [atV, atC_ok hok, hf]
          rw [tabOf_ok hok, hf] at hb4 hc4
          simp only [Option.isSome_some, Option.getD_some] at hb4 hc4
          subst hb4 hc4
          clear h hb0 hc0 hb1 hc1 hb2 hc2 hb3 hc3 hb5 hc5
          go_enter Try.func32, Try.ntmps32
          go_wp2_with fail
          refine hT.mono ?_
          rintro e w1 ⟨rfl, hb1⟩
          have hB1 : Below w.heap.size w w1 := B0.trans (hb1.mono (by simp))
          have S1 := (Blk.new w _ _).below hb1 (by simp)
          obtain ⟨r1, f1⟩ := S1.rules
          have hz := S1.lt
          clear hb1 hT B0
          go_wp2_with (first | (go_at_call 51; refine (iKey_any 4 _).mono ?_; rw [hkey]; rintro e w' ⟨rfl, rfl⟩))
          refine (stamp_any c _ (by omega) (by omega)).mono ?_
          rintro e w2 ⟨rfl, hb2⟩
          have S2 := (S1.alloc _).below hb2 (by simp; omega)
          have hB2 : Below w.heap.size w w2 := (hB1.alloc hB1.size _).trans (hb2.mono (by have := hB1.size; simp; omega))
          clear r1 f1 hb2
          obtain ⟨r1, f1⟩ := S2.rules
          go_wp2_with fail
          refine bodyPost_ret (v := stampV (c / 4) (c % 4)) ?_ rfl ⟨by rw [HZ.out], ?_⟩
          · refine Blk.gen (B := w.heap.size) (vs := #[.int .i64 (c / 4), .int .i64 (c % 4)]) (T := 24) ?_ (P := fun W => (results Try.f32 _).run Try.prog W = .ok _ W) ?_
            · exact Blk.fill2 S2
            intro W hW
            obtain ⟨k, f⟩ := hW.rules
            simp [results, Try.results32, go_sem, k]
          exact (hB2.setCell (by simp) _).setCell (by simp) _
      · rcases hf : tab xs 5 with _ | c
        · have HZ : Hid (atV xs 5 = stampV 0 0) := atV_zero (by rw [atC_ok hok, hf]; rfl)
          rw [tabOf_ok hok, hf] at hb5 hc5
          simp only [Option.isSome_none, Option.getD_none] at hb5 hc5
          subst hb5 hc5
          clear h hb0 hc0 hb1 hc1 hb2 hc2 hb3 hc3 hb4 hc4
          go_enter Try.func32, Try.ntmps32
          go_wp2_with fail
          refine hT.mono ?_
          rintro e w1 ⟨rfl, hb1⟩
          have hB1 : Below w.heap.size w w1 := B0.trans (hb1.mono (by simp))
          have S1 := (Blk.new w _ _).below hb1 (by simp)
          obtain ⟨r1, f1⟩ := S1.rules
          have hz := S1.lt
          clear hb1 hT B0
          go_wp2_with (first | (go_at_call 51; refine (iKey_any 5 _).mono ?_; rw [hkey]; rintro e w' ⟨rfl, rfl⟩))
          refine bodyPost_ret (v := stampV 0 0) ?_ rfl ⟨by rw [HZ.out], ?_⟩
          · refine Blk.gen (B := w.heap.size) (vs := #[.int .i64 0, .int .i64 0]) (T := 24) ?_ (P := fun W => (results Try.f32 _).run Try.prog W = .ok _ W) ?_
            · first | exact (Blk.fill2 S1).alloc _ | exact Blk.fill2 (S1.alloc _)
            intro W hW
            obtain ⟨k, f⟩ := hW.rules
            simp [results, Try.results32, go_sem, k]
          first | exact ((hB1.setCell (by simp) _).setCell (by simp) _).alloc (by have := hB1.size; simp [World.setCell]; omega) _ | exact ((hB1.alloc hB1.size _).setCell (by simp) _).setCell (by simp) _
        · have hcb := good_tab (ok_iff.1 hok) _ _ hf
          have HZ : Hid (atV xs 5 = stampV (c / 4) (c % 4)) := by show atV xs 5 = _; simp [atV, atC_ok hok, hf]
          rw [tabOf_ok hok, hf] at hb5 hc5
          simp only [Option.isSome_some, Option.getD_some] at hb5 hc5
          subst hb5 hc5
          clear h hb0 hc0 hb1 hc1 hb2 hc2 hb3 hc3 hb4 hc4
          go_enter Try.func32, Try.ntmps32
          go_wp2_with fail
          refine hT.mono ?_
          rintro e w1 ⟨rfl, hb1⟩
          have hB1 : Below w.heap.size w w1 := B0.trans (hb1.mono (by simp))
          have S1 := (Blk.new w _ _).below hb1 (by simp)
          obtain ⟨r1, f1⟩ := S1.rules
          have hz := S1.lt
          clear hb1 hT B0
          go_wp2_with (first | (go_at_call 51; refine (iKey_any 5 _).mono ?_; rw [hkey]; rintro e w' ⟨rfl, rfl⟩))
          refine (stamp_any c _ (by omega) (by omega)).mono ?_
          rintro e w2 ⟨rfl, hb2⟩
          have S2 := (S1.alloc _).below hb2 (by simp; omega)
          have hB2 : Below w.heap.size w w2 := (hB1.alloc hB1.size _).trans (hb2.mono (by have := hB1.size; simp; omega))
          clear r1 f1 hb2
          obtain ⟨r1, f1⟩ := S2.rules
          go_wp2_with fail
          refine bodyPost_ret (v := stampV (c / 4) (c % 4)) ?_ rfl ⟨by rw [HZ.out], ?_⟩
          · refine Blk.gen (B := w.heap.size) (vs := #[.int .i64 (c / 4), .int .i64 (c % 4)]) (T := 24) ?_ (P := fun W => (results Try.f32 _).run Try.prog W = .ok _ W) ?_
            · exact Blk.fill2 S2
            intro W hW
            obtain ⟨k, f⟩ := hW.rules
            simp [results, Try.results32, go_sem, k]
          exact (hB2.setCell (by simp) _).setCell (by simp) _
end Go.Proofs.Ytmbjfgebcpjigaa
