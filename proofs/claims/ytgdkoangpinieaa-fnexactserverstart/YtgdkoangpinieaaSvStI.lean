/- ServerStart of the program. -/
import Derived.Test.YtgdkoangpinieaaSvHost
namespace Go.Proofs.Ytgdkoangpinieaa
open Go.ChangeShapes Go.WideShapes Go.ChangeAt Go.RowKit

/-- A server at first. -/
def startX (n : Int) : Sv := if 0 ≤ n ∧ n ≤ 3 then ⟨n, true, if n % 2 = 0 then [⟨1, 1⟩, ⟨0, 0⟩, ⟨1, 1⟩] else [⟨0, 0⟩, ⟨1, 1⟩, ⟨0, 0⟩], [], [], [], []⟩ else ⟨0, false, [], [], [], [], []⟩
abbrev noA : Sa := ⟨none, 0, none, 0, none, 0, none, 0, none, 0⟩
theorem rowD_nil (w : World) (base : Nat) : RowD w base (.slice none 0 0) [] := World.ownsRow_nil _ _ _ _
/-- A server without versions and debts owns its slots. -/
theorem start_own {w : World} {base : Nat} {n : Int} {up : Bool} {sl : List Sl} {pa : Option Addr} {pc : Nat} (h : RowS w base (.slice pa sl.length pc) sl) : OwnS w base ⟨n, up, sl, [], [], [], []⟩ ⟨pa, pc, none, 0, none, 0, none, 0, none, 0⟩ [] [] :=
  have hn : ∀ b, ¬ inV (.slice none 0 0) [] b := fun b hb => by
    rcases hb with hb | ⟨y, hy, _⟩
    · simp [Value.ownBlock] at hb
    · cases hy
  ⟨h, OwnV.nil _ _, OwnV.nil _ _, rowD_nil _ _, rowD_nil _ _, rfl, rfl, fun b h' => absurd h' (hn b), fun b h' => absurd h' (hn b), fun b h' => absurd h' (hn b), fun b h' => absurd h' (hn b), fun b h' => absurd h' (hn b), fun b h' => by simp [Value.ownBlock] at h'⟩
theorem sideIs {n r : Int} (h : sideOf n = r) (w : World) : Calls Try.prog 134 #[.int .i64 n] w fun e w' => e = .returned (.int .i64 r) ∧ w' = w := by rw [← h]; exact iSide_any n w

theorem iStart_no (n : Int) (w : World) (h : ¬ (0 ≤ n ∧ n ≤ 3)) : Calls Try.prog 56 #[.int .i64 n] w fun e w' => ∃ b, e = .returned (servV (startX n) b) ∧ OwnS w' w.heap.size (startX n) b [] [] ∧ Below w.heap.size w w' := by
  have hx : startX n = ⟨0, false, [], [], [], [], []⟩ := by unfold startX; rw [if_neg h]
  have hs : sideOf n = -1 := side_out n (by omega)
  have hS := fun W => sideIs hs W
  have HX : Hid (startX n = ⟨0, false, [], [], [], [], []⟩) := hx
  clear hx hs h
  go_enter Try.func56, Try.ntmps56
  go_wp2_with (first | (go_at_call 134; refine (hS _).mono ?_; rintro e w' ⟨rfl, rfl⟩))
  refine bodyPost_ret (v := .agg #[.int .i64 0, .bool false, .slice none 0 0, .slice none 0 0, .slice none 0 0, .slice none 0 0, .slice none 0 0]) ?_ rfl ⟨noA, by rw [HX.out]; rfl, ?_, ?_⟩
  · simp [results, Try.results56, go_sem]
  · rw [HX.out]; exact start_own (World.ownsRow_nil _ _ _ _)
  · exact (Below.refl _ _).alloc (Nat.le_refl _) _

set_option maxHeartbeats 2000000 in
set_option maxRecDepth 20000 in
theorem iStart0 (w : World) : Calls Try.prog 56 #[.int .i64 0] w fun e w' => ∃ b, e = .returned (servV (startX 0) b) ∧ OwnS w' w.heap.size (startX 0) b [] [] ∧ Below w.heap.size w w' := by
  have HX : Hid (startX 0 = ⟨0, true, [⟨1, 1⟩, ⟨0, 0⟩, ⟨1, 1⟩], [], [], [], []⟩) := by show _ = _; unfold startX; rfl
  have hS := fun W => sideIs (n := 0) (r := 0) (by rw [side_in]; rfl; omega; omega) W
  have R0 : Blk ((w.alloc (.cells #[.int .i64 0, .bool false, .slice none 0 0, .slice none 0 0, .slice none 0 0, .slice none 0 0, .slice none 0 0] 63)).alloc (.cells #[.slice none 0 0, .slice none 0 0, .slice none 0 0, .int .i64 0, .bool true, .int .i64 0, .int .i64 0, .int .i64 0, .int .i64 0, .int .i64 0, .int .i64 0, .slice none 0 0] 139)) w.heap.size #[.int .i64 0, .bool false, .slice none 0 0, .slice none 0 0, .slice none 0 0, .slice none 0 0, .slice none 0 0] 63 := (Blk.new w _ _).alloc _
  have H0 : Blk ((w.alloc (.cells #[.int .i64 0, .bool false, .slice none 0 0, .slice none 0 0, .slice none 0 0, .slice none 0 0, .slice none 0 0] 63)).alloc (.cells #[.slice none 0 0, .slice none 0 0, .slice none 0 0, .int .i64 0, .bool true, .int .i64 0, .int .i64 0, .int .i64 0, .int .i64 0, .int .i64 0, .int .i64 0, .slice none 0 0] 139)) (w.heap.size + 1) #[.slice none 0 0, .slice none 0 0, .slice none 0 0, .int .i64 0, .bool true, .int .i64 0, .int .i64 0, .int .i64 0, .int .i64 0, .int .i64 0, .int .i64 0, .slice none 0 0] 139 := by have := Blk.new (w.alloc (.cells #[.int .i64 0, .bool false, .slice none 0 0, .slice none 0 0, .slice none 0 0, .slice none 0 0, .slice none 0 0] 63)) #[.slice none 0 0, .slice none 0 0, .slice none 0 0, .int .i64 0, .bool true, .int .i64 0, .int .i64 0, .int .i64 0, .int .i64 0, .int .i64 0, .int .i64 0, .slice none 0 0] 139; simpa using this
  have B0 : Below w.heap.size w ((w.alloc (.cells #[.int .i64 0, .bool false, .slice none 0 0, .slice none 0 0, .slice none 0 0, .slice none 0 0, .slice none 0 0] 63)).alloc (.cells #[.slice none 0 0, .slice none 0 0, .slice none 0 0, .int .i64 0, .bool true, .int .i64 0, .int .i64 0, .int .i64 0, .int .i64 0, .int .i64 0, .int .i64 0, .slice none 0 0] 139)) := ((Below.refl _ _).alloc (Nat.le_refl _) _).alloc (by simp) _
  go_enter Try.func56, Try.ntmps56
  go_wp2_with (first | (go_at_call 134; refine (hS _).mono ?_; rintro e w' ⟨rfl, rfl⟩))
  go_loopw [11] (fun i wr => Blk wr w.heap.size #[.int .i64 0, .bool false, .slice none 0 0, .slice none 0 0, .slice none 0 0, .slice none 0 0, .slice none 0 0] 63 ∧ Below w.heap.size w wr ∧ ((i = .int .i64 0 ∧ Blk wr (w.heap.size + 1) #[.slice none 0 0, .slice none 0 0, .slice none 0 0, .int .i64 0, .bool true, .int .i64 0, .int .i64 0, .int .i64 0, .int .i64 0, .int .i64 0, .int .i64 0, .slice none 0 0] 139) ∨ (i = .int .i64 1 ∧ Blk wr (w.heap.size + 1) #[.slice none 0 0, .slice none 0 0, .slice none 0 0, .int .i64 0, .bool true, .int .i64 1, .int .i64 1, .int .i64 0, .int .i64 0, .int .i64 0, .int .i64 0, .slice none 0 0] 139) ∨ (i = .int .i64 2 ∧ Blk wr (w.heap.size + 1) #[.slice none 0 0, .slice none 0 0, .slice none 0 0, .int .i64 0, .bool true, .int .i64 1, .int .i64 1, .int .i64 0, .int .i64 0, .int .i64 0, .int .i64 0, .slice none 0 0] 139) ∨ (i = .int .i64 3 ∧ Blk wr (w.heap.size + 1) #[.slice none 0 0, .slice none 0 0, .slice none 0 0, .int .i64 0, .bool true, .int .i64 1, .int .i64 1, .int .i64 0, .int .i64 0, .int .i64 1, .int .i64 1, .slice none 0 0] 139))) (fun i _ => 3 - (intOf i).toNat)
  case atStart => exact ⟨R0, B0, .inl ⟨rfl, H0⟩⟩
  case round =>
    obtain ⟨R1, B1, hc⟩ := hrel
    clear R0 H0 B0 hS
    rcases hc with ⟨rfl, H1⟩ | ⟨rfl, H1⟩ | ⟨rfl, H1⟩ | ⟨rfl, H1⟩
    · obtain ⟨q1, g1⟩ := H1.rules
      have z1 := H1.lt
      have H2 : Blk ((wr.setCell ⟨w.heap.size + 1, 5, none⟩ (.int .i64 1)).setCell ⟨w.heap.size + 1, 6, none⟩ (.int .i64 1)) (w.heap.size + 1) #[.slice none 0 0, .slice none 0 0, .slice none 0 0, .int .i64 0, .bool true, .int .i64 1, .int .i64 1, .int .i64 0, .int .i64 0, .int .i64 0, .int .i64 0, .slice none 0 0] 139 := by
        have := (H1.set 5 (.int .i64 1)).set 6 (.int .i64 1)
        simpa using this
      have R2 := (R1.other (a := ⟨w.heap.size + 1, 5, none⟩) (by simp) (.int .i64 1)).other (a := ⟨w.heap.size + 1, 6, none⟩) (by simp) (.int .i64 1)
      have B2 := (B1.setCell (p := ⟨w.heap.size + 1, 5, none⟩) (by simp) (.int .i64 1)).setCell (p := ⟨w.heap.size + 1, 6, none⟩) (by simp) (.int .i64 1)
      clear H1 R1 B1
      go_wp2_with fail
      go_roundw
      case rel => exact ⟨R2, B2, .inr (.inl ⟨rfl, H2⟩)⟩
      case measure => simp [intOf]
    · go_wp2_with fail
      go_roundw
      case rel => exact ⟨R1, B1, .inr (.inr (.inl ⟨rfl, H1⟩))⟩
      case measure => simp [intOf]
    · obtain ⟨q1, g1⟩ := H1.rules
      have z1 := H1.lt
      have H2 : Blk ((wr.setCell ⟨w.heap.size + 1, 9, none⟩ (.int .i64 1)).setCell ⟨w.heap.size + 1, 10, none⟩ (.int .i64 1)) (w.heap.size + 1) #[.slice none 0 0, .slice none 0 0, .slice none 0 0, .int .i64 0, .bool true, .int .i64 1, .int .i64 1, .int .i64 0, .int .i64 0, .int .i64 1, .int .i64 1, .slice none 0 0] 139 := by
        have := (H1.set 9 (.int .i64 1)).set 10 (.int .i64 1)
        simpa using this
      have R2 := (R1.other (a := ⟨w.heap.size + 1, 9, none⟩) (by simp) (.int .i64 1)).other (a := ⟨w.heap.size + 1, 10, none⟩) (by simp) (.int .i64 1)
      have B2 := (B1.setCell (p := ⟨w.heap.size + 1, 9, none⟩) (by simp) (.int .i64 1)).setCell (p := ⟨w.heap.size + 1, 10, none⟩) (by simp) (.int .i64 1)
      clear H1 R1 B1
      go_wp2_with fail
      go_roundw
      case rel => exact ⟨R2, B2, .inr (.inr (.inr ⟨rfl, H2⟩))⟩
      case measure => simp [intOf]
    · obtain ⟨q1, g1⟩ := H1.rules
      have z1 := H1.lt
      go_wp2_with fail
      clear q1 g1
      refine (server_any 0 true none none none none 0 0 0 0 0 0 0 0 ⟨1, 1⟩ ⟨0, 0⟩ ⟨1, 1⟩ _).mono ?_
      rintro e w2 ⟨pa, pc, rfl, RS, hb⟩
      have R2 := R1.below hb R1.lt
      have B2 : Below w.heap.size w w2 := B1.trans (hb.mono B1.size)
      have HR : Hid (RowS w2 wr.heap.size (.slice pa 3 pc) [⟨1, 1⟩, ⟨0, 0⟩, ⟨1, 1⟩]) := RS
      have z2 := R2.lt
      have z3 := R1.lt
      clear hb R1 B1 H1 RS
      obtain ⟨q1, g1⟩ := R2.rules
      go_wp2_with fail
      refine bodyPost_ret (v := .agg #[.int .i64 0, .bool true, .slice pa 3 pc, .slice none 0 0, .slice none 0 0, .slice none 0 0, .slice none 0 0]) ?_ rfl ⟨⟨pa, pc, none, 0, none, 0, none, 0, none, 0⟩, by rw [HX.out]; rfl, ?_, fill7_below B2 (Nat.le_refl _)⟩
      · refine Blk.gen (B := w.heap.size) (vs := #[.int .i64 0, .bool true, .slice pa 3 pc, .slice none 0 0, .slice none 0 0, .slice none 0 0, .slice none 0 0]) (T := 63) ?_ (P := fun W => (results Try.f56 _).run Try.prog W = .ok _ W) ?_
        · exact Blk.fill7 R2
        intro W hW
        obtain ⟨k, f⟩ := hW.rules
        simp [results, Try.results56, go_sem, k]
      · rw [HX.out]
        exact start_own (row_mono (row_fill7 HR.out (fun j hj => by have := (HR.out.lt j hj).1; omega)) (by omega))

set_option maxHeartbeats 2000000 in
set_option maxRecDepth 20000 in
theorem iStart1 (w : World) : Calls Try.prog 56 #[.int .i64 1] w fun e w' => ∃ b, e = .returned (servV (startX 1) b) ∧ OwnS w' w.heap.size (startX 1) b [] [] ∧ Below w.heap.size w w' := by
  have HX : Hid (startX 1 = ⟨1, true, [⟨0, 0⟩, ⟨1, 1⟩, ⟨0, 0⟩], [], [], [], []⟩) := by show _ = _; unfold startX; rfl
  have hS := fun W => sideIs (n := 1) (r := 0) (by rw [side_in]; rfl; omega; omega) W
  have R0 : Blk ((w.alloc (.cells #[.int .i64 0, .bool false, .slice none 0 0, .slice none 0 0, .slice none 0 0, .slice none 0 0, .slice none 0 0] 63)).alloc (.cells #[.slice none 0 0, .slice none 0 0, .slice none 0 0, .int .i64 1, .bool true, .int .i64 0, .int .i64 0, .int .i64 0, .int .i64 0, .int .i64 0, .int .i64 0, .slice none 0 0] 139)) w.heap.size #[.int .i64 0, .bool false, .slice none 0 0, .slice none 0 0, .slice none 0 0, .slice none 0 0, .slice none 0 0] 63 := (Blk.new w _ _).alloc _
  have H0 : Blk ((w.alloc (.cells #[.int .i64 0, .bool false, .slice none 0 0, .slice none 0 0, .slice none 0 0, .slice none 0 0, .slice none 0 0] 63)).alloc (.cells #[.slice none 0 0, .slice none 0 0, .slice none 0 0, .int .i64 1, .bool true, .int .i64 0, .int .i64 0, .int .i64 0, .int .i64 0, .int .i64 0, .int .i64 0, .slice none 0 0] 139)) (w.heap.size + 1) #[.slice none 0 0, .slice none 0 0, .slice none 0 0, .int .i64 1, .bool true, .int .i64 0, .int .i64 0, .int .i64 0, .int .i64 0, .int .i64 0, .int .i64 0, .slice none 0 0] 139 := by have := Blk.new (w.alloc (.cells #[.int .i64 0, .bool false, .slice none 0 0, .slice none 0 0, .slice none 0 0, .slice none 0 0, .slice none 0 0] 63)) #[.slice none 0 0, .slice none 0 0, .slice none 0 0, .int .i64 1, .bool true, .int .i64 0, .int .i64 0, .int .i64 0, .int .i64 0, .int .i64 0, .int .i64 0, .slice none 0 0] 139; simpa using this
  have B0 : Below w.heap.size w ((w.alloc (.cells #[.int .i64 0, .bool false, .slice none 0 0, .slice none 0 0, .slice none 0 0, .slice none 0 0, .slice none 0 0] 63)).alloc (.cells #[.slice none 0 0, .slice none 0 0, .slice none 0 0, .int .i64 1, .bool true, .int .i64 0, .int .i64 0, .int .i64 0, .int .i64 0, .int .i64 0, .int .i64 0, .slice none 0 0] 139)) := ((Below.refl _ _).alloc (Nat.le_refl _) _).alloc (by simp) _
  go_enter Try.func56, Try.ntmps56
  go_wp2_with (first | (go_at_call 134; refine (hS _).mono ?_; rintro e w' ⟨rfl, rfl⟩))
  go_loopw [11] (fun i wr => Blk wr w.heap.size #[.int .i64 0, .bool false, .slice none 0 0, .slice none 0 0, .slice none 0 0, .slice none 0 0, .slice none 0 0] 63 ∧ Below w.heap.size w wr ∧ ((i = .int .i64 0 ∧ Blk wr (w.heap.size + 1) #[.slice none 0 0, .slice none 0 0, .slice none 0 0, .int .i64 1, .bool true, .int .i64 0, .int .i64 0, .int .i64 0, .int .i64 0, .int .i64 0, .int .i64 0, .slice none 0 0] 139) ∨ (i = .int .i64 1 ∧ Blk wr (w.heap.size + 1) #[.slice none 0 0, .slice none 0 0, .slice none 0 0, .int .i64 1, .bool true, .int .i64 0, .int .i64 0, .int .i64 0, .int .i64 0, .int .i64 0, .int .i64 0, .slice none 0 0] 139) ∨ (i = .int .i64 2 ∧ Blk wr (w.heap.size + 1) #[.slice none 0 0, .slice none 0 0, .slice none 0 0, .int .i64 1, .bool true, .int .i64 0, .int .i64 0, .int .i64 1, .int .i64 1, .int .i64 0, .int .i64 0, .slice none 0 0] 139) ∨ (i = .int .i64 3 ∧ Blk wr (w.heap.size + 1) #[.slice none 0 0, .slice none 0 0, .slice none 0 0, .int .i64 1, .bool true, .int .i64 0, .int .i64 0, .int .i64 1, .int .i64 1, .int .i64 0, .int .i64 0, .slice none 0 0] 139))) (fun i _ => 3 - (intOf i).toNat)
  case atStart => exact ⟨R0, B0, .inl ⟨rfl, H0⟩⟩
  case round =>
    obtain ⟨R1, B1, hc⟩ := hrel
    clear R0 H0 B0 hS
    rcases hc with ⟨rfl, H1⟩ | ⟨rfl, H1⟩ | ⟨rfl, H1⟩ | ⟨rfl, H1⟩
    · go_wp2_with fail
      go_roundw
      case rel => exact ⟨R1, B1, .inr (.inl ⟨rfl, H1⟩)⟩
      case measure => simp [intOf]
    · obtain ⟨q1, g1⟩ := H1.rules
      have z1 := H1.lt
      have H2 : Blk ((wr.setCell ⟨w.heap.size + 1, 7, none⟩ (.int .i64 1)).setCell ⟨w.heap.size + 1, 8, none⟩ (.int .i64 1)) (w.heap.size + 1) #[.slice none 0 0, .slice none 0 0, .slice none 0 0, .int .i64 1, .bool true, .int .i64 0, .int .i64 0, .int .i64 1, .int .i64 1, .int .i64 0, .int .i64 0, .slice none 0 0] 139 := by
        have := (H1.set 7 (.int .i64 1)).set 8 (.int .i64 1)
        simpa using this
      have R2 := (R1.other (a := ⟨w.heap.size + 1, 7, none⟩) (by simp) (.int .i64 1)).other (a := ⟨w.heap.size + 1, 8, none⟩) (by simp) (.int .i64 1)
      have B2 := (B1.setCell (p := ⟨w.heap.size + 1, 7, none⟩) (by simp) (.int .i64 1)).setCell (p := ⟨w.heap.size + 1, 8, none⟩) (by simp) (.int .i64 1)
      clear H1 R1 B1
      go_wp2_with fail
      go_roundw
      case rel => exact ⟨R2, B2, .inr (.inr (.inl ⟨rfl, H2⟩))⟩
      case measure => simp [intOf]
    · go_wp2_with fail
      go_roundw
      case rel => exact ⟨R1, B1, .inr (.inr (.inr ⟨rfl, H1⟩))⟩
      case measure => simp [intOf]
    · obtain ⟨q1, g1⟩ := H1.rules
      have z1 := H1.lt
      go_wp2_with fail
      clear q1 g1
      refine (server_any 1 true none none none none 0 0 0 0 0 0 0 0 ⟨0, 0⟩ ⟨1, 1⟩ ⟨0, 0⟩ _).mono ?_
      rintro e w2 ⟨pa, pc, rfl, RS, hb⟩
      have R2 := R1.below hb R1.lt
      have B2 : Below w.heap.size w w2 := B1.trans (hb.mono B1.size)
      have HR : Hid (RowS w2 wr.heap.size (.slice pa 3 pc) [⟨0, 0⟩, ⟨1, 1⟩, ⟨0, 0⟩]) := RS
      have z2 := R2.lt
      have z3 := R1.lt
      clear hb R1 B1 H1 RS
      obtain ⟨q1, g1⟩ := R2.rules
      go_wp2_with fail
      refine bodyPost_ret (v := .agg #[.int .i64 1, .bool true, .slice pa 3 pc, .slice none 0 0, .slice none 0 0, .slice none 0 0, .slice none 0 0]) ?_ rfl ⟨⟨pa, pc, none, 0, none, 0, none, 0, none, 0⟩, by rw [HX.out]; rfl, ?_, fill7_below B2 (Nat.le_refl _)⟩
      · refine Blk.gen (B := w.heap.size) (vs := #[.int .i64 1, .bool true, .slice pa 3 pc, .slice none 0 0, .slice none 0 0, .slice none 0 0, .slice none 0 0]) (T := 63) ?_ (P := fun W => (results Try.f56 _).run Try.prog W = .ok _ W) ?_
        · exact Blk.fill7 R2
        intro W hW
        obtain ⟨k, f⟩ := hW.rules
        simp [results, Try.results56, go_sem, k]
      · rw [HX.out]
        exact start_own (row_mono (row_fill7 HR.out (fun j hj => by have := (HR.out.lt j hj).1; omega)) (by omega))

set_option maxHeartbeats 2000000 in
set_option maxRecDepth 20000 in
theorem iStart2 (w : World) : Calls Try.prog 56 #[.int .i64 2] w fun e w' => ∃ b, e = .returned (servV (startX 2) b) ∧ OwnS w' w.heap.size (startX 2) b [] [] ∧ Below w.heap.size w w' := by
  have HX : Hid (startX 2 = ⟨2, true, [⟨1, 1⟩, ⟨0, 0⟩, ⟨1, 1⟩], [], [], [], []⟩) := by show _ = _; unfold startX; rfl
  have hS := fun W => sideIs (n := 2) (r := 1) (by rw [side_in]; rfl; omega; omega) W
  have R0 : Blk ((w.alloc (.cells #[.int .i64 0, .bool false, .slice none 0 0, .slice none 0 0, .slice none 0 0, .slice none 0 0, .slice none 0 0] 63)).alloc (.cells #[.slice none 0 0, .slice none 0 0, .slice none 0 0, .int .i64 2, .bool true, .int .i64 0, .int .i64 0, .int .i64 0, .int .i64 0, .int .i64 0, .int .i64 0, .slice none 0 0] 139)) w.heap.size #[.int .i64 0, .bool false, .slice none 0 0, .slice none 0 0, .slice none 0 0, .slice none 0 0, .slice none 0 0] 63 := (Blk.new w _ _).alloc _
  have H0 : Blk ((w.alloc (.cells #[.int .i64 0, .bool false, .slice none 0 0, .slice none 0 0, .slice none 0 0, .slice none 0 0, .slice none 0 0] 63)).alloc (.cells #[.slice none 0 0, .slice none 0 0, .slice none 0 0, .int .i64 2, .bool true, .int .i64 0, .int .i64 0, .int .i64 0, .int .i64 0, .int .i64 0, .int .i64 0, .slice none 0 0] 139)) (w.heap.size + 1) #[.slice none 0 0, .slice none 0 0, .slice none 0 0, .int .i64 2, .bool true, .int .i64 0, .int .i64 0, .int .i64 0, .int .i64 0, .int .i64 0, .int .i64 0, .slice none 0 0] 139 := by have := Blk.new (w.alloc (.cells #[.int .i64 0, .bool false, .slice none 0 0, .slice none 0 0, .slice none 0 0, .slice none 0 0, .slice none 0 0] 63)) #[.slice none 0 0, .slice none 0 0, .slice none 0 0, .int .i64 2, .bool true, .int .i64 0, .int .i64 0, .int .i64 0, .int .i64 0, .int .i64 0, .int .i64 0, .slice none 0 0] 139; simpa using this
  have B0 : Below w.heap.size w ((w.alloc (.cells #[.int .i64 0, .bool false, .slice none 0 0, .slice none 0 0, .slice none 0 0, .slice none 0 0, .slice none 0 0] 63)).alloc (.cells #[.slice none 0 0, .slice none 0 0, .slice none 0 0, .int .i64 2, .bool true, .int .i64 0, .int .i64 0, .int .i64 0, .int .i64 0, .int .i64 0, .int .i64 0, .slice none 0 0] 139)) := ((Below.refl _ _).alloc (Nat.le_refl _) _).alloc (by simp) _
  go_enter Try.func56, Try.ntmps56
  go_wp2_with (first | (go_at_call 134; refine (hS _).mono ?_; rintro e w' ⟨rfl, rfl⟩))
  go_loopw [11] (fun i wr => Blk wr w.heap.size #[.int .i64 0, .bool false, .slice none 0 0, .slice none 0 0, .slice none 0 0, .slice none 0 0, .slice none 0 0] 63 ∧ Below w.heap.size w wr ∧ ((i = .int .i64 0 ∧ Blk wr (w.heap.size + 1) #[.slice none 0 0, .slice none 0 0, .slice none 0 0, .int .i64 2, .bool true, .int .i64 0, .int .i64 0, .int .i64 0, .int .i64 0, .int .i64 0, .int .i64 0, .slice none 0 0] 139) ∨ (i = .int .i64 1 ∧ Blk wr (w.heap.size + 1) #[.slice none 0 0, .slice none 0 0, .slice none 0 0, .int .i64 2, .bool true, .int .i64 1, .int .i64 1, .int .i64 0, .int .i64 0, .int .i64 0, .int .i64 0, .slice none 0 0] 139) ∨ (i = .int .i64 2 ∧ Blk wr (w.heap.size + 1) #[.slice none 0 0, .slice none 0 0, .slice none 0 0, .int .i64 2, .bool true, .int .i64 1, .int .i64 1, .int .i64 0, .int .i64 0, .int .i64 0, .int .i64 0, .slice none 0 0] 139) ∨ (i = .int .i64 3 ∧ Blk wr (w.heap.size + 1) #[.slice none 0 0, .slice none 0 0, .slice none 0 0, .int .i64 2, .bool true, .int .i64 1, .int .i64 1, .int .i64 0, .int .i64 0, .int .i64 1, .int .i64 1, .slice none 0 0] 139))) (fun i _ => 3 - (intOf i).toNat)
  case atStart => exact ⟨R0, B0, .inl ⟨rfl, H0⟩⟩
  case round =>
    obtain ⟨R1, B1, hc⟩ := hrel
    clear R0 H0 B0 hS
    rcases hc with ⟨rfl, H1⟩ | ⟨rfl, H1⟩ | ⟨rfl, H1⟩ | ⟨rfl, H1⟩
    · obtain ⟨q1, g1⟩ := H1.rules
      have z1 := H1.lt
      have H2 : Blk ((wr.setCell ⟨w.heap.size + 1, 5, none⟩ (.int .i64 1)).setCell ⟨w.heap.size + 1, 6, none⟩ (.int .i64 1)) (w.heap.size + 1) #[.slice none 0 0, .slice none 0 0, .slice none 0 0, .int .i64 2, .bool true, .int .i64 1, .int .i64 1, .int .i64 0, .int .i64 0, .int .i64 0, .int .i64 0, .slice none 0 0] 139 := by
        have := (H1.set 5 (.int .i64 1)).set 6 (.int .i64 1)
        simpa using this
      have R2 := (R1.other (a := ⟨w.heap.size + 1, 5, none⟩) (by simp) (.int .i64 1)).other (a := ⟨w.heap.size + 1, 6, none⟩) (by simp) (.int .i64 1)
      have B2 := (B1.setCell (p := ⟨w.heap.size + 1, 5, none⟩) (by simp) (.int .i64 1)).setCell (p := ⟨w.heap.size + 1, 6, none⟩) (by simp) (.int .i64 1)
      clear H1 R1 B1
      go_wp2_with fail
      go_roundw
      case rel => exact ⟨R2, B2, .inr (.inl ⟨rfl, H2⟩)⟩
      case measure => simp [intOf]
    · go_wp2_with fail
      go_roundw
      case rel => exact ⟨R1, B1, .inr (.inr (.inl ⟨rfl, H1⟩))⟩
      case measure => simp [intOf]
    · obtain ⟨q1, g1⟩ := H1.rules
      have z1 := H1.lt
      have H2 : Blk ((wr.setCell ⟨w.heap.size + 1, 9, none⟩ (.int .i64 1)).setCell ⟨w.heap.size + 1, 10, none⟩ (.int .i64 1)) (w.heap.size + 1) #[.slice none 0 0, .slice none 0 0, .slice none 0 0, .int .i64 2, .bool true, .int .i64 1, .int .i64 1, .int .i64 0, .int .i64 0, .int .i64 1, .int .i64 1, .slice none 0 0] 139 := by
        have := (H1.set 9 (.int .i64 1)).set 10 (.int .i64 1)
        simpa using this
      have R2 := (R1.other (a := ⟨w.heap.size + 1, 9, none⟩) (by simp) (.int .i64 1)).other (a := ⟨w.heap.size + 1, 10, none⟩) (by simp) (.int .i64 1)
      have B2 := (B1.setCell (p := ⟨w.heap.size + 1, 9, none⟩) (by simp) (.int .i64 1)).setCell (p := ⟨w.heap.size + 1, 10, none⟩) (by simp) (.int .i64 1)
      clear H1 R1 B1
      go_wp2_with fail
      go_roundw
      case rel => exact ⟨R2, B2, .inr (.inr (.inr ⟨rfl, H2⟩))⟩
      case measure => simp [intOf]
    · obtain ⟨q1, g1⟩ := H1.rules
      have z1 := H1.lt
      go_wp2_with fail
      clear q1 g1
      refine (server_any 2 true none none none none 0 0 0 0 0 0 0 0 ⟨1, 1⟩ ⟨0, 0⟩ ⟨1, 1⟩ _).mono ?_
      rintro e w2 ⟨pa, pc, rfl, RS, hb⟩
      have R2 := R1.below hb R1.lt
      have B2 : Below w.heap.size w w2 := B1.trans (hb.mono B1.size)
      have HR : Hid (RowS w2 wr.heap.size (.slice pa 3 pc) [⟨1, 1⟩, ⟨0, 0⟩, ⟨1, 1⟩]) := RS
      have z2 := R2.lt
      have z3 := R1.lt
      clear hb R1 B1 H1 RS
      obtain ⟨q1, g1⟩ := R2.rules
      go_wp2_with fail
      refine bodyPost_ret (v := .agg #[.int .i64 2, .bool true, .slice pa 3 pc, .slice none 0 0, .slice none 0 0, .slice none 0 0, .slice none 0 0]) ?_ rfl ⟨⟨pa, pc, none, 0, none, 0, none, 0, none, 0⟩, by rw [HX.out]; rfl, ?_, fill7_below B2 (Nat.le_refl _)⟩
      · refine Blk.gen (B := w.heap.size) (vs := #[.int .i64 2, .bool true, .slice pa 3 pc, .slice none 0 0, .slice none 0 0, .slice none 0 0, .slice none 0 0]) (T := 63) ?_ (P := fun W => (results Try.f56 _).run Try.prog W = .ok _ W) ?_
        · exact Blk.fill7 R2
        intro W hW
        obtain ⟨k, f⟩ := hW.rules
        simp [results, Try.results56, go_sem, k]
      · rw [HX.out]
        exact start_own (row_mono (row_fill7 HR.out (fun j hj => by have := (HR.out.lt j hj).1; omega)) (by omega))

set_option maxHeartbeats 2000000 in
set_option maxRecDepth 20000 in
theorem iStart3 (w : World) : Calls Try.prog 56 #[.int .i64 3] w fun e w' => ∃ b, e = .returned (servV (startX 3) b) ∧ OwnS w' w.heap.size (startX 3) b [] [] ∧ Below w.heap.size w w' := by
  have HX : Hid (startX 3 = ⟨3, true, [⟨0, 0⟩, ⟨1, 1⟩, ⟨0, 0⟩], [], [], [], []⟩) := by show _ = _; unfold startX; rfl
  have hS := fun W => sideIs (n := 3) (r := 1) (by rw [side_in]; rfl; omega; omega) W
  have R0 : Blk ((w.alloc (.cells #[.int .i64 0, .bool false, .slice none 0 0, .slice none 0 0, .slice none 0 0, .slice none 0 0, .slice none 0 0] 63)).alloc (.cells #[.slice none 0 0, .slice none 0 0, .slice none 0 0, .int .i64 3, .bool true, .int .i64 0, .int .i64 0, .int .i64 0, .int .i64 0, .int .i64 0, .int .i64 0, .slice none 0 0] 139)) w.heap.size #[.int .i64 0, .bool false, .slice none 0 0, .slice none 0 0, .slice none 0 0, .slice none 0 0, .slice none 0 0] 63 := (Blk.new w _ _).alloc _
  have H0 : Blk ((w.alloc (.cells #[.int .i64 0, .bool false, .slice none 0 0, .slice none 0 0, .slice none 0 0, .slice none 0 0, .slice none 0 0] 63)).alloc (.cells #[.slice none 0 0, .slice none 0 0, .slice none 0 0, .int .i64 3, .bool true, .int .i64 0, .int .i64 0, .int .i64 0, .int .i64 0, .int .i64 0, .int .i64 0, .slice none 0 0] 139)) (w.heap.size + 1) #[.slice none 0 0, .slice none 0 0, .slice none 0 0, .int .i64 3, .bool true, .int .i64 0, .int .i64 0, .int .i64 0, .int .i64 0, .int .i64 0, .int .i64 0, .slice none 0 0] 139 := by have := Blk.new (w.alloc (.cells #[.int .i64 0, .bool false, .slice none 0 0, .slice none 0 0, .slice none 0 0, .slice none 0 0, .slice none 0 0] 63)) #[.slice none 0 0, .slice none 0 0, .slice none 0 0, .int .i64 3, .bool true, .int .i64 0, .int .i64 0, .int .i64 0, .int .i64 0, .int .i64 0, .int .i64 0, .slice none 0 0] 139; simpa using this
  have B0 : Below w.heap.size w ((w.alloc (.cells #[.int .i64 0, .bool false, .slice none 0 0, .slice none 0 0, .slice none 0 0, .slice none 0 0, .slice none 0 0] 63)).alloc (.cells #[.slice none 0 0, .slice none 0 0, .slice none 0 0, .int .i64 3, .bool true, .int .i64 0, .int .i64 0, .int .i64 0, .int .i64 0, .int .i64 0, .int .i64 0, .slice none 0 0] 139)) := ((Below.refl _ _).alloc (Nat.le_refl _) _).alloc (by simp) _
  go_enter Try.func56, Try.ntmps56
  go_wp2_with (first | (go_at_call 134; refine (hS _).mono ?_; rintro e w' ⟨rfl, rfl⟩))
  go_loopw [11] (fun i wr => Blk wr w.heap.size #[.int .i64 0, .bool false, .slice none 0 0, .slice none 0 0, .slice none 0 0, .slice none 0 0, .slice none 0 0] 63 ∧ Below w.heap.size w wr ∧ ((i = .int .i64 0 ∧ Blk wr (w.heap.size + 1) #[.slice none 0 0, .slice none 0 0, .slice none 0 0, .int .i64 3, .bool true, .int .i64 0, .int .i64 0, .int .i64 0, .int .i64 0, .int .i64 0, .int .i64 0, .slice none 0 0] 139) ∨ (i = .int .i64 1 ∧ Blk wr (w.heap.size + 1) #[.slice none 0 0, .slice none 0 0, .slice none 0 0, .int .i64 3, .bool true, .int .i64 0, .int .i64 0, .int .i64 0, .int .i64 0, .int .i64 0, .int .i64 0, .slice none 0 0] 139) ∨ (i = .int .i64 2 ∧ Blk wr (w.heap.size + 1) #[.slice none 0 0, .slice none 0 0, .slice none 0 0, .int .i64 3, .bool true, .int .i64 0, .int .i64 0, .int .i64 1, .int .i64 1, .int .i64 0, .int .i64 0, .slice none 0 0] 139) ∨ (i = .int .i64 3 ∧ Blk wr (w.heap.size + 1) #[.slice none 0 0, .slice none 0 0, .slice none 0 0, .int .i64 3, .bool true, .int .i64 0, .int .i64 0, .int .i64 1, .int .i64 1, .int .i64 0, .int .i64 0, .slice none 0 0] 139))) (fun i _ => 3 - (intOf i).toNat)
  case atStart => exact ⟨R0, B0, .inl ⟨rfl, H0⟩⟩
  case round =>
    obtain ⟨R1, B1, hc⟩ := hrel
    clear R0 H0 B0 hS
    rcases hc with ⟨rfl, H1⟩ | ⟨rfl, H1⟩ | ⟨rfl, H1⟩ | ⟨rfl, H1⟩
    · go_wp2_with fail
      go_roundw
      case rel => exact ⟨R1, B1, .inr (.inl ⟨rfl, H1⟩)⟩
      case measure => simp [intOf]
    · obtain ⟨q1, g1⟩ := H1.rules
      have z1 := H1.lt
      have H2 : Blk ((wr.setCell ⟨w.heap.size + 1, 7, none⟩ (.int .i64 1)).setCell ⟨w.heap.size + 1, 8, none⟩ (.int .i64 1)) (w.heap.size + 1) #[.slice none 0 0, .slice none 0 0, .slice none 0 0, .int .i64 3, .bool true, .int .i64 0, .int .i64 0, .int .i64 1, .int .i64 1, .int .i64 0, .int .i64 0, .slice none 0 0] 139 := by
        have := (H1.set 7 (.int .i64 1)).set 8 (.int .i64 1)
        simpa using this
      have R2 := (R1.other (a := ⟨w.heap.size + 1, 7, none⟩) (by simp) (.int .i64 1)).other (a := ⟨w.heap.size + 1, 8, none⟩) (by simp) (.int .i64 1)
      have B2 := (B1.setCell (p := ⟨w.heap.size + 1, 7, none⟩) (by simp) (.int .i64 1)).setCell (p := ⟨w.heap.size + 1, 8, none⟩) (by simp) (.int .i64 1)
      clear H1 R1 B1
      go_wp2_with fail
      go_roundw
      case rel => exact ⟨R2, B2, .inr (.inr (.inl ⟨rfl, H2⟩))⟩
      case measure => simp [intOf]
    · go_wp2_with fail
      go_roundw
      case rel => exact ⟨R1, B1, .inr (.inr (.inr ⟨rfl, H1⟩))⟩
      case measure => simp [intOf]
    · obtain ⟨q1, g1⟩ := H1.rules
      have z1 := H1.lt
      go_wp2_with fail
      clear q1 g1
      refine (server_any 3 true none none none none 0 0 0 0 0 0 0 0 ⟨0, 0⟩ ⟨1, 1⟩ ⟨0, 0⟩ _).mono ?_
      rintro e w2 ⟨pa, pc, rfl, RS, hb⟩
      have R2 := R1.below hb R1.lt
      have B2 : Below w.heap.size w w2 := B1.trans (hb.mono B1.size)
      have HR : Hid (RowS w2 wr.heap.size (.slice pa 3 pc) [⟨0, 0⟩, ⟨1, 1⟩, ⟨0, 0⟩]) := RS
      have z2 := R2.lt
      have z3 := R1.lt
      clear hb R1 B1 H1 RS
      obtain ⟨q1, g1⟩ := R2.rules
      go_wp2_with fail
      refine bodyPost_ret (v := .agg #[.int .i64 3, .bool true, .slice pa 3 pc, .slice none 0 0, .slice none 0 0, .slice none 0 0, .slice none 0 0]) ?_ rfl ⟨⟨pa, pc, none, 0, none, 0, none, 0, none, 0⟩, by rw [HX.out]; rfl, ?_, fill7_below B2 (Nat.le_refl _)⟩
      · refine Blk.gen (B := w.heap.size) (vs := #[.int .i64 3, .bool true, .slice pa 3 pc, .slice none 0 0, .slice none 0 0, .slice none 0 0, .slice none 0 0]) (T := 63) ?_ (P := fun W => (results Try.f56 _).run Try.prog W = .ok _ W) ?_
        · exact Blk.fill7 R2
        intro W hW
        obtain ⟨k, f⟩ := hW.rules
        simp [results, Try.results56, go_sem, k]
      · rw [HX.out]
        exact start_own (row_mono (row_fill7 HR.out (fun j hj => by have := (HR.out.lt j hj).1; omega)) (by omega))

theorem iStart_any (n : Int) (w : World) : Calls Try.prog 56 #[.int .i64 n] w fun e w' => ∃ b, e = .returned (servV (startX n) b) ∧ OwnS w' w.heap.size (startX n) b [] [] ∧ Below w.heap.size w w' := by
  by_cases h : 0 ≤ n ∧ n ≤ 3
  · have : n = 0 ∨ n = 1 ∨ n = 2 ∨ n = 3 := by omega
    rcases this with rfl | rfl | rfl | rfl
    · exact iStart0 w
    · exact iStart1 w
    · exact iStart2 w
    · exact iStart3 w
  · exact iStart_no n w h
end Go.Proofs.Ytgdkoangpinieaa
