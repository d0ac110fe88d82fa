/- 5 texts in one: SvStI, SvCopyS, SvFall, SvFallS, XSFall. -/
import Derived.Test.YtgdkoangpinieaaSvHost
import Derived.Test.YtgdkoangpinieaaGAJ
import Derived.Test.YtgdkoangpinieaaSvHostOf
import Derived.Test.YtgdkoangpinieaaSvOkS
import Derived.Test.YtgdkoangpinieaaGSX
/- ServerStart of the program. -/
namespace Go.Proofs.Ytgdkoangpinieaa
open Go.ChangeShapes Go.WideShapes Go.ChangeAt Go.RowKit

/-- A server at first. -/
def startX (n : Int) : Sv := if 0 ≤ n ∧ n ≤ 3 then ⟨n, true, if n % 2 = 0 then [⟨1, 1⟩, ⟨0, 0⟩, ⟨1, 1⟩] else [⟨0, 0⟩, ⟨1, 1⟩, ⟨0, 0⟩], [], [], [], []⟩ else ⟨0, false, [], [], [], [], []⟩
abbrev noA : Sa := ⟨none, 0, none, 0, none, 0, none, 0, none, 0⟩
theorem rowD_nil (w : World) (base : Nat) : RowD w base (.slice none 0 0) [] := World.ownsRow_nil _ _ _ _
/-- A server without versions and debts owns its slots. -/
theorem start_own {w : World} {base : Nat} {n : Int} {up : Bool} {sl : List Sl} {pa : Option Addr} {pc : Nat} (h : RowS w base (.slice pa sl.length pc) sl) : OwnS w base ⟨n, up, sl, [], [], [], []⟩ ⟨pa, pc, none, 0, none, 0, none, 0, none, 0⟩ [] [] :=
  have hn : ∀ b, ¬ inV (.slice none 0 0) [] b := fun b hb => by
    rcases hb with hb | ⟨y, hy, _⟩
    · simp [Value.ownBlock] at hb
    · cases hy
  ⟨h, OwnV.nil _ _, OwnV.nil _ _, rowD_nil _ _, rowD_nil _ _, rfl, rfl, fun b h' => absurd h' (hn b), fun b h' => absurd h' (hn b), fun b h' => absurd h' (hn b), fun b h' => absurd h' (hn b), fun b h' => absurd h' (hn b), fun b h' => by simp [Value.ownBlock] at h'⟩
theorem sideIs {n r : Int} (h : sideOf n = r) (w : World) : Calls Try.prog 134 #[.int .i64 n] w fun e w' => e = .returned (.int .i64 r) ∧ w' = w := by rw [← h]; exact iSide_any n w

theorem iStart_no (n : Int) (w : World) (h : ¬ (0 ≤ n ∧ n ≤ 3)) : Calls Try.prog 56 #[.int .i64 n] w fun e w' => ∃ b, e = .returned (servV (startX n) b) ∧ OwnS w' w.heap.size (startX n) b [] [] ∧ Below w.heap.size w w' := by
  have hx : startX n = ⟨0, false, [], [], [], [], []⟩ := by unfold startX; rw [if_neg h]
  have hs : sideOf n = -1 := side_out n (by omega)
  have hS := fun W => sideIs hs W
  have HX : Hid (startX n = ⟨0, false, [], [], [], [], []⟩) := hx
  clear hx hs h
  go_enter Try.func56, Try.ntmps56
  go_wp2_with (first | (go_at_call 134; refine (hS _).mono ?_; rintro e w' ⟨rfl, rfl⟩))
  refine bodyPost_ret (v := .agg #[.int .i64 0, .bool false, .slice none 0 0, .slice none 0 0, .slice none 0 0, .slice none 0 0, .slice none 0 0]) ?_ rfl ⟨noA, by rw [HX.out]; rfl, ?_, ?_⟩
  · simp [results, Try.results56, go_sem]
  · rw [HX.out]; exact start_own (World.ownsRow_nil _ _ _ _)
  · exact (Below.refl _ _).alloc (Nat.le_refl _) _

set_option maxHeartbeats 2000000 in
set_option maxRecDepth 20000 in
theorem iStart0 (w : World) : Calls Try.prog 56 #[.int .i64 0] w fun e w' => ∃ b, e = .returned (servV (startX 0) b) ∧ OwnS w' w.heap.size (startX 0) b [] [] ∧ Below w.heap.size w w' := by
  have HX : Hid (startX 0 = ⟨0, true, [⟨1, 1⟩, ⟨0, 0⟩, ⟨1, 1⟩], [], [], [], []⟩) := by show _ = _; unfold startX; rfl
  have hS := fun W => sideIs (n := 0) (r := 0) (by rw [side_in]; rfl; omega; omega) W
  have R0 : Blk ((w.alloc (.cells #[.int .i64 0, .bool false, .slice none 0 0, .slice none 0 0, .slice none 0 0, .slice none 0 0, .slice none 0 0] 63)).alloc (.cells #[.slice none 0 0, .slice none 0 0, .slice none 0 0, .int .i64 0, .bool true, .int .i64 0, .int .i64 0, .int .i64 0, .int .i64 0, .int .i64 0, .int .i64 0, .slice none 0 0] 139)) w.heap.size #[.int .i64 0, .bool false, .slice none 0 0, .slice none 0 0, .slice none 0 0, .slice none 0 0, .slice none 0 0] 63 := (Blk.new w _ _).alloc _
  have H0 : Blk ((w.alloc (.cells #[.int .i64 0, .bool false, .slice none 0 0, .slice none 0 0, .slice none 0 0, .slice none 0 0, .slice none 0 0] 63)).alloc (.cells #[.slice none 0 0, .slice none 0 0, .slice none 0 0, .int .i64 0, .bool true, .int .i64 0, .int .i64 0, .int .i64 0, .int .i64 0, .int .i64 0, .int .i64 0, .slice none 0 0] 139)) (w.heap.size + 1) #[.slice none 0 0, .slice none 0 0, .slice none 0 0, .int .i64 0, .bool true, .int .i64 0, .int .i64 0, .int .i64 0, .int .i64 0, .int .i64 0, .int .i64 0, .slice none 0 0] 139 := by have := Blk.new (w.alloc (.cells #[.int .i64 0, .bool false, .slice none 0 0, .slice none 0 0, .slice none 0 0, .slice none 0 0, .slice none 0 0] 63)) #[.slice none 0 0, .slice none 0 0, .slice none 0 0, .int .i64 0, .bool true, .int .i64 0, .int .i64 0, .int .i64 0, .int .i64 0, .int .i64 0, .int .i64 0, .slice none 0 0] 139; simpa using this
  have B0 : Below w.heap.size w ((w.alloc (.cells #[.int .i64 0, .bool false, .slice none 0 0, .slice none 0 0, .slice none 0 0, .slice none 0 0, .slice none 0 0] 63)).alloc (.cells #[.slice none 0 0, .slice none 0 0, .slice none 0 0, .int .i64 0, .bool true, .int .i64 0, .int .i64 0, .int .i64 0, .int .i64 0, .int .i64 0, .int .i64 0, .slice none 0 0] 139)) := ((Below.refl _ _).alloc (Nat.le_refl _) _).alloc (by simp) _
  go_enter Try.func56, Try.ntmps56
  go_wp2_with (first | (go_at_call 134; refine (hS _).mono ?_; rintro e w' ⟨rfl, rfl⟩))
  go_loopw [11] (fun i wr => Blk wr w.heap.size #[.int .i64 0, .bool false, .slice none 0 0, .slice none 0 0, .slice none 0 0, .slice none 0 0, .slice none 0 0] 63 ∧ Below w.heap.size w wr ∧ ((i = .int .i64 0 ∧ Blk wr (w.heap.size + 1) #[.slice none 0 0, .slice none 0 0, .slice none 0 0, .int .i64 0, .bool true, .int .i64 0, .int .i64 0, .int .i64 0, .int .i64 0, .int .i64 0, .int .i64 0, .slice none 0 0] 139) ∨ (i = .int .i64 1 ∧ Blk wr (w.heap.size + 1) #[.slice none 0 0, .slice none 0 0, .slice none 0 0, .int .i64 0, .bool true, .int .i64 1, .int .i64 1, .int .i64 0, .int .i64 0, .int .i64 0, .int .i64 0, .slice none 0 0] 139) ∨ (i = .int .i64 2 ∧ Blk wr (w.heap.size + 1) #[.slice none 0 0, .slice none 0 0, .slice none 0 0, .int .i64 0, .bool true, .int .i64 1, .int .i64 1, .int .i64 0, .int .i64 0, .int .i64 0, .int .i64 0, .slice none 0 0] 139) ∨ (i = .int .i64 3 ∧ Blk wr (w.heap.size + 1) #[.slice none 0 0, .slice none 0 0, .slice none 0 0, .int .i64 0, .bool true, .int .i64 1, .int .i64 1, .int .i64 0, .int .i64 0, .int .i64 1, .int .i64 1, .slice none 0 0] 139))) (fun i _ => 3 - (intOf i).toNat)
  case atStart => exact ⟨R0, B0, .inl ⟨rfl, H0⟩⟩
  case round =>
    obtain ⟨R1, B1, hc⟩ := hrel
    clear R0 H0 B0 hS
    rcases hc with ⟨rfl, H1⟩ | ⟨rfl, H1⟩ | ⟨rfl, H1⟩ | ⟨rfl, H1⟩
    · obtain ⟨q1, g1⟩ := H1.rules
      have z1 := H1.lt
      have H2 : Blk ((wr.setCell ⟨w.heap.size + 1, 5, none⟩ (.int .i64 1)).setCell ⟨w.heap.size + 1, 6, none⟩ (.int .i64 1)) (w.heap.size + 1) #[.slice none 0 0, .slice none 0 0, .slice none 0 0, .int .i64 0, .bool true, .int .i64 1, .int .i64 1, .int .i64 0, .int .i64 0, .int .i64 0, .int .i64 0, .slice none 0 0] 139 := by
        have := (H1.set 5 (.int .i64 1)).set 6 (.int .i64 1)
        simpa using this
      have R2 := (R1.other (a := ⟨w.heap.size + 1, 5, none⟩) (by simp) (.int .i64 1)).other (a := ⟨w.heap.size + 1, 6, none⟩) (by simp) (.int .i64 1)
      have B2 := (B1.setCell (p := ⟨w.heap.size + 1, 5, none⟩) (by simp) (.int .i64 1)).setCell (p := ⟨w.heap.size + 1, 6, none⟩) (by simp) (.int .i64 1)
      clear H1 R1 B1
      go_wp2_with fail
      go_roundw
      case rel => exact ⟨R2, B2, .inr (.inl ⟨rfl, H2⟩)⟩
      case measure => simp [intOf]
    · go_wp2_with fail
      go_roundw
      case rel => exact ⟨R1, B1, .inr (.inr (.inl ⟨rfl, H1⟩))⟩
      case measure => simp [intOf]
    · obtain ⟨q1, g1⟩ := H1.rules
      have z1 := H1.lt
      have H2 : Blk ((wr.setCell ⟨w.heap.size + 1, 9, none⟩ (.int .i64 1)).setCell ⟨w.heap.size + 1, 10, none⟩ (.int .i64 1)) (w.heap.size + 1) #[.slice none 0 0, .slice none 0 0, .slice none 0 0, .int .i64 0, .bool true, .int .i64 1, .int .i64 1, .int .i64 0, .int .i64 0, .int .i64 1, .int .i64 1, .slice none 0 0] 139 := by
        have := (H1.set 9 (.int .i64 1)).set 10 (.int .i64 1)
        simpa using this
      have R2 := (R1.other (a := ⟨w.heap.size + 1, 9, none⟩) (by simp) (.int .i64 1)).other (a := ⟨w.heap.size + 1, 10, none⟩) (by simp) (.int .i64 1)
      have B2 := (B1.setCell (p := ⟨w.heap.size + 1, 9, none⟩) (by simp) (.int .i64 1)).setCell (p := ⟨w.heap.size + 1, 10, none⟩) (by simp) (.int .i64 1)
      clear H1 R1 B1
      go_wp2_with fail
      go_roundw
      case rel => exact ⟨R2, B2, .inr (.inr (.inr ⟨rfl, H2⟩))⟩
      case measure => simp [intOf]
    · obtain ⟨q1, g1⟩ := H1.rules
      have z1 := H1.lt
      go_wp2_with fail
      clear q1 g1
      refine (server_any 0 true none none none none 0 0 0 0 0 0 0 0 ⟨1, 1⟩ ⟨0, 0⟩ ⟨1, 1⟩ _).mono ?_
      rintro e w2 ⟨pa, pc, rfl, RS, hb⟩
      have R2 := R1.below hb R1.lt
      have B2 : Below w.heap.size w w2 := B1.trans (hb.mono B1.size)
      have HR : Hid (RowS w2 wr.heap.size (.slice pa 3 pc) [⟨1, 1⟩, ⟨0, 0⟩, ⟨1, 1⟩]) := RS
      have z2 := R2.lt
      have z3 := R1.lt
      clear hb R1 B1 H1 RS
      obtain ⟨q1, g1⟩ := R2.rules
      go_wp2_with fail
      refine bodyPost_ret (v := .agg #[.int .i64 0, .bool true, .slice pa 3 pc, .slice none 0 0, .slice none 0 0, .slice none 0 0, .slice none 0 0]) ?_ rfl ⟨⟨pa, pc, none, 0, none, 0, none, 0, none, 0⟩, by rw [HX.out]; rfl, ?_, fill7_below B2 (Nat.le_refl _)⟩
      · refine Blk.gen (B := w.heap.size) (vs := #[.int .i64 0, .bool true, .slice pa 3 pc, .slice none 0 0, .slice none 0 0, .slice none 0 0, .slice none 0 0]) (T := 63) ?_ (P := fun W => (results Try.f56 _).run Try.prog W = .ok _ W) ?_
        · exact Blk.fill7 R2
        intro W hW
        obtain ⟨k, f⟩ := hW.rules
        simp [results, Try.results56, go_sem, k]
      · rw [HX.out]
        exact start_own (row_mono (row_fill7 HR.out (fun j hj => by have := (HR.out.lt j hj).1; omega)) (by omega))

set_option maxHeartbeats 2000000 in
set_option maxRecDepth 20000 in
theorem iStart1 (w : World) : Calls Try.prog 56 #[.int .i64 1] w fun e w' => ∃ b, e = .returned (servV (startX 1) b) ∧ OwnS w' w.heap.size (startX 1) b [] [] ∧ Below w.heap.size w w' := by
  have HX : Hid (startX 1 = ⟨1, true, [⟨0, 0⟩, ⟨1, 1⟩, ⟨0, 0⟩], [], [], [], []⟩) := by show _ = _; unfold startX; rfl
  have hS := fun W => sideIs (n := 1) (r := 0) (by rw [side_in]; rfl; omega; omega) W
  have R0 : Blk ((w.alloc (.cells #[.int .i64 0, .bool false, .slice none 0 0, .slice none 0 0, .slice none 0 0, .slice none 0 0, .slice none 0 0] 63)).alloc (.cells #[.slice none 0 0, .slice none 0 0, .slice none 0 0, .int .i64 1, .bool true, .int .i64 0, .int .i64 0, .int .i64 0, .int .i64 0, .int .i64 0, .int .i64 0, .slice none 0 0] 139)) w.heap.size #[.int .i64 0, .bool false, .slice none 0 0, .slice none 0 0, .slice none 0 0, .slice none 0 0, .slice none 0 0] 63 := (Blk.new w _ _).alloc _
  have H0 : Blk ((w.alloc (.cells #[.int .i64 0, .bool false, .slice none 0 0, .slice none 0 0, .slice none 0 0, .slice none 0 0, .slice none 0 0] 63)).alloc (.cells #[.slice none 0 0, .slice none 0 0, .slice none 0 0, .int .i64 1, .bool true, .int .i64 0, .int .i64 0, .int .i64 0, .int .i64 0, .int .i64 0, .int .i64 0, .slice none 0 0] 139)) (w.heap.size + 1) #[.slice none 0 0, .slice none 0 0, .slice none 0 0, .int .i64 1, .bool true, .int .i64 0, .int .i64 0, .int .i64 0, .int .i64 0, .int .i64 0, .int .i64 0, .slice none 0 0] 139 := by have := Blk.new (w.alloc (.cells #[.int .i64 0, .bool false, .slice none 0 0, .slice none 0 0, .slice none 0 0, .slice none 0 0, .slice none 0 0] 63)) #[.slice none 0 0, .slice none 0 0, .slice none 0 0, .int .i64 1, .bool true, .int .i64 0, .int .i64 0, .int .i64 0, .int .i64 0, .int .i64 0, .int .i64 0, .slice none 0 0] 139; simpa using this
  have B0 : Below w.heap.size w ((w.alloc (.cells #[.int .i64 0, .bool false, .slice none 0 0, .slice none 0 0, .slice none 0 0, .slice none 0 0, .slice none 0 0] 63)).alloc (.cells #[.slice none 0 0, .slice none 0 0, .slice none 0 0, .int .i64 1, .bool true, .int .i64 0, .int .i64 0, .int .i64 0, .int .i64 0, .int .i64 0, .int .i64 0, .slice none 0 0] 139)) := ((Below.refl _ _).alloc (Nat.le_refl _) _).alloc (by simp) _
  go_enter Try.func56, Try.ntmps56
  go_wp2_with (first | (go_at_call 134; refine (hS _).mono ?_; rintro e w' ⟨rfl, rfl⟩))
  go_loopw [11] (fun i wr => Blk wr w.heap.size #[.int .i64 0, .bool false, .slice none 0 0, .slice none 0 0, .slice none 0 0, .slice none 0 0, .slice none 0 0] 63 ∧ Below w.heap.size w wr ∧ ((i = .int .i64 0 ∧ Blk wr (w.heap.size + 1) #[.slice none 0 0, .slice none 0 0, .slice none 0 0, .int .i64 1, .bool true, .int .i64 0, .int .i64 0, .int .i64 0, .int .i64 0, .int .i64 0, .int .i64 0, .slice none 0 0] 139) ∨ (i = .int .i64 1 ∧ Blk wr (w.heap.size + 1) #[.slice none 0 0, .slice none 0 0, .slice none 0 0, .int .i64 1, .bool true, .int .i64 0, .int .i64 0, .int .i64 0, .int .i64 0, .int .i64 0, .int .i64 0, .slice none 0 0] 139) ∨ (i = .int .i64 2 ∧ Blk wr (w.heap.size + 1) #[.slice none 0 0, .slice none 0 0, .slice none 0 0, .int .i64 1, .bool true, .int .i64 0, .int .i64 0, .int .i64 1, .int .i64 1, .int .i64 0, .int .i64 0, .slice none 0 0] 139) ∨ (i = .int .i64 3 ∧ Blk wr (w.heap.size + 1) #[.slice none 0 0, .slice none 0 0, .slice none 0 0, .int .i64 1, .bool true, .int .i64 0, .int .i64 0, .int .i64 1, .int .i64 1, .int .i64 0, .int .i64 0, .slice none 0 0] 139))) (fun i _ => 3 - (intOf i).toNat)
  case atStart => exact ⟨R0, B0, .inl ⟨rfl, H0⟩⟩
  case round =>
    obtain ⟨R1, B1, hc⟩ := hrel
    clear R0 H0 B0 hS
    rcases hc with ⟨rfl, H1⟩ | ⟨rfl, H1⟩ | ⟨rfl, H1⟩ | ⟨rfl, H1⟩
    · go_wp2_with fail
      go_roundw
      case rel => exact ⟨R1, B1, .inr (.inl ⟨rfl, H1⟩)⟩
      case measure => simp [intOf]
    · obtain ⟨q1, g1⟩ := H1.rules
      have z1 := H1.lt
      have H2 : Blk ((wr.setCell ⟨w.heap.size + 1, 7, none⟩ (.int .i64 1)).setCell ⟨w.heap.size + 1, 8, none⟩ (.int .i64 1)) (w.heap.size + 1) #[.slice none 0 0, .slice none 0 0, .slice none 0 0, .int .i64 1, .bool true, .int .i64 0, .int .i64 0, .int .i64 1, .int .i64 1, .int .i64 0, .int .i64 0, .slice none 0 0] 139 := by
        have := (H1.set 7 (.int .i64 1)).set 8 (.int .i64 1)
        simpa using this
      have R2 := (R1.other (a := ⟨w.heap.size + 1, 7, none⟩) (by simp) (.int .i64 1)).other (a := ⟨w.heap.size + 1, 8, none⟩) (by simp) (.int .i64 1)
      have B2 := (B1.setCell (p := ⟨w.heap.size + 1, 7, none⟩) (by simp) (.int .i64 1)).setCell (p := ⟨w.heap.size + 1, 8, none⟩) (by simp) (.int .i64 1)
      clear H1 R1 B1
      go_wp2_with fail
      go_roundw
      case rel => exact ⟨R2, B2, .inr (.inr (.inl ⟨rfl, H2⟩))⟩
      case measure => simp [intOf]
    · go_wp2_with fail
      go_roundw
      case rel => exact ⟨R1, B1, .inr (.inr (.inr ⟨rfl, H1⟩))⟩
      case measure => simp [intOf]
    · obtain ⟨q1, g1⟩ := H1.rules
      have z1 := H1.lt
      go_wp2_with fail
      clear q1 g1
      refine (server_any 1 true none none none none 0 0 0 0 0 0 0 0 ⟨0, 0⟩ ⟨1, 1⟩ ⟨0, 0⟩ _).mono ?_
      rintro e w2 ⟨pa, pc, rfl, RS, hb⟩
      have R2 := R1.below hb R1.lt
      have B2 : Below w.heap.size w w2 := B1.trans (hb.mono B1.size)
      have HR : Hid (RowS w2 wr.heap.size (.slice pa 3 pc) [⟨0, 0⟩, ⟨1, 1⟩, ⟨0, 0⟩]) := RS
      have z2 := R2.lt
      have z3 := R1.lt
      clear hb R1 B1 H1 RS
      obtain ⟨q1, g1⟩ := R2.rules
      go_wp2_with fail
      refine bodyPost_ret (v := .agg #[.int .i64 1, .bool true, .slice pa 3 pc, .slice none 0 0, .slice none 0 0, .slice none 0 0, .slice none 0 0]) ?_ rfl ⟨⟨pa, pc, none, 0, none, 0, none, 0, none, 0⟩, by rw [HX.out]; rfl, ?_, fill7_below B2 (Nat.le_refl _)⟩
      · refine Blk.gen (B := w.heap.size) (vs := #[.int .i64 1, .bool true, .slice pa 3 pc, .slice none 0 0, .slice none 0 0, .slice none 0 0, .slice none 0 0]) (T := 63) ?_ (P := fun W => (results Try.f56 _).run Try.prog W = .ok _ W) ?_
        · exact Blk.fill7 R2
        intro W hW
        obtain ⟨k, f⟩ := hW.rules
        simp [results, Try.results56, go_sem, k]
      · rw [HX.out]
        exact start_own (row_mono (row_fill7 HR.out (fun j hj => by have := (HR.out.lt j hj).1; omega)) (by omega))

set_option maxHeartbeats 2000000 in
set_option maxRecDepth 20000 in
theorem iStart2 (w : World) : Calls Try.prog 56 #[.int .i64 2] w fun e w' => ∃ b, e = .returned (servV (startX 2) b) ∧ OwnS w' w.heap.size (startX 2) b [] [] ∧ Below w.heap.size w w' := by
  have HX : Hid (startX 2 = ⟨2, true, [⟨1, 1⟩, ⟨0, 0⟩, ⟨1, 1⟩], [], [], [], []⟩) := by show _ = _; unfold startX; rfl
  have hS := fun W => sideIs (n := 2) (r := 1) (by rw [side_in]; rfl; omega; omega) W
  have R0 : Blk ((w.alloc (.cells #[.int .i64 0, .bool false, .slice none 0 0, .slice none 0 0, .slice none 0 0, .slice none 0 0, .slice none 0 0] 63)).alloc (.cells #[.slice none 0 0, .slice none 0 0, .slice none 0 0, .int .i64 2, .bool true, .int .i64 0, .int .i64 0, .int .i64 0, .int .i64 0, .int .i64 0, .int .i64 0, .slice none 0 0] 139)) w.heap.size #[.int .i64 0, .bool false, .slice none 0 0, .slice none 0 0, .slice none 0 0, .slice none 0 0, .slice none 0 0] 63 := (Blk.new w _ _).alloc _
  have H0 : Blk ((w.alloc (.cells #[.int .i64 0, .bool false, .slice none 0 0, .slice none 0 0, .slice none 0 0, .slice none 0 0, .slice none 0 0] 63)).alloc (.cells #[.slice none 0 0, .slice none 0 0, .slice none 0 0, .int .i64 2, .bool true, .int .i64 0, .int .i64 0, .int .i64 0, .int .i64 0, .int .i64 0, .int .i64 0, .slice none 0 0] 139)) (w.heap.size + 1) #[.slice none 0 0, .slice none 0 0, .slice none 0 0, .int .i64 2, .bool true, .int .i64 0, .int .i64 0, .int .i64 0, .int .i64 0, .int .i64 0, .int .i64 0, .slice none 0 0] 139 := by have := Blk.new (w.alloc (.cells #[.int .i64 0, .bool false, .slice none 0 0, .slice none 0 0, .slice none 0 0, .slice none 0 0, .slice none 0 0] 63)) #[.slice none 0 0, .slice none 0 0, .slice none 0 0, .int .i64 2, .bool true, .int .i64 0, .int .i64 0, .int .i64 0, .int .i64 0, .int .i64 0, .int .i64 0, .slice none 0 0] 139; simpa using this
  have B0 : Below w.heap.size w ((w.alloc (.cells #[.int .i64 0, .bool false, .slice none 0 0, .slice none 0 0, .slice none 0 0, .slice none 0 0, .slice none 0 0] 63)).alloc (.cells #[.slice none 0 0, .slice none 0 0, .slice none 0 0, .int .i64 2, .bool true, .int .i64 0, .int .i64 0, .int .i64 0, .int .i64 0, .int .i64 0, .int .i64 0, .slice none 0 0] 139)) := ((Below.refl _ _).alloc (Nat.le_refl _) _).alloc (by simp) _
  go_enter Try.func56, Try.ntmps56
  go_wp2_with (first | (go_at_call 134; refine (hS _).mono ?_; rintro e w' ⟨rfl, rfl⟩))
  go_loopw [11] (fun i wr => Blk wr w.heap.size #[.int .i64 0, .bool false, .slice none 0 0, .slice none 0 0, .slice none 0 0, .slice none 0 0, .slice none 0 0] 63 ∧ Below w.heap.size w wr ∧ ((i = .int .i64 0 ∧ Blk wr (w.heap.size + 1) #[.slice none 0 0, .slice none 0 0, .slice none 0 0, .int .i64 2, .bool true, .int .i64 0, .int .i64 0, .int .i64 0, .int .i64 0, .int .i64 0, .int .i64 0, .slice none 0 0] 139) ∨ (i = .int .i64 1 ∧ Blk wr (w.heap.size + 1) #[.slice none 0 0, .slice none 0 0, .slice none 0 0, .int .i64 2, .bool true, .int .i64 1, .int .i64 1, .int .i64 0, .int .i64 0, .int .i64 0, .int .i64 0, .slice none 0 0] 139) ∨ (i = .int .i64 2 ∧ Blk wr (w.heap.size + 1) #[.slice none 0 0, .slice none 0 0, .slice none 0 0, .int .i64 2, .bool true, .int .i64 1, .int .i64 1, .int .i64 0, .int .i64 0, .int .i64 0, .int .i64 0, .slice none 0 0] 139) ∨ (i = .int .i64 3 ∧ Blk wr (w.heap.size + 1) #[.slice none 0 0, .slice none 0 0, .slice none 0 0, .int .i64 2, .bool true, .int .i64 1, .int .i64 1, .int .i64 0, .int .i64 0, .int .i64 1, .int .i64 1, .slice none 0 0] 139))) (fun i _ => 3 - (intOf i).toNat)
  case atStart => exact ⟨R0, B0, .inl ⟨rfl, H0⟩⟩
  case round =>
    obtain ⟨R1, B1, hc⟩ := hrel
    clear R0 H0 B0 hS
    rcases hc with ⟨rfl, H1⟩ | ⟨rfl, H1⟩ | ⟨rfl, H1⟩ | ⟨rfl, H1⟩
    · obtain ⟨q1, g1⟩ := H1.rules
      have z1 := H1.lt
      have H2 : Blk ((wr.setCell ⟨w.heap.size + 1, 5, none⟩ (.int .i64 1)).setCell ⟨w.heap.size + 1, 6, none⟩ (.int .i64 1)) (w.heap.size + 1) #[.slice none 0 0, .slice none 0 0, .slice none 0 0, .int .i64 2, .bool true, .int .i64 1, .int .i64 1, .int .i64 0, .int .i64 0, .int .i64 0, .int .i64 0, .slice none 0 0] 139 := by
        have := (H1.set 5 (.int .i64 1)).set 6 (.int .i64 1)
        simpa using this
      have R2 := (R1.other (a := ⟨w.heap.size + 1, 5, none⟩) (by simp) (.int .i64 1)).other (a := ⟨w.heap.size + 1, 6, none⟩) (by simp) (.int .i64 1)
      have B2 := (B1.setCell (p := ⟨w.heap.size + 1, 5, none⟩) (by simp) (.int .i64 1)).setCell (p := ⟨w.heap.size + 1, 6, none⟩) (by simp) (.int .i64 1)
      clear H1 R1 B1
      go_wp2_with fail
      go_roundw
      case rel => exact ⟨R2, B2, .inr (.inl ⟨rfl, H2⟩)⟩
      case measure => simp [intOf]
    · go_wp2_with fail
      go_roundw
      case rel => exact ⟨R1, B1, .inr (.inr (.inl ⟨rfl, H1⟩))⟩
      case measure => simp [intOf]
    · obtain ⟨q1, g1⟩ := H1.rules
      have z1 := H1.lt
      have H2 : Blk ((wr.setCell ⟨w.heap.size + 1, 9, none⟩ (.int .i64 1)).setCell ⟨w.heap.size + 1, 10, none⟩ (.int .i64 1)) (w.heap.size + 1) #[.slice none 0 0, .slice none 0 0, .slice none 0 0, .int .i64 2, .bool true, .int .i64 1, .int .i64 1, .int .i64 0, .int .i64 0, .int .i64 1, .int .i64 1, .slice none 0 0] 139 := by
        have := (H1.set 9 (.int .i64 1)).set 10 (.int .i64 1)
        simpa using this
      have R2 := (R1.other (a := ⟨w.heap.size + 1, 9, none⟩) (by simp) (.int .i64 1)).other (a := ⟨w.heap.size + 1, 10, none⟩) (by simp) (.int .i64 1)
      have B2 := (B1.setCell (p := ⟨w.heap.size + 1, 9, none⟩) (by simp) (.int .i64 1)).setCell (p := ⟨w.heap.size + 1, 10, none⟩) (by simp) (.int .i64 1)
      clear H1 R1 B1
      go_wp2_with fail
      go_roundw
      case rel => exact ⟨R2, B2, .inr (.inr (.inr ⟨rfl, H2⟩))⟩
      case measure => simp [intOf]
    · obtain ⟨q1, g1⟩ := H1.rules
      have z1 := H1.lt
      go_wp2_with fail
      clear q1 g1
      refine (server_any 2 true none none none none 0 0 0 0 0 0 0 0 ⟨1, 1⟩ ⟨0, 0⟩ ⟨1, 1⟩ _).mono ?_
      rintro e w2 ⟨pa, pc, rfl, RS, hb⟩
      have R2 := R1.below hb R1.lt
      have B2 : Below w.heap.size w w2 := B1.trans (hb.mono B1.size)
      have HR : Hid (RowS w2 wr.heap.size (.slice pa 3 pc) [⟨1, 1⟩, ⟨0, 0⟩, ⟨1, 1⟩]) := RS
      have z2 := R2.lt
      have z3 := R1.lt
      clear hb R1 B1 H1 RS
      obtain ⟨q1, g1⟩ := R2.rules
      go_wp2_with fail
      refine bodyPost_ret (v := .agg #[.int .i64 2, .bool true, .slice pa 3 pc, .slice none 0 0, .slice none 0 0, .slice none 0 0, .slice none 0 0]) ?_ rfl ⟨⟨pa, pc, none, 0, none, 0, none, 0, none, 0⟩, by rw [HX.out]; rfl, ?_, fill7_below B2 (Nat.le_refl _)⟩
      · refine Blk.gen (B := w.heap.size) (vs := #[.int .i64 2, .bool true, .slice pa 3 pc, .slice none 0 0, .slice none 0 0, .slice none 0 0, .slice none 0 0]) (T := 63) ?_ (P := fun W => (results Try.f56 _).run Try.prog W = .ok _ W) ?_
        · exact Blk.fill7 R2
        intro W hW
        obtain ⟨k, f⟩ := hW.rules
        simp [results, Try.results56, go_sem, k]
      · rw [HX.out]
        exact start_own (row_mono (row_fill7 HR.out (fun j hj => by have := (HR.out.lt j hj).1; omega)) (by omega))

set_option maxHeartbeats 2000000 in
set_option maxRecDepth 20000 in
theorem iStart3 (w : World) : Calls Try.prog 56 #[.int .i64 3] w fun e w' => ∃ b, e = .returned (servV (startX 3) b) ∧ OwnS w' w.heap.size (startX 3) b [] [] ∧ Below w.heap.size w w' := by
  have HX : Hid (startX 3 = ⟨3, true, [⟨0, 0⟩, ⟨1, 1⟩, ⟨0, 0⟩], [], [], [], []⟩) := by show _ = _; unfold startX; rfl
  have hS := fun W => sideIs (n := 3) (r := 1) (by rw [side_in]; rfl; omega; omega) W
  have R0 : Blk ((w.alloc (.cells #[.int .i64 0, .bool false, .slice none 0 0, .slice none 0 0, .slice none 0 0, .slice none 0 0, .slice none 0 0] 63)).alloc (.cells #[.slice none 0 0, .slice none 0 0, .slice none 0 0, .int .i64 3, .bool true, .int .i64 0, .int .i64 0, .int .i64 0, .int .i64 0, .int .i64 0, .int .i64 0, .slice none 0 0] 139)) w.heap.size #[.int .i64 0, .bool false, .slice none 0 0, .slice none 0 0, .slice none 0 0, .slice none 0 0, .slice none 0 0] 63 := (Blk.new w _ _).alloc _
  have H0 : Blk ((w.alloc (.cells #[.int .i64 0, .bool false, .slice none 0 0, .slice none 0 0, .slice none 0 0, .slice none 0 0, .slice none 0 0] 63)).alloc (.cells #[.slice none 0 0, .slice none 0 0, .slice none 0 0, .int .i64 3, .bool true, .int .i64 0, .int .i64 0, .int .i64 0, .int .i64 0, .int .i64 0, .int .i64 0, .slice none 0 0] 139)) (w.heap.size + 1) #[.slice none 0 0, .slice none 0 0, .slice none 0 0, .int .i64 3, .bool true, .int .i64 0, .int .i64 0, .int .i64 0, .int .i64 0, .int .i64 0, .int .i64 0, .slice none 0 0] 139 := by have := Blk.new (w.alloc (.cells #[.int .i64 0, .bool false, .slice none 0 0, .slice none 0 0, .slice none 0 0, .slice none 0 0, .slice none 0 0] 63)) #[.slice none 0 0, .slice none 0 0, .slice none 0 0, .int .i64 3, .bool true, .int .i64 0, .int .i64 0, .int .i64 0, .int .i64 0, .int .i64 0, .int .i64 0, .slice none 0 0] 139; simpa using this
  have B0 : Below w.heap.size w ((w.alloc (.cells #[.int .i64 0, .bool false, .slice none 0 0, .slice none 0 0, .slice none 0 0, .slice none 0 0, .slice none 0 0] 63)).alloc (.cells #[.slice none 0 0, .slice none 0 0, .slice none 0 0, .int .i64 3, .bool true, .int .i64 0, .int .i64 0, .int .i64 0, .int .i64 0, .int .i64 0, .int .i64 0, .slice none 0 0] 139)) := ((Below.refl _ _).alloc (Nat.le_refl _) _).alloc (by simp) _
  go_enter Try.func56, Try.ntmps56
  go_wp2_with (first | (go_at_call 134; refine (hS _).mono ?_; rintro e w' ⟨rfl, rfl⟩))
  go_loopw [11] (fun i wr => Blk wr w.heap.size #[.int .i64 0, .bool false, .slice none 0 0, .slice none 0 0, .slice none 0 0, .slice none 0 0, .slice none 0 0] 63 ∧ Below w.heap.size w wr ∧ ((i = .int .i64 0 ∧ Blk wr (w.heap.size + 1) #[.slice none 0 0, .slice none 0 0, .slice none 0 0, .int .i64 3, .bool true, .int .i64 0, .int .i64 0, .int .i64 0, .int .i64 0, .int .i64 0, .int .i64 0, .slice none 0 0] 139) ∨ (i = .int .i64 1 ∧ Blk wr (w.heap.size + 1) #[.slice none 0 0, .slice none 0 0, .slice none 0 0, .int .i64 3, .bool true, .int .i64 0, .int .i64 0, .int .i64 0, .int .i64 0, .int .i64 0, .int .i64 0, .slice none 0 0] 139) ∨ (i = .int .i64 2 ∧ Blk wr (w.heap.size + 1) #[.slice none 0 0, .slice none 0 0, .slice none 0 0, .int .i64 3, .bool true, .int .i64 0, .int .i64 0, .int .i64 1, .int .i64 1, .int .i64 0, .int .i64 0, .slice none 0 0] 139) ∨ (i = .int .i64 3 ∧ Blk wr (w.heap.size + 1) #[.slice none 0 0, .slice none 0 0, .slice none 0 0, .int .i64 3, .bool true, .int .i64 0, .int .i64 0, .int .i64 1, .int .i64 1, .int .i64 0, .int .i64 0, .slice none 0 0] 139))) (fun i _ => 3 - (intOf i).toNat)
  case atStart => exact ⟨R0, B0, .inl ⟨rfl, H0⟩⟩
  case round =>
    obtain ⟨R1, B1, hc⟩ := hrel
    clear R0 H0 B0 hS
    rcases hc with ⟨rfl, H1⟩ | ⟨rfl, H1⟩ | ⟨rfl, H1⟩ | ⟨rfl, H1⟩
    · go_wp2_with fail
      go_roundw
      case rel => exact ⟨R1, B1, .inr (.inl ⟨rfl, H1⟩)⟩
      case measure => simp [intOf]
    · obtain ⟨q1, g1⟩ := H1.rules
      have z1 := H1.lt
      have H2 : Blk ((wr.setCell ⟨w.heap.size + 1, 7, none⟩ (.int .i64 1)).setCell ⟨w.heap.size + 1, 8, none⟩ (.int .i64 1)) (w.heap.size + 1) #[.slice none 0 0, .slice none 0 0, .slice none 0 0, .int .i64 3, .bool true, .int .i64 0, .int .i64 0, .int .i64 1, .int .i64 1, .int .i64 0, .int .i64 0, .slice none 0 0] 139 := by
        have := (H1.set 7 (.int .i64 1)).set 8 (.int .i64 1)
        simpa using this
      have R2 := (R1.other (a := ⟨w.heap.size + 1, 7, none⟩) (by simp) (.int .i64 1)).other (a := ⟨w.heap.size + 1, 8, none⟩) (by simp) (.int .i64 1)
      have B2 := (B1.setCell (p := ⟨w.heap.size + 1, 7, none⟩) (by simp) (.int .i64 1)).setCell (p := ⟨w.heap.size + 1, 8, none⟩) (by simp) (.int .i64 1)
      clear H1 R1 B1
      go_wp2_with fail
      go_roundw
      case rel => exact ⟨R2, B2, .inr (.inr (.inl ⟨rfl, H2⟩))⟩
      case measure => simp [intOf]
    · go_wp2_with fail
      go_roundw
      case rel => exact ⟨R1, B1, .inr (.inr (.inr ⟨rfl, H1⟩))⟩
      case measure => simp [intOf]
    · obtain ⟨q1, g1⟩ := H1.rules
      have z1 := H1.lt
      go_wp2_with fail
      clear q1 g1
      refine (server_any 3 true none none none none 0 0 0 0 0 0 0 0 ⟨0, 0⟩ ⟨1, 1⟩ ⟨0, 0⟩ _).mono ?_
      rintro e w2 ⟨pa, pc, rfl, RS, hb⟩
      have R2 := R1.below hb R1.lt
      have B2 : Below w.heap.size w w2 := B1.trans (hb.mono B1.size)
      have HR : Hid (RowS w2 wr.heap.size (.slice pa 3 pc) [⟨0, 0⟩, ⟨1, 1⟩, ⟨0, 0⟩]) := RS
      have z2 := R2.lt
      have z3 := R1.lt
      clear hb R1 B1 H1 RS
      obtain ⟨q1, g1⟩ := R2.rules
      go_wp2_with fail
      refine bodyPost_ret (v := .agg #[.int .i64 3, .bool true, .slice pa 3 pc, .slice none 0 0, .slice none 0 0, .slice none 0 0, .slice none 0 0]) ?_ rfl ⟨⟨pa, pc, none, 0, none, 0, none, 0, none, 0⟩, by rw [HX.out]; rfl, ?_, fill7_below B2 (Nat.le_refl _)⟩
      · refine Blk.gen (B := w.heap.size) (vs := #[.int .i64 3, .bool true, .slice pa 3 pc, .slice none 0 0, .slice none 0 0, .slice none 0 0, .slice none 0 0]) (T := 63) ?_ (P := fun W => (results Try.f56 _).run Try.prog W = .ok _ W) ?_
        · exact Blk.fill7 R2
        intro W hW
        obtain ⟨k, f⟩ := hW.rules
        simp [results, Try.results56, go_sem, k]
      · rw [HX.out]
        exact start_own (row_mono (row_fill7 HR.out (fun j hj => by have := (HR.out.lt j hj).1; omega)) (by omega))

theorem iStart_any (n : Int) (w : World) : Calls Try.prog 56 #[.int .i64 n] w fun e w' => ∃ b, e = .returned (servV (startX n) b) ∧ OwnS w' w.heap.size (startX n) b [] [] ∧ Below w.heap.size w w' := by
  by_cases h : 0 ≤ n ∧ n ≤ 3
  · have : n = 0 ∨ n = 1 ∨ n = 2 ∨ n = 3 := by omega
    rcases this with rfl | rfl | rfl | rfl
    · exact iStart0 w
    · exact iStart1 w
    · exact iStart2 w
    · exact iStart3 w
  · exact iStart_no n w h
end Go.Proofs.Ytgdkoangpinieaa

/- The specification's copy of a server. -/
namespace Go.Proofs.Ytgdkoangpinieaa
open Go.ChangeShapes Go.WideShapes Go.ChangeAt Go.RowKit

/-- An empty row that was just made. -/
theorem empty_row (w : World) (e : TypeId) (size : Nat) : (w.alloc (.cells #[] e)).ownsRow w.heap.size e size (.slice (some ⟨w.heap.size, 0, none⟩) 0 0) 0 [] := by
  have := World.ownsRow_made (base := w.heap.size) (e := e) (size := size) w #[] 0 (Nat.le_refl _) (by unfold maxLen; omega) (by simp)
  simpa using this
theorem Below.of_own {n : Nat} {w0 w w1 : World} {j : Nat} (h : Below n w0 w) (hn : n ≤ w.heap.size) (hg : w.grownBy w1 (some j)) (hj : n ≤ j) : Below n w0 w1 := h.grown hg hn (fun i hi => by simp at hi; omega)

set_option maxHeartbeats 8000000 in
set_option maxRecDepth 20000 in
theorem sCopySv_any (x : Sv) (a : Sa) (w : World) (hf : LenS x) (h : InS w x a) :
    Calls Try.prog 156 #[servV x a] w fun e w' => ∃ b ys zs, e = .returned (servV x b) ∧ OwnS w' w.heap.size x b ys zs ∧ Below w.heap.size w w' := by
  have L : InS w x a := h
  have W0 : Below w.heap.size w ((w.alloc (.cells #[.int .i64 x.site, .bool x.up, .slice a.la x.sl.length a.lc, .slice a.va x.vs.length a.vc, .slice a.wa x.ws.length a.wc, .slice a.oa x.os.length a.oc, .slice a.ka x.kn.length a.kc] 63)).alloc (.cells #[.int .i64 0, .bool false, .slice none 0 0, .slice none 0 0, .slice none 0 0, .slice none 0 0, .slice none 0 0] 63)) := ((Below.refl _ _).alloc (Nat.le_refl _) _).alloc (by simp) _
  have A0 : Blk ((w.alloc (.cells #[.int .i64 x.site, .bool x.up, .slice a.la x.sl.length a.lc, .slice a.va x.vs.length a.vc, .slice a.wa x.ws.length a.wc, .slice a.oa x.os.length a.oc, .slice a.ka x.kn.length a.kc] 63)).alloc (.cells #[.int .i64 0, .bool false, .slice none 0 0, .slice none 0 0, .slice none 0 0, .slice none 0 0, .slice none 0 0] 63)) w.heap.size #[.int .i64 x.site, .bool x.up, .slice a.la x.sl.length a.lc, .slice a.va x.vs.length a.vc, .slice a.wa x.ws.length a.wc, .slice a.oa x.os.length a.oc, .slice a.ka x.kn.length a.kc] 63 := (Blk.new w _ _).alloc _
  have Z0 : Blk ((w.alloc (.cells #[.int .i64 x.site, .bool x.up, .slice a.la x.sl.length a.lc, .slice a.va x.vs.length a.vc, .slice a.wa x.ws.length a.wc, .slice a.oa x.os.length a.oc, .slice a.ka x.kn.length a.kc] 63)).alloc (.cells #[.int .i64 0, .bool false, .slice none 0 0, .slice none 0 0, .slice none 0 0, .slice none 0 0, .slice none 0 0] 63)) (w.heap.size + 1) #[.int .i64 0, .bool false, .slice none 0 0, .slice none 0 0, .slice none 0 0, .slice none 0 0, .slice none 0 0] 63 := by have := Blk.new (w.alloc (.cells #[.int .i64 x.site, .bool x.up, .slice a.la x.sl.length a.lc, .slice a.va x.vs.length a.vc, .slice a.wa x.ws.length a.wc, .slice a.oa x.os.length a.oc, .slice a.ka x.kn.length a.kc] 63)) #[.int .i64 0, .bool false, .slice none 0 0, .slice none 0 0, .slice none 0 0, .slice none 0 0, .slice none 0 0] 63; simpa using this
  have sz0 : ((w.alloc (.cells #[.int .i64 x.site, .bool x.up, .slice a.la x.sl.length a.lc, .slice a.va x.vs.length a.vc, .slice a.wa x.ws.length a.wc, .slice a.oa x.os.length a.oc, .slice a.ka x.kn.length a.kc] 63)).alloc (.cells #[.int .i64 0, .bool false, .slice none 0 0, .slice none 0 0, .slice none 0 0, .slice none 0 0, .slice none 0 0] 63)).heap.size = w.heap.size + 1 + 1 := by simp
  clear h
  have E1 := empty_row ((w.alloc (.cells #[.int .i64 x.site, .bool x.up, .slice a.la x.sl.length a.lc, .slice a.va x.vs.length a.vc, .slice a.wa x.ws.length a.wc, .slice a.oa x.os.length a.oc, .slice a.ka x.kn.length a.kc] 63)).alloc (.cells #[.int .i64 0, .bool false, .slice none 0 0, .slice none 0 0, .slice none 0 0, .slice none 0 0, .slice none 0 0] 63)) 133 2
  have W1 : Below w.heap.size w (((w.alloc (.cells #[.int .i64 x.site, .bool x.up, .slice a.la x.sl.length a.lc, .slice a.va x.vs.length a.vc, .slice a.wa x.ws.length a.wc, .slice a.oa x.os.length a.oc, .slice a.ka x.kn.length a.kc] 63)).alloc (.cells #[.int .i64 0, .bool false, .slice none 0 0, .slice none 0 0, .slice none 0 0, .slice none 0 0, .slice none 0 0] 63)).alloc (.cells #[] 133)) := W0.alloc W0.size _
  have A1 := A0.alloc (.cells #[] 133)
  have Z1 := Z0.alloc (.cells #[] 133)
  have L1 := L.below W1
  rw [sz0] at E1
  have hl1 := hf.l
  go_enter Try.func156, Try.ntmps156
  go_wp2_with (first | (at_builtin; refine wpList_append_slots _ rfl _ _ rfl (w.heap.size + 1 + 1) (.slice (some ⟨w.heap.size + 1 + 1, 0, none⟩) 0 0) rfl E1 a.la a.lc x.sl rfl L1.l hl1 (by simp) ?_
                        intro v' w1 hrow hg hloc
                        obtain ⟨la, lc, rfl, _⟩ := row_slice hrow
                        have A2 := A1.grown hg (by simp [Value.ownBlock] <;> omega)
                        have Z2 := Z1.grown hg (by simp [Value.ownBlock] <;> omega)
                        have W2 : Below w.heap.size w w1 := W1.grown hg W1.size (fun j hj => by simp [Value.ownBlock] at hj; omega)
                        have RL2 : Hid (RowS w1 (w.heap.size + 1 + 1) (.slice la x.sl.length lc) x.sl) := hrow
                        have z2 := Z2.lt
                        clear A0 Z0 W0 E1 L1 A1 Z1 W1 hg hloc hrow sz0 hl1
                        have A2b : Blk (w1.setCell ⟨w.heap.size, 2, none⟩ (.slice la x.sl.length lc)) w.heap.size #[.int .i64 x.site, .bool x.up, .slice la x.sl.length lc, .slice a.va x.vs.length a.vc, .slice a.wa x.ws.length a.wc, .slice a.oa x.os.length a.oc, .slice a.ka x.kn.length a.kc] 63 := by
                          have := A2.set 2 (.slice la x.sl.length lc)
                          simpa using this
                        have Z2b := Z2.other (a := ⟨w.heap.size, 2, none⟩) (by simp) (.slice la x.sl.length lc)
                        have W2b := W2.setCell (p := ⟨w.heap.size, 2, none⟩) (by simp) (.slice la x.sl.length lc)
                        have RL2b : Hid (RowS (w1.setCell ⟨w.heap.size, 2, none⟩ (.slice la x.sl.length lc)) (w.heap.size + 1 + 1) (.slice la x.sl.length lc) x.sl) := rowSetB2 RL2.out (by omega)
                        obtain ⟨q1, g1⟩ := A2.rules
                        obtain ⟨q2, g2⟩ := A2b.rules))
  clear q1 g1 q2 g2 A2 Z2 W2 RL2
  generalize w1.setCell ⟨w.heap.size, 2, none⟩ (.slice la x.sl.length lc) = U2 at *
  have z2b := Z2b.lt
  have RLm : Hid (∀ b, (Value.slice la x.sl.length lc).ownBlock = some b → b < U2.heap.size) := by show ∀ b, _; intro b hb; exact (RL2b.out.lt b hb).2
  refine (sVers_any a.va a.vc x.vs _ hf.v (L.below W2b).v).mono ?_
  rintro e w3 ⟨u, ys, rfl, OO, hy, hb⟩
  obtain ⟨va, vc, rfl, _⟩ := OO.asD hy
  have A3 := A2b.below hb A2b.lt
  have Z3 := Z2b.below hb Z2b.lt
  have W3 : Below w.heap.size w w3 := W2b.trans (hb.mono W2b.size)
  have RL3 := row_below RL2b.out hb (Nat.le_refl _)
  have OV3 := OO.mono (base' := (w.heap.size + 1 + 1)) (by omega)
  have iv : Hid (∀ b, inV (.slice va x.vs.length vc) ys b → b < w3.heap.size) := by show ∀ b, _; intro b hb; exact (OO.lt hb).2
  have HY : Hid (ys.map XV.v = x.vs) := hy
  have n3 := hb.size
  have z3 := Z3.lt
  clear hb A2b Z2b W2b RL2b OO hy
  have A3b : Blk (w3.setCell ⟨w.heap.size, 3, none⟩ (.slice va x.vs.length vc)) w.heap.size #[.int .i64 x.site, .bool x.up, .slice la x.sl.length lc, .slice va x.vs.length vc, .slice a.wa x.ws.length a.wc, .slice a.oa x.os.length a.oc, .slice a.ka x.kn.length a.kc] 63 := by
    have := A3.set 3 (.slice va x.vs.length vc)
    simpa using this
  have Z3b := Z3.other (a := ⟨w.heap.size, 3, none⟩) (by simp) (.slice va x.vs.length vc)
  have W3b := W3.setCell (p := ⟨w.heap.size, 3, none⟩) (by simp) (.slice va x.vs.length vc)
  have RL3b := rowSetB2 RL3 (Z := w.heap.size) (j := 3) (u := .slice va x.vs.length vc) (by omega)
  have OV3b := OV3.setB (Z := w.heap.size) (j := 3) (u := .slice va x.vs.length vc) (by omega)
  have n3b : (w3.setCell ⟨w.heap.size, 3, none⟩ (.slice va x.vs.length vc)).heap.size = w3.heap.size := by simp
  obtain ⟨q1, g1⟩ := A3.rules
  obtain ⟨q2, g2⟩ := A3b.rules
  go_wp2_with fail
  clear q1 g1 q2 g2 A3 Z3 W3 RL3 OV3
  generalize w3.setCell ⟨w.heap.size, 3, none⟩ (.slice va x.vs.length vc) = U3 at *
  have z3b := Z3b.lt
  refine (sVers_any a.wa a.wc x.ws _ hf.w (L.below W3b).w).mono ?_
  rintro e w4 ⟨u, zs, rfl, OO, hz, hb⟩
  obtain ⟨wa, wc, rfl, _⟩ := OO.asD hz
  have A4 := A3b.below hb A3b.lt
  have Z4 := Z3b.below hb Z3b.lt
  have W4 : Below w.heap.size w w4 := W3b.trans (hb.mono W3b.size)
  have RL4 := row_below RL3b hb (Nat.le_refl _)
  have OV4 := OV3b.below hb (Nat.le_refl _)
  have OW4 := OO.mono (base' := (w.heap.size + 1 + 1)) (by omega)
  have iw : Hid (∀ b, inV (.slice wa x.ws.length wc) zs b → w3.heap.size ≤ b ∧ b < w4.heap.size) := by show ∀ b, _; intro b hb; have := OO.lt hb; omega
  have HZ : Hid (zs.map XV.v = x.ws) := hz
  have n4 := hb.size
  have z4 := Z4.lt
  clear hb A3b Z3b W3b RL3b OV3b OO hz
  have A4b : Blk (w4.setCell ⟨w.heap.size, 4, none⟩ (.slice wa x.ws.length wc)) w.heap.size #[.int .i64 x.site, .bool x.up, .slice la x.sl.length lc, .slice va x.vs.length vc, .slice wa x.ws.length wc, .slice a.oa x.os.length a.oc, .slice a.ka x.kn.length a.kc] 63 := by
    have := A4.set 4 (.slice wa x.ws.length wc)
    simpa using this
  have Z4b := Z4.other (a := ⟨w.heap.size, 4, none⟩) (by simp) (.slice wa x.ws.length wc)
  have W4b := W4.setCell (p := ⟨w.heap.size, 4, none⟩) (by simp) (.slice wa x.ws.length wc)
  have RL4b := rowSetB2 RL4 (Z := w.heap.size) (j := 4) (u := .slice wa x.ws.length wc) (by omega)
  have OV4b := OV4.setB (Z := w.heap.size) (j := 4) (u := .slice wa x.ws.length wc) (by omega)
  have OW4b := OW4.setB (Z := w.heap.size) (j := 4) (u := .slice wa x.ws.length wc) (by omega)
  have n4b : (w4.setCell ⟨w.heap.size, 4, none⟩ (.slice wa x.ws.length wc)).heap.size = w4.heap.size := by simp
  have E5 := empty_row (w4.setCell ⟨w.heap.size, 4, none⟩ (.slice wa x.ws.length wc)) 51 3
  rw [n4b] at E5
  have A5 := A4b.alloc (.cells #[] 51)
  have Z5 := Z4b.alloc (.cells #[] 51)
  have W5 := W4b.alloc W4b.size (.cells #[] 51)
  have RL5 := (show World.ownsRow _ _ _ _ _ _ _ from RL4b).alloc (.cells #[] 51)
  have OV5 := OV4b.alloc (.cells #[] 51)
  have OW5 := OW4b.alloc (.cells #[] 51)
  have RL5h : Hid _ := RL5
  have L5 := (L.below W5).o
  have nz4 := W4.size
  obtain ⟨q1, g1⟩ := A4.rules
  obtain ⟨q2, g2⟩ := A4b.rules
  obtain ⟨q3, g3⟩ := A5.rules
  have za4 := A4.lt
  have ol := hf.o
  have kl := hf.k
  clear Z4 W4 RL4 OV4 OW4 Z4b W4b RL4b OV4b OW4b A4 A4b RL5
  go_wp2_with (first
    | (at_builtin; refine wpList_append_deps _ rfl _ _ rfl w6.heap.size (.slice (some ⟨w6.heap.size, 0, none⟩) 0 0) rfl E7 a.ka a.kc x.kn rfl L7 kl (by simp) ?_
       intro v' w8 hrow hg hloc
       obtain ⟨ka, kc, rfl, _⟩ := row_slice hrow
       have hgj : some w6.heap.size = some w6.heap.size := rfl
       have A8 := A7.grown hg (by simp [Value.ownBlock] <;> omega)
       have Z8 := Z7.grown hg (by simp [Value.ownBlock] <;> omega)
       have W8 : Below w.heap.size w w8 := W7.grown hg W7.size (fun j hj => by simp [Value.ownBlock] at hj; omega)
       have o8 := only_grown hg
       have RL8 := o8.row RL7h.out (fun j hj hs => by simp [Value.ownBlock] at hs; have := RLm.out j hj; omega)
       have OV8 := o8.ownV OV7 (fun j hj hs => by simp [Value.ownBlock] at hs; have := iv.out j hj; omega)
       have OW8 := o8.ownV OW7 (fun j hj hs => by simp [Value.ownBlock] at hs; have := iw.out j hj; omega)
       have RO8 := o8.row RO7h.out (fun j hj hs => by simp [Value.ownBlock] at hs; have := io.out j hj; omega)
       have RK8 : Hid (RowD w8 w6.heap.size (.slice ka x.kn.length kc) x.kn) := hrow
       have ik : Hid (∀ b, (Value.slice ka x.kn.length kc).ownBlock = some b → w6.heap.size ≤ b) := by show ∀ b, _; intro b hb; exact (hrow.lt b hb).1
       have z8 := Z8.lt
       have A8b : Blk (w8.setCell ⟨w.heap.size, 6, none⟩ (.slice ka x.kn.length kc)) w.heap.size #[.int .i64 x.site, .bool x.up, .slice la x.sl.length lc, .slice va x.vs.length vc, .slice wa x.ws.length wc, .slice oa x.os.length oc, .slice ka x.kn.length kc] 63 := by
         have := A8.set 6 (.slice ka x.kn.length kc)
         simpa using this
       have Z8b := Z8.other (a := ⟨w.heap.size, 6, none⟩) (by simp) (.slice ka x.kn.length kc)
       have W8b := W8.setCell (p := ⟨w.heap.size, 6, none⟩) (by simp) (.slice ka x.kn.length kc)
       have S8 := (OwnS.mk4 (x := x) (a := ⟨la, lc, va, vc, wa, wc, oa, oc, ka, kc⟩) RL8 OV8 OW8 (row_mono RO8 (base' := w.heap.size + 1 + 1) (by omega)) (row_mono RK8.out (base' := w.heap.size + 1 + 1) (by omega)) HY.out HZ.out w3.heap.size w4.heap.size w6.heap.size iv.out iw.out (fun b hb => by have := io.out b hb; omega) (fun b hb => by have := ik.out b hb; omega) (by omega) (by omega)).setB (Z := w.heap.size) (j := 6) (u := .slice ka x.kn.length kc) (by omega)
       clear A7 Z7 W7 RL7h OV7 OW7 RO7h hg hloc hrow o8 RL8 OV8 OW8 RO8 RK8 E7 L7 q1 g1 q2 g2 q3 g3
       obtain ⟨q1, g1⟩ := A8.rules
       obtain ⟨q2, g2⟩ := A8b.rules
       obtain ⟨q4, g4⟩ := Z8b.rules)
    | (at_builtin; refine wpList_append_deps _ rfl _ _ rfl w4.heap.size (.slice (some ⟨w4.heap.size, 0, none⟩) 0 0) rfl E5 a.oa a.oc x.os rfl L5 ol (by simp) ?_
       intro v' w6 hrow hg hloc
       obtain ⟨oa, oc, rfl, _⟩ := row_slice hrow
       have A6 := A5.grown hg (by simp [Value.ownBlock] <;> omega)
       have Z6 := Z5.grown hg (by simp [Value.ownBlock] <;> omega)
       have W6 : Below w.heap.size w w6 := W5.grown hg W5.size (fun j hj => by simp [Value.ownBlock] at hj; omega)
       have o6 := only_grown hg
       have n6 := o6.size
       simp only [World.size_alloc, n4b] at n6
       have RL6 := o6.row RL5h.out (fun j hj hs => by simp [Value.ownBlock] at hs; have := RLm.out j hj; omega)
       have OV6 := o6.ownV OV5 (fun j hj hs => by simp [Value.ownBlock] at hs; have := iv.out j hj; omega)
       have OW6 := o6.ownV OW5 (fun j hj hs => by simp [Value.ownBlock] at hs; have := iw.out j hj; omega)
       have io : Hid (∀ b, (Value.slice oa x.os.length oc).ownBlock = some b → w4.heap.size ≤ b ∧ b < w6.heap.size) := by show ∀ b, _; intro b hb; exact hrow.lt b hb
       have RO6 : RowD w6 w4.heap.size (.slice oa x.os.length oc) x.os := hrow
       have z6 := Z6.lt
       have A6b : Blk (w6.setCell ⟨w.heap.size, 5, none⟩ (.slice oa x.os.length oc)) w.heap.size #[.int .i64 x.site, .bool x.up, .slice la x.sl.length lc, .slice va x.vs.length vc, .slice wa x.ws.length wc, .slice oa x.os.length oc, .slice a.ka x.kn.length a.kc] 63 := by
         have := A6.set 5 (.slice oa x.os.length oc)
         simpa using this
       have Z6b := Z6.other (a := ⟨w.heap.size, 5, none⟩) (by simp) (.slice oa x.os.length oc)
       have W6b := W6.setCell (p := ⟨w.heap.size, 5, none⟩) (by simp) (.slice oa x.os.length oc)
       have RL6b := rowSetB2 RL6 (Z := w.heap.size) (j := 5) (u := .slice oa x.os.length oc) (by omega)
       have OV6b := OV6.setB (Z := w.heap.size) (j := 5) (u := .slice oa x.os.length oc) (by omega)
       have OW6b := OW6.setB (Z := w.heap.size) (j := 5) (u := .slice oa x.os.length oc) (by omega)
       have RO6b := rowSetB RO6 (Z := w.heap.size) (j := 5) (u := .slice oa x.os.length oc) (by omega)
       have n6b : (w6.setCell ⟨w.heap.size, 5, none⟩ (.slice oa x.os.length oc)).heap.size = w6.heap.size := by simp
       have E7 := empty_row (w6.setCell ⟨w.heap.size, 5, none⟩ (.slice oa x.os.length oc)) 51 3
       rw [n6b] at E7
       have A7 := A6b.alloc (.cells #[] 51)
       have Z7 := Z6b.alloc (.cells #[] 51)
       have W7 := W6b.alloc W6b.size (.cells #[] 51)
       have RL7h : Hid _ := (show World.ownsRow _ _ _ _ _ _ _ from RL6b).alloc (.cells #[] 51)
       have OV7 := OV6b.alloc (.cells #[] 51)
       have OW7 := OW6b.alloc (.cells #[] 51)
       have RO7h : Hid _ := (show World.ownsRow _ _ _ _ _ _ _ from RO6b).alloc (.cells #[] 51)
       have L7 := (L.below W7).k
       have nz6 := W6.size
       clear A5 Z5 W5 RL5h OV5 OW5 hg hloc hrow o6 RL6 OV6 OW6 RO6 E5 L5 q1 g1 q2 g2 q3 g3 RL6b OV6b OW6b RO6b W6 W6b Z6 Z6b
       obtain ⟨q1, g1⟩ := A6.rules
       obtain ⟨q2, g2⟩ := A6b.rules
       obtain ⟨q3, g3⟩ := A7.rules
       have za6 := A6.lt
       clear A6 A6b))
  refine bodyPost_ret (v := servV x ⟨la, lc, va, vc, wa, wc, oa, oc, ka, kc⟩) ?_ rfl ⟨_, rfl, ⟨ys, zs, (S8.fill (by omega)).mono (by omega)⟩, fill7_below W8b (by omega)⟩
  refine Blk.gen (B := w.heap.size + 1) (vs := #[.int .i64 x.site, .bool x.up, .slice la x.sl.length lc, .slice va x.vs.length vc, .slice wa x.ws.length wc, .slice oa x.os.length oc, .slice ka x.kn.length kc]) (T := 63) ?_ (P := fun W => (results Try.f156 _).run Try.prog W = .ok _ W) ?_
  · exact Blk.fill7 Z8b
  intro W hW
  obtain ⟨k, f⟩ := hW.rules
  simp [results, Try.results156, go_sem, k]
end Go.Proofs.Ytgdkoangpinieaa

/- ServerFall and ServerRise of the program. -/
namespace Go.Proofs.Ytgdkoangpinieaa
open Go.ChangeShapes Go.WideShapes Go.ChangeAt Go.RowKit

set_option maxHeartbeats 4000000 in
theorem hostOf_no (x : Sv) (a : Sa) (w : World) (hl : LenS x) (h : InS w x a) (hs : servB x = false) :
    Calls Try.prog 157 #[servV x a] w fun e w' => e = .returned (.tuple #[.agg #[.slice none 0 0, .slice none 0 0, .slice none 0 0, .int .i64 0, .bool false, .int .i64 0, .int .i64 0, .int .i64 0, .int .i64 0, .int .i64 0, .int .i64 0, .slice none 0 0], .bool false]) ∧ Below w.heap.size w w' := by
  have b0 : Below w.heap.size w ((w.alloc (.cells #[.int .i64 x.site, .bool x.up, .slice a.la x.sl.length a.lc, .slice a.va x.vs.length a.vc, .slice a.wa x.ws.length a.wc, .slice a.oa x.os.length a.oc, .slice a.ka x.kn.length a.kc] 63)).alloc (.cells #[.slice none 0 0, .slice none 0 0, .slice none 0 0, .int .i64 0, .bool false, .int .i64 0, .int .i64 0, .int .i64 0, .int .i64 0, .int .i64 0, .int .i64 0, .slice none 0 0] 139)) := ((Below.refl _ _).alloc (Nat.le_refl _) _).alloc (by simp) _
  have R0 : Blk ((w.alloc (.cells #[.int .i64 x.site, .bool x.up, .slice a.la x.sl.length a.lc, .slice a.va x.vs.length a.vc, .slice a.wa x.ws.length a.wc, .slice a.oa x.os.length a.oc, .slice a.ka x.kn.length a.kc] 63)).alloc (.cells #[.slice none 0 0, .slice none 0 0, .slice none 0 0, .int .i64 0, .bool false, .int .i64 0, .int .i64 0, .int .i64 0, .int .i64 0, .int .i64 0, .int .i64 0, .slice none 0 0] 139)) (w.heap.size + 1) #[.slice none 0 0, .slice none 0 0, .slice none 0 0, .int .i64 0, .bool false, .int .i64 0, .int .i64 0, .int .i64 0, .int .i64 0, .int .i64 0, .int .i64 0, .slice none 0 0] 139 := by have := Blk.new (w.alloc (.cells #[.int .i64 x.site, .bool x.up, .slice a.la x.sl.length a.lc, .slice a.va x.vs.length a.vc, .slice a.wa x.ws.length a.wc, .slice a.oa x.os.length a.oc, .slice a.ka x.kn.length a.kc] 63)) #[.slice none 0 0, .slice none 0 0, .slice none 0 0, .int .i64 0, .bool false, .int .i64 0, .int .i64 0, .int .i64 0, .int .i64 0, .int .i64 0, .int .i64 0, .slice none 0 0] 139; simpa using this
  have L0 := h.below b0
  have hO := fun W h => iServerOk_any x a W hl h
  rw [hs] at hO
  clear h hs
  go_enter Try.func157, Try.ntmps157
  go_wp2_with fail
  generalize ((w.alloc (.cells #[.int .i64 x.site, .bool x.up, .slice a.la x.sl.length a.lc, .slice a.va x.vs.length a.vc, .slice a.wa x.ws.length a.wc, .slice a.oa x.os.length a.oc, .slice a.ka x.kn.length a.kc] 63)).alloc (.cells #[.slice none 0 0, .slice none 0 0, .slice none 0 0, .int .i64 0, .bool false, .int .i64 0, .int .i64 0, .int .i64 0, .int .i64 0, .int .i64 0, .int .i64 0, .slice none 0 0] 139)) = u0 at *
  refine (hO _ L0).mono ?_
  rintro e w1 ⟨rfl, hb⟩
  have R1 := R0.below hb R0.lt
  have B1 : Below w.heap.size w w1 := b0.trans (hb.mono b0.size)
  clear R0 L0 b0 hb hO
  obtain ⟨q1, g1⟩ := R1.rules
  go_wp2_with fail
  refine bodyPost_ret (v := .tuple #[.agg #[.slice none 0 0, .slice none 0 0, .slice none 0 0, .int .i64 0, .bool false, .int .i64 0, .int .i64 0, .int .i64 0, .int .i64 0, .int .i64 0, .int .i64 0, .slice none 0 0], .bool false]) ?_ rfl ⟨rfl, fill_below B1 (by omega)⟩
  refine Blk.gen (B := w.heap.size + 1) (vs := #[.slice none 0 0, .slice none 0 0, .slice none 0 0, .int .i64 0, .bool false, .int .i64 0, .int .i64 0, .int .i64 0, .int .i64 0, .int .i64 0, .int .i64 0, .slice none 0 0]) (T := 139) ?_ (P := fun W => (results Try.f157 _).run Try.prog W = .ok _ W) ?_
  · exact Blk.fill R1
  intro W hW
  obtain ⟨k, f⟩ := hW.rules
  simp [results, Try.results157, go_sem, k]

theorem OwnK.of_only {w w' : World} {S : Nat → Prop} (o : Only w w' S) {base : Nat} {x : Sv} {a : Sa} {ys zs : List XV} (h : OwnK w base x a ys zs) (hS : ∀ j, inSv x a ys zs j → ¬ S j) : OwnK w' base x a ys zs :=
  ⟨o.ownV h.v (fun j hj => hS j (.inr (.inl hj))), o.ownV h.w (fun j hj => hS j (.inr (.inr (.inl hj)))), o.row h.o (fun j hj => hS j (.inr (.inr (.inr (.inl hj))))), o.row h.k (fun j hj => hS j (.inr (.inr (.inr (.inr hj))))), h.hy, h.hz, h.vw, h.vo, h.vk, h.wo, h.wk, h.ok⟩
theorem OwnK.lt {w : World} {base : Nat} {x : Sv} {va wa oa ka : Option Addr} {vc wc oc kc : Nat} {ys zs : List XV} (h : OwnK w base x ⟨none, 0, va, vc, wa, wc, oa, oc, ka, kc⟩ ys zs) {j : Nat} (hj : inSv x ⟨none, 0, va, vc, wa, wc, oa, oc, ka, kc⟩ ys zs j) : j < w.heap.size := by
  rcases hj with hj | hj | hj | hj | hj
  · simp [Value.ownBlock] at hj
  · exact (h.v.lt hj).2
  · exact (h.w.lt hj).2
  · exact (h.o.lt j hj).2
  · exact (h.k.lt j hj).2
/-- A server that falls. -/
def fallX (x : Sv) : Sv := if servB x = true then ⟨x.site, false, x.sl, x.vs, x.ws, x.os, []⟩ else ⟨0, false, [], [], [], [], []⟩
/-- A server that rises. -/
def riseX (x : Sv) : Sv := if servB x = true then ⟨x.site, true, x.sl, x.vs, x.ws, x.os, x.kn⟩ else ⟨0, false, [], [], [], [], []⟩
theorem OwnK.noKn {W : World} {base : Nat} {x : Sv} {a : Sa} {ys zs : List XV} (h : OwnK W base x a ys zs) (up : Bool) (pa : Option Addr) (pc : Nat) : OwnK W base ⟨x.site, up, x.sl, x.vs, x.ws, x.os, []⟩ ⟨pa, pc, a.va, a.vc, a.wa, a.wc, a.oa, a.oc, none, 0⟩ ys zs :=
  ⟨h.v, h.w, h.o, rowD_nil _ _, h.hy, h.hz, h.vw, h.vo, fun b _ hb => by simp [Value.ownBlock] at hb, h.wo, fun b _ hb => by simp [Value.ownBlock] at hb, fun b _ hb => by simp [Value.ownBlock] at hb⟩
theorem OwnK.ups {W : World} {base : Nat} {x : Sv} {a : Sa} {ys zs : List XV} (h : OwnK W base x a ys zs) (up : Bool) (pa : Option Addr) (pc : Nat) : OwnK W base ⟨x.site, up, x.sl, x.vs, x.ws, x.os, x.kn⟩ ⟨pa, pc, a.va, a.vc, a.wa, a.wc, a.oa, a.oc, a.ka, a.kc⟩ ys zs :=
  ⟨h.v, h.w, h.o, h.k, h.hy, h.hz, h.vw, h.vo, h.vk, h.wo, h.wk, h.ok⟩

set_option maxHeartbeats 4000000 in
set_option maxRecDepth 20000 in
theorem iServerFall_any (x : Sv) (a : Sa) (w : World) (hl : LenS x) (h : InS w x a) : Calls Try.prog 73 #[servV x a] w fun e w' => ∃ b ys zs, e = .returned (servV (fallX x) b) ∧ OwnS w' w.heap.size (fallX x) b ys zs ∧ Below w.heap.size w w' := by
  have b0 : Below w.heap.size w ((w.alloc (.cells #[.int .i64 x.site, .bool x.up, .slice a.la x.sl.length a.lc, .slice a.va x.vs.length a.vc, .slice a.wa x.ws.length a.wc, .slice a.oa x.os.length a.oc, .slice a.ka x.kn.length a.kc] 63)).alloc (.cells #[.int .i64 0, .bool false, .slice none 0 0, .slice none 0 0, .slice none 0 0, .slice none 0 0, .slice none 0 0] 63)) := ((Below.refl _ _).alloc (Nat.le_refl _) _).alloc (by simp) _
  have Z0 : Blk ((w.alloc (.cells #[.int .i64 x.site, .bool x.up, .slice a.la x.sl.length a.lc, .slice a.va x.vs.length a.vc, .slice a.wa x.ws.length a.wc, .slice a.oa x.os.length a.oc, .slice a.ka x.kn.length a.kc] 63)).alloc (.cells #[.int .i64 0, .bool false, .slice none 0 0, .slice none 0 0, .slice none 0 0, .slice none 0 0, .slice none 0 0] 63)) (w.heap.size + 1) #[.int .i64 0, .bool false, .slice none 0 0, .slice none 0 0, .slice none 0 0, .slice none 0 0, .slice none 0 0] 63 := by have := Blk.new (w.alloc (.cells #[.int .i64 x.site, .bool x.up, .slice a.la x.sl.length a.lc, .slice a.va x.vs.length a.vc, .slice a.wa x.ws.length a.wc, .slice a.oa x.os.length a.oc, .slice a.ka x.kn.length a.kc] 63)) #[.int .i64 0, .bool false, .slice none 0 0, .slice none 0 0, .slice none 0 0, .slice none 0 0, .slice none 0 0] 63; simpa using this
  have L0 := h.below b0
  clear h
  rcases hs : servB x with _ | _
  · have HX : Hid (fallX x = ⟨0, false, [], [], [], [], []⟩) := by show _ = _; unfold fallX; rw [if_neg (by rw [hs]; exact Bool.false_ne_true)]
    go_enter Try.func73, Try.ntmps73
    go_wp2_with fail
    generalize ((w.alloc (.cells #[.int .i64 x.site, .bool x.up, .slice a.la x.sl.length a.lc, .slice a.va x.vs.length a.vc, .slice a.wa x.ws.length a.wc, .slice a.oa x.os.length a.oc, .slice a.ka x.kn.length a.kc] 63)).alloc (.cells #[.int .i64 0, .bool false, .slice none 0 0, .slice none 0 0, .slice none 0 0, .slice none 0 0, .slice none 0 0] 63)) = v0 at *
    refine (hostOf_no x a _ hl L0 hs).mono ?_
    rintro e w1 ⟨rfl, hb⟩
    have Z1 := (Z0.below hb Z0.lt)
    have Z1x := (Z0.below hb Z0.lt).alloc (.cells #[.slice none 0 0, .slice none 0 0, .slice none 0 0, .int .i64 0, .bool false, .int .i64 0, .int .i64 0, .int .i64 0, .int .i64 0, .int .i64 0, .int .i64 0, .slice none 0 0] 139)
    have z1 := (Z0.below hb Z0.lt).lt
    have B1 : Below w.heap.size w w1 := b0.trans (hb.mono b0.size)
    have nB := hb.size
    have n0 := Z0.lt
    obtain ⟨q1, g1⟩ := (Z0.below hb Z0.lt).rules
    clear Z0 b0 hb L0 hs Z1x
    go_wp2_with fail
    refine bodyPost_ret (v := .agg #[.int .i64 0, .bool false, .slice none 0 0, .slice none 0 0, .slice none 0 0, .slice none 0 0, .slice none 0 0]) ?_ rfl ⟨noA, [], [], by rw [HX.out]; rfl, ?_, (fill7_below B1 (by omega)).alloc (by simp; omega) _⟩
    · refine Blk.gen (B := w.heap.size + 1) (vs := #[.int .i64 0, .bool false, .slice none 0 0, .slice none 0 0, .slice none 0 0, .slice none 0 0, .slice none 0 0]) (T := 63) ?_ (P := fun W => (results Try.f73 _).run Try.prog W = .ok _ W) ?_
      · exact (Blk.fill7 Z1).alloc _
      intro W hW
      obtain ⟨k, f⟩ := hW.rules
      simp [results, Try.results73, go_sem, k]
    · rw [HX.out]; exact start_own (World.ownsRow_nil _ _ _ _)
  obtain ⟨t1, t2, t3, he⟩ := slotsB_three (xs := x.sl) (by unfold servB at hs; simp at hs; exact hs.1.1.1.1.1.1.1)
  have HSL : Hid (x.sl = [t1, t2, t3]) := he
  clear he
  have HX : Hid (fallX x = ⟨x.site, false, x.sl, x.vs, x.ws, x.os, []⟩) := by show _ = _; unfold fallX; rw [if_pos hs]
  go_enter Try.func73, Try.ntmps73
  go_wp2_with fail
  generalize ((w.alloc (.cells #[.int .i64 x.site, .bool x.up, .slice a.la x.sl.length a.lc, .slice a.va x.vs.length a.vc, .slice a.wa x.ws.length a.wc, .slice a.oa x.os.length a.oc, .slice a.ka x.kn.length a.kc] 63)).alloc (.cells #[.int .i64 0, .bool false, .slice none 0 0, .slice none 0 0, .slice none 0 0, .slice none 0 0, .slice none 0 0] 63)) = v0 at *
  refine (hostOf_yes x a t1 t2 t3 _ hl L0 hs HSL.out).mono ?_
  rintro e w1 ⟨va, vc, wa, wc, oa, oc, ka, kc, ys, zs, rfl, K1, hb⟩
  have za := (Z0.below hb Z0.lt).lt
  have Z2 := (Z0.below hb Z0.lt).alloc (.cells #[.slice va x.vs.length vc, .slice wa x.ws.length wc, .slice oa x.os.length oc, .int .i64 x.site, .bool false, .int .i64 t1.ep, .int .i64 t1.st, .int .i64 t2.ep, .int .i64 t2.st, .int .i64 t3.ep, .int .i64 t3.st, .slice none 0 0] 139)
  have bt : Below w1.heap.size w1 (w1.alloc (.cells #[.slice va x.vs.length vc, .slice wa x.ws.length wc, .slice oa x.os.length oc, .int .i64 x.site, .bool false, .int .i64 t1.ep, .int .i64 t1.st, .int .i64 t2.ep, .int .i64 t2.st, .int .i64 t3.ep, .int .i64 t3.st, .slice none 0 0] 139)) := (Below.refl _ _).alloc (Nat.le_refl _) _
  have B2 : Below w.heap.size w (w1.alloc (.cells #[.slice va x.vs.length vc, .slice wa x.ws.length wc, .slice oa x.os.length oc, .int .i64 x.site, .bool false, .int .i64 t1.ep, .int .i64 t1.st, .int .i64 t2.ep, .int .i64 t2.st, .int .i64 t3.ep, .int .i64 t3.st, .slice none 0 0] 139)) := (b0.trans (hb.mono b0.size)).alloc (by have := b0.size; have := hb.size; omega) _
  have K2b := K1.below bt (Nat.le_refl _)
  have n1 := hb.size
  have n0 := Z0.lt
  have nV : v0.heap.size ≤ (w1.alloc (.cells #[.slice va x.vs.length vc, .slice wa x.ws.length wc, .slice oa x.os.length oc, .int .i64 x.site, .bool false, .int .i64 t1.ep, .int .i64 t1.st, .int .i64 t2.ep, .int .i64 t2.st, .int .i64 t3.ep, .int .i64 t3.st, .slice none 0 0] 139)).heap.size := by simp; omega
  clear Z0 b0 hb L0 hs K1 bt
  go_wp2_with fail
  generalize (w1.alloc (.cells #[.slice va x.vs.length vc, .slice wa x.ws.length wc, .slice oa x.os.length oc, .int .i64 x.site, .bool false, .int .i64 t1.ep, .int .i64 t1.st, .int .i64 t2.ep, .int .i64 t2.st, .int .i64 t3.ep, .int .i64 t3.st, .slice none 0 0] 139)) = W at *
  refine (server_any x.site false va wa oa none x.vs.length vc x.ws.length wc x.os.length oc 0 0 t1 t2 t3 _).mono ?_
  rintro e w3 ⟨pa, pc, rfl, RS, hb3⟩
  have Z3 := Z2.below hb3 Z2.lt
  have B3 : Below w.heap.size w w3 := B2.trans (hb3.mono B2.size)
  have K3 := K2b.below hb3 (Nat.le_refl _)
  have RS2 : Hid (RowS w3 W.heap.size (.slice pa 3 pc) [t1, t2, t3]) := RS
  have z3 := Z3.lt
  have nW := B2.size
  have zW := Z2.lt
  clear Z2 B2 K2b hb3 RS
  obtain ⟨q1, g1⟩ := Z3.rules
  go_wp2_with fail
  refine bodyPost_ret (v := .agg #[.int .i64 x.site, .bool false, .slice pa 3 pc, .slice va x.vs.length vc, .slice wa x.ws.length wc, .slice oa x.os.length oc, .slice none 0 0]) ?_ rfl ⟨⟨pa, pc, va, vc, wa, wc, oa, oc, none, 0⟩, ys, zs, by rw [HX.out]; show Ending.returned _ = Ending.returned (Value.agg #[.int .i64 x.site, .bool false, .slice pa x.sl.length pc, .slice va x.vs.length vc, .slice wa x.ws.length wc, .slice oa x.os.length oc, .slice none 0 0]); rw [HSL.out]; rfl, ?_, fill7_below B3 (by omega)⟩
  · refine Blk.gen (B := w.heap.size + 1) (vs := #[.int .i64 x.site, .bool false, .slice pa 3 pc, .slice va x.vs.length vc, .slice wa x.ws.length wc, .slice oa x.os.length oc, .slice none 0 0]) (T := 63) ?_ (P := fun W => (results Try.f73 _).run Try.prog W = .ok _ W) ?_
    · exact Blk.fill7 Z3
    intro W hW
    obtain ⟨k, f⟩ := hW.rules
    simp [results, Try.results73, go_sem, k]
  · rw [HX.out]
    have l : RowS w3 v0.heap.size (.slice pa x.sl.length pc) x.sl := by rw [HSL.out]; exact row_mono RS2.out (by omega)
    exact (((K3.noKn false pa pc).withS l).fill (by omega)).mono (by omega)

set_option maxHeartbeats 4000000 in
set_option maxRecDepth 20000 in
theorem iServerRise_any (x : Sv) (a : Sa) (w : World) (hl : LenS x) (h : InS w x a) : Calls Try.prog 75 #[servV x a] w fun e w' => ∃ b ys zs, e = .returned (servV (riseX x) b) ∧ OwnS w' w.heap.size (riseX x) b ys zs ∧ Below w.heap.size w w' := by
  have b0 : Below w.heap.size w ((w.alloc (.cells #[.int .i64 x.site, .bool x.up, .slice a.la x.sl.length a.lc, .slice a.va x.vs.length a.vc, .slice a.wa x.ws.length a.wc, .slice a.oa x.os.length a.oc, .slice a.ka x.kn.length a.kc] 63)).alloc (.cells #[.int .i64 0, .bool false, .slice none 0 0, .slice none 0 0, .slice none 0 0, .slice none 0 0, .slice none 0 0] 63)) := ((Below.refl _ _).alloc (Nat.le_refl _) _).alloc (by simp) _
  have Z0 : Blk ((w.alloc (.cells #[.int .i64 x.site, .bool x.up, .slice a.la x.sl.length a.lc, .slice a.va x.vs.length a.vc, .slice a.wa x.ws.length a.wc, .slice a.oa x.os.length a.oc, .slice a.ka x.kn.length a.kc] 63)).alloc (.cells #[.int .i64 0, .bool false, .slice none 0 0, .slice none 0 0, .slice none 0 0, .slice none 0 0, .slice none 0 0] 63)) (w.heap.size + 1) #[.int .i64 0, .bool false, .slice none 0 0, .slice none 0 0, .slice none 0 0, .slice none 0 0, .slice none 0 0] 63 := by have := Blk.new (w.alloc (.cells #[.int .i64 x.site, .bool x.up, .slice a.la x.sl.length a.lc, .slice a.va x.vs.length a.vc, .slice a.wa x.ws.length a.wc, .slice a.oa x.os.length a.oc, .slice a.ka x.kn.length a.kc] 63)) #[.int .i64 0, .bool false, .slice none 0 0, .slice none 0 0, .slice none 0 0, .slice none 0 0, .slice none 0 0] 63; simpa using this
  have L0 := h.below b0
  clear h
  rcases hs : servB x with _ | _
  · have HX : Hid (riseX x = ⟨0, false, [], [], [], [], []⟩) := by show _ = _; unfold riseX; rw [if_neg (by rw [hs]; exact Bool.false_ne_true)]
    go_enter Try.func75, Try.ntmps75
    go_wp2_with fail
    generalize ((w.alloc (.cells #[.int .i64 x.site, .bool x.up, .slice a.la x.sl.length a.lc, .slice a.va x.vs.length a.vc, .slice a.wa x.ws.length a.wc, .slice a.oa x.os.length a.oc, .slice a.ka x.kn.length a.kc] 63)).alloc (.cells #[.int .i64 0, .bool false, .slice none 0 0, .slice none 0 0, .slice none 0 0, .slice none 0 0, .slice none 0 0] 63)) = v0 at *
    refine (hostOf_no x a _ hl L0 hs).mono ?_
    rintro e w1 ⟨rfl, hb⟩
    have Z1 := (Z0.below hb Z0.lt)
    have Z1x := (Z0.below hb Z0.lt).alloc (.cells #[.slice none 0 0, .slice none 0 0, .slice none 0 0, .int .i64 0, .bool false, .int .i64 0, .int .i64 0, .int .i64 0, .int .i64 0, .int .i64 0, .int .i64 0, .slice none 0 0] 139)
    have z1 := (Z0.below hb Z0.lt).lt
    have B1 : Below w.heap.size w w1 := b0.trans (hb.mono b0.size)
    have nB := hb.size
    have n0 := Z0.lt
    obtain ⟨q1, g1⟩ := (Z0.below hb Z0.lt).rules
    clear Z0 b0 hb L0 hs Z1x
    go_wp2_with fail
    refine bodyPost_ret (v := .agg #[.int .i64 0, .bool false, .slice none 0 0, .slice none 0 0, .slice none 0 0, .slice none 0 0, .slice none 0 0]) ?_ rfl ⟨noA, [], [], by rw [HX.out]; rfl, ?_, (fill7_below B1 (by omega)).alloc (by simp; omega) _⟩
    · refine Blk.gen (B := w.heap.size + 1) (vs := #[.int .i64 0, .bool false, .slice none 0 0, .slice none 0 0, .slice none 0 0, .slice none 0 0, .slice none 0 0]) (T := 63) ?_ (P := fun W => (results Try.f75 _).run Try.prog W = .ok _ W) ?_
      · exact (Blk.fill7 Z1).alloc _
      intro W hW
      obtain ⟨k, f⟩ := hW.rules
      simp [results, Try.results75, go_sem, k]
    · rw [HX.out]; exact start_own (World.ownsRow_nil _ _ _ _)
  obtain ⟨t1, t2, t3, he⟩ := slotsB_three (xs := x.sl) (by unfold servB at hs; simp at hs; exact hs.1.1.1.1.1.1.1)
  have HSL : Hid (x.sl = [t1, t2, t3]) := he
  clear he
  have HX : Hid (riseX x = ⟨x.site, true, x.sl, x.vs, x.ws, x.os, x.kn⟩) := by show _ = _; unfold riseX; rw [if_pos hs]
  go_enter Try.func75, Try.ntmps75
  go_wp2_with fail
  generalize ((w.alloc (.cells #[.int .i64 x.site, .bool x.up, .slice a.la x.sl.length a.lc, .slice a.va x.vs.length a.vc, .slice a.wa x.ws.length a.wc, .slice a.oa x.os.length a.oc, .slice a.ka x.kn.length a.kc] 63)).alloc (.cells #[.int .i64 0, .bool false, .slice none 0 0, .slice none 0 0, .slice none 0 0, .slice none 0 0, .slice none 0 0] 63)) = v0 at *
  refine (hostOf_yes x a t1 t2 t3 _ hl L0 hs HSL.out).mono ?_
  rintro e w1 ⟨va, vc, wa, wc, oa, oc, ka, kc, ys, zs, rfl, K1, hb⟩
  have za := (Z0.below hb Z0.lt).lt
  have Z2 := (Z0.below hb Z0.lt).alloc (.cells #[.slice va x.vs.length vc, .slice wa x.ws.length wc, .slice oa x.os.length oc, .int .i64 x.site, .bool true, .int .i64 t1.ep, .int .i64 t1.st, .int .i64 t2.ep, .int .i64 t2.st, .int .i64 t3.ep, .int .i64 t3.st, .slice ka x.kn.length kc] 139)
  have bt : Below w1.heap.size w1 (w1.alloc (.cells #[.slice va x.vs.length vc, .slice wa x.ws.length wc, .slice oa x.os.length oc, .int .i64 x.site, .bool true, .int .i64 t1.ep, .int .i64 t1.st, .int .i64 t2.ep, .int .i64 t2.st, .int .i64 t3.ep, .int .i64 t3.st, .slice ka x.kn.length kc] 139)) := (Below.refl _ _).alloc (Nat.le_refl _) _
  have B2 : Below w.heap.size w (w1.alloc (.cells #[.slice va x.vs.length vc, .slice wa x.ws.length wc, .slice oa x.os.length oc, .int .i64 x.site, .bool true, .int .i64 t1.ep, .int .i64 t1.st, .int .i64 t2.ep, .int .i64 t2.st, .int .i64 t3.ep, .int .i64 t3.st, .slice ka x.kn.length kc] 139)) := (b0.trans (hb.mono b0.size)).alloc (by have := b0.size; have := hb.size; omega) _
  have K2b := K1.below bt (Nat.le_refl _)
  have n1 := hb.size
  have n0 := Z0.lt
  have nV : v0.heap.size ≤ (w1.alloc (.cells #[.slice va x.vs.length vc, .slice wa x.ws.length wc, .slice oa x.os.length oc, .int .i64 x.site, .bool true, .int .i64 t1.ep, .int .i64 t1.st, .int .i64 t2.ep, .int .i64 t2.st, .int .i64 t3.ep, .int .i64 t3.st, .slice ka x.kn.length kc] 139)).heap.size := by simp; omega
  clear Z0 b0 hb L0 hs K1 bt
  go_wp2_with fail
  generalize (w1.alloc (.cells #[.slice va x.vs.length vc, .slice wa x.ws.length wc, .slice oa x.os.length oc, .int .i64 x.site, .bool true, .int .i64 t1.ep, .int .i64 t1.st, .int .i64 t2.ep, .int .i64 t2.st, .int .i64 t3.ep, .int .i64 t3.st, .slice ka x.kn.length kc] 139)) = W at *
  refine (server_any x.site true va wa oa ka x.vs.length vc x.ws.length wc x.os.length oc x.kn.length kc t1 t2 t3 _).mono ?_
  rintro e w3 ⟨pa, pc, rfl, RS, hb3⟩
  have Z3 := Z2.below hb3 Z2.lt
  have B3 : Below w.heap.size w w3 := B2.trans (hb3.mono B2.size)
  have K3 := K2b.below hb3 (Nat.le_refl _)
  have RS2 : Hid (RowS w3 W.heap.size (.slice pa 3 pc) [t1, t2, t3]) := RS
  have z3 := Z3.lt
  have nW := B2.size
  have zW := Z2.lt
  clear Z2 B2 K2b hb3 RS
  obtain ⟨q1, g1⟩ := Z3.rules
  go_wp2_with fail
  refine bodyPost_ret (v := .agg #[.int .i64 x.site, .bool true, .slice pa 3 pc, .slice va x.vs.length vc, .slice wa x.ws.length wc, .slice oa x.os.length oc, .slice ka x.kn.length kc]) ?_ rfl ⟨⟨pa, pc, va, vc, wa, wc, oa, oc, ka, kc⟩, ys, zs, by rw [HX.out]; show Ending.returned _ = Ending.returned (Value.agg #[.int .i64 x.site, .bool true, .slice pa x.sl.length pc, .slice va x.vs.length vc, .slice wa x.ws.length wc, .slice oa x.os.length oc, .slice ka x.kn.length kc]); rw [HSL.out]; rfl, ?_, fill7_below B3 (by omega)⟩
  · refine Blk.gen (B := w.heap.size + 1) (vs := #[.int .i64 x.site, .bool true, .slice pa 3 pc, .slice va x.vs.length vc, .slice wa x.ws.length wc, .slice oa x.os.length oc, .slice ka x.kn.length kc]) (T := 63) ?_ (P := fun W => (results Try.f75 _).run Try.prog W = .ok _ W) ?_
    · exact Blk.fill7 Z3
    intro W hW
    obtain ⟨k, f⟩ := hW.rules
    simp [results, Try.results75, go_sem, k]
  · rw [HX.out]
    have l : RowS w3 v0.heap.size (.slice pa x.sl.length pc) x.sl := by rw [HSL.out]; exact row_mono RS2.out (by omega)
    exact (((K3.ups true pa pc).withS l).fill (by omega)).mono (by omega)
end Go.Proofs.Ytgdkoangpinieaa

/- ServerFall and ServerRise of the specification. -/
namespace Go.Proofs.Ytgdkoangpinieaa
open Go.ChangeShapes Go.WideShapes Go.ChangeAt Go.RowKit


theorem OwnS.fallI {W : World} {base : Nat} {x : Sv} {b : Sa} {ys zs : List XV} {up : Bool} {pa : Option Addr} (h : OwnS W base x b ys zs) : InS W ⟨x.site, up, x.sl, x.vs, x.ws, x.os, []⟩ ⟨b.la, b.lc, b.va, b.vc, b.wa, b.wc, b.oa, b.oc, pa, 0⟩ := ⟨h.inS.l, h.inS.v, h.inS.w, h.inS.o, .inl rfl⟩
theorem InS.ups {W : World} {x : Sv} {b : Sa} {up : Bool} (h : InS W x b) : InS W ⟨x.site, up, x.sl, x.vs, x.ws, x.os, x.kn⟩ b := ⟨h.l, h.v, h.w, h.o, h.k⟩
set_option maxHeartbeats 4000000 in
set_option maxRecDepth 20000 in
theorem sServerFall_any (x : Sv) (a : Sa) (w : World) (hl : LenS x) (h : InS w x a) : Calls Try.prog 72 #[servV x a] w fun e w' => ∃ b, e = .returned (servV (fallX x) b) ∧ InS w' (fallX x) b ∧ Below w.heap.size w w' := by
  have b0 : Below w.heap.size w ((w.alloc (.cells #[.int .i64 x.site, .bool x.up, .slice a.la x.sl.length a.lc, .slice a.va x.vs.length a.vc, .slice a.wa x.ws.length a.wc, .slice a.oa x.os.length a.oc, .slice a.ka x.kn.length a.kc] 63)).alloc (.cells #[.int .i64 0, .bool false, .slice none 0 0, .slice none 0 0, .slice none 0 0, .slice none 0 0, .slice none 0 0] 63)) := ((Below.refl _ _).alloc (Nat.le_refl _) _).alloc (by simp) _
  have A0 : Blk ((w.alloc (.cells #[.int .i64 x.site, .bool x.up, .slice a.la x.sl.length a.lc, .slice a.va x.vs.length a.vc, .slice a.wa x.ws.length a.wc, .slice a.oa x.os.length a.oc, .slice a.ka x.kn.length a.kc] 63)).alloc (.cells #[.int .i64 0, .bool false, .slice none 0 0, .slice none 0 0, .slice none 0 0, .slice none 0 0, .slice none 0 0] 63)) w.heap.size #[.int .i64 x.site, .bool x.up, .slice a.la x.sl.length a.lc, .slice a.va x.vs.length a.vc, .slice a.wa x.ws.length a.wc, .slice a.oa x.os.length a.oc, .slice a.ka x.kn.length a.kc] 63 := (Blk.new w _ _).alloc _
  have Z0 : Blk ((w.alloc (.cells #[.int .i64 x.site, .bool x.up, .slice a.la x.sl.length a.lc, .slice a.va x.vs.length a.vc, .slice a.wa x.ws.length a.wc, .slice a.oa x.os.length a.oc, .slice a.ka x.kn.length a.kc] 63)).alloc (.cells #[.int .i64 0, .bool false, .slice none 0 0, .slice none 0 0, .slice none 0 0, .slice none 0 0, .slice none 0 0] 63)) (w.heap.size + 1) #[.int .i64 0, .bool false, .slice none 0 0, .slice none 0 0, .slice none 0 0, .slice none 0 0, .slice none 0 0] 63 := by have := Blk.new (w.alloc (.cells #[.int .i64 x.site, .bool x.up, .slice a.la x.sl.length a.lc, .slice a.va x.vs.length a.vc, .slice a.wa x.ws.length a.wc, .slice a.oa x.os.length a.oc, .slice a.ka x.kn.length a.kc] 63)) #[.int .i64 0, .bool false, .slice none 0 0, .slice none 0 0, .slice none 0 0, .slice none 0 0, .slice none 0 0] 63; simpa using this
  have L0 := h.below b0
  clear h
  have hO := fun W h => sServerOk_any x a W hl h
  rcases hs : servB x with _ | _
  · have HX : Hid (fallX x = ⟨0, false, [], [], [], [], []⟩) := by show _ = _; unfold fallX; rw [if_neg (by rw [hs]; exact Bool.false_ne_true)]
    rw [hs] at hO
    go_enter Try.func72, Try.ntmps72
    go_wp2_with fail
    generalize ((w.alloc (.cells #[.int .i64 x.site, .bool x.up, .slice a.la x.sl.length a.lc, .slice a.va x.vs.length a.vc, .slice a.wa x.ws.length a.wc, .slice a.oa x.os.length a.oc, .slice a.ka x.kn.length a.kc] 63)).alloc (.cells #[.int .i64 0, .bool false, .slice none 0 0, .slice none 0 0, .slice none 0 0, .slice none 0 0, .slice none 0 0] 63)) = v0 at *
    refine (hO _ L0).mono ?_
    rintro e w1 ⟨rfl, hb⟩
    have Z1 := Z0.below hb Z0.lt
    have B1 : Below w.heap.size w w1 := b0.trans (hb.mono b0.size)
    obtain ⟨q1, g1⟩ := Z1.rules
    clear Z0 b0 hb L0 hs A0 hO
    go_wp2_with fail
    refine bodyPost_ret (v := .agg #[.int .i64 0, .bool false, .slice none 0 0, .slice none 0 0, .slice none 0 0, .slice none 0 0, .slice none 0 0]) ?_ rfl ⟨noA, by rw [HX.out]; rfl, ?_, fill7_below B1 (by omega)⟩
    · refine Blk.gen (B := w.heap.size + 1) (vs := #[.int .i64 0, .bool false, .slice none 0 0, .slice none 0 0, .slice none 0 0, .slice none 0 0, .slice none 0 0]) (T := 63) ?_ (P := fun W => (results Try.f72 _).run Try.prog W = .ok _ W) ?_
      · exact Blk.fill7 Z1
      intro W hW
      obtain ⟨k, f⟩ := hW.rules
      simp [results, Try.results72, go_sem, k]
    · rw [HX.out]; exact ⟨.inl rfl, .inl rfl, .inl rfl, .inl rfl, .inl rfl⟩
  have HX : Hid (fallX x = ⟨x.site, false, x.sl, x.vs, x.ws, x.os, []⟩) := by show _ = _; unfold fallX; rw [if_pos hs]
  rw [hs] at hO
  go_enter Try.func72, Try.ntmps72
  go_wp2_with fail
  generalize ((w.alloc (.cells #[.int .i64 x.site, .bool x.up, .slice a.la x.sl.length a.lc, .slice a.va x.vs.length a.vc, .slice a.wa x.ws.length a.wc, .slice a.oa x.os.length a.oc, .slice a.ka x.kn.length a.kc] 63)).alloc (.cells #[.int .i64 0, .bool false, .slice none 0 0, .slice none 0 0, .slice none 0 0, .slice none 0 0, .slice none 0 0] 63)) = v0 at *
  refine (hO _ L0).mono ?_
  rintro e w1 ⟨rfl, hb⟩
  have A1 := A0.below hb A0.lt
  have Z1 := Z0.below hb Z0.lt
  have L1 := L0.below hb
  have B1 : Below w.heap.size w w1 := b0.trans (hb.mono b0.size)
  clear A0 Z0 L0 b0 hb hO hs
  obtain ⟨q1, g1⟩ := A1.rules
  go_wp2_with fail
  clear q1 g1
  refine (sCopySv_any x a _ hl L1).mono ?_
  rintro e w2 ⟨b, ys, zs, rfl, S2, hb⟩
  have kb : Below w2.heap.size w2 ((w2.alloc (.cells #[.int .i64 x.site, .bool false, .slice b.la x.sl.length b.lc, .slice b.va x.vs.length b.vc, .slice b.wa x.ws.length b.wc, .slice b.oa x.os.length b.oc, .slice (some ⟨w2.heap.size + 1, 0, none⟩) 0 0] 63)).alloc (.cells #[] 51)) := (((Below.refl _ w2).alloc (Nat.le_refl _) _).alloc (by simp) _)
  have kk := hb.trans (kb.mono hb.size)
  have Z3 := Z1.below kk Z1.lt
  have B2 : Below w.heap.size w w2 := B1.trans (hb.mono B1.size)
  have B3 : Below w.heap.size w ((w2.alloc (.cells #[.int .i64 x.site, .bool false, .slice b.la x.sl.length b.lc, .slice b.va x.vs.length b.vc, .slice b.wa x.ws.length b.wc, .slice b.oa x.os.length b.oc, .slice (some ⟨w2.heap.size + 1, 0, none⟩) 0 0] 63)).alloc (.cells #[] 51)) := B1.trans (kk.mono B1.size)
  have S2f := S2.below kb (Nat.le_refl _)
  have nz := hb.size
  have n1 := Z1.lt
  have z2 : w.heap.size + 1 < w2.heap.size := Nat.lt_of_lt_of_le Z1.lt hb.size
  have Z2 := Z1.below hb Z1.lt
  obtain ⟨q2, g2⟩ := Z2.rules
  obtain ⟨q3, g3⟩ := Z3.rules
  clear A1 Z1 L1 B1 hb S2 kb kk Z2
  go_wp2_with fail
  refine bodyPost_ret (v := .agg #[.int .i64 x.site, .bool false, .slice b.la x.sl.length b.lc, .slice b.va x.vs.length b.vc, .slice b.wa x.ws.length b.wc, .slice b.oa x.os.length b.oc, .slice (some ⟨w2.heap.size + 1, 0, none⟩) 0 0]) ?_ rfl ⟨⟨b.la, b.lc, b.va, b.vc, b.wa, b.wc, b.oa, b.oc, some ⟨w2.heap.size + 1, 0, none⟩, 0⟩, by rw [HX.out]; rfl, ?_, fill7_below B3 (by omega)⟩
  · refine Blk.gen (B := w.heap.size + 1) (vs := #[.int .i64 x.site, .bool false, .slice b.la x.sl.length b.lc, .slice b.va x.vs.length b.vc, .slice b.wa x.ws.length b.wc, .slice b.oa x.os.length b.oc, .slice (some ⟨w2.heap.size + 1, 0, none⟩) 0 0]) (T := 63) ?_ (P := fun W => (results Try.f72 _).run Try.prog W = .ok _ W) ?_
    · exact Blk.fill7 Z3
    intro W hW
    obtain ⟨k, f⟩ := hW.rules
    simp [results, Try.results72, go_sem, k]
  · rw [HX.out]
    exact (S2f.fill n1).fallI

set_option maxHeartbeats 4000000 in
set_option maxRecDepth 20000 in
theorem sServerRise_any (x : Sv) (a : Sa) (w : World) (hl : LenS x) (h : InS w x a) : Calls Try.prog 74 #[servV x a] w fun e w' => ∃ b, e = .returned (servV (riseX x) b) ∧ InS w' (riseX x) b ∧ Below w.heap.size w w' := by
  have b0 : Below w.heap.size w ((w.alloc (.cells #[.int .i64 x.site, .bool x.up, .slice a.la x.sl.length a.lc, .slice a.va x.vs.length a.vc, .slice a.wa x.ws.length a.wc, .slice a.oa x.os.length a.oc, .slice a.ka x.kn.length a.kc] 63)).alloc (.cells #[.int .i64 0, .bool false, .slice none 0 0, .slice none 0 0, .slice none 0 0, .slice none 0 0, .slice none 0 0] 63)) := ((Below.refl _ _).alloc (Nat.le_refl _) _).alloc (by simp) _
  have A0 : Blk ((w.alloc (.cells #[.int .i64 x.site, .bool x.up, .slice a.la x.sl.length a.lc, .slice a.va x.vs.length a.vc, .slice a.wa x.ws.length a.wc, .slice a.oa x.os.length a.oc, .slice a.ka x.kn.length a.kc] 63)).alloc (.cells #[.int .i64 0, .bool false, .slice none 0 0, .slice none 0 0, .slice none 0 0, .slice none 0 0, .slice none 0 0] 63)) w.heap.size #[.int .i64 x.site, .bool x.up, .slice a.la x.sl.length a.lc, .slice a.va x.vs.length a.vc, .slice a.wa x.ws.length a.wc, .slice a.oa x.os.length a.oc, .slice a.ka x.kn.length a.kc] 63 := (Blk.new w _ _).alloc _
  have Z0 : Blk ((w.alloc (.cells #[.int .i64 x.site, .bool x.up, .slice a.la x.sl.length a.lc, .slice a.va x.vs.length a.vc, .slice a.wa x.ws.length a.wc, .slice a.oa x.os.length a.oc, .slice a.ka x.kn.length a.kc] 63)).alloc (.cells #[.int .i64 0, .bool false, .slice none 0 0, .slice none 0 0, .slice none 0 0, .slice none 0 0, .slice none 0 0] 63)) (w.heap.size + 1) #[.int .i64 0, .bool false, .slice none 0 0, .slice none 0 0, .slice none 0 0, .slice none 0 0, .slice none 0 0] 63 := by have := Blk.new (w.alloc (.cells #[.int .i64 x.site, .bool x.up, .slice a.la x.sl.length a.lc, .slice a.va x.vs.length a.vc, .slice a.wa x.ws.length a.wc, .slice a.oa x.os.length a.oc, .slice a.ka x.kn.length a.kc] 63)) #[.int .i64 0, .bool false, .slice none 0 0, .slice none 0 0, .slice none 0 0, .slice none 0 0, .slice none 0 0] 63; simpa using this
  have L0 := h.below b0
  clear h
  have hO := fun W h => sServerOk_any x a W hl h
  rcases hs : servB x with _ | _
  · have HX : Hid (riseX x = ⟨0, false, [], [], [], [], []⟩) := by show _ = _; unfold riseX; rw [if_neg (by rw [hs]; exact Bool.false_ne_true)]
    rw [hs] at hO
    go_enter Try.func74, Try.ntmps74
    go_wp2_with fail
    generalize ((w.alloc (.cells #[.int .i64 x.site, .bool x.up, .slice a.la x.sl.length a.lc, .slice a.va x.vs.length a.vc, .slice a.wa x.ws.length a.wc, .slice a.oa x.os.length a.oc, .slice a.ka x.kn.length a.kc] 63)).alloc (.cells #[.int .i64 0, .bool false, .slice none 0 0, .slice none 0 0, .slice none 0 0, .slice none 0 0, .slice none 0 0] 63)) = v0 at *
    refine (hO _ L0).mono ?_
    rintro e w1 ⟨rfl, hb⟩
    have Z1 := Z0.below hb Z0.lt
    have B1 : Below w.heap.size w w1 := b0.trans (hb.mono b0.size)
    obtain ⟨q1, g1⟩ := Z1.rules
    clear Z0 b0 hb L0 hs A0 hO
    go_wp2_with fail
    refine bodyPost_ret (v := .agg #[.int .i64 0, .bool false, .slice none 0 0, .slice none 0 0, .slice none 0 0, .slice none 0 0, .slice none 0 0]) ?_ rfl ⟨noA, by rw [HX.out]; rfl, ?_, fill7_below B1 (by omega)⟩
    · refine Blk.gen (B := w.heap.size + 1) (vs := #[.int .i64 0, .bool false, .slice none 0 0, .slice none 0 0, .slice none 0 0, .slice none 0 0, .slice none 0 0]) (T := 63) ?_ (P := fun W => (results Try.f74 _).run Try.prog W = .ok _ W) ?_
      · exact Blk.fill7 Z1
      intro W hW
      obtain ⟨k, f⟩ := hW.rules
      simp [results, Try.results74, go_sem, k]
    · rw [HX.out]; exact ⟨.inl rfl, .inl rfl, .inl rfl, .inl rfl, .inl rfl⟩
  have HX : Hid (riseX x = ⟨x.site, true, x.sl, x.vs, x.ws, x.os, x.kn⟩) := by show _ = _; unfold riseX; rw [if_pos hs]
  rw [hs] at hO
  go_enter Try.func74, Try.ntmps74
  go_wp2_with fail
  generalize ((w.alloc (.cells #[.int .i64 x.site, .bool x.up, .slice a.la x.sl.length a.lc, .slice a.va x.vs.length a.vc, .slice a.wa x.ws.length a.wc, .slice a.oa x.os.length a.oc, .slice a.ka x.kn.length a.kc] 63)).alloc (.cells #[.int .i64 0, .bool false, .slice none 0 0, .slice none 0 0, .slice none 0 0, .slice none 0 0, .slice none 0 0] 63)) = v0 at *
  refine (hO _ L0).mono ?_
  rintro e w1 ⟨rfl, hb⟩
  have A1 := A0.below hb A0.lt
  have Z1 := Z0.below hb Z0.lt
  have L1 := L0.below hb
  have B1 : Below w.heap.size w w1 := b0.trans (hb.mono b0.size)
  clear A0 Z0 L0 b0 hb hO hs
  obtain ⟨q1, g1⟩ := A1.rules
  go_wp2_with fail
  clear q1 g1
  refine (sCopySv_any x a _ hl L1).mono ?_
  rintro e w2 ⟨b, ys, zs, rfl, S2, hb⟩
  have kb : Below w2.heap.size w2 (w2.alloc (.cells #[.int .i64 x.site, .bool true, .slice b.la x.sl.length b.lc, .slice b.va x.vs.length b.vc, .slice b.wa x.ws.length b.wc, .slice b.oa x.os.length b.oc, .slice b.ka x.kn.length b.kc] 63)) := ((Below.refl _ w2).alloc (Nat.le_refl _) _)
  have kk := hb.trans (kb.mono hb.size)
  have Z3 := Z1.below kk Z1.lt
  have B2 : Below w.heap.size w w2 := B1.trans (hb.mono B1.size)
  have Z2f := Z1.below hb Z1.lt
  have B3 : Below w.heap.size w (w2.alloc (.cells #[.int .i64 x.site, .bool true, .slice b.la x.sl.length b.lc, .slice b.va x.vs.length b.vc, .slice b.wa x.ws.length b.wc, .slice b.oa x.os.length b.oc, .slice b.ka x.kn.length b.kc] 63)) := B1.trans (kk.mono B1.size)
  have S2f := S2
  have nz := hb.size
  have n1 := Z1.lt
  have z2 : w.heap.size + 1 < w2.heap.size := Nat.lt_of_lt_of_le Z1.lt hb.size
  have Z2 := Z1.below hb Z1.lt
  obtain ⟨q2, g2⟩ := Z2.rules
  obtain ⟨q3, g3⟩ := Z3.rules
  clear A1 Z1 L1 B1 hb S2 kb kk Z2
  go_wp2_with fail
  refine bodyPost_ret (v := .agg #[.int .i64 x.site, .bool true, .slice b.la x.sl.length b.lc, .slice b.va x.vs.length b.vc, .slice b.wa x.ws.length b.wc, .slice b.oa x.os.length b.oc, .slice b.ka x.kn.length b.kc]) ?_ rfl ⟨b, by rw [HX.out], ?_, (fill7_below B2 (by omega)).alloc (by first | omega | (simp; done) | (simp; omega)) _⟩
  · refine Blk.gen (B := w.heap.size + 1) (vs := #[.int .i64 x.site, .bool true, .slice b.la x.sl.length b.lc, .slice b.va x.vs.length b.vc, .slice b.wa x.ws.length b.wc, .slice b.oa x.os.length b.oc, .slice b.ka x.kn.length b.kc]) (T := 63) ?_ (P := fun W => (results Try.f74 _).run Try.prog W = .ok _ W) ?_
    · exact ((Blk.fill7 Z2f).alloc _)
    intro W hW
    obtain ⟨k, f⟩ := hW.rules
    simp [results, Try.results74, go_sem, k]
  · rw [HX.out]
    exact ((S2f.fill n1).inS.below ((Below.refl _ _).alloc (Nat.le_refl _) _)).ups
end Go.Proofs.Ytgdkoangpinieaa

/- The exact laws of ServerFall and ServerRise. -/
namespace Go.Proofs.Ytgdkoangpinieaa
open Go.ChangeShapes Go.WideShapes Go.ChangeAt Go.RowKit Go.Deep

theorem fall_size (x : Sv) : sizeS (fallX x) ≤ sizeS x := by
  unfold fallX
  split
  · simp [sizeS]; omega
  · simp [sizeS, tot]; omega
theorem rise_size (x : Sv) : sizeS (riseX x) ≤ sizeS x := by
  unfold riseX
  split
  · simp [sizeS]
  · simp [sizeS, tot]; omega
theorem end_size (x : Sv) (h : sizeS x ≤ 1048576) : 0 ≤ endS 1 x ∧ endS 1 x ≤ 10000000 := by
  unfold sizeS at h
  unfold endS endV
  omega
theorem Only.inS {w w' : World} {S : Nat → Prop} {W0 : World} {x : Sv} {a : Sa} (h : InS W0 x a) (k : Below W0.heap.size W0 w) (o : Only w w' S) (hS : ∀ j, S j → W0.heap.size ≤ j) : InS w' x a := h.below (k.trans (o.below k.size hS))

set_option maxHeartbeats 8000000 in
set_option maxRecDepth 20000 in
theorem lawXServerFall (x : Sv) (a : Sa) (w : World) (h : InJ w x a) :
    Calls Try.prog 20 #[servV x a] w fun e w' => e = .returned (.bool true) ∧ Below w.heap.size w w' := by
  have b0 : Below w.heap.size w (w.alloc (.cells #[.int .i64 x.site, .bool x.up, .slice a.la x.sl.length a.lc, .slice a.va x.vs.length a.vc, .slice a.wa x.ws.length a.wc, .slice a.oa x.os.length a.oc, .slice a.ka x.kn.length a.kc] 81)) := (Below.refl _ _).alloc (Nat.le_refl _) _
  have A0 := Blk.new w #[.int .i64 x.site, .bool x.up, .slice a.la x.sl.length a.lc, .slice a.va x.vs.length a.vc, .slice a.wa x.ws.length a.wc, .slice a.oa x.os.length a.oc, .slice a.ka x.kn.length a.kc] 81
  have I0 := h.below b0
  go_enter Try.func20, Try.ntmps20
  go_wp2_with fail
  generalize w.alloc (.cells #[.int .i64 x.site, .bool x.up, .slice a.la x.sl.length a.lc, .slice a.va x.vs.length a.vc, .slice a.wa x.ws.length a.wc, .slice a.oa x.os.length a.oc, .slice a.ka x.kn.length a.kc] 81) = w0 at *
  refine (szServer_any x a _ I0).mono ?_
  rintro e w1 ⟨r, rfl, hr, hb1⟩
  have A1 := A0.below hb1 A0.lt
  have I1 := I0.below hb1
  have B1 : Below w.heap.size w w1 := b0.trans (hb1.mono b0.size)
  clear A0 I0 b0 hb1
  rcases hr with hr | ⟨hr, hs⟩
  · have d1 : decide (r < 0) = true := by simpa using hr
    clear A1 I1 hr h
    go_wp2_with fail
    go_ret
    exact ⟨rfl, B1⟩
  have d1 : decide (r < 0) = false := by simp; omega
  have hF := Fit.of hs
  have L1 := I1.inS hs
  have hT := fun W h => toServer_any x a W hF h
  have hS := fun b W h => sServerFall_any x b W hF.len h
  have hI := fun b W h => iServerFall_any x b W hF.len h
  have hEx := fun c b W h h' => eqServer_any x c b W hF h h'
  have hsy : sizeS (fallX x) ≤ 1048576 := by have := fall_size x; omega
  have hMx := fun c ys zs base W h => markServer_any x c ys zs base 1 W hs (by omega) (end_size x hs).2 h
  have ex0 : 0 ≤ endS 1 x := (end_size x hs).1
  generalize fallX x = y at *
  have hEy := fun c b W h h' => eqServer_any y c b W (Fit.of hsy) h h'
  have hMy := fun c ys zs base W h => markServer_any y c ys zs base 1 W hsy (by omega) (end_size y hsy).2 h
  have hHy := fun c W h => heldServer_any y c 1 W hsy (by omega) (end_size y hsy).2 h
  have ey0 : 0 ≤ endS 1 y := (end_size y hsy).1
  generalize endS 1 x = ex at *
  generalize endS 1 y = ey at *
  have dx0 : decide (ex < 0) = false := by simp; omega
  have dy0 : decide (ey < 0) = false := by simp; omega
  clear I1 h hs hF hsy
  obtain ⟨q1, g1⟩ := A1.rules
  go_wp2_with fail
  clear q1 g1 d1
  -- the specification's answer
  refine (hT _ L1).mono ?_
  rintro e w2 ⟨b0, ys0, zs0, rfl, M2, hb2⟩
  have A2 := A1.below hb2 A1.lt
  have L2 := L1.below hb2
  have B2 : Below w.heap.size w w2 := B1.trans (hb2.mono B1.size)
  have N2 := M2.inS
  clear A1 L1 B1 hb2 M2
  go_wp2_with fail
  refine (hS b0 _ N2).mono ?_
  rintro e w3 ⟨b, rfl, J3, hb3⟩
  have bw : Below w3.heap.size w3 (w3.alloc (.cells #[.int .i64 y.site, .bool y.up, .slice b.la y.sl.length b.lc, .slice b.va y.vs.length b.vc, .slice b.wa y.ws.length b.wc, .slice b.oa y.os.length b.oc, .slice b.ka y.kn.length b.kc] 63)) := (Below.refl _ _).alloc (Nat.le_refl _) _
  have bb3 := hb3.trans (bw.mono hb3.size)
  have A3 := A2.below bb3 A2.lt
  have L3 := L2.below bb3
  have B3 : Below w.heap.size w (w3.alloc (.cells #[.int .i64 y.site, .bool y.up, .slice b.la y.sl.length b.lc, .slice b.va y.vs.length b.vc, .slice b.wa y.ws.length b.wc, .slice b.oa y.os.length b.oc, .slice b.ka y.kn.length b.kc] 63)) := B2.trans (bb3.mono B2.size)
  have J3' := J3.below bw
  have E3 := Blk.new w3 #[.int .i64 y.site, .bool y.up, .slice b.la y.sl.length b.lc, .slice b.va y.vs.length b.vc, .slice b.wa y.ws.length b.wc, .slice b.oa y.os.length b.oc, .slice b.ka y.kn.length b.kc] 63
  have zA3 : w.heap.size < w3.heap.size := Nat.lt_of_lt_of_le A2.lt hb3.size
  have A3' := A2.below hb3 A2.lt
  obtain ⟨q1, g1⟩ := A3'.rules
  clear A2 L2 B2 hb3 N2 hS J3 bw bb3 A3'
  go_wp2_with fail
  clear q1 g1
  generalize hU3 : w3.alloc (.cells #[.int .i64 y.site, .bool y.up, .slice b.la y.sl.length b.lc, .slice b.va y.vs.length b.vc, .slice b.wa y.ws.length b.wc, .slice b.oa y.os.length b.oc, .slice b.ka y.kn.length b.kc] 63) = U3 at *
  have zU3 : w3.heap.size < U3.heap.size := E3.lt
  have zUA : w.heap.size < U3.heap.size := A3.lt
  clear hU3
  refine (hT _ L3).mono ?_
  rintro e w4 ⟨c, ysx, zsx, rfl, X4, hb4⟩
  have bx4 : Below w4.heap.size w4 (w4.alloc (.cells #[.int .i64 x.site, .bool x.up, .slice c.la x.sl.length c.lc, .slice c.va x.vs.length c.vc, .slice c.wa x.ws.length c.wc, .slice c.oa x.os.length c.oc, .slice c.ka x.kn.length c.kc] 63)) := (Below.refl _ _).alloc (Nat.le_refl _) _
  have bb4 := hb4.trans (bx4.mono hb4.size)
  have A4 := A3.below bb4 A3.lt
  have E4 := E3.below bb4 E3.lt
  have B4 : Below w.heap.size w (w4.alloc (.cells #[.int .i64 x.site, .bool x.up, .slice c.la x.sl.length c.lc, .slice c.va x.vs.length c.vc, .slice c.wa x.ws.length c.wc, .slice c.oa x.os.length c.oc, .slice c.ka x.kn.length c.kc] 63)) := B3.trans (bb4.mono B3.size)
  have kJ : Below U3.heap.size U3 (w4.alloc (.cells #[.int .i64 x.site, .bool x.up, .slice c.la x.sl.length c.lc, .slice c.va x.vs.length c.vc, .slice c.wa x.ws.length c.wc, .slice c.oa x.os.length c.oc, .slice c.ka x.kn.length c.kc] 63)) := bb4
  have Xlt : Hid (∀ j, inSv x c ysx zsx j → U3.heap.size ≤ j ∧ j < w4.heap.size) := by show ∀ j, _; intro j hj; exact X4.lt hj
  have X4' := X4.below bx4 (Nat.le_refl _)
  have F4 := Blk.new w4 #[.int .i64 x.site, .bool x.up, .slice c.la x.sl.length c.lc, .slice c.va x.vs.length c.vc, .slice c.wa x.ws.length c.wc, .slice c.oa x.os.length c.oc, .slice c.ka x.kn.length c.kc] 63
  have nU3 := hb4.size
  clear A3 E3 hb4 X4 bx4 bb4
  obtain ⟨q1, g1⟩ := F4.rules
  go_wp2_with fail
  clear q1 g1
  generalize hU4 : w4.alloc (.cells #[.int .i64 x.site, .bool x.up, .slice c.la x.sl.length c.lc, .slice c.va x.vs.length c.vc, .slice c.wa x.ws.length c.wc, .slice c.oa x.os.length c.oc, .slice c.ka x.kn.length c.kc] 63) = U4 at *
  have nU4 : w4.heap.size < U4.heap.size := F4.lt
  clear hU4
  refine (hI c _ X4'.inS).mono ?_
  rintro e w5 ⟨g, ysg, zsg, rfl, G5, hb5⟩
  have bg5 : Below w5.heap.size w5 (w5.alloc (.cells #[.int .i64 y.site, .bool y.up, .slice g.la y.sl.length g.lc, .slice g.va y.vs.length g.vc, .slice g.wa y.ws.length g.wc, .slice g.oa y.os.length g.oc, .slice g.ka y.kn.length g.kc] 63)) := (Below.refl _ _).alloc (Nat.le_refl _) _
  have bb5 := hb5.trans (bg5.mono hb5.size)
  have A5 := A4.below bb5 A4.lt
  have E5 := E4.below bb5 E4.lt
  have F5 := F4.below bb5 F4.lt
  have X5 := X4'.below bb5 (Nat.le_refl _)
  have B5 : Below w.heap.size w (w5.alloc (.cells #[.int .i64 y.site, .bool y.up, .slice g.la y.sl.length g.lc, .slice g.va y.vs.length g.vc, .slice g.wa y.ws.length g.wc, .slice g.oa y.os.length g.oc, .slice g.ka y.kn.length g.kc] 63)) := B4.trans (bb5.mono B4.size)
  have kJ5 := kJ.trans (bb5.mono kJ.size)
  have Glt : Hid (∀ j, inSv y g ysg zsg j → U4.heap.size ≤ j ∧ j < w5.heap.size) := by show ∀ j, _; intro j hj; exact G5.lt hj
  have G5' := G5.below bg5 (Nat.le_refl _)
  have H5 := Blk.new w5 #[.int .i64 y.site, .bool y.up, .slice g.la y.sl.length g.lc, .slice g.va y.vs.length g.vc, .slice g.wa y.ws.length g.wc, .slice g.oa y.os.length g.oc, .slice g.ka y.kn.length g.kc] 63
  have n5 := hb5.size
  have zE5 : w3.heap.size < w5.heap.size := Nat.lt_of_lt_of_le E4.lt hb5.size
  have E5' := E4.below hb5 E4.lt
  obtain ⟨q1, g1⟩ := E5'.rules
  obtain ⟨q2, g2⟩ := H5.rules
  clear A4 E4 F4 X4' B4 B5 kJ hb5 G5 bg5 bb5 E5'
  go_wp2_with fail
  clear q1 g1 q2 g2
  generalize hU5 : w5.alloc (.cells #[.int .i64 y.site, .bool y.up, .slice g.la y.sl.length g.lc, .slice g.va y.vs.length g.vc, .slice g.wa y.ws.length g.wc, .slice g.oa y.os.length g.oc, .slice g.ka y.kn.length g.kc] 63) = U5 at *
  have nU5 : w5.heap.size < U5.heap.size := H5.lt
  clear hU5
  refine (hEy g b _ G5'.inS (J3'.below kJ5)).mono ?_
  rintro e w6 ⟨rfl, hb6⟩
  have A6 := A5.below hb6 A5.lt
  have E6 := E5.below hb6 E5.lt
  have F6 := F5.below hb6 F5.lt
  have H6 := H5.below hb6 H5.lt
  have X6 := X5.below hb6 (Nat.le_refl _)
  have G6 := G5'.below hb6 (Nat.le_refl _)
  have kJ6 := kJ5.trans (hb6.mono kJ5.size)
  have I6 : InV w6 w.heap.size w4.heap.size _ _ w6 := ⟨Below.refl _ _, ⟨A6.lt, A6.cell⟩, ⟨F6.lt, F6.cell⟩⟩
  have L6 := L3.below kJ6
  have M6 := X6.inS
  clear A5 E5 F5 H5 X5 G5' kJ5 hb6
  go_wp2_with fail
  go_region_held3 (fun W => Below w6.heap.size w6 W ∧ (w.heap.size < W.heap.size ∧ ∀ j, W.cell? ⟨w.heap.size, j, none⟩ = #[.int .i64 x.site, .bool x.up, .slice a.la x.sl.length a.lc, .slice a.va x.vs.length a.vc, .slice a.wa x.ws.length a.wc, .slice a.oa x.os.length a.oc, .slice a.ka x.kn.length a.kc][j]?) ∧ (w4.heap.size < W.heap.size ∧ ∀ j, W.cell? ⟨w4.heap.size, j, none⟩ = #[.int .i64 x.site, .bool x.up, .slice c.la x.sl.length c.lc, .slice c.va x.vs.length c.vc, .slice c.wa x.ws.length c.wc, .slice c.oa x.os.length c.oc, .slice c.ka x.kn.length c.kc][j]?)) (first | exact InV.drew (by assumption) | exact InV.below (by assumption) (by assumption)) (first | (go_at_call 69; refine (hT _ (L6.below (InV.drew I6).1)).mono ?_; rintro e w7 ⟨d, ys7, zs7, rfl, M7, h7⟩) | (go_at_call 64; refine (hEx c d _ ((M6.below (InV.drew I6).1).below h7) M7.inS).mono ?_; rintro e w8 ⟨rfl, h8⟩))
  rename_i I8
  have k8 : Below w6.heap.size w6 w8 := I8.1
  have A8 := A6.below k8 A6.lt
  have E8 := E6.below k8 E6.lt
  have F8 := F6.below k8 F6.lt
  have H8 := H6.below k8 H6.lt
  have X8 := X6.below k8 (Nat.le_refl _)
  have G8 := G6.below k8 (Nat.le_refl _)
  have kJ8 := kJ6.trans (k8.mono kJ6.size)
  have n8 : w5.heap.size < w8.heap.size := H8.lt
  clear A6 E6 F6 H6 X6 G6 kJ6 I6 I8 k8 M6 M7 h7 h8 L6 hEx
  obtain ⟨q1, g1⟩ := F8.rules
  go_wp2_with fail
  clear q1 g1
  refine (hMx c ysx zsx U3.heap.size _ X8).mono ?_
  rintro e w9 ⟨rfl, _, o9⟩
  have A9 := o9.blk A8 (fun hs => by rcases hs with hs | hs; omega; have := Xlt.out _ hs; omega)
  have E9 := o9.blk E8 (fun hs => by rcases hs with hs | hs; omega; have := Xlt.out _ hs; omega)
  have H9 := o9.blk H8 (fun hs => by rcases hs with hs | hs; omega; have := Xlt.out _ hs; omega)
  have G9 := o9.ownS G8 (fun j hj hs => by have := Glt.out j hj; rcases hs with hs | hs; omega; have := Xlt.out _ hs; omega)
  have kJ9 := kJ8.trans (o9.below kJ8.size (fun j hj => by have := kJ8.size; rcases hj with hj | hj; omega; exact (Xlt.out j hj).1))
  clear A8 E8 F8 H8 X8 G8 kJ8 o9 hMx Xlt
  obtain ⟨q1, g1⟩ := E9.rules
  obtain ⟨q2, g2⟩ := H9.rules
  go_wp2_with fail
  clear q1 g1 q2 g2
  refine (hEy g b _ G9.inS (J3'.below kJ9)).mono ?_
  rintro e w10 ⟨rfl, hb10⟩
  have A10 := A9.below hb10 A9.lt
  have E10 := E9.below hb10 E9.lt
  have H10 := H9.below hb10 H9.lt
  have G10 := G9.below hb10 (Nat.le_refl _)
  have kJ10 := kJ9.trans (hb10.mono kJ9.size)
  have n10 : w5.heap.size < w10.heap.size := H10.lt
  clear A9 E9 H9 G9 kJ9 hb10
  obtain ⟨q2, g2⟩ := H10.rules
  go_wp2_with fail
  clear q2 g2
  refine (hMy g ysg zsg U4.heap.size _ G10).mono ?_
  rintro e w11 ⟨rfl, Q11, o11⟩
  have A11 := o11.blk A10 (fun hs => by rcases hs with hs | hs; omega; have := Glt.out _ hs; omega)
  have E11 := o11.blk E10 (fun hs => by rcases hs with hs | hs; omega; have := Glt.out _ hs; omega)
  have H11 := o11.blk H10 (fun hs => by rcases hs with hs | hs; omega; have := Glt.out _ hs; omega)
  have kJ11 := kJ10.trans (o11.below kJ10.size (fun j hj => by have := kJ10.size; rcases hj with hj | hj; omega; have := Glt.out j hj; omega))
  clear A10 E10 H10 G10 kJ10 o11 hMy Glt
  obtain ⟨q2, g2⟩ := H11.rules
  go_wp2_with fail
  clear q2 g2
  refine (hHy g _ Q11).mono ?_
  rintro e w12 ⟨rfl, hb12⟩
  have A12 := A11.below hb12 A11.lt
  have E12 := E11.below hb12 E11.lt
  have H12 := H11.below hb12 H11.lt
  have Q12 := Q11.below hb12
  have kJ12 := kJ11.trans (hb12.mono kJ11.size)
  clear A11 E11 H11 Q11 kJ11 hb12
  obtain ⟨q1, g1⟩ := A12.rules
  go_wp2_with fail
  clear q1 g1
  refine (hT _ (L3.below kJ12)).mono ?_
  rintro e w13 ⟨d, ysd, zsd, rfl, M13, hb13⟩
  have E13 := E12.below hb13 E12.lt
  have H13 := H12.below hb13 H12.lt
  have Q13 := Q12.below hb13
  have kJ13 := kJ12.trans (hb13.mono kJ12.size)
  clear A12 E12 H12 Q12 kJ12 hb13 hT
  go_wp2_with fail
  refine (hI d _ M13.inS).mono ?_
  rintro e w14 ⟨h, ysh, zsh, rfl, G14, hb14⟩
  have bh : Below w14.heap.size w14 (w14.alloc (.cells #[.int .i64 y.site, .bool y.up, .slice h.la y.sl.length h.lc, .slice h.va y.vs.length h.vc, .slice h.wa y.ws.length h.wc, .slice h.oa y.os.length h.oc, .slice h.ka y.kn.length h.kc] 63)) := (Below.refl _ _).alloc (Nat.le_refl _) _
  have bb14 := hb14.trans (bh.mono hb14.size)
  have zE14 : w3.heap.size < w14.heap.size := Nat.lt_of_lt_of_le E13.lt hb14.size
  have E14' := E13.below hb14 E13.lt
  have H14 := H13.below bb14 H13.lt
  have Q14 := Q13.below bb14
  have kJ14 := kJ13.trans (bb14.mono kJ13.size)
  have N14 := G14.inS.below bh
  have P14 := Blk.new w14 #[.int .i64 y.site, .bool y.up, .slice h.la y.sl.length h.lc, .slice h.va y.vs.length h.vc, .slice h.wa y.ws.length h.wc, .slice h.oa y.os.length h.oc, .slice h.ka y.kn.length h.kc] 63
  obtain ⟨q1, g1⟩ := E14'.rules
  obtain ⟨q2, g2⟩ := P14.rules
  clear E13 H13 Q13 kJ13 hb14 M13 G14 bh bb14 hI E14'
  go_wp2_with fail
  clear q1 g1 q2 g2
  generalize w14.alloc (.cells #[.int .i64 y.site, .bool y.up, .slice h.la y.sl.length h.lc, .slice h.va y.vs.length h.vc, .slice h.wa y.ws.length h.wc, .slice h.oa y.os.length h.oc, .slice h.ka y.kn.length h.kc] 63) = U14 at *
  refine (hEy h b _ N14 (J3'.below kJ14)).mono ?_
  rintro e w15 ⟨rfl, hb15⟩
  have H15 := H14.below hb15 H14.lt
  have Q15 := Q14.below hb15
  have kJ15 := kJ14.trans (hb15.mono kJ14.size)
  clear H14 Q14 kJ14 hb15 N14 P14 hEy
  obtain ⟨q2, g2⟩ := H15.rules
  go_wp2_with fail
  clear q2 g2
  refine (hHy g _ Q15).mono ?_
  rintro e w16 ⟨rfl, hb16⟩
  have kJ16 := kJ15.trans (hb16.mono kJ15.size)
  have B16 : Below w.heap.size w w16 := B3.trans (kJ16.mono B3.size)
  clear H15 Q15 kJ15 hb16 hHy kJ16 B3 J3' L3
  go_wp2_with fail
  go_ret
  exact ⟨rfl, B16⟩

set_option maxHeartbeats 8000000 in
set_option maxRecDepth 20000 in
theorem lawXServerRise (x : Sv) (a : Sa) (w : World) (h : InJ w x a) :
    Calls Try.prog 21 #[servV x a] w fun e w' => e = .returned (.bool true) ∧ Below w.heap.size w w' := by
  have b0 : Below w.heap.size w (w.alloc (.cells #[.int .i64 x.site, .bool x.up, .slice a.la x.sl.length a.lc, .slice a.va x.vs.length a.vc, .slice a.wa x.ws.length a.wc, .slice a.oa x.os.length a.oc, .slice a.ka x.kn.length a.kc] 81)) := (Below.refl _ _).alloc (Nat.le_refl _) _
  have A0 := Blk.new w #[.int .i64 x.site, .bool x.up, .slice a.la x.sl.length a.lc, .slice a.va x.vs.length a.vc, .slice a.wa x.ws.length a.wc, .slice a.oa x.os.length a.oc, .slice a.ka x.kn.length a.kc] 81
  have I0 := h.below b0
  go_enter Try.func21, Try.ntmps21
  go_wp2_with fail
  generalize w.alloc (.cells #[.int .i64 x.site, .bool x.up, .slice a.la x.sl.length a.lc, .slice a.va x.vs.length a.vc, .slice a.wa x.ws.length a.wc, .slice a.oa x.os.length a.oc, .slice a.ka x.kn.length a.kc] 81) = w0 at *
  refine (szServer_any x a _ I0).mono ?_
  rintro e w1 ⟨r, rfl, hr, hb1⟩
  have A1 := A0.below hb1 A0.lt
  have I1 := I0.below hb1
  have B1 : Below w.heap.size w w1 := b0.trans (hb1.mono b0.size)
  clear A0 I0 b0 hb1
  rcases hr with hr | ⟨hr, hs⟩
  · have d1 : decide (r < 0) = true := by simpa using hr
    clear A1 I1 hr h
    go_wp2_with fail
    go_ret
    exact ⟨rfl, B1⟩
  have d1 : decide (r < 0) = false := by simp; omega
  have hF := Fit.of hs
  have L1 := I1.inS hs
  have hT := fun W h => toServer_any x a W hF h
  have hS := fun b W h => sServerRise_any x b W hF.len h
  have hI := fun b W h => iServerRise_any x b W hF.len h
  have hEx := fun c b W h h' => eqServer_any x c b W hF h h'
  have hsy : sizeS (riseX x) ≤ 1048576 := by have := rise_size x; omega
  have hMx := fun c ys zs base W h => markServer_any x c ys zs base 1 W hs (by omega) (end_size x hs).2 h
  have ex0 : 0 ≤ endS 1 x := (end_size x hs).1
  generalize riseX x = y at *
  have hEy := fun c b W h h' => eqServer_any y c b W (Fit.of hsy) h h'
  have hMy := fun c ys zs base W h => markServer_any y c ys zs base 1 W hsy (by omega) (end_size y hsy).2 h
  have hHy := fun c W h => heldServer_any y c 1 W hsy (by omega) (end_size y hsy).2 h
  have ey0 : 0 ≤ endS 1 y := (end_size y hsy).1
  generalize endS 1 x = ex at *
  generalize endS 1 y = ey at *
  have dx0 : decide (ex < 0) = false := by simp; omega
  have dy0 : decide (ey < 0) = false := by simp; omega
  clear I1 h hs hF hsy
  obtain ⟨q1, g1⟩ := A1.rules
  go_wp2_with fail
  clear q1 g1 d1
  -- the specification's answer
  refine (hT _ L1).mono ?_
  rintro e w2 ⟨b0, ys0, zs0, rfl, M2, hb2⟩
  have A2 := A1.below hb2 A1.lt
  have L2 := L1.below hb2
  have B2 : Below w.heap.size w w2 := B1.trans (hb2.mono B1.size)
  have N2 := M2.inS
  clear A1 L1 B1 hb2 M2
  go_wp2_with fail
  refine (hS b0 _ N2).mono ?_
  rintro e w3 ⟨b, rfl, J3, hb3⟩
  have bw : Below w3.heap.size w3 (w3.alloc (.cells #[.int .i64 y.site, .bool y.up, .slice b.la y.sl.length b.lc, .slice b.va y.vs.length b.vc, .slice b.wa y.ws.length b.wc, .slice b.oa y.os.length b.oc, .slice b.ka y.kn.length b.kc] 63)) := (Below.refl _ _).alloc (Nat.le_refl _) _
  have bb3 := hb3.trans (bw.mono hb3.size)
  have A3 := A2.below bb3 A2.lt
  have L3 := L2.below bb3
  have B3 : Below w.heap.size w (w3.alloc (.cells #[.int .i64 y.site, .bool y.up, .slice b.la y.sl.length b.lc, .slice b.va y.vs.length b.vc, .slice b.wa y.ws.length b.wc, .slice b.oa y.os.length b.oc, .slice b.ka y.kn.length b.kc] 63)) := B2.trans (bb3.mono B2.size)
  have J3' := J3.below bw
  have E3 := Blk.new w3 #[.int .i64 y.site, .bool y.up, .slice b.la y.sl.length b.lc, .slice b.va y.vs.length b.vc, .slice b.wa y.ws.length b.wc, .slice b.oa y.os.length b.oc, .slice b.ka y.kn.length b.kc] 63
  have zA3 : w.heap.size < w3.heap.size := Nat.lt_of_lt_of_le A2.lt hb3.size
  have A3' := A2.below hb3 A2.lt
  obtain ⟨q1, g1⟩ := A3'.rules
  clear A2 L2 B2 hb3 N2 hS J3 bw bb3 A3'
  go_wp2_with fail
  clear q1 g1
  generalize hU3 : w3.alloc (.cells #[.int .i64 y.site, .bool y.up, .slice b.la y.sl.length b.lc, .slice b.va y.vs.length b.vc, .slice b.wa y.ws.length b.wc, .slice b.oa y.os.length b.oc, .slice b.ka y.kn.length b.kc] 63) = U3 at *
  have zU3 : w3.heap.size < U3.heap.size := E3.lt
  have zUA : w.heap.size < U3.heap.size := A3.lt
  clear hU3
  refine (hT _ L3).mono ?_
  rintro e w4 ⟨c, ysx, zsx, rfl, X4, hb4⟩
  have bx4 : Below w4.heap.size w4 (w4.alloc (.cells #[.int .i64 x.site, .bool x.up, .slice c.la x.sl.length c.lc, .slice c.va x.vs.length c.vc, .slice c.wa x.ws.length c.wc, .slice c.oa x.os.length c.oc, .slice c.ka x.kn.length c.kc] 63)) := (Below.refl _ _).alloc (Nat.le_refl _) _
  have bb4 := hb4.trans (bx4.mono hb4.size)
  have A4 := A3.below bb4 A3.lt
  have E4 := E3.below bb4 E3.lt
  have B4 : Below w.heap.size w (w4.alloc (.cells #[.int .i64 x.site, .bool x.up, .slice c.la x.sl.length c.lc, .slice c.va x.vs.length c.vc, .slice c.wa x.ws.length c.wc, .slice c.oa x.os.length c.oc, .slice c.ka x.kn.length c.kc] 63)) := B3.trans (bb4.mono B3.size)
  have kJ : Below U3.heap.size U3 (w4.alloc (.cells #[.int .i64 x.site, .bool x.up, .slice c.la x.sl.length c.lc, .slice c.va x.vs.length c.vc, .slice c.wa x.ws.length c.wc, .slice c.oa x.os.length c.oc, .slice c.ka x.kn.length c.kc] 63)) := bb4
  have Xlt : Hid (∀ j, inSv x c ysx zsx j → U3.heap.size ≤ j ∧ j < w4.heap.size) := by show ∀ j, _; intro j hj; exact X4.lt hj
  have X4' := X4.below bx4 (Nat.le_refl _)
  have F4 := Blk.new w4 #[.int .i64 x.site, .bool x.up, .slice c.la x.sl.length c.lc, .slice c.va x.vs.length c.vc, .slice c.wa x.ws.length c.wc, .slice c.oa x.os.length c.oc, .slice c.ka x.kn.length c.kc] 63
  have nU3 := hb4.size
  clear A3 E3 hb4 X4 bx4 bb4
  obtain ⟨q1, g1⟩ := F4.rules
  go_wp2_with fail
  clear q1 g1
  generalize hU4 : w4.alloc (.cells #[.int .i64 x.site, .bool x.up, .slice c.la x.sl.length c.lc, .slice c.va x.vs.length c.vc, .slice c.wa x.ws.length c.wc, .slice c.oa x.os.length c.oc, .slice c.ka x.kn.length c.kc] 63) = U4 at *
  have nU4 : w4.heap.size < U4.heap.size := F4.lt
  clear hU4
  refine (hI c _ X4'.inS).mono ?_
  rintro e w5 ⟨g, ysg, zsg, rfl, G5, hb5⟩
  have bg5 : Below w5.heap.size w5 (w5.alloc (.cells #[.int .i64 y.site, .bool y.up, .slice g.la y.sl.length g.lc, .slice g.va y.vs.length g.vc, .slice g.wa y.ws.length g.wc, .slice g.oa y.os.length g.oc, .slice g.ka y.kn.length g.kc] 63)) := (Below.refl _ _).alloc (Nat.le_refl _) _
  have bb5 := hb5.trans (bg5.mono hb5.size)
  have A5 := A4.below bb5 A4.lt
  have E5 := E4.below bb5 E4.lt
  have F5 := F4.below bb5 F4.lt
  have X5 := X4'.below bb5 (Nat.le_refl _)
  have B5 : Below w.heap.size w (w5.alloc (.cells #[.int .i64 y.site, .bool y.up, .slice g.la y.sl.length g.lc, .slice g.va y.vs.length g.vc, .slice g.wa y.ws.length g.wc, .slice g.oa y.os.length g.oc, .slice g.ka y.kn.length g.kc] 63)) := B4.trans (bb5.mono B4.size)
  have kJ5 := kJ.trans (bb5.mono kJ.size)
  have Glt : Hid (∀ j, inSv y g ysg zsg j → U4.heap.size ≤ j ∧ j < w5.heap.size) := by show ∀ j, _; intro j hj; exact G5.lt hj
  have G5' := G5.below bg5 (Nat.le_refl _)
  have H5 := Blk.new w5 #[.int .i64 y.site, .bool y.up, .slice g.la y.sl.length g.lc, .slice g.va y.vs.length g.vc, .slice g.wa y.ws.length g.wc, .slice g.oa y.os.length g.oc, .slice g.ka y.kn.length g.kc] 63
  have n5 := hb5.size
  have zE5 : w3.heap.size < w5.heap.size := Nat.lt_of_lt_of_le E4.lt hb5.size
  have E5' := E4.below hb5 E4.lt
  obtain ⟨q1, g1⟩ := E5'.rules
  obtain ⟨q2, g2⟩ := H5.rules
  clear A4 E4 F4 X4' B4 B5 kJ hb5 G5 bg5 bb5 E5'
  go_wp2_with fail
  clear q1 g1 q2 g2
  generalize hU5 : w5.alloc (.cells #[.int .i64 y.site, .bool y.up, .slice g.la y.sl.length g.lc, .slice g.va y.vs.length g.vc, .slice g.wa y.ws.length g.wc, .slice g.oa y.os.length g.oc, .slice g.ka y.kn.length g.kc] 63) = U5 at *
  have nU5 : w5.heap.size < U5.heap.size := H5.lt
  clear hU5
  refine (hEy g b _ G5'.inS (J3'.below kJ5)).mono ?_
  rintro e w6 ⟨rfl, hb6⟩
  have A6 := A5.below hb6 A5.lt
  have E6 := E5.below hb6 E5.lt
  have F6 := F5.below hb6 F5.lt
  have H6 := H5.below hb6 H5.lt
  have X6 := X5.below hb6 (Nat.le_refl _)
  have G6 := G5'.below hb6 (Nat.le_refl _)
  have kJ6 := kJ5.trans (hb6.mono kJ5.size)
  have I6 : InV w6 w.heap.size w4.heap.size _ _ w6 := ⟨Below.refl _ _, ⟨A6.lt, A6.cell⟩, ⟨F6.lt, F6.cell⟩⟩
  have L6 := L3.below kJ6
  have M6 := X6.inS
  clear A5 E5 F5 H5 X5 G5' kJ5 hb6
  go_wp2_with fail
  go_region_held3 (fun W => Below w6.heap.size w6 W ∧ (w.heap.size < W.heap.size ∧ ∀ j, W.cell? ⟨w.heap.size, j, none⟩ = #[.int .i64 x.site, .bool x.up, .slice a.la x.sl.length a.lc, .slice a.va x.vs.length a.vc, .slice a.wa x.ws.length a.wc, .slice a.oa x.os.length a.oc, .slice a.ka x.kn.length a.kc][j]?) ∧ (w4.heap.size < W.heap.size ∧ ∀ j, W.cell? ⟨w4.heap.size, j, none⟩ = #[.int .i64 x.site, .bool x.up, .slice c.la x.sl.length c.lc, .slice c.va x.vs.length c.vc, .slice c.wa x.ws.length c.wc, .slice c.oa x.os.length c.oc, .slice c.ka x.kn.length c.kc][j]?)) (first | exact InV.drew (by assumption) | exact InV.below (by assumption) (by assumption)) (first | (go_at_call 69; refine (hT _ (L6.below (InV.drew I6).1)).mono ?_; rintro e w7 ⟨d, ys7, zs7, rfl, M7, h7⟩) | (go_at_call 64; refine (hEx c d _ ((M6.below (InV.drew I6).1).below h7) M7.inS).mono ?_; rintro e w8 ⟨rfl, h8⟩))
  rename_i I8
  have k8 : Below w6.heap.size w6 w8 := I8.1
  have A8 := A6.below k8 A6.lt
  have E8 := E6.below k8 E6.lt
  have F8 := F6.below k8 F6.lt
  have H8 := H6.below k8 H6.lt
  have X8 := X6.below k8 (Nat.le_refl _)
  have G8 := G6.below k8 (Nat.le_refl _)
  have kJ8 := kJ6.trans (k8.mono kJ6.size)
  have n8 : w5.heap.size < w8.heap.size := H8.lt
  clear A6 E6 F6 H6 X6 G6 kJ6 I6 I8 k8 M6 M7 h7 h8 L6 hEx
  obtain ⟨q1, g1⟩ := F8.rules
  go_wp2_with fail
  clear q1 g1
  refine (hMx c ysx zsx U3.heap.size _ X8).mono ?_
  rintro e w9 ⟨rfl, _, o9⟩
  have A9 := o9.blk A8 (fun hs => by rcases hs with hs | hs; omega; have := Xlt.out _ hs; omega)
  have E9 := o9.blk E8 (fun hs => by rcases hs with hs | hs; omega; have := Xlt.out _ hs; omega)
  have H9 := o9.blk H8 (fun hs => by rcases hs with hs | hs; omega; have := Xlt.out _ hs; omega)
  have G9 := o9.ownS G8 (fun j hj hs => by have := Glt.out j hj; rcases hs with hs | hs; omega; have := Xlt.out _ hs; omega)
  have kJ9 := kJ8.trans (o9.below kJ8.size (fun j hj => by have := kJ8.size; rcases hj with hj | hj; omega; exact (Xlt.out j hj).1))
  clear A8 E8 F8 H8 X8 G8 kJ8 o9 hMx Xlt
  obtain ⟨q1, g1⟩ := E9.rules
  obtain ⟨q2, g2⟩ := H9.rules
  go_wp2_with fail
  clear q1 g1 q2 g2
  refine (hEy g b _ G9.inS (J3'.below kJ9)).mono ?_
  rintro e w10 ⟨rfl, hb10⟩
  have A10 := A9.below hb10 A9.lt
  have E10 := E9.below hb10 E9.lt
  have H10 := H9.below hb10 H9.lt
  have G10 := G9.below hb10 (Nat.le_refl _)
  have kJ10 := kJ9.trans (hb10.mono kJ9.size)
  have n10 : w5.heap.size < w10.heap.size := H10.lt
  clear A9 E9 H9 G9 kJ9 hb10
  obtain ⟨q2, g2⟩ := H10.rules
  go_wp2_with fail
  clear q2 g2
  refine (hMy g ysg zsg U4.heap.size _ G10).mono ?_
  rintro e w11 ⟨rfl, Q11, o11⟩
  have A11 := o11.blk A10 (fun hs => by rcases hs with hs | hs; omega; have := Glt.out _ hs; omega)
  have E11 := o11.blk E10 (fun hs => by rcases hs with hs | hs; omega; have := Glt.out _ hs; omega)
  have H11 := o11.blk H10 (fun hs => by rcases hs with hs | hs; omega; have := Glt.out _ hs; omega)
  have kJ11 := kJ10.trans (o11.below kJ10.size (fun j hj => by have := kJ10.size; rcases hj with hj | hj; omega; have := Glt.out j hj; omega))
  clear A10 E10 H10 G10 kJ10 o11 hMy Glt
  obtain ⟨q2, g2⟩ := H11.rules
  go_wp2_with fail
  clear q2 g2
  refine (hHy g _ Q11).mono ?_
  rintro e w12 ⟨rfl, hb12⟩
  have A12 := A11.below hb12 A11.lt
  have E12 := E11.below hb12 E11.lt
  have H12 := H11.below hb12 H11.lt
  have Q12 := Q11.below hb12
  have kJ12 := kJ11.trans (hb12.mono kJ11.size)
  clear A11 E11 H11 Q11 kJ11 hb12
  obtain ⟨q1, g1⟩ := A12.rules
  go_wp2_with fail
  clear q1 g1
  refine (hT _ (L3.below kJ12)).mono ?_
  rintro e w13 ⟨d, ysd, zsd, rfl, M13, hb13⟩
  have E13 := E12.below hb13 E12.lt
  have H13 := H12.below hb13 H12.lt
  have Q13 := Q12.below hb13
  have kJ13 := kJ12.trans (hb13.mono kJ12.size)
  clear A12 E12 H12 Q12 kJ12 hb13 hT
  go_wp2_with fail
  refine (hI d _ M13.inS).mono ?_
  rintro e w14 ⟨h, ysh, zsh, rfl, G14, hb14⟩
  have bh : Below w14.heap.size w14 (w14.alloc (.cells #[.int .i64 y.site, .bool y.up, .slice h.la y.sl.length h.lc, .slice h.va y.vs.length h.vc, .slice h.wa y.ws.length h.wc, .slice h.oa y.os.length h.oc, .slice h.ka y.kn.length h.kc] 63)) := (Below.refl _ _).alloc (Nat.le_refl _) _
  have bb14 := hb14.trans (bh.mono hb14.size)
  have zE14 : w3.heap.size < w14.heap.size := Nat.lt_of_lt_of_le E13.lt hb14.size
  have E14' := E13.below hb14 E13.lt
  have H14 := H13.below bb14 H13.lt
  have Q14 := Q13.below bb14
  have kJ14 := kJ13.trans (bb14.mono kJ13.size)
  have N14 := G14.inS.below bh
  have P14 := Blk.new w14 #[.int .i64 y.site, .bool y.up, .slice h.la y.sl.length h.lc, .slice h.va y.vs.length h.vc, .slice h.wa y.ws.length h.wc, .slice h.oa y.os.length h.oc, .slice h.ka y.kn.length h.kc] 63
  obtain ⟨q1, g1⟩ := E14'.rules
  obtain ⟨q2, g2⟩ := P14.rules
  clear E13 H13 Q13 kJ13 hb14 M13 G14 bh bb14 hI E14'
  go_wp2_with fail
  clear q1 g1 q2 g2
  generalize w14.alloc (.cells #[.int .i64 y.site, .bool y.up, .slice h.la y.sl.length h.lc, .slice h.va y.vs.length h.vc, .slice h.wa y.ws.length h.wc, .slice h.oa y.os.length h.oc, .slice h.ka y.kn.length h.kc] 63) = U14 at *
  refine (hEy h b _ N14 (J3'.below kJ14)).mono ?_
  rintro e w15 ⟨rfl, hb15⟩
  have H15 := H14.below hb15 H14.lt
  have Q15 := Q14.below hb15
  have kJ15 := kJ14.trans (hb15.mono kJ14.size)
  clear H14 Q14 kJ14 hb15 N14 P14 hEy
  obtain ⟨q2, g2⟩ := H15.rules
  go_wp2_with fail
  clear q2 g2
  refine (hHy g _ Q15).mono ?_
  rintro e w16 ⟨rfl, hb16⟩
  have kJ16 := kJ15.trans (hb16.mono kJ15.size)
  have B16 : Below w.heap.size w w16 := B3.trans (kJ16.mono B3.size)
  clear H15 Q15 kJ15 hb16 hHy kJ16 B3 J3' L3
  go_wp2_with fail
  go_ret
  exact ⟨rfl, B16⟩
end Go.Proofs.Ytgdkoangpinieaa

