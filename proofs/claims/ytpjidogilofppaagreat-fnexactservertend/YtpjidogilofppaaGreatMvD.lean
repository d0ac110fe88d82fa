/- A slot leaves: the host's own part. -/
import Derived.Test.YtpjidogilofppaaGreatZM
import Derived.Test.YtpjidogilofppaaGreatSvHostOf
namespace Go.Proofs.YtpjidogilofppaaGreat
open Go.ChangeShapes Go.WideShapes Go.ChangeAt Go.RowKit
theorem Only.drew1 {w w' : World} {S : Nat → Prop} (h : Only w w' S) : Only w w'.drew S := ⟨h.os, h.tape, h.output, h.size, h.block⟩
theorem twin_any (n : Int) (h0 : 0 ≤ n) (h3 : n ≤ 3) (w : World) : Calls Tryz.prog 139 #[.int .i64 n] w fun e w' => e = .returned (.int .i64 (twinX n)) ∧ w' = w := by
  have : n = 0 ∨ n = 1 ∨ n = 2 ∨ n = 3 := by omega
  rcases this with rfl | rfl | rfl | rfl
  all_goals
    go_enter Tryz.func139, Tryz.ntmps139
    go_wp2
    go_ret
    exact ⟨by rfl, rfl⟩
set_option maxHeartbeats 2000000 in
theorem leave_down (B : Nat) (site : Int) (v wv o kk : Value) (s1 s2 s3 : Sl) (n : Int) (w : World) (hB : Blk w B (hostC site false v wv o kk s1 s2 s3) 88) :
    Calls Tryz.prog 62 #[.pointer (some ⟨B, 0, none⟩), .int .i64 n] w fun e w' => e = .returned (.bool false) ∧ Below w.heap.size w w' := by
  obtain ⟨q1, g1⟩ := hB.rules
  go_enter Tryz.func62, Tryz.ntmps62
  go_wp2_with fail
  go_ret
  exact ⟨rfl, Below.refl _ _⟩
set_option maxHeartbeats 2000000 in
theorem leave_not (B : Nat) (site : Int) (v wv o kk : Value) (s1 s2 s3 : Sl) (n : Int) (w : World) (hB : Blk w B (hostC site true v wv o kk s1 s2 s3) 88) (h : ownsB [s1, s2, s3] n = false) :
    Calls Tryz.prog 62 #[.pointer (some ⟨B, 0, none⟩), .int .i64 n] w fun e w' => e = .returned (.bool false) ∧ Below w.heap.size w w' := by
  obtain ⟨q1, g1⟩ := hB.rules
  have hO := fun W => ownsI_is h (w := W)
  clear h
  go_enter Tryz.func62, Tryz.ntmps62
  go_wp2_with fail
  refine (hO _).mono ?_
  rintro e w1 ⟨rfl, hb⟩
  clear hO
  go_wp2_with fail
  go_ret
  exact ⟨rfl, hb⟩

set_option maxHeartbeats 2000000 in
theorem leave_full0 (B : Nat) (site : Int) (v wv o kk : Value) (s1 s2 s3 : Sl) (w : World) (hB : Blk w B (hostC site true v wv o kk s1 s2 s3) 88) (h : ownsB [s1, s2, s3] 0 = true) (he : ¬ s1.ep < 9999) :
    Calls Tryz.prog 62 #[.pointer (some ⟨B, 0, none⟩), .int .i64 0] w fun e w' => e = .returned (.bool false) ∧ Below w.heap.size w w' := by
  have hO := fun W => ownsI_is h (w := W)
  obtain ⟨q1, g1⟩ := hB.rules
  clear h
  have d1 : decide (9999 ≤ s1.ep) = true := by simp; omega
  go_enter Tryz.func62, Tryz.ntmps62
  go_wp2_with fail
  refine (hO _).mono ?_
  rintro e w1 ⟨rfl, hb⟩
  clear hO q1 g1
  obtain ⟨q1, g1⟩ := (hB.below hb hB.lt).rules
  go_wp2_with fail
  go_ret
  exact ⟨rfl, hb⟩
set_option maxHeartbeats 2000000 in
theorem leave_yes0 (B : Nat) (site : Int) (v wv o kk : Value) (s1 s2 s3 : Sl) (w : World) (hB : Blk w B (hostC site true v wv o kk s1 s2 s3) 88) (h : ownsB [s1, s2, s3] 0 = true) (he : s1.ep < 9999) (h0 : 0 ≤ s1.ep) :
    Calls Tryz.prog 62 #[.pointer (some ⟨B, 0, none⟩), .int .i64 0] w fun e w' => e = .returned (.bool true) ∧ Blk w' B (hostC site true v wv o kk ⟨s1.ep + 1, 2⟩ s2 s3) 88 ∧ Only w w' (fun b => w.heap.size ≤ b ∨ b = B) := by
  have hO := fun W => ownsI_is h (w := W)
  obtain ⟨q1, g1⟩ := hB.rules
  clear h
  have d1 : decide (9999 ≤ s1.ep) = false := by simp; omega
  go_enter Tryz.func62, Tryz.ntmps62
  go_wp2_with fail
  refine (hO _).mono ?_
  rintro e w1 ⟨rfl, hb⟩
  clear hO q1 g1
  have B1 := hB.below hb hB.lt
  obtain ⟨q1, g1⟩ := B1.rules
  have O1 : Only w w1 (fun b => w.heap.size ≤ b ∨ b = B) := ⟨hb.os, hb.tape, hb.output, hb.size, fun j hj _ => hb.block j hj⟩
  have hw : IntKind.i64.wrap (s1.ep + 1) = s1.ep + 1 := by simp only [IntKind.wrap, IntKind.bits, IntKind.signed]; simp; omega
  go_wp2_with fail
  go_region_with fail
  go_wp2_with fail
  go_ret
  refine ⟨rfl, ?_, Only.drew1 ((O1.set (A := B) (.inr rfl) _).set (A := B) (.inr rfl) _)⟩
  have := (B1.set 5 (.int .i64 (s1.ep + 1))).set 6 (.int .i64 2)
  have h2 := this.below (Below.refl _ _).drew this.lt
  simpa using h2

set_option maxHeartbeats 2000000 in
theorem leave_full1 (B : Nat) (site : Int) (v wv o kk : Value) (s1 s2 s3 : Sl) (w : World) (hB : Blk w B (hostC site true v wv o kk s1 s2 s3) 88) (h : ownsB [s1, s2, s3] 1 = true) (he : ¬ s2.ep < 9999) :
    Calls Tryz.prog 62 #[.pointer (some ⟨B, 0, none⟩), .int .i64 1] w fun e w' => e = .returned (.bool false) ∧ Below w.heap.size w w' := by
  have hO := fun W => ownsI_is h (w := W)
  obtain ⟨q1, g1⟩ := hB.rules
  clear h
  have d1 : decide (9999 ≤ s2.ep) = true := by simp; omega
  go_enter Tryz.func62, Tryz.ntmps62
  go_wp2_with fail
  refine (hO _).mono ?_
  rintro e w1 ⟨rfl, hb⟩
  clear hO q1 g1
  obtain ⟨q1, g1⟩ := (hB.below hb hB.lt).rules
  go_wp2_with fail
  go_ret
  exact ⟨rfl, hb⟩
set_option maxHeartbeats 2000000 in
theorem leave_yes1 (B : Nat) (site : Int) (v wv o kk : Value) (s1 s2 s3 : Sl) (w : World) (hB : Blk w B (hostC site true v wv o kk s1 s2 s3) 88) (h : ownsB [s1, s2, s3] 1 = true) (he : s2.ep < 9999) (h0 : 0 ≤ s2.ep) :
    Calls Tryz.prog 62 #[.pointer (some ⟨B, 0, none⟩), .int .i64 1] w fun e w' => e = .returned (.bool true) ∧ Blk w' B (hostC site true v wv o kk s1 ⟨s2.ep + 1, 2⟩ s3) 88 ∧ Only w w' (fun b => w.heap.size ≤ b ∨ b = B) := by
  have hO := fun W => ownsI_is h (w := W)
  obtain ⟨q1, g1⟩ := hB.rules
  clear h
  have d1 : decide (9999 ≤ s2.ep) = false := by simp; omega
  go_enter Tryz.func62, Tryz.ntmps62
  go_wp2_with fail
  refine (hO _).mono ?_
  rintro e w1 ⟨rfl, hb⟩
  clear hO q1 g1
  have B1 := hB.below hb hB.lt
  obtain ⟨q1, g1⟩ := B1.rules
  have O1 : Only w w1 (fun b => w.heap.size ≤ b ∨ b = B) := ⟨hb.os, hb.tape, hb.output, hb.size, fun j hj _ => hb.block j hj⟩
  have hw : IntKind.i64.wrap (s2.ep + 1) = s2.ep + 1 := by simp only [IntKind.wrap, IntKind.bits, IntKind.signed]; simp; omega
  go_wp2_with fail
  go_region_with fail
  go_wp2_with fail
  go_ret
  refine ⟨rfl, ?_, Only.drew1 ((O1.set (A := B) (.inr rfl) _).set (A := B) (.inr rfl) _)⟩
  have := (B1.set 7 (.int .i64 (s2.ep + 1))).set 8 (.int .i64 2)
  have h2 := this.below (Below.refl _ _).drew this.lt
  simpa using h2

set_option maxHeartbeats 2000000 in
theorem leave_full2 (B : Nat) (site : Int) (v wv o kk : Value) (s1 s2 s3 : Sl) (w : World) (hB : Blk w B (hostC site true v wv o kk s1 s2 s3) 88) (h : ownsB [s1, s2, s3] 2 = true) (he : ¬ s3.ep < 9999) :
    Calls Tryz.prog 62 #[.pointer (some ⟨B, 0, none⟩), .int .i64 2] w fun e w' => e = .returned (.bool false) ∧ Below w.heap.size w w' := by
  have hO := fun W => ownsI_is h (w := W)
  obtain ⟨q1, g1⟩ := hB.rules
  clear h
  have d1 : decide (9999 ≤ s3.ep) = true := by simp; omega
  go_enter Tryz.func62, Tryz.ntmps62
  go_wp2_with fail
  refine (hO _).mono ?_
  rintro e w1 ⟨rfl, hb⟩
  clear hO q1 g1
  obtain ⟨q1, g1⟩ := (hB.below hb hB.lt).rules
  go_wp2_with fail
  go_ret
  exact ⟨rfl, hb⟩
set_option maxHeartbeats 2000000 in
theorem leave_yes2 (B : Nat) (site : Int) (v wv o kk : Value) (s1 s2 s3 : Sl) (w : World) (hB : Blk w B (hostC site true v wv o kk s1 s2 s3) 88) (h : ownsB [s1, s2, s3] 2 = true) (he : s3.ep < 9999) (h0 : 0 ≤ s3.ep) :
    Calls Tryz.prog 62 #[.pointer (some ⟨B, 0, none⟩), .int .i64 2] w fun e w' => e = .returned (.bool true) ∧ Blk w' B (hostC site true v wv o kk s1 s2 ⟨s3.ep + 1, 2⟩) 88 ∧ Only w w' (fun b => w.heap.size ≤ b ∨ b = B) := by
  have hO := fun W => ownsI_is h (w := W)
  obtain ⟨q1, g1⟩ := hB.rules
  clear h
  have d1 : decide (9999 ≤ s3.ep) = false := by simp; omega
  go_enter Tryz.func62, Tryz.ntmps62
  go_wp2_with fail
  refine (hO _).mono ?_
  rintro e w1 ⟨rfl, hb⟩
  clear hO q1 g1
  have B1 := hB.below hb hB.lt
  obtain ⟨q1, g1⟩ := B1.rules
  have O1 : Only w w1 (fun b => w.heap.size ≤ b ∨ b = B) := ⟨hb.os, hb.tape, hb.output, hb.size, fun j hj _ => hb.block j hj⟩
  have hw : IntKind.i64.wrap (s3.ep + 1) = s3.ep + 1 := by simp only [IntKind.wrap, IntKind.bits, IntKind.signed]; simp; omega
  go_wp2_with fail
  go_region_with fail
  go_wp2_with fail
  go_ret
  refine ⟨rfl, ?_, Only.drew1 ((O1.set (A := B) (.inr rfl) _).set (A := B) (.inr rfl) _)⟩
  have := (B1.set 9 (.int .i64 (s3.ep + 1))).set 10 (.int .i64 2)
  have h2 := this.below (Below.refl _ _).drew this.lt
  simpa using h2
end Go.Proofs.YtpjidogilofppaaGreat
