/- The program's slots: a table, how one stands. -/
import Derived.Test.YtpjidogilofppaaGreatZN
import Derived.Test.YtpjidogilofppaaGreatZW
import Derived.Test.YtpjidogilofppaaGreatZA
namespace Go.Proofs.YtpjidogilofppaaGreat
open Go.ChangeShapes Go.WideShapes Go.ChangeAt Go.RowKit

theorem spans2_of {w : World} {g : Nat} {T : TypeId} {a b a1 a2 b1 b2 : Int} (h : Blk w g #[.int .i64 a, .int .i64 a1, .int .i64 a2, .int .i64 b, .int .i64 b1, .int .i64 b2] T) : Deps w (some ⟨g, 0, none⟩) [⟨a, a1, a2⟩, ⟨b, b1, b2⟩] := by
  refine .inr ⟨g, 0, rfl, h.lt, fun i hi => ?_⟩
  have hi6 : i < 2 := hi
  have : i = 0 ∨ i = 1 := by omega
  rcases this with rfl | rfl
  · exact ⟨h.cell 0, h.cell 1, h.cell 2⟩
  · exact ⟨h.cell 3, h.cell 4, h.cell 5⟩
theorem slotOk_any (x : Sl) (w : World) : Calls Tryz.prog 192 #[slotV x] w fun e w' => e = .returned (.bool (slB x)) ∧ Below w.heap.size w w' := by
  obtain ⟨ep, st⟩ := x
  have b0 : Below w.heap.size w (w.alloc (.cells #[.int .i64 ep, .int .i64 st] 84)) := (Below.refl _ _).alloc (Nat.le_refl _) _
  have A0 := Blk.new w #[.int .i64 ep, .int .i64 st] 84
  have hW := fun (g : Nat) (W : World) h => within_any (some ⟨g, 0, none⟩) 2 [⟨ep, 0, 9999⟩, ⟨st, 0, 2⟩] W (by simp) h
  have e1 : ([⟨ep, 0, 9999⟩, ⟨st, 0, 2⟩] : List D).all inSpan = (inB ep 0 9999 && inB st 0 2) := by simp [inSpan]
  rw [e1] at hW
  have HR : Hid (slB ⟨ep, st⟩ = ((inB ep 0 9999 && inB st 0 2) && (decide (st = 0) || decide (0 < ep)))) := rfl
  generalize slB ⟨ep, st⟩ = q at *
  generalize (inB ep 0 9999 && inB st 0 2) = r at *
  clear e1
  go_enter Tryz.func192, Tryz.ntmps192
  go_wp2_with fail
  refine (hW _ _ ?_).mono ?_
  · have S0 := Blk.new (w.alloc (.cells #[.int .i64 ep, .int .i64 st] 84)) #[.int .i64 ep, .int .i64 0, .int .i64 9999, .int .i64 st, .int .i64 0, .int .i64 2] 235
    simp only [World.size_alloc] at S0
    exact spans2_of S0
  rintro e w1 ⟨rfl, hb⟩
  have B1 : Below w.heap.size w w1 := (b0.alloc b0.size _).trans (hb.mono (by simp; omega))
  have A1 := (A0.alloc (.cells #[.int .i64 ep, .int .i64 0, .int .i64 9999, .int .i64 st, .int .i64 0, .int .i64 2] 235)).below hb (by simp; omega)
  clear hb b0 hW A0
  rcases r with _ | _
  · clear A1
    go_wp2_with fail
    go_ret
    exact ⟨by rw [HR.out]; simp, B1⟩
  obtain ⟨q1, g1⟩ := A1.rules
  by_cases h0 : st = 0
  · subst h0
    go_wp2_with fail
    go_ret
    exact ⟨by rw [HR.out]; simp, B1⟩
  · have h0' : (st == 0) = false := by simpa using h0
    have HD : Hid (q = decide (0 < ep)) := by show q = decide (0 < ep); rw [HR.out]; simp [h0]
    clear HR
    go_wp2_with fail
    go_ret
    exact ⟨by rw [HD.out]; simp, B1⟩
theorem slotOk_is {x : Sl} {r : Bool} (h : slB x = r) (w : World) : Calls Tryz.prog 192 #[slotV x] w fun e w' => e = .returned (.bool r) ∧ Below w.heap.size w w' := by rw [← h]; exact slotOk_any x w
abbrev tab6 (x y z : Sl) : Array Value := #[.int .i64 x.ep, .int .i64 x.st, .int .i64 y.ep, .int .i64 y.st, .int .i64 z.ep, .int .i64 z.st]
abbrev zero6 : Array Value := #[.int .i64 0, .int .i64 0, .int .i64 0, .int .i64 0, .int .i64 0, .int .i64 0]
/-- The table of slots, an empty one, if they are not ok. -/
def tabV (xs : List Sl) : Array Value := match xs with
  | [x, y, z] => if slotsB [x, y, z] = true then tab6 x y z else zero6
  | _ => zero6
theorem tabV_no {xs : List Sl} (h : slotsB xs = false) : tabV xs = zero6 := by
  unfold tabV
  split
  · rw [h]; rfl
  · rfl
theorem tabV_yes {x y z : Sl} (h : slotsB [x, y, z] = true) : tabV [x, y, z] = tab6 x y z := by
  show (if slotsB [x, y, z] = true then tab6 x y z else zero6) = _
  rw [if_pos h]
theorem slotsB_len {xs : List Sl} (h : ¬ (xs.length : Int) = 3) : slotsB xs = false := by
  cases hb : slotsB xs
  · rfl
  · exact absurd (slotsB_iff.1 hb).1 (by omega)

theorem setRow_below {B g : Nat} {w0 w : World} (hb : Below B w0 w) (hBg : B ≤ g) (cs : Array Value) : Below B w0 (w.setRow g cs) :=
  hb.trans ⟨rfl, rfl, rfl, by simp [World.setRow], fun k hk => setRow_other w g k cs (by omega)⟩
theorem Blk.to6 {w : World} {B : Nat} {T : TypeId} {v0 v1 v2 v3 v4 v5 : Value} {old : Array Value} (h : Blk w B old T) : Blk (w.setRow B #[v0, v1, v2, v3, v4, v5]) B #[v0, v1, v2, v3, v4, v5] T := setRow_heap w B old _ T _ h
theorem Blk.row {w : World} {B A : Nat} {T : TypeId} {vs cs : Array Value} (h : Blk w B vs T) (hne : B ≠ A) : Blk (w.setRow A cs) B vs T := (setRow_other w A B cs hne).trans h

set_option maxHeartbeats 4000000 in
theorem tabOf3_any (a : Option Addr) (cap : Nat) (x y z : Sl) (w : World) (h : Slots w a [x, y, z]) :
    Calls Tryz.prog 124 #[.slice a 3 cap] w fun e w' => e = .returned (.tuple #[.agg (tabV [x, y, z]), .bool (slotsB [x, y, z])]) ∧ Below w.heap.size w w' := by
  obtain ⟨b, o, rfl, hbb, _, _⟩ := h.at (k := 0) (by simp)
  have b0 : Below w.heap.size w ((w.alloc (.cells zero6 86)).alloc (.cells zero6 86)) := ((Below.refl _ _).alloc (Nat.le_refl _) _).alloc (by simp) _
  have R0 : Blk ((w.alloc (.cells zero6 86)).alloc (.cells zero6 86)) w.heap.size zero6 86 := (Blk.new w _ _).alloc _
  have T0 : Blk ((w.alloc (.cells zero6 86)).alloc (.cells zero6 86)) (w.heap.size + 1) zero6 86 := by have := Blk.new (w.alloc (.cells zero6 86)) zero6 86; simpa using this
  have hcs := slots_cells (h.below b0)
  have hcp : ∀ ty dc sc, (Builtin.copy_ #[28, 28] ty #[.slice (some ⟨w.heap.size + 1, 0, none⟩) 3 dc, .slice (some ⟨b, o, none⟩) 3 sc]).run Tryz.prog ((w.alloc (.cells zero6 86)).alloc (.cells zero6 86)) = .ok (goInt 3) (((w.alloc (.cells zero6 86)).alloc (.cells zero6 86)).setRow (w.heap.size + 1) (tab6 x y z)) := fun ty dc sc => by
    have := run_copy_rowk (P := Tryz.prog) ((w.alloc (.cells zero6 86)).alloc (.cells zero6 86)) 28 28 ty 84 (w.heap.size + 1) 0 3 dc ⟨b, o, none⟩ 3 sc zero6 86 (flat2 [x, y, z]) 3 2 Tryz.underlying28 sizeSlot T0 rfl rfl hcs (by simp [flat2]) (flat2_one _)
    simpa [flat2] using this
  have T1 := T0.to6 (v0 := .int .i64 x.ep) (v1 := .int .i64 x.st) (v2 := .int .i64 y.ep) (v3 := .int .i64 y.st) (v4 := .int .i64 z.ep) (v5 := .int .i64 z.st)
  have R1 := R0.row (A := w.heap.size + 1) (cs := tab6 x y z) (by omega)
  have B1 : Below w.heap.size w (((w.alloc (.cells zero6 86)).alloc (.cells zero6 86)).setRow (w.heap.size + 1) (tab6 x y z)) := setRow_below b0 (by omega) _
  have i0 : ∀ w, (Instr.index 86 (.agg #[.int .i64 x.ep, .int .i64 x.st, .int .i64 y.ep, .int .i64 y.st, .int .i64 z.ep, .int .i64 z.st]) (.int .i64 0)).run Tryz.prog w = .ok (.agg #[.int .i64 x.ep, .int .i64 x.st]) w := fun _ => by kernel_rfl
  have i1 : ∀ w, (Instr.index 86 (.agg #[.int .i64 x.ep, .int .i64 x.st, .int .i64 y.ep, .int .i64 y.st, .int .i64 z.ep, .int .i64 z.st]) (.int .i64 1)).run Tryz.prog w = .ok (.agg #[.int .i64 y.ep, .int .i64 y.st]) w := fun _ => by kernel_rfl
  have i2 : ∀ w, (Instr.index 86 (.agg #[.int .i64 x.ep, .int .i64 x.st, .int .i64 y.ep, .int .i64 y.st, .int .i64 z.ep, .int .i64 z.st]) (.int .i64 2)).run Tryz.prog w = .ok (.agg #[.int .i64 z.ep, .int .i64 z.st]) w := fun _ => by kernel_rfl
  have HE : Hid (slotsB [x, y, z] = (slB x && (slB y && slB z))) := by show _ = _; unfold slotsB; simp
  clear h hcs R0 T0
  generalize ((w.alloc (.cells zero6 86)).alloc (.cells zero6 86)).setRow (w.heap.size + 1) (tab6 x y z) = W1 at *
  obtain ⟨r1, f1⟩ := T1.rules
  go_enter Tryz.func124, Tryz.ntmps124
  go_wp2_with fail
  clear r1 f1 hcp b0
  go_loopw [16] (fun i wr => ∃ k : Nat, k ≤ 3 ∧ i = .int .i64 k ∧ Hid (([x, y, z].take k).all slB = true) ∧ Blk wr w.heap.size zero6 86 ∧ Blk wr (w.heap.size + 1) (tab6 x y z) 86 ∧ Below w.heap.size w wr) (fun i _ => 3 - (intOf i).toNat)
  case atStart => exact ⟨0, Nat.zero_le _, rfl, rfl, R1, T1, B1⟩
  case round =>
    obtain ⟨k, hk, rfl, HA, R2, T2, hB⟩ := hrel
    clear R1 T1 B1
    have z2 := T2.lt
    obtain ⟨r2, f2⟩ := R2.rules
    obtain ⟨t2, g2⟩ := T2.rules
    have hk4 : k = 0 ∨ k = 1 ∨ k = 2 ∨ k = 3 := by omega
    rcases hk4 with rfl | rfl | rfl | rfl
    · have hk4 : (0 : Nat) ≤ 3 := hk
      rcases hs : slB x with _ | _
      · have HN : Hid (slotsB [x, y, z] = false) := by show _ = _; rw [HE.out]; simp [hs]
        have HV : Hid (tabV [x, y, z] = zero6) := tabV_no HN.out
        clear HA HE
        go_wp2_with fail
        refine (slotOk_is (x := x) hs _).mono ?_
        rintro e w2 ⟨rfl, hb⟩
        have b1 : Below wr.heap.size wr w2 := ((Below.refl _ wr).alloc (Nat.le_refl _) (.cells #[.int .i64 x.ep, .int .i64 x.st] 84)).trans (hb.mono (by simp))
        have R3 := R2.below b1 R2.lt
        have B3 : Below w.heap.size w w2 := hB.trans (b1.mono hB.size)
        clear r2 f2 t2 g2 hb b1 R2 T2 hB
        have z3 := R3.lt
        obtain ⟨r3, f3⟩ := R3.rules
        go_wp2_with fail
        refine bodyPost_ret (v := .tuple #[.agg zero6, .bool false]) ?_ rfl ⟨by rw [HN.out, HV.out], ?_⟩
        · simp [results, Tryz.results124, go_sem, r3]
        · exact (((((B3.setCell (by simp) _).setCell (by simp) _).setCell (by simp) _).setCell (by simp) _).setCell (by simp) _).setCell (by simp) _
      · have HO : Hid (([x, y, z].take (0 + 1)).all slB = true) := by show List.all _ _ = true; have := HA.out; simp at this ⊢; simp [*]
        clear HA HE
        go_wp2_with fail
        refine (slotOk_is (x := x) hs _).mono ?_
        rintro e w2 ⟨rfl, hb⟩
        have b1 : Below wr.heap.size wr w2 := ((Below.refl _ wr).alloc (Nat.le_refl _) (.cells #[.int .i64 x.ep, .int .i64 x.st] 84)).trans (hb.mono (by simp))
        have R3 := R2.below b1 R2.lt
        have T3 := T2.below b1 T2.lt
        have B3 : Below w.heap.size w w2 := hB.trans (b1.mono hB.size)
        clear r2 f2 t2 g2 hb b1 R2 T2 hB
        go_wp2_with fail
        go_roundw
        case rel => exact ⟨0 + 1, by omega, by go_num, HO, R3, T3, B3⟩
        case measure => simp [intOf]
    · have hk4 : (1 : Nat) ≤ 3 := hk
      rcases hs : slB y with _ | _
      · have HN : Hid (slotsB [x, y, z] = false) := by show _ = _; rw [HE.out]; simp [hs]
        have HV : Hid (tabV [x, y, z] = zero6) := tabV_no HN.out
        clear HA HE
        go_wp2_with fail
        refine (slotOk_is (x := y) hs _).mono ?_
        rintro e w2 ⟨rfl, hb⟩
        have b1 : Below wr.heap.size wr w2 := ((Below.refl _ wr).alloc (Nat.le_refl _) (.cells #[.int .i64 y.ep, .int .i64 y.st] 84)).trans (hb.mono (by simp))
        have R3 := R2.below b1 R2.lt
        have B3 : Below w.heap.size w w2 := hB.trans (b1.mono hB.size)
        clear r2 f2 t2 g2 hb b1 R2 T2 hB
        have z3 := R3.lt
        obtain ⟨r3, f3⟩ := R3.rules
        go_wp2_with fail
        refine bodyPost_ret (v := .tuple #[.agg zero6, .bool false]) ?_ rfl ⟨by rw [HN.out, HV.out], ?_⟩
        · simp [results, Tryz.results124, go_sem, r3]
        · exact (((((B3.setCell (by simp) _).setCell (by simp) _).setCell (by simp) _).setCell (by simp) _).setCell (by simp) _).setCell (by simp) _
      · have HO : Hid (([x, y, z].take (1 + 1)).all slB = true) := by show List.all _ _ = true; have := HA.out; simp at this ⊢; simp [*]
        clear HA HE
        go_wp2_with fail
        refine (slotOk_is (x := y) hs _).mono ?_
        rintro e w2 ⟨rfl, hb⟩
        have b1 : Below wr.heap.size wr w2 := ((Below.refl _ wr).alloc (Nat.le_refl _) (.cells #[.int .i64 y.ep, .int .i64 y.st] 84)).trans (hb.mono (by simp))
        have R3 := R2.below b1 R2.lt
        have T3 := T2.below b1 T2.lt
        have B3 : Below w.heap.size w w2 := hB.trans (b1.mono hB.size)
        clear r2 f2 t2 g2 hb b1 R2 T2 hB
        go_wp2_with fail
        go_roundw
        case rel => exact ⟨1 + 1, by omega, by go_num, HO, R3, T3, B3⟩
        case measure => simp [intOf]
    · have hk4 : (2 : Nat) ≤ 3 := hk
      rcases hs : slB z with _ | _
      · have HN : Hid (slotsB [x, y, z] = false) := by show _ = _; rw [HE.out]; simp [hs]
        have HV : Hid (tabV [x, y, z] = zero6) := tabV_no HN.out
        clear HA HE
        go_wp2_with fail
        refine (slotOk_is (x := z) hs _).mono ?_
        rintro e w2 ⟨rfl, hb⟩
        have b1 : Below wr.heap.size wr w2 := ((Below.refl _ wr).alloc (Nat.le_refl _) (.cells #[.int .i64 z.ep, .int .i64 z.st] 84)).trans (hb.mono (by simp))
        have R3 := R2.below b1 R2.lt
        have B3 : Below w.heap.size w w2 := hB.trans (b1.mono hB.size)
        clear r2 f2 t2 g2 hb b1 R2 T2 hB
        have z3 := R3.lt
        obtain ⟨r3, f3⟩ := R3.rules
        go_wp2_with fail
        refine bodyPost_ret (v := .tuple #[.agg zero6, .bool false]) ?_ rfl ⟨by rw [HN.out, HV.out], ?_⟩
        · simp [results, Tryz.results124, go_sem, r3]
        · exact (((((B3.setCell (by simp) _).setCell (by simp) _).setCell (by simp) _).setCell (by simp) _).setCell (by simp) _).setCell (by simp) _
      · have HO : Hid (([x, y, z].take (2 + 1)).all slB = true) := by show List.all _ _ = true; have := HA.out; simp at this ⊢; simp [*]
        clear HA HE
        go_wp2_with fail
        refine (slotOk_is (x := z) hs _).mono ?_
        rintro e w2 ⟨rfl, hb⟩
        have b1 : Below wr.heap.size wr w2 := ((Below.refl _ wr).alloc (Nat.le_refl _) (.cells #[.int .i64 z.ep, .int .i64 z.st] 84)).trans (hb.mono (by simp))
        have R3 := R2.below b1 R2.lt
        have T3 := T2.below b1 T2.lt
        have B3 : Below w.heap.size w w2 := hB.trans (b1.mono hB.size)
        clear r2 f2 t2 g2 hb b1 R2 T2 hB
        go_wp2_with fail
        go_roundw
        case rel => exact ⟨2 + 1, by omega, by go_num, HO, R3, T3, B3⟩
        case measure => simp [intOf]
    · have HY : Hid (slotsB [x, y, z] = true) := by show _ = true; have := HA.out; rw [HE.out]; simpa using this
      have HV : Hid (tabV [x, y, z] = tab6 x y z) := tabV_yes HY.out
      clear HA HE
      go_wp2_with fail
      refine bodyPost_ret (v := .tuple #[.agg (tab6 x y z), .bool true]) ?_ rfl ⟨by rw [HY.out, HV.out], ?_⟩
      · have R5 : Blk ((((((wr.setCell ⟨w.heap.size, 0, none⟩ (.int .i64 x.ep)).setCell ⟨w.heap.size, 1, none⟩ (.int .i64 x.st)).setCell ⟨w.heap.size, 2, none⟩ (.int .i64 y.ep)).setCell ⟨w.heap.size, 3, none⟩ (.int .i64 y.st)).setCell ⟨w.heap.size, 4, none⟩ (.int .i64 z.ep)).setCell ⟨w.heap.size, 5, none⟩ (.int .i64 z.st)) w.heap.size (tab6 x y z) 86 := by
          have := (((((R2.set 0 (.int .i64 x.ep)).set 1 (.int .i64 x.st)).set 2 (.int .i64 y.ep)).set 3 (.int .i64 y.st)).set 4 (.int .i64 z.ep)).set 5 (.int .i64 z.st)
          simpa using this
        refine Blk.gen (P := fun W => (results Tryz.f124 _).run Tryz.prog W = .ok _ W) R5 ?_
        intro W hW
        obtain ⟨q, f⟩ := hW.rules
        simp [results, Tryz.results124, go_sem, q]
      · exact (((((hB.setCell (by simp) _).setCell (by simp) _).setCell (by simp) _).setCell (by simp) _).setCell (by simp) _).setCell (by simp) _

set_option maxHeartbeats 1000000 in
theorem slotsTab_any (a : Option Addr) (cap : Nat) (xs : List Sl) (w : World) (hn : xs.length ≤ 1099511627776) (h : Slots w a xs) :
    Calls Tryz.prog 124 #[.slice a xs.length cap] w fun e w' => e = .returned (.tuple #[.agg (tabV xs), .bool (slotsB xs)]) ∧ Below w.heap.size w w' := by
  by_cases hl : (xs.length : Int) = 3
  · have hl3 : xs.length = 3 := by omega
    match xs, hl3 with
    | [x, y, z], _ => exact tabOf3_any a cap x y z w h
  · have HN : Hid (slotsB xs = false) := slotsB_len hl
    have HV : Hid (tabV xs = zero6) := tabV_no HN.out
    have hl' : ((xs.length : Int) == 3) = false := by simpa using hl
    go_enter Tryz.func124, Tryz.ntmps124
    go_wp2_with fail
    refine bodyPost_ret (v := .tuple #[.agg zero6, .bool false]) ?_ rfl ⟨by rw [HN.out, HV.out], ?_⟩
    · simp [results, Tryz.results124, go_sem]
    · exact ((Below.refl _ _).alloc (Nat.le_refl _) _).alloc (by simp) _
end Go.Proofs.YtpjidogilofppaaGreat
