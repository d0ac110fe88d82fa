/- The specification's DepsOk. -/
import Derived.Test.YthlmodafadfnfaaFlat3
namespace Go.Proofs.Ythlmodafadfnfaa
open Go.ChangeShapes Go.WideShapes Go.ChangeAt Go.RowKit

/-- A world of which S is known. -/
structure Wof (S : World → Prop) where
  W : World
  h : S W
/-- A region that draws its order, walked once, where all its operations keep S. -/
theorem wp_region_class {S : World → Prop} {P : Program} {id : Nat} {Q : Exit → Act → World → Prop} {a : Act} {w : World} {l : List Oper} (hm : P.follows .mixedOrders = true) (hB : Region.lexB .any l.toArray = true) (hS : S w.drew)
    (h : wpQuiet P l.toArray (fun w' => ∃ n : Wof S, w' = n.W) (fun a' => ∀ w', (∃ n : Wof S, w' = n.W) → Q .normal a' w') l a) : (Code.region id l.toArray true).wp P Q a w :=
  wp_region_quiet (C := fun w' => ∃ n : Wof S, w' = n.W) hm hB ⟨⟨_, hS⟩, rfl⟩ h
/-- A call that makes memory, within such a region. -/
theorem Calls.inClass {S : World → Prop} {P : Program} {f : FuncId} {args : Array Value} {v : Value} {n : Wof S} (h : Calls P f args n.W fun e w' => e = .returned v ∧ Below n.W.heap.size n.W w') (k : ∀ {w w' : World}, S w → Below w.heap.size w w' → S w') :
    Calls P f args n.W fun e w' => e = .returned v ∧ ∃ m : Wof S, w' = m.W :=
  h.mono fun _ w' ⟨he, hb⟩ => ⟨he, ⟨w', k n.h hb⟩, rfl⟩
theorem Calls.inClassSame {S : World → Prop} {P : Program} {f : FuncId} {args : Array Value} {v : Value} {n : Wof S} (h : Calls P f args n.W fun e w' => e = .returned v ∧ w' = n.W) :
    Calls P f args n.W fun e w' => e = .returned v ∧ ∃ m : Wof S, w' = m.W :=
  h.mono fun _ _ ⟨he, hb⟩ => ⟨he, n, hb⟩

/-- What is known in a round: one dep, and the key ahead of it. -/
def InD (w0 : World) (b x y : Nat) (dk dt ds pk : Int) (W : World) : Prop :=
  Below w0.heap.size w0 W ∧ b < W.heap.size ∧ W.cell? ⟨b, x, none⟩ = some (.int .i64 dk) ∧ W.cell? ⟨b, x + 1, none⟩ = some (.int .i64 dt) ∧ W.cell? ⟨b, x + 2, none⟩ = some (.int .i64 ds) ∧ W.cell? ⟨b, y, none⟩ = some (.int .i64 pk)
theorem InD.below {w0 w w' : World} {b x y : Nat} {dk dt ds pk : Int} (h : InD w0 b x y dk dt ds pk w) (d : Below w.heap.size w w') : InD w0 b x y dk dt ds pk w' := by
  obtain ⟨h1, h4, h6, h7, h8, h9⟩ := h
  exact ⟨h1.trans (d.mono h1.size), Nat.lt_of_lt_of_le h4 d.size, (d.cell (p := ⟨b, _, none⟩) h4).trans h6, (d.cell (p := ⟨b, _, none⟩) h4).trans h7, (d.cell (p := ⟨b, _, none⟩) h4).trans h8, (d.cell (p := ⟨b, _, none⟩) h4).trans h9⟩
theorem InD.drew {w0 w : World} {b x y : Nat} {dk dt ds pk : Int} (h : InD w0 b x y dk dt ds pk w) : InD w0 b x y dk dt ds pk w.drew := h.below (Below.refl _ _).drew
theorem InD.rules {w0 : World} {b x y : Nat} {dk dt ds pk : Int} : (∀ n : Wof (InD w0 b x y dk dt ds pk), n.W.cell? ⟨b, x, none⟩ = some (.int .i64 dk)) ∧ (∀ n : Wof (InD w0 b x y dk dt ds pk), n.W.cell? ⟨b, x + 1, none⟩ = some (.int .i64 dt)) ∧ (∀ n : Wof (InD w0 b x y dk dt ds pk), n.W.cell? ⟨b, x + 2, none⟩ = some (.int .i64 ds)) ∧ (∀ n : Wof (InD w0 b x y dk dt ds pk), n.W.cell? ⟨b, y, none⟩ = some (.int .i64 pk)) :=
  ⟨fun n => n.h.2.2.1, fun n => n.h.2.2.2.1, fun n => n.h.2.2.2.2.1, fun n => n.h.2.2.2.2.2⟩

theorem sKey_is {n : Int} {b : Bool} (h : inB n 0 5 = b) (w : World) : Calls Try.prog 85 #[.int .i64 n] w fun e w' => e = .returned (.bool b) ∧ w' = w := by rw [← h]; exact sKey_any n w
theorem sOk_is {t s : Int} {b : Bool} (h : okB t s = b) (w : World) : Calls Try.prog 86 #[stampV t s] w fun e w' => e = .returned (.bool b) ∧ Below w.heap.size w w' := by rw [← h]; exact sOk_any t s w

set_option maxHeartbeats 1000000 in
theorem sDepsOk_any (a : Option Addr) (cap : Nat) (xs : List D) (w : World) (hn : xs.length ≤ 1099511627776) (h : Deps w a xs) :
    Calls Try.prog 38 #[.slice a xs.length cap] w fun e w' => e = .returned (.bool (depsOk xs)) ∧ Below w.heap.size w w' := by
  go_enter Try.func38, Try.ntmps38
  go_wp2
  go_loopw [3] (fun i wr => ∃ k : Nat, k ≤ xs.length ∧ i = .int .i64 k ∧ Hid (depsOk (xs.take k) = true) ∧ Below w.heap.size w wr) (fun i _ => xs.length - (intOf i).toNat)
  case atStart => exact ⟨0, Nat.zero_le _, rfl, ok_nil, Below.refl _ _⟩
  case round =>
    obtain ⟨k, hk, rfl, hok, hB⟩ := hrel
    by_cases hlt : k < xs.length
    · obtain ⟨b, o, rfl, hbb, e0, e1, e2⟩ := (h.below hB).at hlt
      have HX : Hid (xs.take (k + 1) = xs.take k ++ [xs[k]]) := takeD xs k hlt
      have bad : depsOk (xs.take (k + 1)) = false → depsOk xs = false := prefix_bad
      rw [HX.out] at bad
      rcases hkey : inB xs[k].k 0 5 with _ | _
      · have HN : Hid (depsOk xs = false) := bad (snoc_bad (okD_key hkey))
        have hst : okB xs[k].t xs[k].s = okB xs[k].t xs[k].s := rfl
        clear bad HX
        generalize xs[k] = d at *
        obtain ⟨dk, dt, ds⟩ := d
        simp only at e0 e1 e2 hkey
        have R : InD w b (o + k * 3) (o + k * 3) dk dt ds dk wr := ⟨hB, hbb, e0, e1, e2, e0⟩
        obtain ⟨r0, r1, r2, r3⟩ := InD.rules (w0 := w) (b := b) (x := o + k * 3) (y := o + k * 3) (dk := dk) (dt := dt) (ds := ds) (pk := dk)
        have ne : Nonempty (Wof (InD w b (o + k * 3) (o + k * 3) dk dt ds dk)) := ⟨⟨_, R⟩⟩
        clear hB e0 e1 e2 h hbb
        go_wp2_with fail
        refine wp_region_class (S := InD w b (o + k * 3) (o + k * 3) dk dt ds dk) (by kernel_rfl) (by kernel_rfl) R.drew ?_
        repeat (go_big_quiet_step ((rename_i n; first | (go_at_call 85; exact Calls.inClassSame (sKey_is hkey _)) | (go_at_call 86; exact Calls.inClass (sOk_is hst _) InD.below))))
        refine wpQuiet_nil ?_
        rintro W ⟨n, hnW⟩
        have R2 := n.h
        rw [← hnW] at R2
        have I2 : Below w.heap.size w W := R2.1
        clear R R2 r0 r1 r2 r3 ne hnW n
        go_wp2
        go_ret
        exact ⟨by rw [HN.out]; rfl, I2⟩
      · rcases hst : okB xs[k].t xs[k].s with _ | _
        · have HN : Hid (depsOk xs = false) := bad (snoc_bad (okD_stamp hst))
          clear bad HX
          generalize xs[k] = d at *
          obtain ⟨dk, dt, ds⟩ := d
          simp only at e0 e1 e2 hkey hst
          have R : InD w b (o + k * 3) (o + k * 3) dk dt ds dk wr := ⟨hB, hbb, e0, e1, e2, e0⟩
          obtain ⟨r0, r1, r2, r3⟩ := InD.rules (w0 := w) (b := b) (x := o + k * 3) (y := o + k * 3) (dk := dk) (dt := dt) (ds := ds) (pk := dk)
          have ne : Nonempty (Wof (InD w b (o + k * 3) (o + k * 3) dk dt ds dk)) := ⟨⟨_, R⟩⟩
          clear hB e0 e1 e2 h hbb
          go_wp2_with fail
          refine wp_region_class (S := InD w b (o + k * 3) (o + k * 3) dk dt ds dk) (by kernel_rfl) (by kernel_rfl) R.drew ?_
          repeat (go_big_quiet_step ((rename_i n; first | (go_at_call 85; exact Calls.inClassSame (sKey_is hkey _)) | (go_at_call 86; exact Calls.inClass (sOk_is hst _) InD.below))))
          refine wpQuiet_nil ?_
          rintro W ⟨n, hnW⟩
          have R2 := n.h
          rw [← hnW] at R2
          have I2 : Below w.heap.size w W := R2.1
          clear R R2 r0 r1 r2 r3 ne hnW n
          go_wp2
          go_ret
          exact ⟨by rw [HN.out]; rfl, I2⟩
        · have hd : okD xs[k] = true := okD_mk hkey hst
          rcases k with _ | j
          · have HO : Hid (depsOk (xs.take (0 + 1)) = true) := by
              show depsOk (xs.take (0 + 1)) = true
              rw [HX.out]
              exact snoc_yes hok.out hd (by have := okD_bounds hd; simp [lastK_nil]; omega)
            clear bad HX hd
            generalize xs[0] = d at *
            obtain ⟨dk, dt, ds⟩ := d
            simp only [Nat.zero_mul, Nat.add_zero] at e0 e1 e2 hkey hst
            have R : InD w b (o) (o) dk dt ds dk wr := ⟨hB, hbb, e0, e1, e2, e0⟩
            obtain ⟨r0, r1, r2, r3⟩ := InD.rules (w0 := w) (b := b) (x := o) (y := o) (dk := dk) (dt := dt) (ds := ds) (pk := dk)
            have ne : Nonempty (Wof (InD w b (o) (o) dk dt ds dk)) := ⟨⟨_, R⟩⟩
            clear hB e0 e1 e2 h hbb
            go_wp2_with fail
            refine wp_region_class (S := InD w b (o) (o) dk dt ds dk) (by kernel_rfl) (by kernel_rfl) R.drew ?_
            repeat (go_big_quiet_step ((rename_i n; first | (go_at_call 85; exact Calls.inClassSame (sKey_is hkey _)) | (go_at_call 86; exact Calls.inClass (sOk_is hst _) InD.below))))
            refine wpQuiet_nil ?_
            rintro W ⟨n, hnW⟩
            have R2 := n.h
            rw [← hnW] at R2
            have I2 : Below w.heap.size w W := R2.1
            clear R R2 r0 r1 r2 r3 ne hnW n
            go_wp2
            go_roundw
            case rel => exact ⟨0 + 1, by omega, by go_num, HO, I2⟩
            case measure => simp [intOf]; omega
          · obtain ⟨b2, o2, he, hb2, p0, p1, p2⟩ := (h.below hB).at (k := j) (by omega)
            simp at he
            obtain ⟨rfl, rfl⟩ := he
            have HL : Hid (lastK (xs.take (j + 1)) = xs[j].k) := lastK_take xs j (by omega)
            by_cases hlt2 : xs[j].k < xs[j + 1].k
            · have HO : Hid (depsOk (xs.take (j + 1 + 1)) = true) := by
                show depsOk (xs.take (j + 1 + 1)) = true
                rw [HX.out]
                exact snoc_yes hok.out hd (by rw [HL.out]; exact hlt2)
              clear bad HX hd HL p1 p2
              generalize xs[j].k = pk at *
              generalize xs[j + 1] = d at *
              obtain ⟨dk, dt, ds⟩ := d
              simp only at e0 e1 e2 hkey hst hlt2
              have R : InD w b (o + (j + 1) * 3) (o + j * 3) dk dt ds pk wr := ⟨hB, hbb, e0, e1, e2, p0⟩
              obtain ⟨r0, r1, r2, r3⟩ := InD.rules (w0 := w) (b := b) (x := o + (j + 1) * 3) (y := o + j * 3) (dk := dk) (dt := dt) (ds := ds) (pk := pk)
              have ne : Nonempty (Wof (InD w b (o + (j + 1) * 3) (o + j * 3) dk dt ds pk)) := ⟨⟨_, R⟩⟩
              clear hB e0 e1 e2 h hbb
              go_wp2_with fail
              refine wp_region_class (S := InD w b (o + (j + 1) * 3) (o + j * 3) dk dt ds pk) (by kernel_rfl) (by kernel_rfl) R.drew ?_
              repeat (go_big_quiet_step ((rename_i n; first | (go_at_call 85; exact Calls.inClassSame (sKey_is hkey _)) | (go_at_call 86; exact Calls.inClass (sOk_is hst _) InD.below))))
              refine wpQuiet_nil ?_
              rintro W ⟨n, hnW⟩
              have R2 := n.h
              rw [← hnW] at R2
              have I2 : Below w.heap.size w W := R2.1
              clear R R2 r0 r1 r2 r3 ne hnW n
              go_wp2
              go_roundw
              case rel => exact ⟨j + 1 + 1, by omega, by go_num, HO, I2⟩
              case measure => simp [intOf]; omega
            · have HN : Hid (depsOk xs = false) := bad (snoc_order (by rw [HL.out]; exact hlt2) (okD_bounds hd).1)
              have hlt3 : xs[j + 1].k ≤ xs[j].k := by omega
              clear bad HX hd HL p1 p2 hlt2
              generalize xs[j].k = pk at *
              generalize xs[j + 1] = d at *
              obtain ⟨dk, dt, ds⟩ := d
              simp only at e0 e1 e2 hkey hst hlt3
              have R : InD w b (o + (j + 1) * 3) (o + j * 3) dk dt ds pk wr := ⟨hB, hbb, e0, e1, e2, p0⟩
              obtain ⟨r0, r1, r2, r3⟩ := InD.rules (w0 := w) (b := b) (x := o + (j + 1) * 3) (y := o + j * 3) (dk := dk) (dt := dt) (ds := ds) (pk := pk)
              have ne : Nonempty (Wof (InD w b (o + (j + 1) * 3) (o + j * 3) dk dt ds pk)) := ⟨⟨_, R⟩⟩
              clear hB e0 e1 e2 h hbb
              go_wp2_with fail
              refine wp_region_class (S := InD w b (o + (j + 1) * 3) (o + j * 3) dk dt ds pk) (by kernel_rfl) (by kernel_rfl) R.drew ?_
              repeat (go_big_quiet_step ((rename_i n; first | (go_at_call 85; exact Calls.inClassSame (sKey_is hkey _)) | (go_at_call 86; exact Calls.inClass (sOk_is hst _) InD.below))))
              refine wpQuiet_nil ?_
              rintro W ⟨n, hnW⟩
              have R2 := n.h
              rw [← hnW] at R2
              have I2 : Below w.heap.size w W := R2.1
              clear R R2 r0 r1 r2 r3 ne hnW n
              go_wp2
              go_ret
              exact ⟨by rw [HN.out]; rfl, I2⟩
    · have hk2 : k = xs.length := by omega
      subst hk2
      rw [List.take_length] at *
      go_wp2
      go_ret
      exact ⟨by rw [hok.out]; rfl, hB⟩
end Go.Proofs.Ythlmodafadfnfaa
