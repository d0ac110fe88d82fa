/- Deps are read into a table. -/
import Derived.Test.YtpjidogilofppaaGreatGAE
namespace Go.Proofs.YtpjidogilofppaaGreat
open Go.ChangeShapes Go.WideShapes Go.ChangeAt Go.RowKit

/-- Deps as a table, an empty one, if they are not ok. -/
def tabOf (xs : List D) : Tbl := if depsOk xs = true then tab xs else fun _ => none
theorem tabOf_ok {xs : List D} (h : depsOk xs = true) : tabOf xs = tab xs := if_pos h
theorem tabOf_no {xs : List D} (h : depsOk xs = false) : tabOf xs = fun _ => none := if_neg (by rw [h]; exact Bool.false_ne_true)

/-- Twelve cells of an empty table. -/
abbrev zeroA : Array Value := #[.bool false, .int .i64 0, .bool false, .int .i64 0, .bool false, .int .i64 0, .bool false, .int .i64 0, .bool false, .int .i64 0, .bool false, .int .i64 0]

theorem tab_more {xs : List D} {k : Nat} (hk : k < xs.length) (h : depsOk (xs.take k) = true) (hl : lastK (xs.take k) < xs[k].k) : tabA (withT (tab (xs.take k)) xs[k]) = tabA (tab (xs.take (k + 1))) := by
  have ho := (ok_iff.1 h).last.2.2
  refine tabA_congr fun i _ _ => ?_
  rw [takeD xs k hk, tab_snoc (fun e he => by have := ho e he; omega)]
  unfold withT
  split
  · rename_i e
    rw [tab_none (fun x hx => by have := ho x hx; omega)]; rfl
  · rfl

set_option maxHeartbeats 1000000 in
theorem tableOf_any (a : Option Addr) (cap : Nat) (xs : List D) (w : World) (hn : xs.length ≤ 1099511627776) (h : Deps w a xs) :
    Calls Tryz.prog 224 #[.slice a xs.length cap] w fun e w' => e = .returned (.tuple #[.agg (tabA (tabOf xs)), .bool (depsOk xs)]) ∧ Below w.heap.size w w' := by
  go_enter Tryz.func224, Tryz.ntmps224
  go_wp2
  go_loopw [5, 11] (fun l i wr => ∃ k : Nat, k ≤ xs.length ∧ i = .int .i64 k ∧ l = .int .i64 (lastK (xs.take k)) ∧ Hid (depsOk (xs.take k) = true) ∧ Blk wr w.heap.size zeroA 257 ∧ Blk wr (w.heap.size + 1) (tabA (tab (xs.take k))) 257 ∧ Below w.heap.size w wr) (fun _ i _ => xs.length - (intOf i).toNat)
  case atStart => exact ⟨0, Nat.zero_le _, rfl, rfl, ok_nil, (Blk.new _ _ _).alloc _, by have := Blk.new (w.alloc (.cells zeroA 257)) zeroA 257; rwa [World.size_alloc] at this, ((Below.refl _ _).alloc (Nat.le_refl _) _).alloc (by simp) _⟩
  case round =>
    obtain ⟨k, hk, rfl, rfl, hok, B0, B1, hB⟩ := hrel
    have z0 := B0.lt
    have z1 := B1.lt
    obtain ⟨b0, b1, b2, b3, b4, b5, c0, c1, c2, c3, c4, c5, hT⟩ := tabA_lit (tab (xs.take k))
    have HT : Hid (tabA (tab (xs.take k)) = _) := hT
    rw [hT] at B1
    clear hT
    obtain ⟨r0, f0⟩ := B0.rules
    obtain ⟨r1, f1⟩ := B1.rules
    by_cases hlt : k < xs.length
    · obtain ⟨b, o, rfl, hbb, e0, e1, e2⟩ := (h.below hB).at hlt
      have HX : Hid (xs.take (k + 1) = xs.take k ++ [xs[k]]) := takeD xs k hlt
      have HM := tab_more hlt hok.out
      have HK : Hid (lastK (xs.take (k + 1)) = xs[k].k) := lastK_take xs k hlt
      by_cases hle : xs[k].k ≤ lastK (xs.take k)
      · have HN : Hid (depsOk xs = false) := by
          show depsOk xs = false
          refine prefix_bad (k := k + 1) ?_
          rw [HX.out]
          rcases hd : okD xs[k] with _ | _
          · exact snoc_bad hd
          · exact snoc_order (by omega) (okD_bounds hd).1
        generalize xs[k] = d at *
        generalize lastK (xs.take k) = L at *
        obtain ⟨dk, dt, ds⟩ := d
        simp only at e0 e1 e2 hle
        clear HM HX HK h
        go_wp2_with fail
        refine bodyPost_ret (v := .tuple #[.agg zeroA, .bool false]) ?_ rfl ⟨by rw [HN.out, tabOf_no HN.out]; rfl, ?_⟩
        · refine Blk.gen (B := w.heap.size) (vs := zeroA) (T := 257) ?_ (P := fun W => (results Tryz.f224 _).run Tryz.prog W = .ok _ W) ?_
          · exact (Blk.fill B0).alloc _
          intro W hW
          obtain ⟨k, f⟩ := hW.rules
          simp [results, Tryz.results224, go_sem, k]
        · exact (fill_below hB (Nat.le_refl _)).alloc (fill_below hB (Nat.le_refl _)).size _
      · rcases hd : okD xs[k] with _ | _
        · have HN : Hid (depsOk xs = false) := by
            show depsOk xs = false
            refine prefix_bad (k := k + 1) ?_
            rw [HX.out]
            exact snoc_bad hd
          generalize xs[k] = d at *
          generalize lastK (xs.take k) = L at *
          obtain ⟨dk, dt, ds⟩ := d
          simp only at e0 e1 e2 hle
          clear HM HX HK h
          go_wp2_with fail
          refine (iDep_any ⟨dk, dt, ds⟩ _).mono ?_
          rw [hd]
          rintro e w1 ⟨rfl, hb1⟩
          have B01 := (B0.alloc _).below hb1 (by simp; omega)
          have hB1 : Below w.heap.size w w1 := (hB.alloc hB.size _).trans (hb1.mono (by have := hB.size; simp; omega))
          obtain ⟨r3, f3⟩ := B01.rules
          clear hb1 r0 r1 f0 f1 e0 e1 e2
          go_wp2_with fail
          refine bodyPost_ret (v := .tuple #[.agg zeroA, .bool false]) ?_ rfl ⟨by rw [HN.out, tabOf_no HN.out]; rfl, ?_⟩
          · refine Blk.gen (B := w.heap.size) (vs := zeroA) (T := 257) ?_ (P := fun W => (results Tryz.f224 _).run Tryz.prog W = .ok _ W) ?_
            · exact Blk.fill B01
            intro W hW
            obtain ⟨k, f⟩ := hW.rules
            simp [results, Tryz.results224, go_sem, k]
          · exact fill_below hB1 (Nat.le_refl _)
        · have HO : Hid (depsOk (xs.take (k + 1)) = true) := by
            show depsOk (xs.take (k + 1)) = true
            rw [HX.out]; exact snoc_yes hok.out hd (by omega)
          have HM2 : Hid _ := HM (by omega)
          clear HM
          generalize xs[k] = d at *
          generalize lastK (xs.take k) = L at *
          have hW := with_any (tab (xs.take k)) d
          rw [HT.out] at hW
          obtain ⟨dk, dt, ds⟩ := d
          simp only at e0 e1 e2 hle HK hW
          clear HX h
          go_wp2_with fail
          refine (iDep_any ⟨dk, dt, ds⟩ _).mono ?_
          rw [hd]
          rintro e w1 ⟨rfl, hb1⟩
          have B01 := (B0.alloc _).below hb1 (by simp; omega)
          have B11 := (B1.alloc _).below hb1 (by simp; omega)
          have B21 := (Blk.new wr _ _).below hb1 (by simp)
          have hB1 : Below w.heap.size w w1 := (hB.alloc hB.size _).trans (hb1.mono (by have := hB.size; simp; omega))
          obtain ⟨r3, f3⟩ := B01.rules
          obtain ⟨r4, f4⟩ := B11.rules
          obtain ⟨r5, f5⟩ := B21.rules
          clear hb1 r0 r1 f0 f1 e0 e1 e2
          go_wp2_with fail
          refine (hW _ hd).mono ?_
          rintro e w2 ⟨rfl, hb2⟩
          obtain ⟨a0, a1, a2, a3, a4, a5, x0, x1, x2, x3, x4, x5, hU⟩ := tabA_lit (withT (tab (xs.take k)) ⟨dk, dt, ds⟩)
          have HU : Hid (tabA (tab (xs.take (k + 1))) = _) := HM2.out.symm.trans hU
          have y0 := B01.lt
          have y1 := B11.lt
          have y2 := B21.lt
          have B02 := B01.below hb2 y0
          have B12 := B11.below hb2 y1
          have B22 := B21.below hb2 y2
          have hB2 : Below w.heap.size w w2 := hB1.trans (hb2.mono hB1.size)
          rw [hU]
          clear r3 r4 r5 f3 f4 f5 hb2 HM2 hU
          obtain ⟨r3, f3⟩ := B02.rules
          obtain ⟨r4, f4⟩ := B12.rules
          obtain ⟨r5, f5⟩ := B22.rules
          have n1 : wr.heap.size ≠ w.heap.size + 1 := by omega
          go_wp2_with fail
          go_roundw
          case rel => exact ⟨k + 1, by omega, by go_num, by rw [HK.out], HO, B02.fillOther (by omega), by rw [HU.out]; exact B12.fill, fill_below hB2 (by omega)⟩
          case measure => simp [intOf]; omega
    · have hk2 : k = xs.length := by omega
      subst hk2
      rw [List.take_length] at *
      have HN : Hid (tabA (tabOf xs) = _) := (congrArg tabA (tabOf_ok hok.out)).trans HT.out
      clear h
      go_wp2_with fail
      refine bodyPost_ret (v := .tuple #[.agg #[.bool b0, .int .i64 c0, .bool b1, .int .i64 c1, .bool b2, .int .i64 c2, .bool b3, .int .i64 c3, .bool b4, .int .i64 c4, .bool b5, .int .i64 c5], .bool true]) ?_ rfl ⟨by rw [HN.out, hok.out], ?_⟩
      · refine Blk.gen (B := w.heap.size) (vs := #[.bool b0, .int .i64 c0, .bool b1, .int .i64 c1, .bool b2, .int .i64 c2, .bool b3, .int .i64 c3, .bool b4, .int .i64 c4, .bool b5, .int .i64 c5]) (T := 257) ?_ (P := fun W => (results Tryz.f224 _).run Tryz.prog W = .ok _ W) ?_
        · exact Blk.fill B0
        intro W hW
        obtain ⟨k, f⟩ := hW.rules
        simp [results, Tryz.results224, go_sem, k]
      · exact fill_below hB (Nat.le_refl _)
end Go.Proofs.YtpjidogilofppaaGreat
