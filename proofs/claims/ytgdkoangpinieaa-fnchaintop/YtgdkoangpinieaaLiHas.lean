/- The laws' own look for versions among versions. -/
import Derived.Test.YtgdkoangpinieaaLiAt
import Derived.Deep.DeepCutAuto
namespace Go.Proofs.Ytgdkoangpinieaa
open Go.ChangeShapes Go.WideShapes Go.ChangeAt Go.RowKit

theorem Blk.upW {w w' : World} {B : Nat} {vs : Array Value} {T : TypeId} (h : Blk w B vs T) (k : Below w.heap.size w w') : Blk w' B vs T := h.below k h.lt
theorem Blk.drwW {w : World} {B : Nat} {vs : Array Value} {T : TypeId} (h : Blk w B vs T) : Blk w.drew B vs T := h
/-- What is known in a round: nothing old has turned, and three cells. -/
abbrev InT (w0 : World) (b x : Nat) (k t s : Int) (W : World) : Prop := Below w0.heap.size w0 W ∧ b < W.heap.size ∧ W.cell? ⟨b, x, none⟩ = some (.int .i64 k) ∧ W.cell? ⟨b, x + 1, none⟩ = some (.int .i64 t) ∧ W.cell? ⟨b, x + 2, none⟩ = some (.int .i64 s)
theorem InT.below {w0 w w' : World} {b x : Nat} {k t s : Int} (h : InT w0 b x k t s w) (d : Below w.heap.size w w') : InT w0 b x k t s w' := by
  obtain ⟨h1, h2, h3, h4, h5⟩ := h
  exact ⟨h1.trans (d.mono h1.size), Nat.lt_of_lt_of_le h2 d.size, (d.cell (p := ⟨b, _, none⟩) h2).trans h3, (d.cell (p := ⟨b, _, none⟩) h2).trans h4, (d.cell (p := ⟨b, _, none⟩) h2).trans h5⟩
theorem InT.drew {w0 w : World} {b x : Nat} {k t s : Int} (h : InT w0 b x k t s w) : InT w0 b x k t s w.drew := h.below (Below.refl _ _).drew
theorem InT.alloc {w0 w : World} {b x : Nat} {k t s : Int} (h : InT w0 b x k t s w) (o : Obj) : InT w0 b x k t s (w.alloc o) := h.below ((Below.refl _ _).alloc (Nat.le_refl _) o)
theorem InT.fst {w0 w : World} {b x : Nat} {k t s : Int} (h : InT w0 b x k t s w) : Below w0.heap.size w0 w := h.1
/-- Behind a call whose answer is a version: the version in its block. -/
structure EndQ (w1 : World) (b x : Nat) (k t s : Int) (u : V) (D : Nat) (pa : Option Addr) (pc : Nat) (wx : World) : Prop where
  i : InT w1 b x k t s wx
  d : Blk wx D #[.int .i64 u.k, .int .i64 u.t, .int .i64 u.s, .int .i64 u.val, .int .i64 u.cl, .int .i64 u.ca, .slice pa u.ds.length pc] 28
  l : w1.heap.size ≤ D
theorem EndQ.fill {w1 w3 : World} {b x : Nat} {k t s : Int} {D : Nat} {u : V} {pa : Option Addr} {pc : Nat} (I : InT w1 b x k t s w3) (hb : b < w1.heap.size) (Z : Blk w3 D #[.int .i64 0, .int .i64 0, .int .i64 0, .int .i64 0, .int .i64 0, .int .i64 0, .slice none 0 0] 28) (hD : w1.heap.size ≤ D) : EndQ w1 b x k t s u D pa pc (((((((w3.setCell ⟨D, 0, none⟩ (.int .i64 u.k)).setCell ⟨D, 1, none⟩ (.int .i64 u.t)).setCell ⟨D, 2, none⟩ (.int .i64 u.s)).setCell ⟨D, 3, none⟩ (.int .i64 u.val)).setCell ⟨D, 4, none⟩ (.int .i64 u.cl)).setCell ⟨D, 5, none⟩ (.int .i64 u.ca)).setCell ⟨D, 6, none⟩ (.slice pa u.ds.length pc)) := by
  have q : Below w1.heap.size w3 (((((((w3.setCell ⟨D, 0, none⟩ (.int .i64 u.k)).setCell ⟨D, 1, none⟩ (.int .i64 u.t)).setCell ⟨D, 2, none⟩ (.int .i64 u.s)).setCell ⟨D, 3, none⟩ (.int .i64 u.val)).setCell ⟨D, 4, none⟩ (.int .i64 u.cl)).setCell ⟨D, 5, none⟩ (.int .i64 u.ca)).setCell ⟨D, 6, none⟩ (.slice pa u.ds.length pc)) := fill7_below (Below.refl _ _) hD
  obtain ⟨h1, h2, h3, h4, h5⟩ := I
  exact ⟨⟨h1.trans q, Nat.lt_of_lt_of_le h2 q.size, (q.cell (p := ⟨b, _, none⟩) hb).trans h3, (q.cell (p := ⟨b, _, none⟩) hb).trans h4, (q.cell (p := ⟨b, _, none⟩) hb).trans h5⟩, Blk.fill7 Z, hD⟩
theorem EndQ.new {w1 w3 : World} {b x : Nat} {k t s : Int} {u : V} {pa : Option Addr} {pc : Nat} (I : InT w1 b x k t s w3) : EndQ w1 b x k t s u w3.heap.size pa pc (w3.alloc (.cells #[.int .i64 u.k, .int .i64 u.t, .int .i64 u.s, .int .i64 u.val, .int .i64 u.cl, .int .i64 u.ca, .slice pa u.ds.length pc] 28)) :=
  ⟨I.alloc _, Blk.new _ _ _, I.1.size⟩

set_option maxHeartbeats 8000000 in
set_option maxRecDepth 20000 in
theorem liHas_any (a c : Option Addr) (vs us : List V) (cap cap' : Nat) (w : World) (hn : vs.length ≤ 1048576) (hm : us.length ≤ 1048576) (hl : ∀ v ∈ us, v.ds.length ≤ 1048576) (h : Vers w a vs) (h' : Vers w c us) (hin : ∀ v ∈ us, cAt vs v.k v.t v.s = some v) :
    Calls Try.prog 34 #[.slice a vs.length cap, .slice c us.length cap'] w fun e w' => e = .returned (.bool true) ∧ Below w.heap.size w w' := by
  go_enter Try.func34, Try.ntmps34
  go_wp2
  go_loopw [5] (fun i wr => ∃ k : Nat, k ≤ us.length ∧ i = .int .i64 k ∧ Below w.heap.size w wr) (fun i _ => us.length - (intOf i).toNat)
  case atStart => exact ⟨0, Nat.zero_le _, rfl, Below.refl _ _⟩
  case round =>
    obtain ⟨k, hk, rfl, hB⟩ := hrel
    by_cases hlt : k < us.length
    · obtain ⟨b, o, da, dc, rfl, hbb, hv⟩ := (h'.below hB).at hlt
      have hvl := hl us[k] (List.getElem_mem hlt)
      have hA := hin us[k] (List.getElem_mem hlt)
      have hL := fun W hW => liAt_any a cap vs us[k].k us[k].t us[k].s w W (by omega) h hW
      rw [hA] at hL
      have hlt2 : (k : Int) < us.length := by omega
      have hk0 : (0 : Int) ≤ k := by omega
      clear hA hin hl h h' hn
      generalize us[k] = u at *
      have R : InT wr b (o + k * 7) u.k u.t u.s wr := ⟨Below.refl _ _, hbb, hv.c0, hv.c1, hv.c2⟩
      go_upto_region 4 with fail
      go_cut [6, 7] (fun s6 s7 wx => ∃ D pa pc, s6 = .pointer (some ⟨D, 0, none⟩) ∧ s7 = .bool true ∧ Deps w pa u.ds ∧ EndQ wr b (o + k * 7) u.k u.t u.s u D pa pc wx)
      case first =>
        clear hv
        go_region_held3 (fun W => Below wr.heap.size wr W ∧ b < W.heap.size ∧ W.cell? ⟨b, o + k * 7, none⟩ = some (.int .i64 u.k) ∧ W.cell? ⟨b, o + k * 7 + 1, none⟩ = some (.int .i64 u.t) ∧ W.cell? ⟨b, o + k * 7 + 2, none⟩ = some (.int .i64 u.s)) (with_reducible (first | assumption | exact InT.drew (by assumption) | exact InT.below (by assumption) (by assumption) | exact InT.alloc (by assumption) _ | exact InT.drew (InT.alloc (by assumption) _) | exact EndQ.i (by assumption)))
          (first
            | (go_at_call 104
               refine (hL _ ?hv).mono ?_
               (case hv => exact hB.trans ((InT.fst (b := b) (x := o + k * 7) (k := u.k) (t := u.t) (s := u.s) (by with_reducible assumption)).mono hB.size))
               rintro e w3 ⟨u3, pa3, pc3, hu3, rfl, hd3, hb3⟩
               have e3 : u3 = u := hu3.out
               subst u3
               (first
                 | (with_reducible (have I3 := ((R.alloc _).drew.below hb3)
                                    have Z3 := ((Blk.new wr #[.int .i64 0, .int .i64 0, .int .i64 0, .int .i64 0, .int .i64 0, .int .i64 0, .slice none 0 0] 28).drwW).upW hb3
                                    have EF := EndQ.fill (u := u) (pa := pa3) (pc := pc3) I3 hbb Z3 (Nat.le_refl _)
                                    obtain ⟨qz, gz⟩ := Z3.rules))
                 | (with_reducible (have I3 := R.drew.below hb3
                                    have EF := EndQ.new (u := u) (pa := pa3) (pc := pc3) I3)))))
        all_goals (clear R; go_wp2_with fail; go_meet; case rel => exact ⟨_, _, _, rfl, rfl, hd3, EF⟩)
      case rest =>
        obtain ⟨D, pa, pc, rfl, rfl, hd, N3⟩ := hcut
        generalize wc = w3 at *
        have hb3 := N3.i.1
        have D3 := N3.d
        have B3 : Below w.heap.size w w3 := hB.trans (hb3.mono hB.size)
        have hv3 := hv.below hb3
        obtain ⟨q0, q1, q2, q3, q4, q5, q6⟩ := hv3.rules
        have hd' := hv3.ds
        have r : ∀ (n : Wof (Since w3)) (j : Nat), n.W.cell? ⟨D, j, none⟩ = #[.int .i64 u.k, .int .i64 u.t, .int .i64 u.s, .int .i64 u.val, .int .i64 u.cl, .int .i64 u.ca, .slice pa u.ds.length pc][j]? := fun n j => (D3.below n.h D3.lt).cell j
        have ne := since_ne w3
        have hd3 := hd.below B3
        clear R hv hv3 hb3 N3 D3 hL hB hd
        go_wp2_with fail
        refine wp_region_class (S := Since w3) (by kernel_rfl) (by kernel_rfl) (Below.refl _ _).drew ?_
        repeat (go_big_quiet_step ((rename_i n; first | (go_at_call 38; exact Calls.inClass (liVer_any u _ _ _ _ _ hvl (hd3.below n.h) (hd'.below n.h)) Since.keep))))
        refine wpQuiet_nil ?_
        rintro W ⟨n, hnW⟩
        have R2 := n.h
        rw [← hnW] at R2
        have hB2 : Below w.heap.size w W := B3.trans (R2.mono B3.size)
        clear R2 q0 q1 q2 q3 q4 q5 q6 r ne hnW n B3 hd3 hd'
        go_wp2
        go_roundw
        case rel => exact ⟨k + 1, by omega, by go_num, hB2⟩
        case measure => simp [intOf]; omega
    · go_wp2
      go_ret
      exact ⟨rfl, hB⟩
end Go.Proofs.Ytgdkoangpinieaa
