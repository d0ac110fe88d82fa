/- 5 texts in one: TdC, TdD, TdE, TdF, TdG. -/
import Derived.Test.YtpjidogilofppaaGreatTA2
import Derived.Test.YtpjidogilofppaaGreatTA1
import Derived.Test.YtpjidogilofppaaGreatGAN
import Derived.Deep.RegionHeld3
import Derived.Lib.AppendZerosOnto
import Derived.Laws.AppendOwnNone
import Derived.Lib.SmallJoins
import Derived.Test.YtpjidogilofppaaGreatZF
import Derived.Test.YtpjidogilofppaaGreatSvHostOf
/- The parcels of all slots that are leaving. -/
namespace Go.Proofs.YtpjidogilofppaaGreat
open Go.ChangeShapes Go.WideShapes Go.ChangeAt Go.RowKit

def partP (site : Int) (n : Int) (t : Sl) (vs ws : List V) (os : List D) : List Wd := if t.st = 2 then [parcelX site n t.ep vs ws os] else []
/-- The parcels of the first slots. -/
def preP (site : Int) (t1 t2 t3 : Sl) (vs ws : List V) (os : List D) : Nat → List Wd
  | 0 => []
  | 1 => partP site 0 t1 vs ws os
  | 2 => partP site 0 t1 vs ws os ++ partP site 1 t2 vs ws os
  | _ => partP site 0 t1 vs ws os ++ partP site 1 t2 vs ws os ++ partP site 2 t3 vs ws os
theorem partP_len (site n : Int) (t : Sl) (vs ws : List V) (os : List D) : (partP site n t vs ws os).length ≤ 1 := by unfold partP; split <;> simp
theorem preP_len (site : Int) (t1 t2 t3 : Sl) (vs ws : List V) (os : List D) (k : Nat) : (preP site t1 t2 t3 vs ws os k).length ≤ 3 := by
  have h1 := partP_len site 0 t1 vs ws os
  have h2 := partP_len site 1 t2 vs ws os
  have h3 := partP_len site 2 t3 vs ws os
  match k with
  | 0 => simp [preP]
  | 1 => simp only [preP]; omega
  | 2 => simp only [preP, List.length_append]; omega
  | k + 3 => simp only [preP, List.length_append]; omega
theorem ownWs_len {w : World} {base : Nat} {v : Value} {Xs : List XW} {xs : List Wd} (_ : OwnWs w base v Xs) (hx : Xs.map XW.x = xs) {n : Nat} (hl : xs.length ≤ n) : Xs.length ≤ n := by
  rw [← hx] at hl; simpa using hl

set_option maxHeartbeats 4000000 in
set_option maxRecDepth 20000 in
theorem parcels_any (B : Nat) (site : Int) (up : Bool) (va wa oa : Option Addr) (vc wk oc : Nat) (kv : Value) (vs ws : List V) (os : List D) (t1 t2 t3 : Sl) (w : World) (hB : Blk w B (hostC site up (.slice va vs.length vc) (.slice wa ws.length wk) (.slice oa os.length oc) kv t1 t2 t3) 88) (hv : Vers w va vs) (hw : Vers w wa ws) (ho : Deps w oa os) (nv : vs.length ≤ 1099511627776) (nw : ws.length ≤ 1099511627776) (no : os.length ≤ 1099511627776) (s0 : 0 ≤ site) (s3 : site ≤ 3) :
    Calls Tryz.prog 84 #[.pointer (some ⟨B, 0, none⟩)] w fun e w' => ∃ u Xs, e = .returned u ∧ OwnWs w' w.heap.size u Xs ∧ Xs.map XW.x = preP site t1 t2 t3 vs ws os 3 ∧ Below w.heap.size w w' := by
  have h0 := fun W (hW : Below w.heap.size w W) => parcel0_any B site up va wa oa vc wk oc kv vs ws os t1 t2 t3 W (hB.below hW hB.lt) (hv.below hW) (hw.below hW) (ho.below hW) nv nw no s0 s3
  have h1 := fun W (hW : Below w.heap.size w W) => parcel1_any B site up va wa oa vc wk oc kv vs ws os t1 t2 t3 W (hB.below hW hB.lt) (hv.below hW) (hw.below hW) (ho.below hW) nv nw no s0 s3
  have h2 := fun W (hW : Below w.heap.size w W) => parcel2_any B site up va wa oa vc wk oc kv vs ws os t1 t2 t3 W (hB.below hW hB.lt) (hv.below hW) (hw.below hW) (ho.below hW) nv nw no s0 s3
  have HH := hidOf (And.intro h0 (And.intro h1 h2))
  have HB := hidOf hB
  have HP := hidOf (preP_len site t1 t2 t3 vs ws os)
  clear h0 h1 h2 hB hv hw ho nv nw no s0 s3
  go_enter Tryz.func84, Tryz.ntmps84
  go_wp2_with fail
  go_loopw [3, 5] (fun u i wr => ∃ (k : Nat) (Xs : List XW), k ≤ 3 ∧ i = .int .i64 k ∧ OwnWs wr w.heap.size u Xs ∧ Hid (Xs.map XW.x = preP site t1 t2 t3 vs ws os k) ∧ Below w.heap.size w wr) (fun _ i _ => 3 - (intOf i).toNat)
  case atStart => exact ⟨0, [], by omega, rfl, OwnWs.nil _ _, rfl, Below.refl _ _⟩
  case round =>
    obtain ⟨k, Xs, hk, rfl, hT, HX, hBel⟩ := hrel
    obtain ⟨q1, g1⟩ := (HB.out.below hBel HB.out.lt).rules
    have HLn := hidOf (ownWs_len hT HX.out (HP.out k))
    have hkc : k = 0 ∨ k = 1 ∨ k = 2 ∨ k = 3 := by omega
    rcases hkc with rfl | rfl | rfl | rfl
    · by_cases hst : t1.st = 2
      · have HN : Hid (preP site t1 t2 t3 vs ws os 1 = preP site t1 t2 t3 vs ws os 0 ++ [parcelX site 0 t1.ep vs ws os]) := by
          show preP _ _ _ _ _ _ _ _ = _
          simp [preP, partP, hst]
        go_wp2_with fail
        clear q1 g1
        refine (HH.out.1 _ hBel).mono ?_
        rintro e w2 ⟨c, ys, zs, rfl, hO, hb2⟩
        generalize parcelX site 0 t1.ep vs ws os = X at *
        have hN := Blk.new w2 (wordC X c) 41
        have ba : Below w2.heap.size w2 (w2.alloc (.cells (wordC X c) 41)) := (Below.refl _ _).alloc (Nat.le_refl _) _
        have hX1 : OwnX (w2.alloc (.cells (wordC X c) 41)) w.heap.size ⟨X, c, ys, zs⟩ := (hO.mono hBel.size).below ba (Nat.le_refl _)
        have hap := apart_word (X := ⟨X, c, ys, zs⟩) hT hO (Nat.le_refl _)
        have bb := hb2.trans (ba.mono hb2.size)
        have hT1 := hT.below bb (Nat.le_refl _)
        have hB1 := hBel.trans (bb.mono hBel.size)
        have PK := hidOf (And.intro hN (And.intro hX1 (And.intro hap (And.intro hT1 hB1))))
        clear hN ba hX1 hap bb hT1 hB1 hT hBel hO hb2
        go_wp2_with (first | (at_builtin
                              obtain ⟨hN, hX1, hap, hT1, hB1⟩ := PK.out
                              refine wpList_append_word _ rfl _ _ rfl w.heap.size _ Xs rfl hT1 ⟨X, c, ys, zs⟩ w2.heap.size rfl hN hX1 hap (by have := HLn.out; omega) hB1.size ?_
                              intro v' w3 hT3 hg3
                              have hB3 : Below w.heap.size w w3 := hB1.grown hg3 hB1.size (fun j hj => (hT1.row.lt j hj).1)
                              clear hN hX1 hap hT1 hB1 hg3 PK))
        go_roundw
        case rel => exact ⟨1, _, by omega, by go_num, hT3, by rw [HN.out]; show List.map _ _ = _; rw [List.map_append, HX.out]; rfl, hB3⟩
        case measure => simp [intOf]
      · have HN : Hid (preP site t1 t2 t3 vs ws os 1 = preP site t1 t2 t3 vs ws os 0) := by
          show preP _ _ _ _ _ _ _ _ = _
          simp [preP, partP, hst]
        go_wp2_with fail
        clear q1 g1
        go_roundw
        case rel => exact ⟨1, Xs, by omega, by go_num, hT, by rw [HN.out]; exact HX, hBel⟩
        case measure => simp [intOf]
    · by_cases hst : t2.st = 2
      · have HN : Hid (preP site t1 t2 t3 vs ws os 2 = preP site t1 t2 t3 vs ws os 1 ++ [parcelX site 1 t2.ep vs ws os]) := by
          show preP _ _ _ _ _ _ _ _ = _
          simp [preP, partP, hst]
        go_wp2_with fail
        clear q1 g1
        refine (HH.out.2.1 _ hBel).mono ?_
        rintro e w2 ⟨c, ys, zs, rfl, hO, hb2⟩
        generalize parcelX site 1 t2.ep vs ws os = X at *
        have hN := Blk.new w2 (wordC X c) 41
        have ba : Below w2.heap.size w2 (w2.alloc (.cells (wordC X c) 41)) := (Below.refl _ _).alloc (Nat.le_refl _) _
        have hX1 : OwnX (w2.alloc (.cells (wordC X c) 41)) w.heap.size ⟨X, c, ys, zs⟩ := (hO.mono hBel.size).below ba (Nat.le_refl _)
        have hap := apart_word (X := ⟨X, c, ys, zs⟩) hT hO (Nat.le_refl _)
        have bb := hb2.trans (ba.mono hb2.size)
        have hT1 := hT.below bb (Nat.le_refl _)
        have hB1 := hBel.trans (bb.mono hBel.size)
        have PK := hidOf (And.intro hN (And.intro hX1 (And.intro hap (And.intro hT1 hB1))))
        clear hN ba hX1 hap bb hT1 hB1 hT hBel hO hb2
        go_wp2_with (first | (at_builtin
                              obtain ⟨hN, hX1, hap, hT1, hB1⟩ := PK.out
                              refine wpList_append_word _ rfl _ _ rfl w.heap.size _ Xs rfl hT1 ⟨X, c, ys, zs⟩ w2.heap.size rfl hN hX1 hap (by have := HLn.out; omega) hB1.size ?_
                              intro v' w3 hT3 hg3
                              have hB3 : Below w.heap.size w w3 := hB1.grown hg3 hB1.size (fun j hj => (hT1.row.lt j hj).1)
                              clear hN hX1 hap hT1 hB1 hg3 PK))
        go_roundw
        case rel => exact ⟨2, _, by omega, by go_num, hT3, by rw [HN.out]; show List.map _ _ = _; rw [List.map_append, HX.out]; rfl, hB3⟩
        case measure => simp [intOf]
      · have HN : Hid (preP site t1 t2 t3 vs ws os 2 = preP site t1 t2 t3 vs ws os 1) := by
          show preP _ _ _ _ _ _ _ _ = _
          simp [preP, partP, hst]
        go_wp2_with fail
        clear q1 g1
        go_roundw
        case rel => exact ⟨2, Xs, by omega, by go_num, hT, by rw [HN.out]; exact HX, hBel⟩
        case measure => simp [intOf]
    · by_cases hst : t3.st = 2
      · have HN : Hid (preP site t1 t2 t3 vs ws os 3 = preP site t1 t2 t3 vs ws os 2 ++ [parcelX site 2 t3.ep vs ws os]) := by
          show preP _ _ _ _ _ _ _ _ = _
          simp [preP, partP, hst]
        go_wp2_with fail
        clear q1 g1
        refine (HH.out.2.2 _ hBel).mono ?_
        rintro e w2 ⟨c, ys, zs, rfl, hO, hb2⟩
        generalize parcelX site 2 t3.ep vs ws os = X at *
        have hN := Blk.new w2 (wordC X c) 41
        have ba : Below w2.heap.size w2 (w2.alloc (.cells (wordC X c) 41)) := (Below.refl _ _).alloc (Nat.le_refl _) _
        have hX1 : OwnX (w2.alloc (.cells (wordC X c) 41)) w.heap.size ⟨X, c, ys, zs⟩ := (hO.mono hBel.size).below ba (Nat.le_refl _)
        have hap := apart_word (X := ⟨X, c, ys, zs⟩) hT hO (Nat.le_refl _)
        have bb := hb2.trans (ba.mono hb2.size)
        have hT1 := hT.below bb (Nat.le_refl _)
        have hB1 := hBel.trans (bb.mono hBel.size)
        have PK := hidOf (And.intro hN (And.intro hX1 (And.intro hap (And.intro hT1 hB1))))
        clear hN ba hX1 hap bb hT1 hB1 hT hBel hO hb2
        go_wp2_with (first | (at_builtin
                              obtain ⟨hN, hX1, hap, hT1, hB1⟩ := PK.out
                              refine wpList_append_word _ rfl _ _ rfl w.heap.size _ Xs rfl hT1 ⟨X, c, ys, zs⟩ w2.heap.size rfl hN hX1 hap (by have := HLn.out; omega) hB1.size ?_
                              intro v' w3 hT3 hg3
                              have hB3 : Below w.heap.size w w3 := hB1.grown hg3 hB1.size (fun j hj => (hT1.row.lt j hj).1)
                              clear hN hX1 hap hT1 hB1 hg3 PK))
        go_roundw
        case rel => exact ⟨3, _, by omega, by go_num, hT3, by rw [HN.out]; show List.map _ _ = _; rw [List.map_append, HX.out]; rfl, hB3⟩
        case measure => simp [intOf]
      · have HN : Hid (preP site t1 t2 t3 vs ws os 3 = preP site t1 t2 t3 vs ws os 2) := by
          show preP _ _ _ _ _ _ _ _ = _
          simp [preP, partP, hst]
        go_wp2_with fail
        clear q1 g1
        go_roundw
        case rel => exact ⟨3, Xs, by omega, by go_num, hT, by rw [HN.out]; exact HX, hBel⟩
        case measure => simp [intOf]
    · clear q1 g1
      go_wp2_with fail
      go_ret
      exact ⟨_, Xs, rfl, hT, HX.out, hBel⟩
end Go.Proofs.YtpjidogilofppaaGreat

/- The words that bear a debt's version to the other side. -/
namespace Go.Proofs.YtpjidogilofppaaGreat
open Go.ChangeShapes Go.WideShapes Go.ChangeAt Go.RowKit

def repX (site far : Int) (v : V) : Wd := ⟨5, site, far, 0, 0, 0, 0, 0, false, [], 0, 0, [v], [], []⟩
def repV (vs : List V) (d : D) : V := (atA vs d.k d.t d.s).getD zeroV
def repAt (site : Int) (t1 t2 t3 : Sl) (vs : List V) (d : D) (j : Nat) : List Wd := if (ownsB [t1, t2, t3] (slotOf d.k) && !(sideOf j == sideOf site)) = true then [repX site j (repV vs d)] else []
def repD (site : Int) (t1 t2 t3 : Sl) (vs : List V) (d : D) : Nat → List Wd
  | 0 => []
  | j + 1 => repD site t1 t2 t3 vs d j ++ repAt site t1 t2 t3 vs d j
def repL (site : Int) (t1 t2 t3 : Sl) (vs : List V) (os : List D) : List Wd := os.flatMap fun d => repD site t1 t2 t3 vs d 4
theorem repL_take (site : Int) (t1 t2 t3 : Sl) (vs : List V) {os : List D} {k : Nat} (h : k < os.length) : repL site t1 t2 t3 vs (os.take (k + 1)) = repL site t1 t2 t3 vs (os.take k) ++ repD site t1 t2 t3 vs os[k] 4 := by
  unfold repL
  rw [List.take_succ_eq_append_getElem h, List.flatMap_append]
  simp
theorem repD_len (site : Int) (t1 t2 t3 : Sl) (vs : List V) (d : D) (j : Nat) : (repD site t1 t2 t3 vs d j).length ≤ j := by
  induction j with
  | zero => simp [repD]
  | succ j ih =>
    have : (repAt site t1 t2 t3 vs d j).length ≤ 1 := by unfold repAt; split <;> simp
    simp only [repD, List.length_append]; omega
theorem repL_len (site : Int) (t1 t2 t3 : Sl) (vs : List V) (os : List D) : (repL site t1 t2 t3 vs os).length ≤ os.length * 4 := by
  induction os with
  | nil => simp [repL]
  | cons d ds ih =>
    have h1 := repD_len site t1 t2 t3 vs d 4
    have : repL site t1 t2 t3 vs (d :: ds) = repD site t1 t2 t3 vs d 4 ++ repL site t1 t2 t3 vs ds := rfl
    rw [this, List.length_append, List.length_cons]; omega
theorem row_not_blk {w : World} {base B s n : Nat} {e T : TypeId} {v : Value} {xs : List Value} {vs : Array Value} (h : w.ownsRow base e s v n xs) (hB : Blk w B vs T) (he : e ≠ T) : v.ownBlock ≠ some B := by
  intro hv
  rcases h.2 with ⟨rfl, _⟩ | ⟨g, cap, cur, rfl, _, hg, _⟩
  · simp [Value.ownBlock] at hv
  · simp [Value.ownBlock] at hv
    subst hv
    unfold Blk at hB
    rw [hB] at hg
    simp at hg
    exact he hg.2.symm
theorem row_one (w : World) (cs : Array Value) (e : TypeId) (base : Nat) (hb : base ≤ w.heap.size) : (w.alloc (.cells cs e)).ownsRow base e cs.size (.slice (some ⟨w.heap.size, 0, none⟩) 1 1) 1 cs.toList :=
  ⟨by simp, .inr ⟨w.heap.size, 1, cs, rfl, hb, heap_alloc_new w _, Nat.le_refl _, by unfold maxLen; omega, by simp, by rw [Nat.one_mul]; exact List.take_of_length_le (by simp)⟩⟩
/-- A word that bears one version of the call's own. -/
theorem own_rep {W : World} {base g : Nat} {v : V} {p : Value} (x : Wd) (hx : x.ds = [] ∧ x.vs = [v] ∧ x.ws = [] ∧ x.os = []) (hv : OwnV W base (.slice (some ⟨g, 0, none⟩) 1 1) [⟨v, p⟩]) : OwnX W base ⟨x, ⟨none, 0, some ⟨g, 0, none⟩, 1, none, 0, none, 0⟩, [⟨v, p⟩], []⟩ := by
  obtain ⟨h1, h2, h3, h4⟩ := hx
  refine ⟨?_, ?_, ?_, ?_, ?_, ?_, ?_, ?_, ?_, ?_, ?_, ?_⟩ <;> simp only [h1, h2, h3, h4, List.length_nil, List.length_singleton]
  · exact World.ownsRow_nil _ _ _ _
  · exact hv
  · exact OwnV.nil _ _
  · exact World.ownsRow_nil _ _ _ _
  · rfl
  · rfl
  · intro b hb; simp [Value.ownBlock] at hb
  · intro b hb; simp [Value.ownBlock] at hb
  · intro b hb; simp [Value.ownBlock] at hb
  · intro b _ hb; simp [inV, Value.ownBlock] at hb
  · intro b _; simp [Value.ownBlock]
  · intro b hb; simp [inV, Value.ownBlock] at hb
theorem step_append_word (w : World) {ops : Array Oper} {o : Oper} {a : Act} {K : Act → World → Prop} {Q : Exit → Act → World → Prop} {E : Prop} (hgd : o.guard = none) (s x : Operand)
    (ho : o.op = .call { callee := .builtin .append, args := #[s, x], argTypes := #[51, 51] })
    (base : Nat) (v : Value) (Xs : List XW) (hs : a.eval s = v) (hT : OwnWs w base v Xs) (X : XW) (g : Nat) (hx : a.eval x = .slice (some ⟨g, 0, none⟩) 1 1)
    (hB : Blk w g (wordC X.x X.a) 41)
    (hX : OwnX w base X) (ha : ∀ Y ∈ Xs, ∀ b, inX Y b → ¬ inX X b) (hn : Xs.length ≤ 1000000) (hb : base ≤ w.heap.size)
    (h : ∀ v' w', OwnWs w' base v' (Xs ++ [X]) → w.grownBy w' v.ownBlock → K (a.put o.dst v') w') :
    if Region.wanted o (yielded ops a.tmps) = true then Oper.wp Tryz.prog o a w K Q else E := by
  obtain ⟨i0, hi, hz0, hz1, hz2⟩ := info_parts infoWord
  exact step_append_at w hgd s x 51 ho base 41 i0 (.agg #[.int .i64 0, .int .i64 0, .int .i64 0, .int .i64 0, .int .i64 0, .int .i64 0, .int .i64 0, .int .i64 0, .bool false, .slice none 0 0, .int .i64 0, .int .i64 0, .slice none 0 0, .slice none 0 0, .slice none 0 0]) 15 184 Tryz.underlying51 hi hz0 hz1 hz2 rfl (by decide) v Xs.length (flat15 Xs) hs hT.row ⟨g, 0, none⟩ 1 1 (flat15 [X]) hx rfl (cells15 hB) (flat15_one _) (by unfold maxLen; omega) (by omega) hb fun v' w' h2 h3 _ => h v' w' (hT.snoc h3 h2 hX ha) h3

set_option maxHeartbeats 8000000 in
set_option maxRecDepth 20000 in
theorem reps_any (B : Nat) (site : Int) (up : Bool) (va oa : Option Addr) (vc oc : Nat) (wv kv : Value) (vs : List V) (os : List D) (t1 t2 t3 : Sl) (w : World) (hB : Blk w B (hostC site up (.slice va vs.length vc) wv (.slice oa os.length oc) kv t1 t2 t3) 88) (hv : Vers w va vs) (ho : Deps w oa os) (nv : vs.length ≤ 1099511627776) (no : os.length ≤ 80) (hok : ∀ d ∈ os, 1 ≤ d.t ∧ (Lit.int .i64 d.k).wf = true) (hdl : ∀ d ∈ os, (repV vs d).ds.length ≤ 1099511627776) :
    Calls Tryz.prog 85 #[.pointer (some ⟨B, 0, none⟩)] w fun e w' => ∃ u Xs, e = .returned u ∧ OwnWs w' w.heap.size u Xs ∧ Xs.map XW.x = repL site t1 t2 t3 vs os ∧ Below w.heap.size w w' := by
  have hS := fun j W (hW : Below w.heap.size w W) => onSide_any B site up (.slice va vs.length vc) wv (.slice oa os.length oc) kv t1 t2 t3 j W (hB.below hW hB.lt)
  have hO := fun j W (hW : Below w.heap.size w W) => ownsKey_any B site up (.slice va vs.length vc) wv (.slice oa os.length oc) kv t1 t2 t3 j W (hB.below hW hB.lt)
  have hF := fun (d : D) W (hW : Below w.heap.size w W) (h1 : (Lit.int .i64 d.k).wf = true) (h2 : 1 ≤ d.t) => finds_any B site up va vc wv (.slice oa os.length oc) kv vs t1 t2 t3 d W (hB.below hW hB.lt) nv (hv.below hW) h1 h2
  have HH := hidOf (And.intro hS (And.intro hO hF))
  have HB := hidOf hB
  have HO := hidOf ho
  have HK := hidOf hok
  have HDL := hidOf hdl
  obtain ⟨q1, g1⟩ := hB.rules
  clear hS hO hF hB hv nv ho hok hdl
  go_enter Tryz.func85, Tryz.ntmps85
  go_wp2_with fail
  clear q1 g1
  go_loopw [3, 15] (fun u i wr => ∃ (k : Nat) (Xs : List XW), k ≤ os.length ∧ i = .int .i64 k ∧ OwnWs wr w.heap.size u Xs ∧ Hid (Xs.map XW.x = repL site t1 t2 t3 vs (os.take k)) ∧ Below w.heap.size w wr) (fun _ i _ => os.length - (intOf i).toNat)
  case atStart => exact ⟨0, [], by omega, rfl, OwnWs.nil _ _, rfl, Below.refl _ _⟩
  case round =>
    obtain ⟨k, Xs, hk, rfl, hT, HX, hBel⟩ := hrel
    by_cases hlt : k < os.length
    · have HN := hidOf (repL_take site t1 t2 t3 vs hlt)
      have HOK := hidOf (HK.out os[k] (List.getElem_mem hlt))
      have HDD := hidOf (HDL.out os[k] (List.getElem_mem hlt))
      have HRL : Hid ((repL site t1 t2 t3 vs (os.take k)).length ≤ 320) := by
        show _ ≤ _
        have := repL_len site t1 t2 t3 vs (os.take k)
        rw [List.length_take] at this
        omega
      obtain ⟨b, p, rfl, hbb, c0, c1, c2⟩ := (HO.out.below hBel).at hlt
      generalize os[k] = d at *
      generalize repL site t1 t2 t3 vs (os.take k) = pre at *
      go_wp2_with fail
      clear c0 c1 c2 hbb
      have hD0 := Blk.new wr #[.int .i64 d.k, .int .i64 d.t, .int .i64 d.s] 116
      have ba : Below wr.heap.size wr (wr.alloc (.cells #[.int .i64 d.k, .int .i64 d.t, .int .i64 d.s] 116)) := (Below.refl _ _).alloc (Nat.le_refl _) _
      have hT0 := hT.below ba (Nat.le_refl _)
      have hBel0 := hBel.trans (ba.mono hBel.size)
      have HDb : Hid (w.heap.size ≤ wr.heap.size) := hBel.size
      generalize hDB : wr.heap.size = DB at *
      generalize wr.alloc (.cells #[.int .i64 d.k, .int .i64 d.t, .int .i64 d.s] 116) = W0 at *
      clear hT hBel ba hDB
      go_loopw [3, 19] (fun u i wr => ∃ (j : Nat) (Xs : List XW), j ≤ 4 ∧ i = .int .i64 j ∧ OwnWs wr w.heap.size u Xs ∧ Hid (Xs.map XW.x = pre ++ repD site t1 t2 t3 vs d j) ∧ Below w.heap.size w wr ∧ Blk wr DB #[.int .i64 d.k, .int .i64 d.t, .int .i64 d.s] 116) (fun _ i _ => 4 - (intOf i).toNat)
      case atStart => exact ⟨0, Xs, by omega, rfl, hT0, by show List.map _ _ = _; rw [HX.out]; simp [repD], hBel0, hD0⟩
      case round =>
        obtain ⟨j, Xs1, hj, rfl, hT1, HX1, hBel1, hD1⟩ := hrel
        clear hT0 hBel0 hD0 HX
        by_cases hj4 : j < 4
        · obtain ⟨q1, g1⟩ := hD1.rules
          have HND : Hid (repD site t1 t2 t3 vs d (j + 1) = repD site t1 t2 t3 vs d j ++ repAt site t1 t2 t3 vs d j) := rfl
          have HLn : Hid (Xs1.length ≤ 1000) := by
            show _ ≤ _
            have h1 := congrArg List.length HX1.out
            have h2 := repD_len site t1 t2 t3 vs d j
            have h3 := HRL.out
            simp only [List.length_map, List.length_append] at h1
            omega
          have HD1 := hidOf hD1
          clear hD1
          have hOw := HH.out.2.1 d.k
          have hSi := HH.out.1 (j : Int)
          rcases ho : ownsB [t1, t2, t3] (slotOf d.k) with _ | _
          · have HA : Hid (repAt site t1 t2 t3 vs d j = []) := by show repAt _ _ _ _ _ _ _ = _; unfold repAt; rw [ho]; rfl
            rw [ho] at hOw
            clear ho hSi
            go_wp2_with fail
            refine (hOw _ hBel1).mono ?_
            rintro e w2 ⟨rfl, hb2⟩
            have hT2 := hT1.below hb2 (Nat.le_refl _)
            have hBel2 := hBel1.trans (hb2.mono hBel1.size)
            have hD2 := HD1.out.below hb2 HD1.out.lt
            clear hOw hb2 hT1 hBel1 HD1 q1 g1
            go_wp2_with fail
            go_roundw
            case rel => exact ⟨j + 1, Xs1, by omega, by go_num, hT2, by show List.map _ _ = _; rw [HX1.out, HND.out, HA.out]; simp, hBel2, hD2⟩
            case measure => simp [intOf]; omega
          · rw [ho] at hOw
            rcases hs : (sideOf (j : Int) == sideOf site) with _ | _
            · have HA : Hid (repAt site t1 t2 t3 vs d j = [repX site j (repV vs d)]) := by show repAt _ _ _ _ _ _ _ = _; unfold repAt; rw [ho, hs]; rfl
              rw [hs] at hSi
              clear ho hs
              go_wp2_with fail
              refine (hOw _ hBel1).mono ?_
              rintro e w2 ⟨rfl, hb2⟩
              have hT2 := hT1.below hb2 (Nat.le_refl _)
              have hBel2 := hBel1.trans (hb2.mono hBel1.size)
              have HD2 := hidOf (HD1.out.below hb2 HD1.out.lt)
              clear hOw hb2 hT1 hBel1 HD1 q1 g1
              go_wp2_with fail
              refine (hSi _ hBel2).mono ?_
              rintro e w3 ⟨rfl, hb3⟩
              have hT3 := hT2.below hb3 (Nat.le_refl _)
              have hBel3 := hBel2.trans (hb3.mono hBel2.size)
              have HD3 := hidOf (HD2.out.below hb3 HD2.out.lt)
              clear hSi hb3 hT2 hBel2 HD2
              obtain ⟨q1, g1⟩ := HD3.out.rules
              go_wp2_with fail
              clear q1 g1
              refine (HH.out.2.2 d _ hBel3 HOK.out.2 HOK.out.1).mono ?_
              rintro e w4 ⟨v, pa, pc, hv, rfl, hr, hb4⟩
              have ba4 : Below w4.heap.size w4 (w4.alloc (.cells #[.int .i64 v.k, .int .i64 v.t, .int .i64 v.s, .int .i64 v.val, .int .i64 v.cl, .int .i64 v.ca, .slice pa v.ds.length pc] 107)) := (Below.refl _ _).alloc (Nat.le_refl _) _
              have bb4 := hb4.trans (ba4.mono hb4.size)
              have HVb := hidOf (Blk.new w4 #[.int .i64 v.k, .int .i64 v.t, .int .i64 v.s, .int .i64 v.val, .int .i64 v.cl, .int .i64 v.ca, .slice pa v.ds.length pc] 107)
              have HT4 := hidOf (hT3.below bb4 (Nat.le_refl _))
              have HBl4 := hidOf (hBel3.trans (bb4.mono hBel3.size))
              have HD4 := hidOf (HD3.out.below bb4 HD3.out.lt)
              have HR4 := hidOf (row_below hr ba4 (Nat.le_refl _))
              have HZ : Hid (w.heap.size ≤ w3.heap.size ∧ w3.heap.size ≤ w4.heap.size) := ⟨hBel3.size, hb4.size⟩
              have HAp := hidOf hT3
              have HVV : Hid (v = repV vs d) := hv.out
              clear hr ba4 bb4 hb4 hBel3 HD3 hT3 hv
              go_wp2_with fail
              generalize hLB : w4.heap.size = LB at *
              generalize w4.alloc (.cells #[.int .i64 v.k, .int .i64 v.t, .int .i64 v.s, .int .i64 v.val, .int .i64 v.cl, .int .i64 v.ca, .slice pa v.ds.length pc] 107) = W0 at *
              have HLB := hidOf hLB
              clear hLB
              have bd : Below W0.heap.size W0 W0.drew := (Below.refl _ _).drew
              have b1 : Below W0.heap.size W0 (W0.alloc (.cells #[.int .i64 v.k, .int .i64 v.t, .int .i64 v.s, .int .i64 v.val, .int .i64 v.cl, .int .i64 v.ca, .slice pa v.ds.length pc] 107)).drew := ((Below.refl _ _).alloc (Nat.le_refl _) _).drew
              have b2 : Below W0.heap.size W0 ((W0.alloc (.cells #[.int .i64 v.k, .int .i64 v.t, .int .i64 v.s, .int .i64 v.val, .int .i64 v.cl, .int .i64 v.ca, .slice pa v.ds.length pc] 107)).alloc (.cells #[.int .i64 5, .int .i64 site, .int .i64 (j : Int), .int .i64 0, .int .i64 0, .int .i64 0, .int .i64 0, .int .i64 0, .bool false, .slice none 0 0, .int .i64 0, .int .i64 0, .slice (some ⟨W0.heap.size, 0, none⟩) 1 1, .slice none 0 0, .slice none 0 0] 41)).drew := (((Below.refl _ _).alloc (Nat.le_refl _) _).alloc (by simp) _).drew
              have hBH := HB.out.below HBl4.out HB.out.lt
              have hVB := HVb.out
              have hDB := HD4.out
              have k0 : (∀ i, W0.drew.cell? ⟨B, i, none⟩ = (hostC site up (.slice va vs.length vc) wv (.slice (some ⟨b, p, none⟩) os.length oc) kv t1 t2 t3)[i]?) ∧ (∀ i, W0.drew.cell? ⟨LB, i, none⟩ = #[.int .i64 v.k, .int .i64 v.t, .int .i64 v.s, .int .i64 v.val, .int .i64 v.cl, .int .i64 v.ca, .slice pa v.ds.length pc][i]?) := ⟨(hBH.below bd hBH.lt).cell, (hVB.below bd hVB.lt).cell⟩
              have k1 : (∀ i, (W0.alloc (.cells #[.int .i64 v.k, .int .i64 v.t, .int .i64 v.s, .int .i64 v.val, .int .i64 v.cl, .int .i64 v.ca, .slice pa v.ds.length pc] 107)).drew.cell? ⟨B, i, none⟩ = (hostC site up (.slice va vs.length vc) wv (.slice (some ⟨b, p, none⟩) os.length oc) kv t1 t2 t3)[i]?) ∧ (∀ i, (W0.alloc (.cells #[.int .i64 v.k, .int .i64 v.t, .int .i64 v.s, .int .i64 v.val, .int .i64 v.cl, .int .i64 v.ca, .slice pa v.ds.length pc] 107)).drew.cell? ⟨LB, i, none⟩ = #[.int .i64 v.k, .int .i64 v.t, .int .i64 v.s, .int .i64 v.val, .int .i64 v.cl, .int .i64 v.ca, .slice pa v.ds.length pc][i]?) := ⟨(hBH.below b1 hBH.lt).cell, (hVB.below b1 hVB.lt).cell⟩
              have k2 : (∀ i, ((W0.alloc (.cells #[.int .i64 v.k, .int .i64 v.t, .int .i64 v.s, .int .i64 v.val, .int .i64 v.cl, .int .i64 v.ca, .slice pa v.ds.length pc] 107)).alloc (.cells #[.int .i64 5, .int .i64 site, .int .i64 (j : Int), .int .i64 0, .int .i64 0, .int .i64 0, .int .i64 0, .int .i64 0, .bool false, .slice none 0 0, .int .i64 0, .int .i64 0, .slice (some ⟨W0.heap.size, 0, none⟩) 1 1, .slice none 0 0, .slice none 0 0] 41)).drew.cell? ⟨B, i, none⟩ = (hostC site up (.slice va vs.length vc) wv (.slice (some ⟨b, p, none⟩) os.length oc) kv t1 t2 t3)[i]?) ∧ (∀ i, ((W0.alloc (.cells #[.int .i64 v.k, .int .i64 v.t, .int .i64 v.s, .int .i64 v.val, .int .i64 v.cl, .int .i64 v.ca, .slice pa v.ds.length pc] 107)).alloc (.cells #[.int .i64 5, .int .i64 site, .int .i64 (j : Int), .int .i64 0, .int .i64 0, .int .i64 0, .int .i64 0, .int .i64 0, .bool false, .slice none 0 0, .int .i64 0, .int .i64 0, .slice (some ⟨W0.heap.size, 0, none⟩) 1 1, .slice none 0 0, .slice none 0 0] 41)).drew.cell? ⟨LB, i, none⟩ = #[.int .i64 v.k, .int .i64 v.t, .int .i64 v.s, .int .i64 v.val, .int .i64 v.cl, .int .i64 v.ca, .slice pa v.ds.length pc][i]?) := ⟨(hBH.below b2 hBH.lt).cell, (hVB.below b2 hVB.lt).cell⟩
              have hT5 : OwnWs ((W0.alloc (.cells #[.int .i64 v.k, .int .i64 v.t, .int .i64 v.s, .int .i64 v.val, .int .i64 v.cl, .int .i64 v.ca, .slice pa v.ds.length pc] 107)).alloc (.cells #[.int .i64 5, .int .i64 site, .int .i64 (j : Int), .int .i64 0, .int .i64 0, .int .i64 0, .int .i64 0, .int .i64 0, .bool false, .slice none 0 0, .int .i64 0, .int .i64 0, .slice (some ⟨W0.heap.size, 0, none⟩) 1 1, .slice none 0 0, .slice none 0 0] 41)).drew w.heap.size _ Xs1 := HT4.out.below b2 (Nat.le_refl _)
              have hBW : Blk ((W0.alloc (.cells #[.int .i64 v.k, .int .i64 v.t, .int .i64 v.s, .int .i64 v.val, .int .i64 v.cl, .int .i64 v.ca, .slice pa v.ds.length pc] 107)).alloc (.cells #[.int .i64 5, .int .i64 site, .int .i64 (j : Int), .int .i64 0, .int .i64 0, .int .i64 0, .int .i64 0, .int .i64 0, .bool false, .slice none 0 0, .int .i64 0, .int .i64 0, .slice (some ⟨W0.heap.size, 0, none⟩) 1 1, .slice none 0 0, .slice none 0 0] 41)).drew (W0.heap.size + 1) #[.int .i64 5, .int .i64 site, .int .i64 (j : Int), .int .i64 0, .int .i64 0, .int .i64 0, .int .i64 0, .int .i64 0, .bool false, .slice none 0 0, .int .i64 0, .int .i64 0, .slice (some ⟨W0.heap.size, 0, none⟩) 1 1, .slice none 0 0, .slice none 0 0] 41 := by have h1 := Blk.new (W0.alloc (.cells #[.int .i64 v.k, .int .i64 v.t, .int .i64 v.s, .int .i64 v.val, .int .i64 v.cl, .int .i64 v.ca, .slice pa v.ds.length pc] 107)) #[.int .i64 5, .int .i64 site, .int .i64 (j : Int), .int .i64 0, .int .i64 0, .int .i64 0, .int .i64 0, .int .i64 0, .bool false, .slice none 0 0, .int .i64 0, .int .i64 0, .slice (some ⟨W0.heap.size, 0, none⟩) 1 1, .slice none 0 0, .slice none 0 0] 41; have h2 : (W0.alloc (.cells #[.int .i64 v.k, .int .i64 v.t, .int .i64 v.s, .int .i64 v.val, .int .i64 v.cl, .int .i64 v.ca, .slice pa v.ds.length pc] 107)).heap.size = W0.heap.size + 1 := (by simp); rw [h2] at h1; exact h1
              have hOV : OwnV ((W0.alloc (.cells #[.int .i64 v.k, .int .i64 v.t, .int .i64 v.s, .int .i64 v.val, .int .i64 v.cl, .int .i64 v.ca, .slice pa v.ds.length pc] 107)).alloc (.cells #[.int .i64 5, .int .i64 site, .int .i64 (j : Int), .int .i64 0, .int .i64 0, .int .i64 0, .int .i64 0, .int .i64 0, .bool false, .slice none 0 0, .int .i64 0, .int .i64 0, .slice (some ⟨W0.heap.size, 0, none⟩) 1 1, .slice none 0 0, .slice none 0 0] 41)).drew w3.heap.size (.slice (some ⟨W0.heap.size, 0, none⟩) 1 1) [⟨v, .slice pa v.ds.length pc⟩] := by
                have hle : w3.heap.size ≤ W0.heap.size := Nat.le_trans HZ.out.2 (Nat.le_of_lt hVB.lt)
                refine ⟨?_, fun y hy => ?_, List.pairwise_singleton _ _⟩
                · exact row_below (row_one W0 #[.int .i64 v.k, .int .i64 v.t, .int .i64 v.s, .int .i64 v.val, .int .i64 v.cl, .int .i64 v.ca, .slice pa v.ds.length pc] 107 w3.heap.size hle) ((Below.refl _ _).alloc (Nat.le_refl _) _).drew (Nat.le_refl _)
                · simp at hy; subst hy
                  exact ⟨row_below HR4.out b2 (Nat.le_refl _), by rw [HVV.out]; exact HDD.out⟩
              have hXW := own_rep (repX site j v) ⟨rfl, rfl, rfl, rfl⟩ hOV
              have hap := apart_word HAp.out hXW (Nat.le_refl _)
              have hXW2 := hXW.mono HZ.out.1
              have hsz : w.heap.size ≤ ((W0.alloc (.cells #[.int .i64 v.k, .int .i64 v.t, .int .i64 v.s, .int .i64 v.val, .int .i64 v.cl, .int .i64 v.ca, .slice pa v.ds.length pc] 107)).alloc (.cells #[.int .i64 5, .int .i64 site, .int .i64 (j : Int), .int .i64 0, .int .i64 0, .int .i64 0, .int .i64 0, .int .i64 0, .bool false, .slice none 0 0, .int .i64 0, .int .i64 0, .slice (some ⟨W0.heap.size, 0, none⟩) 1 1, .slice none 0 0, .slice none 0 0] 41)).drew.heap.size := Nat.le_trans HBl4.out.size b2.size
              have HBE := hidOf (HBl4.out.trans (b2.mono HBl4.out.size))
              have HDE := hidOf (hDB.below b2 hDB.lt)
              have HBH2 := hidOf (hBH.below b2 hBH.lt)
              have HVB2 := hidOf (hVB.below b2 hVB.lt)
              have Hk0 := hidOf k0
              have Hk1 := hidOf k1
              have Hk2 := hidOf k2
              have HT5 := hidOf hT5
              have HBW := hidOf hBW
              have HXW := hidOf hXW2
              have HAP := hidOf hap
              clear k0 k1 k2 hT5 hBW hOV hXW hXW2 hap hBH hVB hDB bd b1 b2
              go_region_held3 (fun W => (∀ i, W.cell? ⟨B, i, none⟩ = (hostC site up (.slice va vs.length vc) wv (.slice (some ⟨b, p, none⟩) os.length oc) kv t1 t2 t3)[i]?) ∧ (∀ i, W.cell? ⟨LB, i, none⟩ = #[.int .i64 v.k, .int .i64 v.t, .int .i64 v.s, .int .i64 v.val, .int .i64 v.cl, .int .i64 v.ca, .slice pa v.ds.length pc][i]?)) (first | with_reducible exact Hk3.out | with_reducible exact Hk2.out | with_reducible exact Hk1.out | with_reducible exact Hk0.out)
                (first
                  | (refine step_append_word _ (by rfl) _ _ (by rfl) w.heap.size _ Xs1 (by rfl) HT5.out ⟨repX site j v, ⟨none, 0, some ⟨W0.heap.size, 0, none⟩, 1, none, 0, none, 0⟩, [⟨v, .slice pa v.ds.length pc⟩], []⟩ (W0.heap.size + 1) (by rfl) HBW.out HXW.out HAP.out (by have := HLn.out; omega) hsz ?_
                     intro v6 w6 hT6 hg6
                     have hlo : ∀ i, Value.ownBlock _ = some i → w.heap.size ≤ i := fun i hi => (HT5.out.row.lt i hi).1
                     have HB6 := hidOf (HBE.out.grown hg6 hsz (fun i hi => hlo i hi))
                     have hbH := HBH2.out.grown hg6 (fun e => by have := hlo _ e.symm; have := HB.out.lt; omega)
                     have hbV := HVB2.out.grown hg6 (fun e => row_not_blk HT5.out.row HVB2.out (by decide) e.symm)
                     have HD6 := hidOf (HDE.out.grown hg6 (fun e => row_not_blk HT5.out.row HDE.out (by decide) e.symm))
                     have HT6 := hidOf hT6
                     have Hk3 := hidOf (And.intro hbH.cell hbV.cell)
                     clear hT6 hg6 hlo hbH hbV))
              clear Hk0 Hk1 Hk2 Hk3 HT5 HBW HXW HAP HBE HDE HBH2 HVB2 HBl4 HD4 HR4 HVb HT4
              go_wp2_with fail
              go_roundw
              case rel => exact ⟨j + 1, _, by omega, by go_num, HT6.out, by show List.map _ _ = _; rw [List.map_append, HX1.out, HND.out, HA.out, ← HVV.out, List.append_assoc]; rfl, HB6.out, HD6.out⟩
              case measure => simp [intOf]; omega
            · have HA : Hid (repAt site t1 t2 t3 vs d j = []) := by show repAt _ _ _ _ _ _ _ = _; unfold repAt; rw [ho, hs]; rfl
              rw [hs] at hSi
              clear ho hs
              go_wp2_with fail
              refine (hOw _ hBel1).mono ?_
              rintro e w2 ⟨rfl, hb2⟩
              have hT2 := hT1.below hb2 (Nat.le_refl _)
              have hBel2 := hBel1.trans (hb2.mono hBel1.size)
              have HD2 := hidOf (HD1.out.below hb2 HD1.out.lt)
              clear hOw hb2 hT1 hBel1 HD1 q1 g1
              go_wp2_with fail
              refine (hSi _ hBel2).mono ?_
              rintro e w3 ⟨rfl, hb3⟩
              have hT3 := hT2.below hb3 (Nat.le_refl _)
              have hBel3 := hBel2.trans (hb3.mono hBel2.size)
              have hD3 := HD2.out.below hb3 HD2.out.lt
              clear hSi hb3 hT2 hBel2 HD2
              go_wp2_with fail
              go_roundw
              case rel => exact ⟨j + 1, Xs1, by omega, by go_num, hT3, by show List.map _ _ = _; rw [HX1.out, HND.out, HA.out]; simp, hBel3, hD3⟩
              case measure => simp [intOf]; omega
        · have hj2 : j = 4 := by omega
          subst hj2
          clear hD1
          go_wp2_with fail
          go_roundw
          case rel => exact ⟨k + 1, Xs1, by omega, by go_num, hT1, by show List.map _ _ = _; rw [HX1.out, HN.out], hBel1⟩
          case measure => simp [intOf]; omega
    · have hk2 : k = os.length := by omega
      subst hk2
      go_wp2_with fail
      go_ret
      exact ⟨_, Xs, rfl, hT, by rw [HX.out, List.take_length], hBel⟩
end Go.Proofs.YtpjidogilofppaaGreat

/- The words that ask for what keeps something waiting. -/
namespace Go.Proofs.YtpjidogilofppaaGreat
open Go.ChangeShapes Go.WideShapes Go.ChangeAt Go.RowKit

theorem keys_len (xs : List D) : ∀ lo : Int, lo ≤ 6 → xs.Pairwise (fun a b => a.k < b.k) → (∀ d ∈ xs, lo ≤ d.k ∧ d.k ≤ 5) → (xs.length : Int) ≤ 6 - lo := by
  induction xs with
  | nil => intro lo hl _ _; simp; omega
  | cons x xs ih =>
    intro lo hl hp hk
    have hx := hk x (by simp)
    have := ih (x.k + 1) (by omega) (List.pairwise_cons.1 hp).2 (fun d hd => ⟨by have := (List.pairwise_cons.1 hp).1 d hd; omega, (hk d (by simp [hd])).2⟩)
    simp only [List.length_cons]
    omega
theorem depsOk_len {xs : List D} (h : depsOk xs = true) : xs.length ≤ 6 := by
  obtain ⟨h1, h2⟩ := ok_iff.1 h
  have := keys_len xs 0 (by omega) h1 (fun d hd => by have := okD_bounds (h2 d hd); omega)
  omega
theorem chain_deps {vs : List V} (h : chainB vs = true) : ∀ v ∈ vs, v.ds.length ≤ 6 := by
  intro v hv
  have h1 : okV v = true := (chainB_iff.1 h).2.1 v hv
  cases hd : depsOk v.ds
  · unfold okV at h1; rw [verB_deps hd] at h1; cases h1
  · exact depsOk_len hd

def hasM (out : List D) (d : D) : Bool := hasB (out.map asD) d.k d.t d.s
/-- What is asked for: each dep that is not seen, once. -/
def ckF (vs : List V) (kn : List D) (out : List D) (d : D) : List D := if (seesB vs kn d || hasM out d) = true then out else out ++ [d]
def ckL (vs : List V) (kn : List D) (ws : List V) : List D := (ws.flatMap V.ds).foldl (ckF vs kn) []
def checkX (site : Int) (d : D) : Wd := ⟨7, site, twinX site, 0, d.k, d.t, d.s, 0, false, [], 0, 0, [], [], []⟩
theorem ckF_len (vs : List V) (kn : List D) (out : List D) (d : D) : (ckF vs kn out d).length ≤ out.length + 1 := by unfold ckF; split <;> simp
theorem ck_len (vs : List V) (kn : List D) (ds : List D) : ∀ out, (ds.foldl (ckF vs kn) out).length ≤ out.length + ds.length := by
  induction ds with
  | nil => intro out; simp
  | cons d ds ih =>
    intro out
    have h1 := ih (ckF vs kn out d)
    have h2 := ckF_len vs kn out d
    simp only [List.foldl_cons, List.length_cons]; omega
theorem ck_step (vs : List V) (kn : List D) {ds : List D} {j : Nat} (h : j < ds.length) (out : List D) : (ds.take (j + 1)).foldl (ckF vs kn) out = ckF vs kn ((ds.take j).foldl (ckF vs kn) out) ds[j] := by
  rw [List.take_succ_eq_append_getElem h, List.foldl_append]; rfl
theorem ckL_take (vs : List V) (kn : List D) {ws : List V} {k : Nat} (h : k < ws.length) : ckL vs kn (ws.take (k + 1)) = ws[k].ds.foldl (ckF vs kn) (ckL vs kn (ws.take k)) := by
  unfold ckL
  rw [List.take_succ_eq_append_getElem h, List.flatMap_append, List.foldl_append]
  simp
theorem flat_len {ws : List V} (h : ∀ v ∈ ws, v.ds.length ≤ 6) : (ws.flatMap V.ds).length ≤ 6 * ws.length := by
  induction ws with
  | nil => simp
  | cons v ws ih =>
    have h1 := h v (by simp)
    have h2 := ih (fun v hv => h v (by simp [hv]))
    simp only [List.flatMap_cons, List.length_append, List.length_cons]; omega
theorem ckL_len (vs : List V) (kn : List D) {ws : List V} (h : ∀ v ∈ ws, v.ds.length ≤ 6) : (ckL vs kn ws).length ≤ 6 * ws.length := by
  have h1 := ck_len vs kn (ws.flatMap V.ds) []
  have h2 := flat_len h
  unfold ckL
  simp only [List.length_nil] at h1
  omega
theorem hasM_mem {out : List D} {d : D} : hasM out d = true ↔ d ∈ out := hasB_mem out d
theorem hasM_same {out aks : List D} (h : ∀ x, x ∈ aks ↔ x ∈ out) (d : D) : hasB (aks.map asD) d.k d.t d.s = hasM out d := by
  rw [Bool.eq_iff_iff, hasB_mem, hasM_mem]; exact h d
theorem own_plain {W : World} {base : Nat} (x : Wd) (hx : x.ds = [] ∧ x.vs = [] ∧ x.ws = [] ∧ x.os = []) : OwnX W base ⟨x, ⟨none, 0, none, 0, none, 0, none, 0⟩, [], []⟩ ∧ ∀ b, ¬ inX ⟨x, ⟨none, 0, none, 0, none, 0, none, 0⟩, [], []⟩ b := by
  obtain ⟨h1, h2, h3, h4⟩ := hx
  refine ⟨?_, ?_⟩
  · refine ⟨?_, ?_, ?_, ?_, ?_, ?_, ?_, ?_, ?_, ?_, ?_, ?_⟩ <;> simp only [h1, h2, h3, h4, List.length_nil]
    · exact World.ownsRow_nil _ _ _ _
    · exact OwnV.nil _ _
    · exact OwnV.nil _ _
    · exact World.ownsRow_nil _ _ _ _
    · rfl
    · rfl
    · intro b hb; simp [Value.ownBlock] at hb
    · intro b hb; simp [Value.ownBlock] at hb
    · intro b hb; simp [Value.ownBlock] at hb
    · intro b hb; simp [inV, Value.ownBlock] at hb
    · intro b hb; simp [inV, Value.ownBlock] at hb
    · intro b hb; simp [inV, Value.ownBlock] at hb
  · intro b hb
    unfold inX inWd at hb
    simp only [h1, h2, h3, h4, List.length_nil] at hb
    rcases hb with hb | hb | hb | hb
    · simp [Value.ownBlock] at hb
    · simp [inV, Value.ownBlock] at hb
    · simp [inV, Value.ownBlock] at hb
    · simp [Value.ownBlock] at hb
/-- What a list's words and what was asked for say of each other. -/
structure CkS (site : Int) (out aks : List D) (Xs : List XW) : Prop where
  w : Xs.map XW.x = out.map (checkX site)
  m : ∀ x, x ∈ aks ↔ x ∈ out
  a : Asc (aks.map asD)
  l : aks.length = out.length
  n : ∀ X ∈ Xs, ∀ b, ¬ inX X b
theorem CkS.nil (site : Int) : CkS site [] [] [] := ⟨rfl, fun _ => Iff.rfl, List.Pairwise.nil, rfl, fun _ h => by cases h⟩
theorem CkS.snoc {site : Int} {out aks : List D} {Xs : List XW} (h : CkS site out aks Xs) {d : D} (hd : d ∉ aks) {X : XW} (hX : X.x = checkX site d) (hn : ∀ b, ¬ inX X b) : CkS site (out ++ [d]) (insD aks d) (Xs ++ [X]) := by
  refine ⟨by rw [List.map_append, List.map_append, h.w]; simp [hX], fun x => ?_, insD_asc h.a hd, by rw [insD_len, List.length_append, h.l]; rfl, fun Y hY => ?_⟩
  · rw [insD_mem, h.m]; simp only [List.mem_append, List.mem_singleton]
    constructor
    · rintro (e | e); exact .inr e; exact .inl e
    · rintro (e | e); exact .inr e; exact .inl e
  · rcases List.mem_append.1 hY with hY | hY
    · exact h.n Y hY
    · simp at hY; subst hY; exact hn

set_option maxHeartbeats 8000000 in
set_option maxRecDepth 20000 in
theorem checks_any (B : Nat) (site : Int) (up : Bool) (va wa ka : Option Addr) (vc wk kc : Nat) (ov : Value) (vs ws : List V) (kn : List D) (t1 t2 t3 : Sl) (w : World) (hB : Blk w B (hostC site up (.slice va vs.length vc) (.slice wa ws.length wk) ov (.slice ka kn.length kc) t1 t2 t3) 88) (hc : chainB vs = true) (hv : Vers w va vs) (hl : kn.length ≤ 1000) (ha : Asc (kn.map asD)) (hk : Deps w ka kn) (hw : Vers w wa ws) (hwl : ws.length ≤ 80) (hw6 : ∀ v ∈ ws, v.ds.length ≤ 6) (s0 : 0 ≤ site) (s3 : site ≤ 3) :
    Calls Tryz.prog 86 #[.pointer (some ⟨B, 0, none⟩)] w fun e w' => ∃ u Xs, e = .returned u ∧ OwnWs w' w.heap.size u Xs ∧ Xs.map XW.x = (ckL vs kn ws).map (checkX site) ∧ Below w.heap.size w w' := by
  have hS := fun d W (hW : Below w.heap.size w W) => sees_any B site up va ka vc kc (.slice wa ws.length wk) ov vs kn t1 t2 t3 d W (hB.below hW hB.lt) hc (hv.below hW) hl ha (hk.below hW)
  have HS := hidOf hS
  have HT := hidOf (fun W => twin_any site s0 s3 W)
  have HB := hidOf hB
  have HW := hidOf hw
  have H6 := hidOf hw6
  have HWL := hidOf hwl
  have hlw : (ws.length : Int) ≤ 80 := by omega
  obtain ⟨q1, g1⟩ := hB.rules
  clear hS hB hc hv hl ha hk hw hw6 s0 s3 hwl
  go_enter Tryz.func86, Tryz.ntmps86
  go_wp2_with fail
  clear q1 g1
  go_loopw [3, 4, 15] (fun u ask i wr => ∃ (k : Nat) (Xs : List XW) (aks : List D), k ≤ ws.length ∧ i = .int .i64 k ∧ OwnWs wr w.heap.size u Xs ∧ RowD wr w.heap.size ask aks ∧ Hid (CkS site (ckL vs kn (ws.take k)) aks Xs) ∧ Below w.heap.size w wr) (fun _ _ i _ => ws.length - (intOf i).toNat)
  case atStart => exact ⟨0, [], [], by omega, rfl, OwnWs.nil _ _, World.ownsRow_nil _ _ _ _, CkS.nil _, Below.refl _ _⟩
  case round =>
    obtain ⟨k, Xs, aks, hk, rfl, hT, hA, HX, hBel⟩ := hrel
    by_cases hlt : k < ws.length
    · have HN := hidOf (ckL_take vs kn hlt)
      have H6k := hidOf (H6.out ws[k] (List.getElem_mem hlt))
      have HCL : Hid ((ckL vs kn (ws.take k)).length ≤ 480) := by
        show _ ≤ _
        have := ckL_len vs kn (ws := ws.take k) (fun v hv => H6.out v (List.mem_of_mem_take hv))
        have h2 := HWL.out
        rw [List.length_take] at this
        omega
      obtain ⟨b, p, da, dc, rfl, hbb, hv0⟩ := HW.out.at hlt
      generalize ws[k] = v at *
      generalize ckL vs kn (ws.take k) = pre at *
      obtain ⟨c0, c1, c2, c3, c4, c5, c6, _, _⟩ := hv0.below hBel
      have HDs := hidOf hv0.ds
      clear hv0 hbb
      go_wp2_with fail
      clear c0 c1 c2 c3 c4 c5 c6
      have hV0 := Blk.new wr #[.int .i64 v.k, .int .i64 v.t, .int .i64 v.s, .int .i64 v.val, .int .i64 v.cl, .int .i64 v.ca, .slice da v.ds.length dc] 107
      have ba : Below wr.heap.size wr (wr.alloc (.cells #[.int .i64 v.k, .int .i64 v.t, .int .i64 v.s, .int .i64 v.val, .int .i64 v.cl, .int .i64 v.ca, .slice da v.ds.length dc] 107)) := (Below.refl _ _).alloc (Nat.le_refl _) _
      have hT0 := hT.below ba (Nat.le_refl _)
      have hA0 := row_below hA ba (Nat.le_refl _)
      have hBel0 := hBel.trans (ba.mono hBel.size)
      generalize hVB : wr.heap.size = VB at *
      generalize wr.alloc (.cells #[.int .i64 v.k, .int .i64 v.t, .int .i64 v.s, .int .i64 v.val, .int .i64 v.cl, .int .i64 v.ca, .slice da v.ds.length dc] 107) = W0 at *
      clear hT hA hBel ba hVB
      go_loopw [3, 4, 22] (fun u ask i wr => ∃ (j : Nat) (Xs : List XW) (out aks : List D), j ≤ v.ds.length ∧ i = .int .i64 j ∧ OwnWs wr w.heap.size u Xs ∧ RowD wr w.heap.size ask aks ∧ Hid (CkS site out aks Xs ∧ out = (v.ds.take j).foldl (ckF vs kn) pre) ∧ Below w.heap.size w wr ∧ Blk wr VB #[.int .i64 v.k, .int .i64 v.t, .int .i64 v.s, .int .i64 v.val, .int .i64 v.cl, .int .i64 v.ca, .slice da v.ds.length dc] 107) (fun _ _ i _ => v.ds.length - (intOf i).toNat)
      case atStart => exact ⟨0, Xs, pre, aks, by omega, rfl, hT0, hA0, ⟨HX.out, rfl⟩, hBel0, hV0⟩
      case round =>
        obtain ⟨j, Xs1, out, as1, hj, rfl, hT1, hA1, HX1, hBel1, hV1⟩ := hrel
        clear hT0 hA0 hBel0 hV0 HX
        by_cases hjl : j < v.ds.length
        · have HST := hidOf (ck_step vs kn hjl pre)
          have HOL : Hid (out.length ≤ 490) := by
            show _ ≤ _
            have h1 := ck_len vs kn (v.ds.take j) pre
            rw [← HX1.out.2, List.length_take] at h1
            have h2 := HCL.out
            have h3 := H6k.out
            omega
          obtain ⟨b2, p2, rfl, hbb2, c0, c1, c2⟩ := (HDs.out.below hBel1).at hjl
          generalize v.ds[j] = d at *
          have hD1 := Blk.new wr #[.int .i64 d.k, .int .i64 d.t, .int .i64 d.s] 116
          have ba1 : Below wr.heap.size wr (wr.alloc (.cells #[.int .i64 d.k, .int .i64 d.t, .int .i64 d.s] 116)) := (Below.refl _ _).alloc (Nat.le_refl _) _
          have hT2 := hT1.below ba1 (Nat.le_refl _)
          have hA2 := row_below hA1 ba1 (Nat.le_refl _)
          have hV2 := hV1.below ba1 hV1.lt
          have hBel2 := hBel1.trans (ba1.mono hBel1.size)
          have HAS := hidOf (hA1.lt)
          have HD1 := hidOf hD1
          have HP := hidOf (And.intro hT2 (And.intro hA2 (And.intro hV2 hBel2)))
          have hSe := HS.out d
          clear hT1 hA1 hV1 hBel1 hD1 ba1 hT2 hA2 hV2 hBel2 hbb2
          rcases hse : seesB vs kn d with _ | _
          · rw [hse] at hSe
            go_wp2_with fail
            clear c0 c1 c2
            obtain ⟨q1, g1⟩ := HD1.out.rules
            generalize hDB : wr.heap.size = DB at *
            generalize wr.alloc (.cells #[.int .i64 d.k, .int .i64 d.t, .int .i64 d.s] 116) = W2 at *
            clear hDB
            go_wp2_with fail
            refine (hSe _ HP.out.2.2.2).mono ?_
            rintro e w3 ⟨rfl, hb3⟩
            have HP3 := hidOf (And.intro (HP.out.1.below hb3 (Nat.le_refl _)) (And.intro (row_below HP.out.2.1 hb3 (Nat.le_refl _)) (And.intro (HP.out.2.2.1.below hb3 HP.out.2.2.1.lt) (HP.out.2.2.2.trans (hb3.mono HP.out.2.2.2.size)))))
            have HD3 := hidOf (HD1.out.below hb3 HD1.out.lt)
            clear hSe hb3 q1 g1 HP HD1
            obtain ⟨q1, g1⟩ := HD3.out.rules
            obtain ⟨aa, ac, rfl, _⟩ := row_slice HP3.out.2.1
            have hl1 : as1.length ≤ 1000 := by have h1 := HX1.out.1.l; have h2 := HOL.out; omega
            have hHas := fun W h => hasDebt_any aa ac as1 d.k d.t d.s W hl1 HX1.out.1.a h
            rw [hasM_same HX1.out.1.m d] at hHas
            rcases hm : hasM out d with _ | _
            · rw [hm] at hHas
              have HNew : Hid (ckF vs kn out d = out ++ [d]) := by show ckF _ _ _ _ = _; unfold ckF; rw [hse, hm]; rfl
              have HNm : Hid (d ∉ as1) := by
                show ¬ _
                intro h
                have := hasM_mem.2 ((HX1.out.1.m d).1 h)
                rw [hm] at this; cases this
              clear hse hm hl1
              go_wp2_with fail
              refine (hHas _ (row_deps' HP3.out.2.1)).mono ?_
              rintro e w4 ⟨rfl, hb4⟩
              have HP4 := hidOf (And.intro (HP3.out.1.below hb4 (Nat.le_refl _)) (And.intro (row_below HP3.out.2.1 hb4 (Nat.le_refl _)) (And.intro (HP3.out.2.2.1.below hb4 HP3.out.2.2.1.lt) (HP3.out.2.2.2.trans (hb4.mono HP3.out.2.2.2.size)))))
              have HD4 := hidOf (HD3.out.below hb4 HD3.out.lt)
              clear hHas hb4 HP3 HD3 q1 g1
              obtain ⟨q1, g1⟩ := HD4.out.rules
              go_wp2_with fail
              clear q1 g1
              refine (withOneD_any _ w.heap.size as1 d _ HP4.out.2.1 (by have h1 := HX1.out.1.l; have h2 := HOL.out; omega) HX1.out.1.a HNm.out HP4.out.2.2.2.size).mono ?_
              rintro e w5 ⟨a5, cap5, rfl, hA5, o5⟩
              have hsw : w.heap.size ≤ w4.heap.size := HP4.out.2.2.2.size
              have HT5 := hidOf (o5.ownWs HP4.out.1 (fun i hi hs => by
                rcases hs with hs | hs
                · have := (HP4.out.1.lt hi).2; omega
                · rcases hi with hi | ⟨X, hX, hi⟩
                  · exact row_type HP4.out.1.row HP4.out.2.1 (by decide) i hi hs
                  · exact HX1.out.1.n X hX i hi))
              have HV5 := hidOf (o5.blk HP4.out.2.2.1 (fun hs => by
                rcases hs with hs | hs
                · have := HP4.out.2.2.1.lt; omega
                · exact row_not_blk HP4.out.2.1 HP4.out.2.2.1 (by decide) hs))
              have HD5 := hidOf (o5.blk HD4.out (fun hs => by
                rcases hs with hs | hs
                · have := HD4.out.lt; omega
                · have := (HAS.out _ hs).2; omega))
              have HBl5 := hidOf (HP4.out.2.2.2.trans (o5.below hsw (fun i hi => by
                rcases hi with hi | hi
                · omega
                · exact (HP4.out.2.1.lt i hi).1)))
              have HA5 := hidOf hA5
              clear hA5 o5 hsw HP4 HD4 HAS
              go_wp2_with fail
              have bd : Below w5.heap.size w5 w5.drew := (Below.refl _ _).drew
              have b1 : Below w5.heap.size w5 (w5.alloc (.cells #[.int .i64 7, .int .i64 site, .int .i64 (twinX site), .int .i64 0, .int .i64 d.k, .int .i64 d.t, .int .i64 d.s, .int .i64 0, .bool false, .slice none 0 0, .int .i64 0, .int .i64 0, .slice none 0 0, .slice none 0 0, .slice none 0 0] 41)).drew := ((Below.refl _ _).alloc (Nat.le_refl _) _).drew
              have hBH := HB.out.below HBl5.out HB.out.lt
              have hDB := HD5.out
              have hVB := HV5.out
              have Hk0 := hidOf (show (∀ i, w5.drew.cell? ⟨B, i, none⟩ = (hostC site up (.slice va vs.length vc) (.slice (some ⟨b, p, none⟩) ws.length wk) ov (.slice ka kn.length kc) t1 t2 t3)[i]?) ∧ (∀ i, w5.drew.cell? ⟨DB, i, none⟩ = #[.int .i64 d.k, .int .i64 d.t, .int .i64 d.s][i]?) from ⟨(hBH.below bd hBH.lt).cell, (hDB.below bd hDB.lt).cell⟩)
              have Hk1 := hidOf (show (∀ i, (w5.alloc (.cells #[.int .i64 7, .int .i64 site, .int .i64 (twinX site), .int .i64 0, .int .i64 d.k, .int .i64 d.t, .int .i64 d.s, .int .i64 0, .bool false, .slice none 0 0, .int .i64 0, .int .i64 0, .slice none 0 0, .slice none 0 0, .slice none 0 0] 41)).drew.cell? ⟨B, i, none⟩ = (hostC site up (.slice va vs.length vc) (.slice (some ⟨b, p, none⟩) ws.length wk) ov (.slice ka kn.length kc) t1 t2 t3)[i]?) ∧ (∀ i, (w5.alloc (.cells #[.int .i64 7, .int .i64 site, .int .i64 (twinX site), .int .i64 0, .int .i64 d.k, .int .i64 d.t, .int .i64 d.s, .int .i64 0, .bool false, .slice none 0 0, .int .i64 0, .int .i64 0, .slice none 0 0, .slice none 0 0, .slice none 0 0] 41)).drew.cell? ⟨DB, i, none⟩ = #[.int .i64 d.k, .int .i64 d.t, .int .i64 d.s][i]?) from ⟨(hBH.below b1 hBH.lt).cell, (hDB.below b1 hDB.lt).cell⟩)
              have HT6 := hidOf (HT5.out.below b1 (Nat.le_refl _))
              have HA6 := hidOf (show RowD _ _ _ _ from row_below HA5.out b1 (Nat.le_refl _))
              have HBW : Hid (Blk (w5.alloc (.cells #[.int .i64 7, .int .i64 site, .int .i64 (twinX site), .int .i64 0, .int .i64 d.k, .int .i64 d.t, .int .i64 d.s, .int .i64 0, .bool false, .slice none 0 0, .int .i64 0, .int .i64 0, .slice none 0 0, .slice none 0 0, .slice none 0 0] 41)).drew w5.heap.size #[.int .i64 7, .int .i64 site, .int .i64 (twinX site), .int .i64 0, .int .i64 d.k, .int .i64 d.t, .int .i64 d.s, .int .i64 0, .bool false, .slice none 0 0, .int .i64 0, .int .i64 0, .slice none 0 0, .slice none 0 0, .slice none 0 0] 41) := Blk.new w5 #[.int .i64 7, .int .i64 site, .int .i64 (twinX site), .int .i64 0, .int .i64 d.k, .int .i64 d.t, .int .i64 d.s, .int .i64 0, .bool false, .slice none 0 0, .int .i64 0, .int .i64 0, .slice none 0 0, .slice none 0 0, .slice none 0 0] 41
              have hpl := own_plain (W := (w5.alloc (.cells #[.int .i64 7, .int .i64 site, .int .i64 (twinX site), .int .i64 0, .int .i64 d.k, .int .i64 d.t, .int .i64 d.s, .int .i64 0, .bool false, .slice none 0 0, .int .i64 0, .int .i64 0, .slice none 0 0, .slice none 0 0, .slice none 0 0] 41)).drew) (base := w.heap.size) (checkX site d) ⟨rfl, rfl, rfl, rfl⟩
              have HXW := hidOf hpl.1
              have HXN := hidOf hpl.2
              have hsz : w.heap.size ≤ (w5.alloc (.cells #[.int .i64 7, .int .i64 site, .int .i64 (twinX site), .int .i64 0, .int .i64 d.k, .int .i64 d.t, .int .i64 d.s, .int .i64 0, .bool false, .slice none 0 0, .int .i64 0, .int .i64 0, .slice none 0 0, .slice none 0 0, .slice none 0 0] 41)).drew.heap.size := Nat.le_trans HBl5.out.size b1.size
              have HBE := hidOf (HBl5.out.trans (b1.mono HBl5.out.size))
              have HBH2 := hidOf (hBH.below b1 hBH.lt)
              have HDE := hidOf (hDB.below b1 hDB.lt)
              have HVE := hidOf (hVB.below b1 hVB.lt)
              clear bd b1 hBH hDB hVB hpl
              go_region_held3 (fun W => (∀ i, W.cell? ⟨B, i, none⟩ = (hostC site up (.slice va vs.length vc) (.slice (some ⟨b, p, none⟩) ws.length wk) ov (.slice ka kn.length kc) t1 t2 t3)[i]?) ∧ (∀ i, W.cell? ⟨DB, i, none⟩ = #[.int .i64 d.k, .int .i64 d.t, .int .i64 d.s][i]?)) (first | with_reducible exact Hk3.out | with_reducible exact Hk1.out | with_reducible exact Hk0.out)
                (first
                  | (go_at_call 139; refine (HT.out _).mono ?_; rintro e w9 ⟨rfl, rfl⟩)
                  | (refine step_append_word _ (by rfl) _ _ (by rfl) w.heap.size _ Xs1 (by rfl) HT6.out ⟨checkX site d, ⟨none, 0, none, 0, none, 0, none, 0⟩, [], []⟩ w5.heap.size (by rfl) HBW.out HXW.out (fun Y _ i _ hi => HXN.out i hi) (by have h1 := congrArg List.length HX1.out.1.w; have h2 := HOL.out; simp only [List.length_map] at h1; omega) hsz ?_
                     intro v6 w6 hT7 hg6
                     have hlo : ∀ i, Value.ownBlock _ = some i → w.heap.size ≤ i := fun i hi => (HT6.out.row.lt i hi).1
                     have HB7 := hidOf (HBE.out.grown hg6 hsz (fun i hi => hlo i hi))
                     have hbH := HBH2.out.grown hg6 (fun e => by have := hlo _ e.symm; have := HB.out.lt; omega)
                     have hbD := HDE.out.grown hg6 (fun e => row_not_blk HT6.out.row HDE.out (by decide) e.symm)
                     have HV7 := hidOf (HVE.out.grown hg6 (fun e => row_not_blk HT6.out.row HVE.out (by decide) e.symm))
                     have HA7 := hidOf ((only_grown hg6).row HA6.out (fun i hi hs => row_type HT6.out.row HA6.out (by decide) i hs hi))
                     have HT7 := hidOf hT7
                     have Hk3 := hidOf (And.intro hbH.cell hbD.cell)
                     clear hT7 hg6 hlo hbH hbD))
              clear Hk0 Hk1 Hk3 HT5 HT6 HA5 HA6 HBW HXW HBE HBH2 HDE HVE HBl5 HD5 HV5
              go_wp2_with fail
              go_roundw
              case rel => exact ⟨j + 1, _, out ++ [d], insD as1 d, by omega, by go_num, HT7.out, HA7.out, ⟨HX1.out.1.snoc HNm.out rfl HXN.out, by rw [HST.out, ← HX1.out.2, HNew.out]⟩, HB7.out, HV7.out⟩
              case measure => simp [intOf]; omega
            · rw [hm] at hHas
              have HNew : Hid (ckF vs kn out d = out) := by show ckF _ _ _ _ = _; unfold ckF; rw [hse, hm]; rfl
              clear hse hm hl1
              go_wp2_with fail
              refine (hHas _ (row_deps' HP3.out.2.1)).mono ?_
              rintro e w4 ⟨rfl, hb4⟩
              have HP4 := hidOf (And.intro (HP3.out.1.below hb4 (Nat.le_refl _)) (And.intro (row_below HP3.out.2.1 hb4 (Nat.le_refl _)) (And.intro (HP3.out.2.2.1.below hb4 HP3.out.2.2.1.lt) (HP3.out.2.2.2.trans (hb4.mono HP3.out.2.2.2.size)))))
              clear hHas hb4 HP3 HD3 q1 g1
              go_wp2_with fail
              go_roundw
              case rel => exact ⟨j + 1, Xs1, out, as1, by omega, by go_num, HP4.out.1, HP4.out.2.1, ⟨HX1.out.1, by rw [HST.out, ← HX1.out.2, HNew.out]⟩, HP4.out.2.2.2, HP4.out.2.2.1⟩
              case measure => simp [intOf]; omega
          · rw [hse] at hSe
            have HNew : Hid (ckF vs kn out d = out) := by show ckF _ _ _ _ = _; unfold ckF; rw [hse]; rfl
            clear hse
            go_wp2_with fail
            clear c0 c1 c2
            obtain ⟨q1, g1⟩ := HD1.out.rules
            generalize hDB : wr.heap.size = DB at *
            generalize wr.alloc (.cells #[.int .i64 d.k, .int .i64 d.t, .int .i64 d.s] 116) = W2 at *
            clear hDB
            go_wp2_with fail
            refine (hSe _ HP.out.2.2.2).mono ?_
            rintro e w3 ⟨rfl, hb3⟩
            have HP3 := hidOf (And.intro (HP.out.1.below hb3 (Nat.le_refl _)) (And.intro (row_below HP.out.2.1 hb3 (Nat.le_refl _)) (And.intro (HP.out.2.2.1.below hb3 HP.out.2.2.1.lt) (HP.out.2.2.2.trans (hb3.mono HP.out.2.2.2.size)))))
            clear hSe hb3 q1 g1 HP HD1
            go_wp2_with fail
            go_roundw
            case rel => exact ⟨j + 1, Xs1, out, as1, by omega, by go_num, HP3.out.1, HP3.out.2.1, ⟨HX1.out.1, by rw [HST.out, ← HX1.out.2, HNew.out]⟩, HP3.out.2.2.2, HP3.out.2.2.1⟩
            case measure => simp [intOf]; omega
        · have hj2 : j = v.ds.length := by omega
          subst hj2
          have HP := hidOf (And.intro hT1 (And.intro hA1 hBel1))
          clear hV1 hT1 hA1 hBel1
          go_wp2_with fail
          go_roundw
          case rel => exact ⟨k + 1, Xs1, as1, by omega, by go_num, HP.out.1, HP.out.2.1, by rw [HN.out]; have h1 := HX1.out.1; have h2 := HX1.out.2; rw [List.take_length] at h2; rw [← h2]; exact h1, HP.out.2.2⟩
          case measure => simp [intOf]; omega
    · have hk2 : k = ws.length := by omega
      subst hk2
      have HP := hidOf (And.intro hT hBel)
      clear hT hA hBel
      go_wp2_with fail
      go_ret
      have h1 := HX.out.w
      rw [List.take_length] at h1
      exact ⟨_, Xs, rfl, HP.out.1, h1, HP.out.2⟩
end Go.Proofs.YtpjidogilofppaaGreat

/- Lists of words behind one another. -/
namespace Go.Proofs.YtpjidogilofppaaGreat
open Go.ChangeShapes Go.WideShapes Go.ChangeAt Go.RowKit

theorem OwnWs.append {w w' : World} {base base2 : Nat} {v v' : Value} {Xs Ys : List XW} {v2 : Value} (h : OwnWs w base v Xs) (k : OwnWs w base2 v2 Ys) (hbb : base ≤ base2) (hg : w.grownBy w' v.ownBlock) (hrow : w'.ownsRow base 41 15 v' (Xs.length + Ys.length) (flat15 Xs ++ flat15 Ys)) (ha : ∀ X ∈ Xs, ∀ Y ∈ Ys, ∀ b, inX X b → ¬ inX Y b) : OwnWs w' base v' (Xs ++ Ys) := by
  have o := only_grown hg
  refine ⟨by rw [flat15_append, List.length_append]; exact hrow, fun Y hY => ?_, List.pairwise_append.2 ⟨h.apart, k.apart, ha⟩⟩
  rcases List.mem_append.1 hY with hY | hY
  · exact o.ownW (h.each Y hY) (fun b hb hs => word_other h.row (h.each Y hY) b hs hb)
  · exact (o.ownW (k.each Y hY) (fun b hb hs => word_other h.row (k.each Y hY) b hs hb)).mono hbb
theorem wpList_append_words (w : World) {ops : Array Oper} {rest : List Oper} {o : Oper} {a : Act} {Q : Exit → Act → World → Prop} (hgd : o.guard = none) (s x : Operand)
    (ho : o.op = .call { callee := .builtin .append, args := #[s, x], argTypes := #[51, 51] })
    (base base2 : Nat) (v v2 : Value) (Xs Ys : List XW) (hs : a.eval s = v) (hx : a.eval x = v2) (hT : OwnWs w base v Xs) (hY : OwnWs w base2 v2 Ys) (hbb : base ≤ base2)
    (ha : ∀ X ∈ Xs, ∀ Y ∈ Ys, ∀ b, inX X b → ¬ inX Y b) (hn : Xs.length ≤ 100000) (hm : Ys.length ≤ 100000) (hb : base ≤ w.heap.size)
    (h : ∀ v' w', OwnWs w' base v' (Xs ++ Ys) → w.grownBy w' v.ownBlock → (v'.ownBlock = v.ownBlock ∨ v'.ownBlock = some w.heap.size) → wpList Tryz.prog ops Q rest (a.put o.dst v') w') : wpList Tryz.prog ops Q (o :: rest) a w := by
  obtain ⟨i0, hi, hz0, hz1, hz2⟩ := info_parts infoWord
  rcases hY.row.2 with ⟨rfl, hz⟩ | ⟨g, cap, cur, rfl, hbg, hg, hnc, hcm, hcs, ht⟩
  · have : Ys = [] := List.length_eq_zero_iff.1 hz
    subst this
    refine wpList_append_own_none hgd s x 51 ho base 41 i0 15 Tryz.underlying51 hi v Xs.length (flat15 Xs) hs hT.row hx ?_
    exact h v w (by rw [List.append_nil]; exact hT) (grown_refl w _) (.inl rfl)
  · refine wpList_append_own_at w hgd s x 51 ho base 41 i0 (.agg #[.int .i64 0, .int .i64 0, .int .i64 0, .int .i64 0, .int .i64 0, .int .i64 0, .int .i64 0, .int .i64 0, .bool false, .slice none 0 0, .int .i64 0, .int .i64 0, .slice none 0 0, .slice none 0 0, .slice none 0 0]) 15 184 Tryz.underlying51 hi hz0 hz1 hz2 rfl (by decide) v Xs.length (flat15 Xs) hs hT.row ⟨g, 0, none⟩ Ys.length cap (flat15 Ys) hx (flat15_len Ys) (hY.row.cells rfl) (flat15_one _) (by unfold maxLen; omega) (by omega) hb fun v' w' h2 h3 _ h5 => ?_
    exact h v' w' (hT.append hY hbb h3 h2 ha) h3 h5

set_option maxHeartbeats 2000000 in
set_option maxRecDepth 20000 in
theorem growW_any (n : Nat) (w : World) (hn : n ≤ 100000) :
    Calls Tryz.prog 158 #[.slice none 0 0, .int .i64 n] w fun e w' => ∃ u, e = .returned u ∧ OwnWs w' w.heap.size u [] ∧ Below w.heap.size w w' := by
  obtain ⟨i0, hi0, hz0, hzs, hzb⟩ := info_parts infoWord
  rcases Nat.eq_zero_or_pos n with rfl | hp
  · go_enter Tryz.func158, Tryz.ntmps158
    go_wp2_with fail
    go_ret
    exact ⟨_, rfl, OwnWs.nil _ _, Below.refl _ _⟩
  · have hold : (Builtin.firstCells i0.size 0 (.slice none 0 0)).run Tryz.prog w.drew = .ok ([] : List Value).toArray w.drew := by simp [Builtin.firstCells]
    have hg1 : grownCap w n 0 41 ≤ maxLen := grownCap_le_maxLen w _ _ _ (by unfold maxLen; omega)
    have hg0 : n ≤ grownCap w n 0 41 := grownCap_ge w _ _ _
    obtain ⟨G, hG⟩ : ∃ G, G = grownCap w n 0 41 := ⟨_, rfl⟩
    obtain ⟨ROW, hROW⟩ : ∃ ROW : Array Value, ROW = ([] : List Value).toArray ++ Builtin.zeroCells (Value.agg #[.int .i64 0, .int .i64 0, .int .i64 0, .int .i64 0, .int .i64 0, .int .i64 0, .int .i64 0, .int .i64 0, .bool false, .slice none 0 0, .int .i64 0, .int .i64 0, .slice none 0 0, .slice none 0 0, .slice none 0 0]).cells n ++ Builtin.zeroCells (Value.agg #[.int .i64 0, .int .i64 0, .int .i64 0, .int .i64 0, .int .i64 0, .int .i64 0, .int .i64 0, .int .i64 0, .bool false, .slice none 0 0, .int .i64 0, .int .i64 0, .slice none 0 0, .slice none 0 0, .slice none 0 0]).cells (G - n) := ⟨_, rfl⟩
    have hrz : ∀ ty, (Builtin.append_ #[51, 3] ty #[.slice none 0 0, .int .i64 (n : Int)]).run Tryz.prog w = .ok (.slice (some ⟨w.heap.size, 0, none⟩) n G) (w.drew.alloc (.cells ROW 41)) := fun ty => by
      have h := Lib.run_append_grow_zeros w 51 3 ty 41 i0 _ .i64 .i64 Tryz.underlying51 Tryz.underlying3 hi0 hz0 none 0 0 [] hold n hp (by omega) (by omega) (by omega) (by rw [hzb]; omega) (by rw [hzb]; exact growslice_fits (by omega) (by omega))
      rw [Nat.zero_add] at h
      rw [hROW, hG]
      exact h
    have hsz : ROW.size = G * 15 := by
      rw [hROW]
      simp only [Array.size_append, size_zeroCells, List.size_toArray, List.length_nil]
      have e15 : (Value.agg #[.int .i64 0, .int .i64 0, .int .i64 0, .int .i64 0, .int .i64 0, .int .i64 0, .int .i64 0, .int .i64 0, .bool false, .slice none 0 0, .int .i64 0, .int .i64 0, .slice none 0 0, .slice none 0 0, .slice none 0 0]).cells.size = 15 := rfl
      rw [e15, hG]; omega
    have HO : Hid (OwnWs (w.drew.alloc (.cells ROW 41)) w.heap.size (.slice (some ⟨w.heap.size, 0, none⟩) 0 G) []) := ⟨World.ownsRow_made w.drew ROW G (Nat.le_refl _) (by rw [hG]; exact hg1) hsz, fun _ h => (by cases h), .nil⟩
    have HB : Hid (Below w.heap.size w (w.drew.alloc (.cells ROW 41))) := ((Below.refl _ _).drew).alloc (Nat.le_refl _) _
    have hGn : n ≤ G := by rw [hG]; exact hg0
    clear hG hROW hsz hold hg0 hg1
    have hnn : ¬ (n : Int) < 0 := by omega
    have hnp : (0 : Int) < (n : Int) := by omega
    have hn0 : ¬ (n : Int) = 0 := by omega
    have hGG : (0 : Int) ≤ (G : Int) := by omega
    go_enter Tryz.func158, Tryz.ntmps158
    go_wp2_with (first | (at_builtin; refine Lib.wpList_append_run _ rfl _ _ _ _ rfl _ _ rfl rfl _ _ (hrz _) ?_))
    go_ret
    exact ⟨_, rfl, HO.out, HB.out⟩

def preW (X1 X2 X3 : List XW) : Nat → List XW
  | 0 => []
  | 1 => X1
  | 2 => X1 ++ X2
  | _ => X1 ++ X2 ++ X3

set_option maxHeartbeats 4000000 in
set_option maxRecDepth 20000 in
theorem concat3_any (b base : Nat) (u1 u2 u3 : Value) (X1 X2 X3 : List XW) (w : World) (hB : Blk w b #[u1, u2, u3] 51) (h1 : OwnWs w base u1 X1) (h2 : OwnWs w base u2 X2) (h3 : OwnWs w base u3 X3)
    (c12 : ∀ X ∈ X1, ∀ Y ∈ X2, ∀ b, inX X b → ¬ inX Y b) (c13 : ∀ X ∈ X1, ∀ Y ∈ X3, ∀ b, inX X b → ¬ inX Y b) (c23 : ∀ X ∈ X2, ∀ Y ∈ X3, ∀ b, inX X b → ¬ inX Y b) (n1 : X1.length ≤ 1000) (n2 : X2.length ≤ 1000) (n3 : X3.length ≤ 1000) (hbase : base ≤ w.heap.size) :
    Calls Tryz.prog 83 #[.slice (some ⟨b, 0, none⟩) 3 3] w fun e w' => ∃ u, e = .returned u ∧ OwnWs w' base u (X1 ++ X2 ++ X3) ∧ Below w.heap.size w w' := by
  have HB := hidOf hB
  have HO := hidOf (And.intro h1 (And.intro h2 h3))
  have HC := hidOf (And.intro c12 (And.intro c13 c23))
  have HBs := hidOf hbase
  obtain ⟨a1, k1, e1, _⟩ := row_slice h1.row
  obtain ⟨a2, k2, e2, _⟩ := row_slice h2.row
  obtain ⟨a3, k3, e3, _⟩ := row_slice h3.row
  have HE := hidOf (And.intro e1 (And.intro e2 e3))
  obtain ⟨q1, g1⟩ := hB.rules
  subst e1 e2 e3
  generalize hm1 : X1.length = m1 at *
  generalize hm2 : X2.length = m2 at *
  generalize hm3 : X3.length = m3 at *
  have HM := hidOf (And.intro hm1 (And.intro hm2 hm3))
  clear hB h1 h2 h3 c12 c13 c23 hbase HE hm1 hm2 hm3
  have hG := fun w => growW_any (m1 + m2 + m3) w (by omega)
  have hcast : ((m1 + m2 + m3 : Nat) : Int) = (m1 : Int) + m2 + m3 := by simp
  rw [hcast] at hG
  clear hcast
  go_enter Tryz.func83, Tryz.ntmps83
  go_wp2_with fail
  go_loop [3, 11] (fun s i => ∃ k : Nat, k ≤ 3 ∧ i = .int .i64 k ∧ s = .int .i64 (match k with | 0 => 0 | 1 => (m1 : Int) | 2 => (m1 : Int) + m2 | _ => (m1 : Int) + m2 + m3)) (fun _ i => 3 - (intOf i).toNat)
  case atStart => exact ⟨0, by omega, rfl, rfl⟩
  case round =>
    obtain ⟨k, hk, rfl, rfl⟩ := hrel
    have hkc : k = 0 ∨ k = 1 ∨ k = 2 ∨ k = 3 := by omega
    rcases hkc with rfl | rfl | rfl | rfl
    · have z1 : ¬ (m1 : Int) < 0 := by omega
      simp only
      go_wp2_with fail
      go_round
      case rel => exact ⟨1, by omega, by go_num, rfl⟩
      case measure => simp [intOf]
    · have z1 : ¬ (m1 : Int) + (m2 : Int) < 0 := by omega
      simp only
      go_wp2_with fail
      go_round
      case rel => exact ⟨2, by omega, by go_num, rfl⟩
      case measure => simp [intOf]
    · have z1 : ¬ (m1 : Int) + (m2 : Int) + (m3 : Int) < 0 := by omega
      simp only
      go_wp2_with fail
      go_round
      case rel => exact ⟨3, by omega, by go_num, rfl⟩
      case measure => simp [intOf]
    · simp only
      clear q1 g1
      go_wp2_with fail
      refine (hG _).mono ?_
      rintro e w2 ⟨u, rfl, hU, hb2⟩
      have HU := hidOf (hU.mono HBs.out)
      have HL := hidOf (fun i hi => (hU.row.lt i hi).1)
      have HB2 := hidOf hb2
      clear hG hU hb2
      go_wp2_with fail
      go_loopw [6, 27] (fun u i wr => ∃ k : Nat, k ≤ 3 ∧ i = .int .i64 k ∧ OwnWs wr base u (preW X1 X2 X3 k) ∧ Hid (∀ i, u.ownBlock = some i → w.heap.size ≤ i) ∧ Below w.heap.size w wr) (fun _ i _ => 3 - (intOf i).toNat)
      case atStart => exact ⟨0, by omega, rfl, HU.out, HL.out, HB2.out⟩
      case round =>
        obtain ⟨k, hk, rfl, hT, hL, hBel⟩ := hrel
        clear HU HL HB2
        obtain ⟨q1, g1⟩ := (HB.out.below hBel HB.out.lt).rules
        have hkc : k = 0 ∨ k = 1 ∨ k = 2 ∨ k = 3 := by omega
        rcases hkc with rfl | rfl | rfl | rfl
        · have HT := hidOf hT
          have HBl := hidOf hBel
          clear hT hBel
          go_wp2_with (first | (at_builtin
                                refine wpList_append_words _ rfl _ _ rfl base base _ _ [] X1 rfl rfl HT.out (HO.out.1.below HBl.out (Nat.le_refl _)) (Nat.le_refl _) (fun X hX => by cases hX) (by simp) (by have := HM.out; omega) (Nat.le_trans HBs.out HBl.out.size) ?_
                                intro v' w3 hT3 hg3 h5
                                have hB3 : Below w.heap.size w w3 := HBl.out.grown hg3 HBl.out.size (fun j hj => hL.out j hj)
                                have hL3 : Hid (∀ i, v'.ownBlock = some i → w.heap.size ≤ i) := by
                                  show ∀ i, _
                                  intro i hi
                                  rcases h5 with h5 | h5
                                  · exact hL.out i (h5.symm.trans hi)
                                  · rw [h5] at hi; cases hi; exact HBl.out.size
                                clear hg3 h5 HT HBl hL q1 g1))
          go_roundw
          case rel => exact ⟨1, by omega, by go_num, hT3, hL3, hB3⟩
          case measure => simp [intOf]
        · have HT := hidOf hT
          have HBl := hidOf hBel
          clear hT hBel
          go_wp2_with (first | (at_builtin
                                refine wpList_append_words _ rfl _ _ rfl base base _ _ X1 X2 rfl rfl HT.out (HO.out.2.1.below HBl.out (Nat.le_refl _)) (Nat.le_refl _) HC.out.1 (by have := HM.out; omega) (by have := HM.out; omega) (Nat.le_trans HBs.out HBl.out.size) ?_
                                intro v' w3 hT3 hg3 h5
                                have hB3 : Below w.heap.size w w3 := HBl.out.grown hg3 HBl.out.size (fun j hj => hL.out j hj)
                                have hL3 : Hid (∀ i, v'.ownBlock = some i → w.heap.size ≤ i) := by
                                  show ∀ i, _
                                  intro i hi
                                  rcases h5 with h5 | h5
                                  · exact hL.out i (h5.symm.trans hi)
                                  · rw [h5] at hi; cases hi; exact HBl.out.size
                                clear hg3 h5 HT HBl hL q1 g1))
          go_roundw
          case rel => exact ⟨2, by omega, by go_num, hT3, hL3, hB3⟩
          case measure => simp [intOf]
        · have HT := hidOf hT
          have HBl := hidOf hBel
          clear hT hBel
          go_wp2_with (first | (at_builtin
                                refine wpList_append_words _ rfl _ _ rfl base base _ _ (X1 ++ X2) X3 rfl rfl HT.out (HO.out.2.2.below HBl.out (Nat.le_refl _)) (Nat.le_refl _) (fun X hX Y hY => by rcases List.mem_append.1 hX with hX | hX; exact HC.out.2.1 X hX Y hY; exact HC.out.2.2 X hX Y hY) (by have := HM.out; rw [List.length_append]; omega) (by have := HM.out; omega) (Nat.le_trans HBs.out HBl.out.size) ?_
                                intro v' w3 hT3 hg3 h5
                                have hB3 : Below w.heap.size w w3 := HBl.out.grown hg3 HBl.out.size (fun j hj => hL.out j hj)
                                have hL3 : Hid (∀ i, v'.ownBlock = some i → w.heap.size ≤ i) := by
                                  show ∀ i, _
                                  intro i hi
                                  rcases h5 with h5 | h5
                                  · exact hL.out i (h5.symm.trans hi)
                                  · rw [h5] at hi; cases hi; exact HBl.out.size
                                clear hg3 h5 HT HBl hL q1 g1))
          go_roundw
          case rel => exact ⟨3, by omega, by go_num, hT3, hL3, hB3⟩
          case measure => simp [intOf]
        · have HT := hidOf hT
          have HBl := hidOf hBel
          clear hT hBel q1 g1
          go_wp2_with fail
          go_ret
          exact ⟨_, rfl, HT.out, HBl.out⟩

end Go.Proofs.YtpjidogilofppaaGreat

/- The program's ServerTend. -/
namespace Go.Proofs.YtpjidogilofppaaGreat
open Go.ChangeShapes Go.WideShapes Go.ChangeAt Go.RowKit

/-- What a server says from time to time. -/
def tendS (x : Sv) (t1 t2 t3 : Sl) : List Wd := preP x.site t1 t2 t3 x.vs x.ws x.os 3 ++ repL x.site t1 t2 t3 x.vs x.os ++ (ckL x.vs x.kn x.ws).map (checkX x.site)
def tendL (x : Sv) : List Wd := if (servB x && x.up) = true then (match x.sl with | [t1, t2, t3] => tendS x t1 t2 t3 | _ => []) else []
theorem tendL_no {x : Sv} (h : servB x = false) : tendL x = [] := by unfold tendL; rw [h]; rfl
theorem tendL_down {x : Sv} (h : x.up = false) : tendL x = [] := by unfold tendL; rw [h]; simp
theorem tendL_yes {x : Sv} {t1 t2 t3 : Sl} (h : servB x = true) (hu : x.up = true) (he : x.sl = [t1, t2, t3]) : tendL x = tendS x t1 t2 t3 := by unfold tendL; rw [h, hu, he]; rfl
theorem asc_owes {ds : List D} (h : owesB ds = true) : Asc (ds.map asD) := by
  have := (owesB_iff.1 h).2.2
  exact List.pairwise_map.2 this
theorem serv_lists {x : Sv} (h : servB x = true) : chainB x.vs = true ∧ chainB x.ws = true ∧ owesB x.os = true ∧ owesB x.kn = true ∧ 0 ≤ x.site ∧ x.site ≤ 3 := by
  unfold servB listsS at h
  simp only [Bool.and_eq_true] at h
  obtain ⟨⟨⟨⟨⟨⟨⟨_, h2⟩, ⟨⟨h3, h4⟩, h5⟩, h6⟩, _⟩, _⟩, _⟩, _⟩, _⟩ := h
  simp [inB] at h2
  exact ⟨h3, h4, h5, h6, h2.1, h2.2⟩
theorem repV_len {vs : List V} (hc : chainB vs = true) (d : D) : (repV vs d).ds.length ≤ 6 := by
  unfold repV
  rcases h : atA vs d.k d.t d.s with _ | v
  · simp [zeroV]
  · rw [atA_yes hc] at h
    exact chain_deps hc v (cAt_mem h).1
theorem cross_of {w w' : World} {base base' : Nat} {v v' : Value} {Xs Ys : List XW} (h : OwnWs w base v Xs) (k : OwnWs w' base' v' Ys) (hle : w.heap.size ≤ base') : ∀ X ∈ Xs, ∀ Y ∈ Ys, ∀ b, inX X b → ¬ inX Y b := by
  intro X hX Y hY b hb hb'
  have h1 := ((h.each X hX).lt hb).2
  have h2 := ((k.each Y hY).lt hb').1
  omega

set_option maxHeartbeats 4000000 in
set_option maxRecDepth 20000 in
theorem iTend_any (x : Sv) (a : Sa) (w : World) (hl : LenS x) (h : InS w x a) : Calls Tryz.prog 29 #[servV x a] w fun e w' => ∃ u Xs, e = .returned u ∧ OwnWs w' w.heap.size u Xs ∧ Xs.map XW.x = tendL x ∧ Below w.heap.size w w' := by
  have b0 : Below w.heap.size w (w.alloc (.cells #[.int .i64 x.site, .bool x.up, .slice a.la x.sl.length a.lc, .slice a.va x.vs.length a.vc, .slice a.wa x.ws.length a.wc, .slice a.oa x.os.length a.oc, .slice a.ka x.kn.length a.kc] 32)) := (Below.refl _ _).alloc (Nat.le_refl _) _
  have L0 := h.below b0
  clear h
  rcases hs : servB x with _ | _
  · have HT := hidOf (tendL_no hs)
    go_enter Tryz.func29, Tryz.ntmps29
    go_wp2_with fail
    generalize w.alloc (.cells #[.int .i64 x.site, .bool x.up, .slice a.la x.sl.length a.lc, .slice a.va x.vs.length a.vc, .slice a.wa x.ws.length a.wc, .slice a.oa x.os.length a.oc, .slice a.ka x.kn.length a.kc] 32) = v0 at *
    refine (hostOf_no x a _ hl L0 hs).mono ?_
    rintro e w1 ⟨rfl, hb⟩
    clear hs L0
    have HB := hidOf (b0.trans (hb.mono b0.size))
    clear b0 hb
    go_wp2_with fail
    go_ret
    exact ⟨_, [], rfl, OwnWs.nil _ _, by rw [HT.out]; rfl, HB.out.alloc HB.out.size _⟩
  obtain ⟨t1, t2, t3, he⟩ := slotsB_three (xs := x.sl) (by unfold servB at hs; simp at hs; exact hs.1.1.1.1.1.1.1)
  have HSL : Hid (x.sl = [t1, t2, t3]) := he
  have HTD : Hid (x.up = false → tendL x = []) := fun hu => tendL_down hu
  have HTY : Hid (x.up = true → tendL x = tendS x t1 t2 t3) := fun hu => tendL_yes hs hu he
  have HSV := hidOf (serv_lists hs)
  have HLn := hidOf hl
  have hH := hostOf_yes x a t1 t2 t3 _ hl L0 hs he
  clear he hs L0 hl
  go_enter Tryz.func29, Tryz.ntmps29
  go_wp2_with fail
  generalize w.alloc (.cells #[.int .i64 x.site, .bool x.up, .slice a.la x.sl.length a.lc, .slice a.va x.vs.length a.vc, .slice a.wa x.ws.length a.wc, .slice a.oa x.os.length a.oc, .slice a.ka x.kn.length a.kc] 32) = v0 at *
  refine hH.mono ?_
  rintro e w1 ⟨va, vc, wa, wc, oa, oc, ka, kc, ys, zs, rfl, K1, hb⟩
  have bt : Below w1.heap.size w1 (w1.alloc (.cells #[.slice va x.vs.length vc, .slice wa x.ws.length wc, .slice oa x.os.length oc, .int .i64 x.site, .bool x.up, .int .i64 t1.ep, .int .i64 t1.st, .int .i64 t2.ep, .int .i64 t2.st, .int .i64 t3.ep, .int .i64 t3.st, .slice ka x.kn.length kc] 88)) := (Below.refl _ _).alloc (Nat.le_refl _) _
  have H1 := Blk.new w1 #[.slice va x.vs.length vc, .slice wa x.ws.length wc, .slice oa x.os.length oc, .int .i64 x.site, .bool x.up, .int .i64 t1.ep, .int .i64 t1.st, .int .i64 t2.ep, .int .i64 t2.st, .int .i64 t3.ep, .int .i64 t3.st, .slice ka x.kn.length kc] 88
  have K2 := K1.below bt (Nat.le_refl _)
  have B1 := (b0.trans (hb.mono b0.size)).trans (bt.mono (by have := b0.size; have := hb.size; omega))
  have hv := K2.v.asV K2.hy
  have hw := K2.w.asV K2.hz
  have ho := row_deps' K2.o
  have hk := row_deps' K2.k
  have HV := hidOf hv
  have HW := hidOf hw
  have HO := hidOf ho
  have HK := hidOf hk
  have HH1 := hidOf H1
  have HB1 := hidOf B1
  clear b0 hb K1 K2 bt B1 hH hv hw ho hk H1
  rcases hxu : x.up with _ | _
  · have HE := hidOf (HTD.out hxu)
    rw [hxu] at HH1 HB1 HV HW HO HK
    go_wp2_with fail
    go_ret
    exact ⟨_, [], rfl, OwnWs.nil _ _, by rw [HE.out]; rfl, HB1.out⟩
  · have HE := hidOf (HTY.out hxu)
    rw [hxu] at HH1 HB1 HV HW HO HK
    clear hxu HTD HTY
    go_wp2_with fail
    generalize hHB : w1.heap.size = HBk at *
    generalize w1.alloc (.cells _ 88) = u1 at *
    clear hHB
    have n80 := HSV.out.1
    refine (parcels_any HBk x.site true va wa oa vc wc oc (.slice ka x.kn.length kc) x.vs x.ws x.os t1 t2 t3 _ HH1.out HV.out HW.out HO.out HLn.out.v HLn.out.w HLn.out.o HSV.out.2.2.2.2.1 HSV.out.2.2.2.2.2).mono ?_
    rintro e w2 ⟨p1, X1, rfl, O1, m1, hb2⟩
    obtain ⟨a1, c1, rfl, _⟩ := row_slice O1.row
    have HHp := hidOf (HH1.out.below hb2 HH1.out.lt)
    have P1 := hidOf (And.intro O1 m1)
    have hb2s := hidOf hb2
    clear O1 m1 hb2 n80
    go_wp2_with fail
    have hB2 : Below w.heap.size w w2 := HB1.out.trans (hb2s.out.mono HB1.out.size)
    refine (reps_any HBk x.site true va oa vc oc (.slice wa x.ws.length wc) (.slice ka x.kn.length kc) x.vs x.os t1 t2 t3 _ HHp.out (HV.out.below hb2s.out) (HO.out.below hb2s.out) HLn.out.v (owesB_iff.1 HSV.out.2.2.1).1 (fun d hd => by have := okD_bounds ((owesB_iff.1 HSV.out.2.2.1).2.1 d hd); exact ⟨by omega, wf_key (by omega) (by omega)⟩) (fun d _ => by have := repV_len HSV.out.1 d; omega)).mono ?_
    rintro e w3 ⟨p2, X2, rfl, O2, m2, hb3⟩
    obtain ⟨a2, c2, rfl, _⟩ := row_slice O2.row
    have HHq := hidOf (HHp.out.below hb3 HHp.out.lt)
    have hb23 := hidOf (hb2s.out.trans (hb3.mono hb2s.out.size))
    have P2 := hidOf (And.intro O2 m2)
    have P1b := hidOf (P1.out.1.below hb3 (Nat.le_refl _))
    have HZ2 : Hid (u1.heap.size ≤ w2.heap.size ∧ w2.heap.size ≤ w3.heap.size) := ⟨hb2s.out.size, hb3.size⟩
    clear O2 m2 hb3 hB2
    go_wp2_with fail
    refine (checks_any HBk x.site true va wa ka vc wc kc (.slice oa x.os.length oc) x.vs x.ws x.kn t1 t2 t3 _ HHq.out HSV.out.1 (HV.out.below hb23.out) (by have := (owesB_iff.1 HSV.out.2.2.2.1).1; omega) (asc_owes HSV.out.2.2.2.1) (HK.out.below hb23.out) (HW.out.below hb23.out) (chainB_iff.1 HSV.out.2.1).1 (chain_deps HSV.out.2.1) HSV.out.2.2.2.2.1 HSV.out.2.2.2.2.2).mono ?_
    rintro e w4 ⟨p3, X3, rfl, O3, m3, hb4⟩
    obtain ⟨a3, c3, rfl, _⟩ := row_slice O3.row
    have hb24 := hidOf (hb23.out.trans (hb4.mono hb23.out.size))
    have P1c := hidOf (P1b.out.below hb4 (Nat.le_refl _))
    have P2c := hidOf (P2.out.1.below hb4 (Nat.le_refl _))
    have P3 := hidOf (And.intro O3 m3)
    have HZ3 : Hid (w3.heap.size ≤ w4.heap.size) := hb4.size
    clear O3 m3 hb4
    go_wp2_with fail
    have ba : Below w4.heap.size w4 (w4.alloc (.cells #[.slice a1 X1.length c1, .slice a2 X2.length c2, .slice a3 X3.length c3] 51)) := (Below.refl _ _).alloc (Nat.le_refl _) _
    have hn1 : X1.length ≤ 1000 := by have h1 := congrArg List.length P1.out.2; have h2 := preP_len x.site t1 t2 t3 x.vs x.ws x.os 3; simp only [List.length_map] at h1; omega
    have hn2 : X2.length ≤ 1000 := by have h1 := congrArg List.length P2.out.2; have h2 := repL_len x.site t1 t2 t3 x.vs x.os; have h3 := (owesB_iff.1 HSV.out.2.2.1).1; simp only [List.length_map] at h1; omega
    have hn3 : X3.length ≤ 1000 := by have h1 := congrArg List.length P3.out.2; have h2 := ckL_len x.vs x.kn (chain_deps HSV.out.2.1); have h3 := (chainB_iff.1 HSV.out.2.1).1; simp only [List.length_map] at h1; omega
    refine (concat3_any w4.heap.size u1.heap.size _ _ _ X1 X2 X3 _ (Blk.new w4 _ _) (P1c.out.below ba (Nat.le_refl _)) ((P2c.out.mono HZ2.out.1).below ba (Nat.le_refl _)) ((P3.out.1.mono (Nat.le_trans HZ2.out.1 HZ2.out.2)).below ba (Nat.le_refl _)) (cross_of P1.out.1 P2.out.1 (Nat.le_refl _)) (cross_of P1.out.1 P3.out.1 HZ2.out.2) (cross_of P2.out.1 P3.out.1 (Nat.le_refl _)) hn1 hn2 hn3 (Nat.le_trans hb24.out.size ba.size)).mono ?_
    rintro e w5 ⟨u, rfl, O5, hb5⟩
    have HF := hidOf (And.intro O5 (HB1.out.trans ((hb24.out.trans ((ba.trans (hb5.mono ba.size)).mono hb24.out.size)).mono HB1.out.size)))
    clear O5 hb5 ba hn1 hn2 hn3
    go_wp2_with fail
    go_ret
    exact ⟨u, X1 ++ X2 ++ X3, rfl, HF.out.1.mono HB1.out.size, by rw [HE.out, List.map_append, List.map_append, P1.out.2, P2.out.2, P3.out.2]; rfl, HF.out.2⟩
end Go.Proofs.YtpjidogilofppaaGreat

