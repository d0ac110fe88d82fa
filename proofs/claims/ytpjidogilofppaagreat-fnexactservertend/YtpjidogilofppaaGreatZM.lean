/- 4 texts in one: SvOwns, MvNum, MvA, MvB. -/
import Derived.Test.YtpjidogilofppaaGreatZO
import Derived.Test.YtpjidogilofppaaGreatISlotC
import Derived.Test.YtpjidogilofppaaGreatGSX
import Derived.Test.YtpjidogilofppaaGreatGAJ
import Derived.Orders
/- ServerOwns, of the program and of the specification. -/
namespace Go.Proofs.YtpjidogilofppaaGreat
open Go.ChangeShapes Go.WideShapes Go.ChangeAt Go.RowKit Go.Deep

/-- Whether a server owns the slot of that number. -/
def ownsB (xs : List Sl) (n : Int) : Bool := standAt xs n == 1
def owB (x : Sv) (key : Int) : Bool := servB x && ownsB x.sl (slotOf key)
theorem owns_out {s1 s2 s3 : Sl} {n : Int} (h : n < 0 ∨ 3 ≤ n) : ownsB [s1, s2, s3] n = false := by
  unfold ownsB standAt
  rcases h with h | h
  · rw [if_pos h]; rfl
  · rw [if_neg (by omega)]
    have : [s1, s2, s3][n.toNat]? = none := by rw [List.getElem?_eq_none]; simp; omega
    rw [this]; rfl
theorem ownsI_any (s1 s2 s3 : Sl) (n : Int) (w : World) :
    Calls Tryz.prog 137 #[.agg (tab6 s1 s2 s3), .int .i64 n] w fun e w' => e = .returned (.bool (ownsB [s1, s2, s3] n)) ∧ Below w.heap.size w w' := by
  have b0 : Below w.heap.size w (w.alloc (.cells (tab6 s1 s2 s3) 86)) := (Below.refl _ _).alloc (Nat.le_refl _) _
  by_cases h0 : n < 0
  · have HR : Hid (ownsB [s1, s2, s3] n = false) := owns_out (.inl h0)
    have hd : decide (0 ≤ n) = false := by simpa using h0
    generalize ownsB [s1, s2, s3] n = r at *
    go_enter Tryz.func137, Tryz.ntmps137
    go_wp2_with fail
    go_ret
    exact ⟨by rw [HR.out]; rfl, b0⟩
  by_cases h3 : 3 ≤ n
  · have HR : Hid (ownsB [s1, s2, s3] n = false) := owns_out (.inr h3)
    have hd : decide (n < 3) = false := by simp; omega
    generalize ownsB [s1, s2, s3] n = r at *
    go_enter Tryz.func137, Tryz.ntmps137
    go_wp2_with fail
    go_ret
    exact ⟨by rw [HR.out]; rfl, b0⟩
  have : n = 0 ∨ n = 1 ∨ n = 2 := by omega
  rcases this with rfl | rfl | rfl
  · have HR : Hid (ownsB [s1, s2, s3] 0 = (s1.st == 1)) := by show _ = _; unfold ownsB; rw [stand0]
    generalize ownsB [s1, s2, s3] 0 = r at *
    go_enter Tryz.func137, Tryz.ntmps137
    go_wp2_with fail
    go_ret
    exact ⟨by rw [HR.out]; rfl, b0⟩
  · have HR : Hid (ownsB [s1, s2, s3] 1 = (s2.st == 1)) := by show _ = _; unfold ownsB; rw [stand1]
    generalize ownsB [s1, s2, s3] 1 = r at *
    go_enter Tryz.func137, Tryz.ntmps137
    go_wp2_with fail
    go_ret
    exact ⟨by rw [HR.out]; rfl, b0⟩
  · have HR : Hid (ownsB [s1, s2, s3] 2 = (s3.st == 1)) := by show _ = _; unfold ownsB; rw [stand2]
    generalize ownsB [s1, s2, s3] 2 = r at *
    go_enter Tryz.func137, Tryz.ntmps137
    go_wp2_with fail
    go_ret
    exact ⟨by rw [HR.out]; rfl, b0⟩
theorem ownsI_is {s1 s2 s3 : Sl} {n : Int} {r : Bool} (h : ownsB [s1, s2, s3] n = r) {w : World} : Calls Tryz.prog 137 #[.agg (tab6 s1 s2 s3), .int .i64 n] w fun e w' => e = .returned (.bool r) ∧ Below w.heap.size w w' := by rw [← h]; exact ownsI_any s1 s2 s3 n w
theorem islot_b (n : Int) {w : World} : Calls Tryz.prog 201 #[.int .i64 n] w fun e w' => e = .returned (.int .i64 (slotOf n)) ∧ Below w.heap.size w w' := (slot_is rfl w).mono fun e w' h => ⟨h.1, by rw [h.2]; exact Below.refl _ _⟩
theorem iServerOk_is {x : Sv} {a : Sa} {r : Bool} (h : servB x = r) {w : World} (hl : LenS x) (hi : InS w x a) : Calls Tryz.prog 123 #[servV x a] w fun e w' => e = .returned (.bool r) ∧ Below w.heap.size w w' := by rw [← h]; exact iServerOk_any x a w hl hi

end Go.Proofs.YtpjidogilofppaaGreat

/- Plain facts on slots that leave. -/
namespace Go.Proofs.YtpjidogilofppaaGreat
open Go.ChangeShapes Go.WideShapes Go.ChangeAt Go.RowKit

/-- The other site of a side. -/
def twinX (n : Int) : Int := if n % 2 = 0 then n + 1 else n - 1
/-- By which number a slot is known. -/
def epAt (xs : List Sl) (n : Int) : Int := if n < 0 then 0 else match xs[n.toNat]? with | some s => s.ep | none => 0
/-- Whether a slot can leave. -/
def goB (x : Sv) (n : Int) : Bool := x.up && ownsB x.sl n && decide (epAt x.sl n < 9999)
/-- Debts of a slot. -/
def owesL (os : List D) (n : Int) : List D := os.filter fun d => slotOf d.k == n
/-- Slots, of which one leaves. -/
def leaveL (xs : List Sl) (n : Int) : List Sl := xs.set n.toNat ⟨epAt xs n + 1, 2⟩
def zeroWd : Wd := ⟨0, 0, 0, 0, 0, 0, 0, 0, false, [], 0, 0, [], [], []⟩
/-- The parcel of a slot. -/
def bulkX (x : Sv) (n : Int) : Wd := ⟨9, x.site, twinX x.site, 0, 0, 0, 0, 0, false, [], n, epAt x.sl n, slotL x.vs n, slotL x.ws n, owesL x.os n⟩
def leftX (x : Sv) (n : Int) : Sv := ⟨x.site, x.up, leaveL x.sl n, x.vs, x.ws, x.os, x.kn⟩
def moveS (x : Sv) (n : Int) : Sv := if servB x = true then if goB x n = true then leftX x n else x else ⟨0, false, [], [], [], [], []⟩
def moveW (x : Sv) (n : Int) : Wd := if servB x = true then if goB x n = true then bulkX (leftX x n) n else zeroWd else zeroWd
def moveB (x : Sv) (n : Int) : Bool := servB x && goB x n
theorem move_no {x : Sv} (h : servB x = false) (n : Int) : moveS x n = ⟨0, false, [], [], [], [], []⟩ ∧ moveW x n = zeroWd ∧ moveB x n = false := by
  unfold moveS moveW moveB; rw [h]; exact ⟨rfl, rfl, rfl⟩
theorem move_stays {x : Sv} {n : Int} (h : servB x = true) (g : goB x n = false) : moveS x n = x ∧ moveW x n = zeroWd ∧ moveB x n = false := by
  unfold moveS moveW moveB; rw [h, g]; exact ⟨rfl, rfl, rfl⟩
theorem move_goes {x : Sv} {n : Int} (h : servB x = true) (g : goB x n = true) : moveS x n = leftX x n ∧ moveW x n = bulkX (leftX x n) n ∧ moveB x n = true := by
  unfold moveS moveW moveB; rw [h, g]; exact ⟨rfl, rfl, rfl⟩
theorem ep3_0 (a b c : Sl) : epAt [a, b, c] 0 = a.ep := rfl
theorem ep3_1 (a b c : Sl) : epAt [a, b, c] 1 = b.ep := rfl
theorem ep3_2 (a b c : Sl) : epAt [a, b, c] 2 = c.ep := rfl
theorem goB_in {x : Sv} {n : Int} {a b c : Sl} (hs : x.sl = [a, b, c]) (h : goB x n = true) : n = 0 ∨ n = 1 ∨ n = 2 := by
  by_cases hn : n < 0 ∨ 3 ≤ n
  · unfold goB at h; rw [hs, owns_out hn] at h; simp at h
  · omega
theorem tot_filter (p : V → Bool) : ∀ vs : List V, tot (vs.filter p) ≤ tot vs
  | [] => Nat.le_refl _
  | v :: vs => by
    have := tot_filter p vs
    rw [tot_cons]
    by_cases h : p v = true
    · rw [List.filter_cons_of_pos h, tot_cons]; omega
    · rw [List.filter_cons_of_neg h]; omega
theorem slotL_fit (vs : List V) (n : Int) : (slotL vs n).length ≤ vs.length ∧ tot (slotL vs n) ≤ tot vs := by
  unfold slotL
  split
  · exact ⟨List.length_filter_le _ _, tot_filter _ _⟩
  · simp [tot]
theorem serv_parts {x : Sv} (h : servB x = true) : x.sl.length = 3 ∧ x.vs.length ≤ 80 ∧ x.ws.length ≤ 80 ∧ x.os.length ≤ 80 ∧ x.kn.length ≤ 80 := by
  unfold servB listsS at h
  simp only [Bool.and_eq_true] at h
  obtain ⟨⟨⟨⟨⟨⟨⟨h1, _⟩, ⟨⟨⟨h2, h3⟩, h4⟩, h5⟩⟩, _⟩, _⟩, _⟩, _⟩, _⟩ := h
  exact ⟨(slotsB_iff.1 h1).1, (chainB_iff.1 h2).1, (chainB_iff.1 h3).1, (owesB_iff.1 h4).1, (owesB_iff.1 h5).1⟩
theorem leave_len (xs : List Sl) (n : Int) : (leaveL xs n).length = xs.length := by simp [leaveL]
theorem move_sizeS (x : Sv) (n : Int) : sizeS (moveS x n) ≤ sizeS x := by
  unfold moveS
  split
  · split
    · simp [sizeS, leftX, leave_len]
    · exact Int.le_refl _
  · simp [sizeS, tot]; omega
theorem take_owes (os : List D) (n : Int) (k : Nat) (h : k < os.length) : owesL (os.take (k + 1)) n = owesL (os.take k) n ++ if (slotOf os[k].k == n) = true then [os[k]] else [] := by
  unfold owesL
  rw [List.take_succ_eq_append_getElem h, List.filter_append]
  by_cases h2 : (slotOf os[k].k == n) = true
  · rw [if_pos h2, List.filter_cons_of_pos (by simpa using h2)]; rfl
  · rw [if_neg h2, List.filter_cons_of_neg (by simpa using h2)]; rfl
end Go.Proofs.YtpjidogilofppaaGreat

/- What is of a slot among debts: the program's own choosing. -/
namespace Go.Proofs.YtpjidogilofppaaGreat
open Go.ChangeShapes Go.WideShapes Go.ChangeAt Go.RowKit

/-- A dep that was laid in a block of its own is appended to deps of the call's own. -/
theorem wpList_append_dep1 (w : World) {ops : Array Oper} {rest : List Oper} {o : Oper} {a : Act} {Q : Exit → Act → World → Prop} (hgd : o.guard = none) (s x : Operand)
    (ho : o.op = .call { callee := .builtin .append, args := #[s, x], argTypes := #[30, 30] })
    (base : Nat) (v : Value) (xs : List D) (hs : a.eval s = v) (hO : RowD w base v xs) (d : D) (g : Nat) (hx : a.eval x = .slice (some ⟨g, 0, none⟩) 1 1)
    (hB : Blk w g #[.int .i64 d.k, .int .i64 d.t, .int .i64 d.s] 116) (hn : xs.length ≤ 1099511627776) (hb : base ≤ w.heap.size)
    (h : ∀ v' w', RowD w' base v' (xs ++ [d]) → w.grownBy w' v.ownBlock → (v'.ownBlock = v.ownBlock ∨ v'.ownBlock = some w.heap.size) → wpList Tryz.prog ops Q rest (a.put o.dst v') w') : wpList Tryz.prog ops Q (o :: rest) a w := by
  obtain ⟨i0, hi, hz0, hz1, hz2⟩ := info_parts infoDep
  refine wpList_append_own_at w hgd s x 30 ho base 116 i0 (.agg #[.int .i64 0, .int .i64 0, .int .i64 0]) 3 24 Tryz.underlying30 hi hz0 hz1 hz2 rfl (by decide) v xs.length (flat3 xs) hs hO ⟨g, 0, none⟩ 1 1 [.int .i64 d.k, .int .i64 d.t, .int .i64 d.s] hx rfl (cells3' hB) (by simp [Value.oneCell']) (by unfold maxLen; omega) (by omega) hb fun v' w' h2 h3 _ h5 => h v' w' (by show w'.ownsRow _ _ 3 v' (xs ++ [d]).length (flat3 (xs ++ [d])); rw [flat3_snoc]; simpa using h2) h3 h5


set_option maxHeartbeats 2000000 in
theorem chosen1_any (a : Option Addr) (cap : Nat) (xs : List D) (pb : Nat) (p : D → Bool) (w : World) (hn : xs.length ≤ 1099511627776) (h : Deps w a xs)
    (hw : ∀ (W' : World) (d : D), Below w.heap.size w W' → Calls Tryz.prog 200 #[depV d.k d.t d.s, .pointer (some ⟨pb, 0, none⟩)] W' fun e w' => e = .returned (.bool (p d)) ∧ Below W'.heap.size W' w') :
    Calls Tryz.prog 131 #[.slice a xs.length cap, .func (.func 200) #[] #[.pointer (some ⟨pb, 0, none⟩)]] w fun e w' => ∃ pa pc, e = .returned (.slice pa (xs.filter p).length pc) ∧ RowD w' w.heap.size (.slice pa (xs.filter p).length pc) (xs.filter p) ∧ Below w.heap.size w w' := by
  go_enter Tryz.func131, Tryz.ntmps131
  go_wp2
  go_loopw [5, 10] (fun u i wr => ∃ (k : Nat) (ys : List D), k ≤ xs.length ∧ i = .int .i64 k ∧ Hid (ys = (xs.take k).filter p) ∧ RowD wr w.heap.size u ys ∧ ys.length ≤ k ∧ Below w.heap.size w wr) (fun _ i _ => xs.length - (intOf i).toNat)
  case atStart => exact ⟨0, [], Nat.zero_le _, rfl, rfl, World.ownsRow_nil _ _ _ _, Nat.zero_le _, Below.refl _ _⟩
  case round =>
    obtain ⟨k, ys, hk, rfl, HY, hO, hyl, hB⟩ := hrel
    by_cases hlt : k < xs.length
    · obtain ⟨b, o, rfl, hbb, e0, e1, e2⟩ := (h.below hB).at hlt
      have HS : Hid ((xs.take (k + 1)).filter p = (xs.take k).filter p ++ if p xs[k] = true then [xs[k]] else []) := by
        show _ = _
        rw [List.take_succ_eq_append_getElem hlt, List.filter_append]
        by_cases h2 : p xs[k] = true
        · rw [if_pos h2, List.filter_cons_of_pos h2]; rfl
        · rw [if_neg h2, List.filter_cons_of_neg h2]; rfl
      generalize xs[k] = d at *
      have hO1 := row_below hO ((Below.refl _ wr).alloc (Nat.le_refl _) (.cells #[.int .i64 d.k, .int .i64 d.t, .int .i64 d.s] 116)) (Nat.le_refl _)
      have hB1 := hB.alloc hB.size (.cells #[.int .i64 d.k, .int .i64 d.t, .int .i64 d.s] 116)
      have hN := Blk.new wr #[.int .i64 d.k, .int .i64 d.t, .int .i64 d.s] 116
      go_wp2_with fail
      clear hO hB e0 e1 e2
      refine (hw _ d hB1).mono ?_
      rintro e w2 ⟨rfl, hb2⟩
      have hO2 := row_below hO1 hb2 (Nat.le_refl _)
      have hN2 := hN.below hb2 hN.lt
      have hB2 : Below w.heap.size w w2 := hB1.trans (hb2.mono hB1.size)
      clear hO1 hB1 hN hb2
      rcases hp : p d with _ | _
      · have HZ : Hid (ys = (xs.take (k + 1)).filter p) := by show _ = _; rw [HS.out, hp]; simpa using HY.out
        go_wp2_with fail
        go_roundw
        case rel => exact ⟨k + 1, ys, by omega, by go_num, HZ.out, hO2, by omega, hB2⟩
        case measure => simp [intOf]; omega
      · have HZ : Hid (ys ++ [d] = (xs.take (k + 1)).filter p) := by show _ = _; rw [HS.out, hp, HY.out]; rfl
        have hO3 := row_below hO2 ((Below.refl _ w2).alloc (Nat.le_refl _) (.cells #[.int .i64 d.k, .int .i64 d.t, .int .i64 d.s] 116)) (Nat.le_refl _)
        have hB3 := hB2.alloc hB2.size (.cells #[.int .i64 d.k, .int .i64 d.t, .int .i64 d.s] 116)
        have hM := Blk.new w2 #[.int .i64 d.k, .int .i64 d.t, .int .i64 d.s] 116
        have hs3 := hB3.size
        obtain ⟨q1, g1⟩ := hN2.rules
        have zN := hN2.lt
        clear hO2 hB2
        go_wp2_with (first | (at_builtin
                              refine wpList_append_dep1 _ rfl _ _ rfl w.heap.size _ ys rfl hO3 d w2.heap.size rfl hM (by omega) hs3 ?_
                              intro v' w3 hO4 hg3 _
                              have hB4 : Below w.heap.size w w3 := hB3.grown hg3 hs3 (fun j hj => (hO3.lt j hj).1)
                              clear hg3 hO3 hM hB3 hs3 q1 g1))
        go_roundw
        case rel => exact ⟨k + 1, ys ++ [d], by omega, by go_num, HZ.out, hO4, by simp; omega, hB4⟩
        case measure => simp [intOf]; omega
    · have hk2 : k = xs.length := by omega
      subst hk2
      rw [List.take_length] at HY
      obtain ⟨pa, pc, he, _⟩ := row_slice hO
      have HU : Hid (u5 = Value.slice pa ys.length pc) := he
      clear he
      go_wp2
      go_ret
      refine ⟨pa, pc, by rw [HU.out, HY.out]; rfl, ?_, hB⟩
      rw [← HY.out, ← HU.out]; exact hO

set_option maxHeartbeats 2000000 in
theorem chosen2_any (a : Option Addr) (cap : Nat) (xs : List D) (pb : Nat) (p : D → Bool) (w : World) (hn : xs.length ≤ 1099511627776) (h : Deps w a xs)
    (hw : ∀ (W' : World) (d : D), Below w.heap.size w W' → Calls Tryz.prog 202 #[depV d.k d.t d.s, .pointer (some ⟨pb, 0, none⟩)] W' fun e w' => e = .returned (.bool (p d)) ∧ Below W'.heap.size W' w') :
    Calls Tryz.prog 131 #[.slice a xs.length cap, .func (.func 202) #[] #[.pointer (some ⟨pb, 0, none⟩)]] w fun e w' => ∃ pa pc, e = .returned (.slice pa (xs.filter p).length pc) ∧ RowD w' w.heap.size (.slice pa (xs.filter p).length pc) (xs.filter p) ∧ Below w.heap.size w w' := by
  go_enter Tryz.func131, Tryz.ntmps131
  go_wp2
  go_loopw [5, 10] (fun u i wr => ∃ (k : Nat) (ys : List D), k ≤ xs.length ∧ i = .int .i64 k ∧ Hid (ys = (xs.take k).filter p) ∧ RowD wr w.heap.size u ys ∧ ys.length ≤ k ∧ Below w.heap.size w wr) (fun _ i _ => xs.length - (intOf i).toNat)
  case atStart => exact ⟨0, [], Nat.zero_le _, rfl, rfl, World.ownsRow_nil _ _ _ _, Nat.zero_le _, Below.refl _ _⟩
  case round =>
    obtain ⟨k, ys, hk, rfl, HY, hO, hyl, hB⟩ := hrel
    by_cases hlt : k < xs.length
    · obtain ⟨b, o, rfl, hbb, e0, e1, e2⟩ := (h.below hB).at hlt
      have HS : Hid ((xs.take (k + 1)).filter p = (xs.take k).filter p ++ if p xs[k] = true then [xs[k]] else []) := by
        show _ = _
        rw [List.take_succ_eq_append_getElem hlt, List.filter_append]
        by_cases h2 : p xs[k] = true
        · rw [if_pos h2, List.filter_cons_of_pos h2]; rfl
        · rw [if_neg h2, List.filter_cons_of_neg h2]; rfl
      generalize xs[k] = d at *
      have hO1 := row_below hO ((Below.refl _ wr).alloc (Nat.le_refl _) (.cells #[.int .i64 d.k, .int .i64 d.t, .int .i64 d.s] 116)) (Nat.le_refl _)
      have hB1 := hB.alloc hB.size (.cells #[.int .i64 d.k, .int .i64 d.t, .int .i64 d.s] 116)
      have hN := Blk.new wr #[.int .i64 d.k, .int .i64 d.t, .int .i64 d.s] 116
      go_wp2_with fail
      clear hO hB e0 e1 e2
      refine (hw _ d hB1).mono ?_
      rintro e w2 ⟨rfl, hb2⟩
      have hO2 := row_below hO1 hb2 (Nat.le_refl _)
      have hN2 := hN.below hb2 hN.lt
      have hB2 : Below w.heap.size w w2 := hB1.trans (hb2.mono hB1.size)
      clear hO1 hB1 hN hb2
      rcases hp : p d with _ | _
      · have HZ : Hid (ys = (xs.take (k + 1)).filter p) := by show _ = _; rw [HS.out, hp]; simpa using HY.out
        go_wp2_with fail
        go_roundw
        case rel => exact ⟨k + 1, ys, by omega, by go_num, HZ.out, hO2, by omega, hB2⟩
        case measure => simp [intOf]; omega
      · have HZ : Hid (ys ++ [d] = (xs.take (k + 1)).filter p) := by show _ = _; rw [HS.out, hp, HY.out]; rfl
        have hO3 := row_below hO2 ((Below.refl _ w2).alloc (Nat.le_refl _) (.cells #[.int .i64 d.k, .int .i64 d.t, .int .i64 d.s] 116)) (Nat.le_refl _)
        have hB3 := hB2.alloc hB2.size (.cells #[.int .i64 d.k, .int .i64 d.t, .int .i64 d.s] 116)
        have hM := Blk.new w2 #[.int .i64 d.k, .int .i64 d.t, .int .i64 d.s] 116
        have hs3 := hB3.size
        obtain ⟨q1, g1⟩ := hN2.rules
        have zN := hN2.lt
        clear hO2 hB2
        go_wp2_with (first | (at_builtin
                              refine wpList_append_dep1 _ rfl _ _ rfl w.heap.size _ ys rfl hO3 d w2.heap.size rfl hM (by omega) hs3 ?_
                              intro v' w3 hO4 hg3 _
                              have hB4 : Below w.heap.size w w3 := hB3.grown hg3 hs3 (fun j hj => (hO3.lt j hj).1)
                              clear hg3 hO3 hM hB3 hs3 q1 g1))
        go_roundw
        case rel => exact ⟨k + 1, ys ++ [d], by omega, by go_num, HZ.out, hO4, by simp; omega, hB4⟩
        case measure => simp [intOf]; omega
    · have hk2 : k = xs.length := by omega
      subst hk2
      rw [List.take_length] at HY
      obtain ⟨pa, pc, he, _⟩ := row_slice hO
      have HU : Hid (u5 = Value.slice pa ys.length pc) := he
      clear he
      go_wp2
      go_ret
      refine ⟨pa, pc, by rw [HU.out, HY.out]; rfl, ?_, hB⟩
      rw [← HY.out, ← HU.out]; exact hO

theorem parted1_any (d : D) (slot : Int) (sb : Nat) (w : World) (h : w.cell? ⟨sb, 0, none⟩ = some (.int .i64 slot)) (hb : sb < w.heap.size) :
    Calls Tryz.prog 200 #[depV d.k d.t d.s, .pointer (some ⟨sb, 0, none⟩)] w fun e w' => e = .returned (.bool (slotOf d.k == slot)) ∧ Below w.heap.size w w' := by
  obtain ⟨r, hr⟩ : ∃ r, slotOf d.k = r := ⟨_, rfl⟩
  rw [hr]
  have b0 : Below w.heap.size w (w.alloc (.cells #[.int .i64 d.k, .int .i64 d.t, .int .i64 d.s] 116)) := (Below.refl _ _).alloc (Nat.le_refl _) _
  have h1 := (b0.cell (p := ⟨sb, 0, none⟩) hb).trans h
  go_enter Tryz.func200, Tryz.ntmps200
  go_wp2_with fail
  go_quiet ((go_at_call 201; exact Calls.quiet_of_same (slot_is hr _)))
  go_wp2
  go_ret
  exact ⟨rfl, below_draws b0 _⟩
set_option maxHeartbeats 1000000 in
theorem parted2_any (d : D) (slot : Int) (sb fb : Nat) (w : World) (h : w.cell? ⟨sb, 0, none⟩ = some (.int .i64 slot)) (hb : sb < w.heap.size) (h2 : w.cell? ⟨fb, 0, none⟩ = some (.func (.func 200) #[] #[.pointer (some ⟨sb, 0, none⟩)])) (hf : fb < w.heap.size) :
    Calls Tryz.prog 202 #[depV d.k d.t d.s, .pointer (some ⟨fb, 0, none⟩)] w fun e w' => e = .returned (.bool (!(slotOf d.k == slot))) ∧ Below w.heap.size w w' := by
  have b0 : Below w.heap.size w (w.alloc (.cells #[.int .i64 d.k, .int .i64 d.t, .int .i64 d.s] 116)) := (Below.refl _ _).alloc (Nat.le_refl _) _
  have h1 := (b0.cell (p := ⟨sb, 0, none⟩) hb).trans h
  have h4 := (b0.cell (p := ⟨fb, 0, none⟩) hf).trans h2
  have h3 := parted1_any d slot sb _ h1 (by simp; omega)
  generalize (slotOf d.k == slot) = r at *
  go_enter Tryz.func202, Tryz.ntmps202
  go_wp2_with fail
  refine h3.mono ?_
  rintro e w1 ⟨rfl, hb1⟩
  go_wp2_with fail
  go_ret
  exact ⟨rfl, b0.trans (hb1.mono b0.size)⟩
end Go.Proofs.YtpjidogilofppaaGreat

/- What is of a slot, and all else: the program's own parting. -/
namespace Go.Proofs.YtpjidogilofppaaGreat
open Go.ChangeShapes Go.WideShapes Go.ChangeAt Go.RowKit

theorem countF_set {l : List Bool} {i : Nat} (hi : i < l.length) (h : l[i] = false) : (l.set i true).count false + 1 = l.count false := by
  induction l generalizing i with
  | nil => simp at hi
  | cons b l ih =>
    cases i with
    | zero => simp at h; subst h; simp
    | succ i =>
      have := ih (by simpa using hi) (by simpa using h)
      cases b <;> simp <;> omega
/-- A region that draws its order keeps an invariant, whatever comes up. -/
theorem wpAny_keeps {P : Program} {md : Region.Mode} {ops : Array Oper} {Q : Exit → Act → World → Prop} (I : Array Bool → Act → World → Prop)
    (step : ∀ l a w i, I l a w → i ∈ Region.ready md ops l → wpOp P ops Q i (I (l.setIfInBounds i true)) a w)
    (fin : ∀ l a w, I l a w → Region.ready md ops l = [] → Q .normal a w) :
    ∀ (fuel : Nat) (l : Array Bool) (a : Act) (w : World), l.toList.count false ≤ fuel → I l a w → wpAny P md ops Q fuel l a w := by
  intro fuel
  induction fuel with
  | zero =>
    intro l a w hc hI
    have hr : Region.ready md ops l = [] := by
      cases hr : Region.ready md ops l with
      | nil => rfl
      | cons i t =>
        have hm : i ∈ Region.ready md ops l := by rw [hr]; simp
        have h0 := (mem_ready.1 hm).1
        rcases Nat.lt_or_ge i l.size with hlt | hge
        · have h1 : l[i] = false := by simpa [hlt] using h0
          have h2 := countF_set (l := l.toList) (i := i) (by simpa using hlt) (by simpa using h1)
          omega
        · rw [Array.getD_eq_getD_getElem?, Array.getElem?_eq_none hge] at h0
          cases h0
    exact ⟨hr, fin l a w hI hr⟩
  | succ fuel ih =>
    intro l a w hc hI
    refine ⟨fun hr => fin l a w hI hr, fun i hi => ?_⟩
    have h0 := (mem_ready.1 hi).1
    refine wpOp_mono (fun a' w' h => ih _ a' w' ?_ h) (step l a w i hI hi)
    rcases Nat.lt_or_ge i l.size with hlt | hge
    · have h1 : l[i] = false := by simpa [hlt] using h0
      have h2 := countF_set (l := l.toList) (i := i) (by simpa using hlt) (by simpa using h1)
      rw [Array.toList_setIfInBounds]
      omega
    · rw [Array.getD_eq_getD_getElem?, Array.getElem?_eq_none hge] at h0
      cases h0
theorem wpOp_at {P : Program} {ops : Array Oper} {Q : Exit → Act → World → Prop} {K : Act → World → Prop} {a : Act} {w : World} {i : Nat} {o : Oper} (hi : ops[i]? = some o) (hg : o.guard = none) (h : o.wp P a w K Q) : wpOp P ops Q i K a w := by
  unfold wpOp
  rw [hi]
  simp only [Region.wanted, hg]
  exact .inl h
theorem bitT {l : Array Bool} {k : Nat} (h : l.getD k false = true) : l[k]? = some true := by
  rw [Array.getD_eq_getD_getElem?] at h
  cases e : l[k]? with
  | none => rw [e] at h; cases h
  | some b => rw [e] at h; simpa using h
theorem bitF {l : Array Bool} {k : Nat} (h : l.getD k true = false) : l[k]? = some false := by
  rw [Array.getD_eq_getD_getElem?] at h
  cases e : l[k]? with
  | none => rw [e] at h; cases h
  | some b => rw [e] at h; simpa using h
/-- What is left when nothing more can come up: all has. -/
theorem all_up {ops : Array Oper} {l : Array Bool} (hs : l.size = ops.size) (hr : Region.ready .any ops l = []) {i : Nat} {o : Oper} (ho : ops[i]? = some o) (hd : ∀ e ∈ o.after, Region.binds .any e = true → l[e.on]? = some true) : l[i]? = some true := by
  rcases e : l[i]? with _ | b
  · rw [Array.getElem?_eq_none_iff] at e
    have := (Array.getElem?_eq_some_iff.1 ho).1
    omega
  · cases b
    · have hm : i ∈ ([] : List Nat) := by
        rw [← hr]
        refine mem_ready.2 ⟨by rw [Array.getD_eq_getD_getElem?, e]; rfl, o, ho, fun d h1 h2 => ?_⟩
        rw [Array.getD_eq_getD_getElem?, hd d h1 h2]; rfl
      cases hm
    · rfl

abbrev o3 (v : Value) : Array Value := #[.slice none 0 0, .slice none 0 0, v]
/-- The chosen ones lie in memory of the call's own. -/
def IsP (n0 : Nat) (ds : List D) (u : Value) (w : World) : Prop := ∃ pa pc, u = .slice pa ds.length pc ∧ RowD w n0 (.slice pa ds.length pc) ds
theorem IsP.below {n0 : Nat} {ds : List D} {u : Value} {w w' : World} (h : IsP n0 ds u w) (k : Below w.heap.size w w') : IsP n0 ds u w' := by
  obtain ⟨pa, pc, rfl, h⟩ := h
  exact ⟨pa, pc, rfl, row_below h k (Nat.le_refl _)⟩
theorem IsP.set {n0 Z : Nat} {ds : List D} {u x v0 v1 v2 : Value} {w : World} (h : IsP n0 ds u w) (hZ : Blk w Z (o3 x) 82) : IsP n0 ds u (((w.setCell ⟨Z, 0, none⟩ v0).setCell ⟨Z, 1, none⟩ v1).setCell ⟨Z, 2, none⟩ v2) := by
  obtain ⟨pa, pc, rfl, h⟩ := h
  refine ⟨pa, pc, rfl, ?_⟩
  have hne : (Value.slice pa ds.length pc).ownBlock ≠ some Z := fun e => by
    rcases h.2 with ⟨e1, _⟩ | ⟨g, cap, cur, e1, _, hg, _⟩
    · rw [e1] at e; simp [Value.ownBlock] at e
    · rw [e1] at e
      simp [Value.ownBlock] at e
      subst e
      unfold Blk at hZ
      rw [hg] at hZ
      simp at hZ
  exact ((((Only.refl w (fun b => b = Z)).set (A := Z) rfl _).set (A := Z) rfl _).set (A := Z) rfl _).row h (fun j hj e => by subst e; exact hne hj)
/-- What is known of each operation's value, once it has come up. -/
def KP (S : Nat) (n0 : Nat) (oa : Option Addr) (oc : Nat) (os : List D) (f1 f2 : Value) (p1 p2 : D → Bool) (b12 b13 : Bool) (j : Nat) (v : Value) (w : World) : Prop :=
  match j with
  | 0 => v = .pointer (some ⟨S, 2, none⟩)
  | 1 => v = .slice oa os.length oc
  | 2 => v = f1
  | 3 => IsP n0 (os.filter p1) v w
  | 4 => ∃ u, v = .agg (o3 u) ∧ IsP n0 (os.filter p1) u w
  | 5 => v = .pointer (some ⟨S, 2, none⟩)
  | 6 => v = .slice oa os.length oc
  | 7 => v = f2
  | 8 => IsP n0 (os.filter p2) v w
  | 9 => ∃ u, v = .agg (o3 u) ∧ IsP n0 (os.filter p2) u w
  | 10 => ∃ D, v = .pointer (some ⟨D, 0, none⟩) ∧ n0 ≤ D ∧ ∃ u, Blk w D (o3 u) 82 ∧ (b12 = true → IsP n0 (os.filter p1) u w)
  | 11 => ∃ D, v = .pointer (some ⟨D, 0, none⟩) ∧ n0 ≤ D ∧ ∃ u, Blk w D (o3 u) 82 ∧ (b13 = true → IsP n0 (os.filter p2) u w)
  | _ => True
theorem KP.below {S n0 : Nat} {oa : Option Addr} {oc : Nat} {os : List D} {f1 f2 : Value} {p1 p2 : D → Bool} {b12 b13 : Bool} {j : Nat} {v : Value} {w w' : World} (h : KP S n0 oa oc os f1 f2 p1 p2 b12 b13 j v w) (k : Below w.heap.size w w') : KP S n0 oa oc os f1 f2 p1 p2 b12 b13 j v w' := by
  match j, h with
  | 0, h => exact h
  | 1, h => exact h
  | 2, h => exact h
  | 3, h => exact IsP.below h k
  | 4, ⟨u, h1, h2⟩ => exact ⟨u, h1, h2.below k⟩
  | 5, h => exact h
  | 6, h => exact h
  | 7, h => exact h
  | 8, h => exact IsP.below h k
  | 9, ⟨u, h1, h2⟩ => exact ⟨u, h1, h2.below k⟩
  | 10, ⟨D, h1, h2, u, h3, h4⟩ => exact ⟨D, h1, h2, u, h3.below k h3.lt, fun e => (h4 e).below k⟩
  | 11, ⟨D, h1, h2, u, h3, h4⟩ => exact ⟨D, h1, h2, u, h3.below k h3.lt, fun e => (h4 e).below k⟩
  | _ + 12, _ => trivial
/-- Where an operation's value lies. -/
def dstP (j : Nat) : Nat := if j < 10 then j + 12 else j - 2
/-- What holds whatever has come up. -/
structure InvP (S : Nat) (n0 : Nat) (oa : Option Addr) (oc : Nat) (os : List D) (f1 f2 : Value) (p1 p2 : D → Bool) (w0 : World) (T0 : Array Value) (l : Array Bool) (a : Act) (w : World) : Prop where
  ls : l.size = 14
  ts : a.tmps.size = 42
  df : a.defers = []
  fr : ∀ k, (k < 8 ∨ k = 10 ∨ k = 11 ∨ 22 ≤ k) → a.tmps[k]? = T0[k]?
  kv : ∀ j, j < 12 → l[j]? = some true → ∃ v, a.tmps[dstP j]? = some v ∧ KP S n0 oa oc os f1 f2 p1 p2 (l.getD 12 false) (l.getD 13 false) j v w
  ne : ∀ D1 D2, l[10]? = some true → l[11]? = some true → a.tmps[8]? = some (.pointer (some ⟨D1, 0, none⟩)) → a.tmps[9]? = some (.pointer (some ⟨D2, 0, none⟩)) → D1 ≠ D2
  be : Below w0.heap.size w0 w
  oA : l[12]? = some true → l[10]? = some true
  oB : l[13]? = some true → l[11]? = some true
theorem InvP.step {S n0 : Nat} {oa : Option Addr} {oc : Nat} {os : List D} {f1 f2 : Value} {p1 p2 : D → Bool} {w0 : World} {T0 : Array Value} {l : Array Bool} {a : Act} {w w' : World} {i d : Nat} {v : Value} (h : InvP S n0 oa oc os f1 f2 p1 p2 w0 T0 l a w) (hi : i < 12) (hd : d = dstP i) (hK : ∀ b12 b13, (b12 = true → l[i]? ≠ some false ∨ i ≠ 10) → (b13 = true → l[i]? ≠ some false ∨ i ≠ 11) → KP S n0 oa oc os f1 f2 p1 p2 b12 b13 i v w') (h12 : i = 10 → l[12]? = some false) (h13 : i = 11 → l[13]? = some false) (hB : Below w.heap.size w w') (hf : i = 10 ∨ i = 11 → v = .pointer (some ⟨w.heap.size, 0, none⟩)) :
    InvP S n0 oa oc os f1 f2 p1 p2 w0 T0 (l.setIfInBounds i true) { tmps := a.tmps.setIfInBounds d v, defers := a.defers } w' := by
  subst hd
  have hls := h.ls
  have hts := h.ts
  have hd3 : 8 ≤ dstP i ∧ dstP i ≤ 21 ∧ dstP i ≠ 10 ∧ dstP i ≠ 11 := by unfold dstP; split <;> omega
  have g12 : (l.setIfInBounds i true).getD 12 false = l.getD 12 false := by
    rw [Array.getD_eq_getD_getElem?, Array.getD_eq_getD_getElem?, Array.getElem?_setIfInBounds_ne (by omega)]
  have g13 : (l.setIfInBounds i true).getD 13 false = l.getD 13 false := by
    rw [Array.getD_eq_getD_getElem?, Array.getD_eq_getD_getElem?, Array.getElem?_setIfInBounds_ne (by omega)]
  refine ⟨by simpa using hls, by simpa using hts, h.df, fun k hk => ?_, fun j hj hl => ?_, fun D1 D2 l1 l2 t1 t2 => ?_, h.be.trans (hB.mono h.be.size), fun e => ?_, fun e => ?_⟩
  · have hne : dstP i ≠ k := by omega
    rw [Array.getElem?_setIfInBounds_ne hne]
    exact h.fr k hk
  · rw [g12, g13]
    by_cases hji : j = i
    · subst hji
      refine ⟨v, by rw [Array.getElem?_setIfInBounds_self_of_lt (by omega)], hK _ _ (fun e => ?_) (fun e => ?_)⟩
      · by_cases h10 : j = 10
        · have := h12 h10
          rw [Array.getD_eq_getD_getElem?, this] at e
          cases e
        · exact .inr h10
      · by_cases h11 : j = 11
        · have := h13 h11
          rw [Array.getD_eq_getD_getElem?, this] at e
          cases e
        · exact .inr h11
    · rw [Array.getElem?_setIfInBounds_ne (fun e => hji e.symm)] at hl
      obtain ⟨u, h1, h2⟩ := h.kv j hj hl
      refine ⟨u, ?_, h2.below hB⟩
      rw [Array.getElem?_setIfInBounds_ne (by unfold dstP; split <;> split <;> omega)]
      exact h1
  · by_cases i10 : i = 10
    · subst i10
      have hv := hf (.inl rfl)
      have e8 : dstP 10 = 8 := rfl
      rw [e8] at t1 t2
      rw [Array.getElem?_setIfInBounds_self_of_lt (by omega)] at t1
      rw [Array.getElem?_setIfInBounds_ne (by omega)] at t2 l2
      obtain ⟨u, h1, D, h2, _, x, hb, _⟩ := h.kv 11 (by omega) l2
      have e9 : dstP 11 = 9 := rfl
      rw [e9, t2] at h1
      injection h1 with h1
      rw [← h1] at h2
      injection t1 with t1
      rw [hv] at t1
      simp at t1 h2
      have := hb.lt
      omega
    · by_cases i11 : i = 11
      · subst i11
        have hv := hf (.inr rfl)
        have e9 : dstP 11 = 9 := rfl
        rw [e9] at t1 t2
        rw [Array.getElem?_setIfInBounds_self_of_lt (by omega)] at t2
        rw [Array.getElem?_setIfInBounds_ne (by omega)] at t1 l1
        obtain ⟨u, h1, D, h2, _, x, hb, _⟩ := h.kv 10 (by omega) l1
        have e8 : dstP 10 = 8 := rfl
        rw [e8, t1] at h1
        injection h1 with h1
        rw [← h1] at h2
        injection t2 with t2
        rw [hv] at t2
        simp at t2 h2
        have := hb.lt
        omega
      · rw [Array.getElem?_setIfInBounds_ne (by unfold dstP; split <;> omega)] at t1 t2
        rw [Array.getElem?_setIfInBounds_ne (by omega)] at l1 l2
        exact h.ne D1 D2 l1 l2 t1 t2
  · rw [Array.getElem?_setIfInBounds_ne (by omega)] at e
    by_cases i10 : i = 10
    · subst i10; rw [Array.getElem?_setIfInBounds_self_of_lt (by omega)]
    · rw [Array.getElem?_setIfInBounds_ne i10]; exact h.oA e
  · rw [Array.getElem?_setIfInBounds_ne (by omega)] at e
    by_cases i11 : i = 11
    · subst i11; rw [Array.getElem?_setIfInBounds_self_of_lt (by omega)]
    · rw [Array.getElem?_setIfInBounds_ne i11]; exact h.oB e

theorem InvP.store12 {S n0 : Nat} {oa : Option Addr} {oc : Nat} {os : List D} {f1 f2 : Value} {p1 p2 : D → Bool} {w0 : World} {T0 : Array Value} {l : Array Bool} {a : Act} {w : World} {D1 D2 : Nat} {u : Value} (h : InvP S n0 oa oc os f1 f2 p1 p2 w0 T0 l a w) (l1 : l[10]? = some true) (l2 : l[11]? = some true) (t1 : a.tmps[8]? = some (.pointer (some ⟨D1, 0, none⟩))) (t2 : a.tmps[9]? = some (.pointer (some ⟨D2, 0, none⟩))) (hu : IsP n0 (os.filter p1) u w) (hn : w0.heap.size ≤ n0) :
    InvP S n0 oa oc os f1 f2 p1 p2 w0 T0 (l.setIfInBounds 12 true) a (((w.setCell ⟨D1, 0, none⟩ (.slice none 0 0)).setCell ⟨D1, 1, none⟩ (.slice none 0 0)).setCell ⟨D1, 2, none⟩ u) := by
  have hls := h.ls
  have hne := h.ne D1 D2 l1 l2 t1 t2
  have e8 : dstP 10 = 8 := rfl
  have e9 : dstP 11 = 9 := rfl
  obtain ⟨u1, h1, E1, h2, hE1, x1, hb1, k1⟩ := h.kv 10 (by omega) l1
  obtain ⟨u2, h3, E2, h4, hE2, x2, hb2, k2⟩ := h.kv 11 (by omega) l2
  rw [e8, t1] at h1
  rw [e9, t2] at h3
  injection h1 with h1
  injection h3 with h3
  rw [← h1] at h2
  rw [← h3] at h4
  simp at h2 h4
  subst h2 h4
  have g : ∀ {v} {ds : List D}, IsP n0 ds v w → IsP n0 ds v (((w.setCell ⟨D1, 0, none⟩ (.slice none 0 0)).setCell ⟨D1, 1, none⟩ (.slice none 0 0)).setCell ⟨D1, 2, none⟩ u) := fun hv => hv.set hb1
  have hN : Blk (((w.setCell ⟨D1, 0, none⟩ (.slice none 0 0)).setCell ⟨D1, 1, none⟩ (.slice none 0 0)).setCell ⟨D1, 2, none⟩ u) D1 (o3 u) 82 := by have := ((hb1.set 0 (.slice none 0 0)).set 1 (.slice none 0 0)).set 2 u; simpa using this
  have hO : Blk (((w.setCell ⟨D1, 0, none⟩ (.slice none 0 0)).setCell ⟨D1, 1, none⟩ (.slice none 0 0)).setCell ⟨D1, 2, none⟩ u) D2 (o3 x2) 82 := ((hb2.other (a := ⟨D1, 0, none⟩) (by simp; omega) _).other (a := ⟨D1, 1, none⟩) (by simp; omega) _).other (a := ⟨D1, 2, none⟩) (by simp; omega) _
  have gO : (l.setIfInBounds 12 true).getD 13 false = l.getD 13 false := by
    rw [Array.getD_eq_getD_getElem?, Array.getD_eq_getD_getElem?, Array.getElem?_setIfInBounds_ne (by omega)]
  refine ⟨by simpa using hls, h.ts, h.df, h.fr, fun j hj hl => ?_, fun E1 E2 m1 m2 => ?_, ((h.be.setCell (p := ⟨D1, 0, none⟩) (Nat.le_trans hn hE1) _).setCell (p := ⟨D1, 1, none⟩) (Nat.le_trans hn hE1) _).setCell (p := ⟨D1, 2, none⟩) (Nat.le_trans hn hE1) _, fun _ => ?_, fun _ => ?_⟩
  · rw [Array.getElem?_setIfInBounds_ne (by omega)] at hl
    obtain ⟨v, t, kv⟩ := h.kv j hj hl
    refine ⟨v, t, ?_⟩
    match j, hj, t, kv with
    | 0, _, _, kv => exact kv
    | 1, _, _, kv => exact kv
    | 2, _, _, kv => exact kv
    | 3, _, _, kv => exact g kv
    | 4, _, _, ⟨y, k1, k2⟩ => exact ⟨y, k1, g k2⟩
    | 5, _, _, kv => exact kv
    | 6, _, _, kv => exact kv
    | 7, _, _, kv => exact kv
    | 8, _, _, kv => exact g kv
    | 9, _, _, ⟨y, k1, k2⟩ => exact ⟨y, k1, g k2⟩
    | 10, _, t, _ =>
      rw [e8, t1] at t
      injection t with t
      exact ⟨D1, t.symm, hE1, u, hN, fun _ => g hu⟩
    | 11, _, t, _ =>
      rw [e9, t2] at t
      injection t with t
      exact ⟨D2, t.symm, hE2, x2, hO, fun e => g (k2 (by rw [gO] at e; exact e))⟩
  · rw [Array.getElem?_setIfInBounds_ne (by omega)] at m1 m2
    exact h.ne E1 E2 m1 m2
  · rw [Array.getElem?_setIfInBounds_ne (by omega)]; exact l1
  · rw [Array.getElem?_setIfInBounds_ne (by omega)]; exact l2

theorem InvP.store13 {S n0 : Nat} {oa : Option Addr} {oc : Nat} {os : List D} {f1 f2 : Value} {p1 p2 : D → Bool} {w0 : World} {T0 : Array Value} {l : Array Bool} {a : Act} {w : World} {D1 D2 : Nat} {u : Value} (h : InvP S n0 oa oc os f1 f2 p1 p2 w0 T0 l a w) (l1 : l[10]? = some true) (l2 : l[11]? = some true) (t1 : a.tmps[8]? = some (.pointer (some ⟨D1, 0, none⟩))) (t2 : a.tmps[9]? = some (.pointer (some ⟨D2, 0, none⟩))) (hu : IsP n0 (os.filter p2) u w) (hn : w0.heap.size ≤ n0) :
    InvP S n0 oa oc os f1 f2 p1 p2 w0 T0 (l.setIfInBounds 13 true) a (((w.setCell ⟨D2, 0, none⟩ (.slice none 0 0)).setCell ⟨D2, 1, none⟩ (.slice none 0 0)).setCell ⟨D2, 2, none⟩ u) := by
  have hls := h.ls
  have hne := h.ne D1 D2 l1 l2 t1 t2
  have e8 : dstP 10 = 8 := rfl
  have e9 : dstP 11 = 9 := rfl
  obtain ⟨u1, h1, E1, h2, hE1, x1, hb1, k1⟩ := h.kv 10 (by omega) l1
  obtain ⟨u2, h3, E2, h4, hE2, x2, hb2, k2⟩ := h.kv 11 (by omega) l2
  rw [e8, t1] at h1
  rw [e9, t2] at h3
  injection h1 with h1
  injection h3 with h3
  rw [← h1] at h2
  rw [← h3] at h4
  simp at h2 h4
  subst h2 h4
  have g : ∀ {v} {ds : List D}, IsP n0 ds v w → IsP n0 ds v (((w.setCell ⟨D2, 0, none⟩ (.slice none 0 0)).setCell ⟨D2, 1, none⟩ (.slice none 0 0)).setCell ⟨D2, 2, none⟩ u) := fun hv => hv.set hb2
  have hN : Blk (((w.setCell ⟨D2, 0, none⟩ (.slice none 0 0)).setCell ⟨D2, 1, none⟩ (.slice none 0 0)).setCell ⟨D2, 2, none⟩ u) D2 (o3 u) 82 := by have := ((hb2.set 0 (.slice none 0 0)).set 1 (.slice none 0 0)).set 2 u; simpa using this
  have hO : Blk (((w.setCell ⟨D2, 0, none⟩ (.slice none 0 0)).setCell ⟨D2, 1, none⟩ (.slice none 0 0)).setCell ⟨D2, 2, none⟩ u) D1 (o3 x1) 82 := ((hb1.other (a := ⟨D2, 0, none⟩) (by simp; omega) _).other (a := ⟨D2, 1, none⟩) (by simp; omega) _).other (a := ⟨D2, 2, none⟩) (by simp; omega) _
  have gO : (l.setIfInBounds 13 true).getD 12 false = l.getD 12 false := by
    rw [Array.getD_eq_getD_getElem?, Array.getD_eq_getD_getElem?, Array.getElem?_setIfInBounds_ne (by omega)]
  refine ⟨by simpa using hls, h.ts, h.df, h.fr, fun j hj hl => ?_, fun E1 E2 m1 m2 => ?_, ((h.be.setCell (p := ⟨D2, 0, none⟩) (Nat.le_trans hn hE2) _).setCell (p := ⟨D2, 1, none⟩) (Nat.le_trans hn hE2) _).setCell (p := ⟨D2, 2, none⟩) (Nat.le_trans hn hE2) _, fun _ => ?_, fun _ => ?_⟩
  · rw [Array.getElem?_setIfInBounds_ne (by omega)] at hl
    obtain ⟨v, t, kv⟩ := h.kv j hj hl
    refine ⟨v, t, ?_⟩
    match j, hj, t, kv with
    | 0, _, _, kv => exact kv
    | 1, _, _, kv => exact kv
    | 2, _, _, kv => exact kv
    | 3, _, _, kv => exact g kv
    | 4, _, _, ⟨y, k1, k2⟩ => exact ⟨y, k1, g k2⟩
    | 5, _, _, kv => exact kv
    | 6, _, _, kv => exact kv
    | 7, _, _, kv => exact kv
    | 8, _, _, kv => exact g kv
    | 9, _, _, ⟨y, k1, k2⟩ => exact ⟨y, k1, g k2⟩
    | 10, _, t, _ =>
      rw [e8, t1] at t
      injection t with t
      exact ⟨D1, t.symm, hE1, x1, hO, fun e => g (k1 (by rw [gO] at e; exact e))⟩
    | 11, _, t, _ =>
      rw [e9, t2] at t
      injection t with t
      exact ⟨D2, t.symm, hE2, u, hN, fun _ => g hu⟩
  · rw [Array.getElem?_setIfInBounds_ne (by omega)] at m1 m2
    exact h.ne E1 E2 m1 m2
  · rw [Array.getElem?_setIfInBounds_ne (by omega)]; exact l1
  · rw [Array.getElem?_setIfInBounds_ne (by omega)]; exact l2
end Go.Proofs.YtpjidogilofppaaGreat

