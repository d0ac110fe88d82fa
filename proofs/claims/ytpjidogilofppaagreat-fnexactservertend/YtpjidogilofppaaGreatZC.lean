/- 2 texts in one: WSize, WCopy. -/
import Derived.Test.YtpjidogilofppaaGreatZN
import Derived.Test.YtpjidogilofppaaGreatZR
import Derived.Test.YtpjidogilofppaaGreatZD
/- Words that came in: their size, and their copy. -/
namespace Go.Proofs.YtpjidogilofppaaGreat
open Go.ChangeShapes Go.WideShapes Go.ChangeAt Go.RowKit

set_option maxHeartbeats 2000000 in
theorem szVersL_any (a : Option Addr) (cap : Nat) (vs : List V) (left : Int) (w : World) (hn : vs.length ≤ maxLen) (l0 : 0 ≤ left) (l1 : left ≤ 1048576) (h : VersI w a vs) :
    Calls Tryz.prog 40 #[.slice a vs.length cap, .int .i64 left] w fun e w' => e = .returned (.int .i64 (if left < (vs.length : Int) + tot vs then -1 else left - vs.length - tot vs)) ∧ Below w.heap.size w w' := by
  unfold maxLen at hn
  by_cases hbig : left < (vs.length : Int)
  · rw [if_pos (by omega)]
    have h2 : left - vs.length < 0 := by omega
    go_enter Tryz.func40, Tryz.ntmps40
    go_wp2
    go_ret
    exact ⟨rfl, Below.refl _ _⟩
  obtain ⟨r, hr⟩ : ∃ r : Int, r = (if left < (vs.length : Int) + (tot vs : Int) then (-1 : Int) else left - (vs.length : Int) - (tot vs : Int)) := ⟨_, rfl⟩
  rw [← hr]
  have HR : Hid _ := hr
  have h2 : (0 : Int) ≤ left - vs.length := by omega
  clear hr
  go_enter Tryz.func40, Tryz.ntmps40
  go_wp2
  go_loopw [1, 5] (fun l i wr => ∃ k : Nat, k ≤ vs.length ∧ i = .int .i64 k ∧ l = .int .i64 (left - vs.length - (tot (vs.take k) : Int)) ∧ (0 : Int) ≤ left - vs.length - (tot (vs.take k) : Int) ∧ Below w.heap.size w wr) (fun _ i _ => vs.length - (intOf i).toNat)
  case atStart => exact ⟨0, Nat.zero_le _, rfl, by simp [tot], by simp [tot]; omega, Below.refl _ _⟩
  case round =>
    obtain ⟨k, hk, rfl, rfl, h0, hB⟩ := hrel
    by_cases hlt : k < vs.length
    · rcases h.below hB with hx | ⟨b, o, rfl, hbb, hx⟩
      · rw [hx] at hlt; simp at hlt
      · obtain ⟨da, dc, c0, c1, c2, c3, c4, c5, c6, hd, hl⟩ := hx k hlt
        have ht := tot_take hlt
        have htl := tot_le vs (k + 1)
        have hz := fun w => szVerL_any vs[k].k vs[k].t vs[k].s vs[k].val vs[k].cl vs[k].ca (left - vs.length - (tot (vs.take k) : Int)) da vs[k].ds.length dc w hl h0 (by omega)
        have HT : Hid (tot (vs.take (k + 1)) = tot (vs.take k) + vs[k].ds.length) := ht
        rw [HT.out] at htl
        clear ht hd hx
        generalize vs[k] = v at *
        generalize tot (vs.take k) = tk at *
        by_cases hs : (left - vs.length - (tk : Int)) < (v.ds.length : Int)
        · have HN : Hid (r = -1) := by show r = -1; rw [HR.out, if_pos (by omega)]
          have hneg : (-1 : Int) < 0 := by omega
          simp only [if_pos hs] at hz
          go_wp2_with fail
          refine (hz _).mono ?_
          rintro e w2 ⟨rfl, hb2⟩
          clear hz
          go_wp2_with fail
          go_ret
          exact ⟨by rw [HN.out]; rfl, hB.trans (hb2.mono hB.size)⟩
        · simp only [if_neg hs] at hz
          have hpos : (0 : Int) ≤ left - vs.length - (tk : Int) - (v.ds.length : Int) := by omega
          have HE : Hid (left - vs.length - (tk : Int) - (v.ds.length : Int) = left - vs.length - ((tk + v.ds.length : Nat) : Int)) := by show _ = _; omega
          go_wp2_with fail
          refine (hz _).mono ?_
          rintro e w2 ⟨rfl, hb2⟩
          clear hz
          go_wp2_with fail
          go_roundw
          case rel => exact ⟨k + 1, by omega, by go_num, by rw [HT.out, ← HE.out], by rw [HT.out]; omega, hB.trans (hb2.mono hB.size)⟩
          case measure => simp [intOf]; omega
    · have hk2 : k = vs.length := by omega
      subst hk2
      rw [List.take_length] at h0 ⊢
      have HN : Hid (r = left - vs.length - (tot vs : Int)) := by show r = _; rw [HR.out, if_neg (by omega)]
      go_wp2
      go_ret
      exact ⟨by rw [HN.out]; rfl, hB⟩


/-- A word that came in. -/
structure InI (W : World) (x : Wd) (a : Wa) : Prop where
  d : Deps W a.da x.ds
  v : VersI W a.va x.vs
  w : VersI W a.wa x.ws
  o : Deps W a.oa x.os
  dl : x.ds.length ≤ maxLen
  vl : x.vs.length ≤ maxLen
  wl : x.ws.length ≤ maxLen
  ol : x.os.length ≤ maxLen
theorem InI.below {w w' : World} {x : Wd} {a : Wa} (h : InI w x a) (k : Below w.heap.size w w') : InI w' x a := ⟨h.d.below k, h.v.below k, h.w.below k, h.o.below k, h.dl, h.vl, h.wl, h.ol⟩
/-- How much there is of a word. -/
def sizeW (x : Wd) : Int := (x.ds.length : Int) + ((x.vs.length : Int) + tot x.vs) + ((x.ws.length : Int) + tot x.ws) + x.os.length
theorem if_sum {l n : Int} : ∃ r : Int, (if l < n then (-1 : Int) else l - n) = r ∧ (r < 0 ∧ l < n ∨ r = l - n ∧ 0 ≤ r) := by
  by_cases h : l < n
  · exact ⟨-1, if_pos h, .inl ⟨by omega, h⟩⟩
  · exact ⟨l - n, if_neg h, .inr ⟨rfl, by omega⟩⟩
theorem if_sum2 {l n m : Int} : ∃ r : Int, (if l < n + m then (-1 : Int) else l - n - m) = r ∧ (r < 0 ∧ l < n + m ∨ r = l - n - m ∧ 0 ≤ r) := by
  by_cases h : l < n + m
  · exact ⟨-1, if_pos h, .inl ⟨by omega, h⟩⟩
  · exact ⟨l - n - m, if_neg h, .inr ⟨rfl, by omega⟩⟩

set_option maxHeartbeats 1000000 in
theorem szWord_any (x : Wd) (a : Wa) (w : World) (h : InI w x a) : Calls Tryz.prog 21 #[wordV x a, .int .i64 1048576] w fun e w' => ∃ r : Int, e = .returned (.int .i64 r) ∧ (r < 0 ∨ 0 ≤ r ∧ sizeW x ≤ 1048576) ∧ Below w.heap.size w w' := by
  have b0 : Below w.heap.size w (w.alloc (.cells #[.int .i64 x.kind, .int .i64 x.fr, .int .i64 x.to, .int .i64 x.call, .int .i64 x.key, .int .i64 x.t, .int .i64 x.s, .int .i64 x.val, .bool x.yes, .slice a.da x.ds.length a.dc, .int .i64 x.slot, .int .i64 x.ep, .slice a.va x.vs.length a.vc, .slice a.wa x.ws.length a.wc, .slice a.oa x.os.length a.oc] 49)) := (Below.refl _ _).alloc (Nat.le_refl _) _
  have A0 := Blk.new w #[.int .i64 x.kind, .int .i64 x.fr, .int .i64 x.to, .int .i64 x.call, .int .i64 x.key, .int .i64 x.t, .int .i64 x.s, .int .i64 x.val, .bool x.yes, .slice a.da x.ds.length a.dc, .int .i64 x.slot, .int .i64 x.ep, .slice a.va x.vs.length a.vc, .slice a.wa x.ws.length a.wc, .slice a.oa x.os.length a.oc] 49
  have I0 := h.below b0
  obtain ⟨r1, e1, c1⟩ := if_sum (l := 1048576) (n := (x.ds.length : Int))
  have s1 := fun W => szDeps_any a.da x.ds.length a.dc 1048576 W h.dl (by omega) (by omega)
  rw [e1] at s1
  have HS : Hid (sizeW x = (x.ds.length : Int) + ((x.vs.length : Int) + tot x.vs) + ((x.ws.length : Int) + tot x.ws) + x.os.length) := rfl
  generalize sizeW x = sz at *
  have vl := h.vl
  have wl := h.wl
  have ol := h.ol
  clear h e1
  go_enter Tryz.func21, Tryz.ntmps21
  go_wp2_with fail
  generalize w.alloc (.cells #[.int .i64 x.kind, .int .i64 x.fr, .int .i64 x.to, .int .i64 x.call, .int .i64 x.key, .int .i64 x.t, .int .i64 x.s, .int .i64 x.val, .bool x.yes, .slice a.da x.ds.length a.dc, .int .i64 x.slot, .int .i64 x.ep, .slice a.va x.vs.length a.vc, .slice a.wa x.ws.length a.wc, .slice a.oa x.os.length a.oc] 49) = w0 at *
  refine (s1 _).mono ?_
  rintro e w1 ⟨rfl, rfl⟩
  clear s1
  rcases c1 with ⟨c1, _⟩ | ⟨c1, n1⟩
  · have d1 : decide (r1 < 0) = true := by simpa using c1
    have HN : Hid (r1 < 0) := c1
    clear c1 A0 I0 HS
    go_wp2_with fail
    go_ret
    exact ⟨-1, rfl, .inl (by omega), b0⟩
  obtain ⟨r2, e2, c2⟩ := if_sum2 (l := r1) (n := (x.vs.length : Int)) (m := (tot x.vs : Int))
  have s2 := fun W h => szVersL_any a.va a.vc x.vs r1 W vl n1 (by omega) h
  rw [e2] at s2
  have d1 : decide (r1 < 0) = false := by simp; omega
  obtain ⟨q1, g1⟩ := A0.rules
  have H1 : Hid (r1 = 1048576 - (x.ds.length : Int)) := c1
  clear c1 e2
  go_wp2_with fail
  clear q1 g1 d1
  refine (s2 _ I0.v).mono ?_
  rintro e w2 ⟨rfl, hb2⟩
  have A2 := A0.below hb2 A0.lt
  have I2 := I0.below hb2
  have B2 : Below w.heap.size w w2 := b0.trans (hb2.mono b0.size)
  clear A0 I0 b0 hb2 s2
  rcases c2 with ⟨c2, _⟩ | ⟨c2, n2⟩
  · have d1 : decide (r2 < 0) = true := by simpa using c2
    clear A2 I2 HS c2
    go_wp2_with fail
    go_ret
    exact ⟨-1, rfl, .inl (by omega), B2⟩
  obtain ⟨r3, e3, c3⟩ := if_sum2 (l := r2) (n := (x.ws.length : Int)) (m := (tot x.ws : Int))
  have s3 := fun W h => szVersL_any a.wa a.wc x.ws r2 W wl n2 (by have := H1.out; omega) h
  rw [e3] at s3
  have d1 : decide (r2 < 0) = false := by simp; omega
  obtain ⟨q1, g1⟩ := A2.rules
  have H2 : Hid (r2 = r1 - (x.vs.length : Int) - (tot x.vs : Int)) := c2
  clear c2 e3
  go_wp2_with fail
  clear q1 g1 d1
  refine (s3 _ I2.w).mono ?_
  rintro e w3 ⟨rfl, hb3⟩
  have A3 := A2.below hb3 A2.lt
  have B3 : Below w.heap.size w w3 := B2.trans (hb3.mono B2.size)
  clear A2 I2 B2 hb3 s3
  rcases c3 with ⟨c3, _⟩ | ⟨c3, n3⟩
  · have d1 : decide (r3 < 0) = true := by simpa using c3
    clear A3 HS c3
    go_wp2_with fail
    go_ret
    exact ⟨-1, rfl, .inl (by omega), B3⟩
  obtain ⟨r4, e4, c4⟩ := if_sum (l := r3) (n := (x.os.length : Int))
  have s4 := fun W => szDeps_any a.oa x.os.length a.oc r3 W ol n3 (by have := H1.out; have := H2.out; omega)
  rw [e4] at s4
  have d1 : decide (r3 < 0) = false := by simp; omega
  obtain ⟨q1, g1⟩ := A3.rules
  have H3 : Hid (r3 = r2 - (x.ws.length : Int) - (tot x.ws : Int)) := c3
  clear c3 e4
  go_wp2_with fail
  clear q1 g1 d1 A3
  refine (s4 _).mono ?_
  rintro e w4 ⟨rfl, rfl⟩
  clear s4
  rcases c4 with ⟨c4, _⟩ | ⟨c4, n4⟩
  · have d1 : decide (r4 < 0) = true := by simpa using c4
    clear HS c4
    go_wp2_with fail
    go_ret
    exact ⟨-1, rfl, .inl (by omega), B3⟩
  have d1 : decide (r4 < 0) = false := by simp; omega
  have HF : Hid (sz ≤ 1048576) := by
    have := H1.out; have := H2.out; have := H3.out; have := HS.out
    show _ ≤ _
    omega
  clear HS H1 H2 H3 c4
  go_wp2_with fail
  go_ret
  exact ⟨r4, rfl, .inr ⟨n4, HF.out⟩, B3⟩
end Go.Proofs.YtpjidogilofppaaGreat

/- Words are copied, and held against each other. -/
namespace Go.Proofs.YtpjidogilofppaaGreat
open Go.ChangeShapes Go.WideShapes Go.ChangeAt Go.RowKit

theorem rowSetB {w : World} {base Z j : Nat} {v u : Value} {xs : List D} (h : RowD w base v xs) (hZ : Z < base) : RowD (w.setCell ⟨Z, j, none⟩ u) base v xs := row_set h (fun i hi => by have := (h.lt i hi).1; omega) u
theorem OwnV.setB {w : World} {base Z j : Nat} {v u : Value} {ys : List XV} (h : OwnV w base v ys) (hZ : Z < base) : OwnV (w.setCell ⟨Z, j, none⟩ u) base v ys :=
  ⟨row_set h.row (fun j hj => by have := (h.row.lt j hj).1; omega) u, fun y hy => ⟨row_set (h.deps y hy).1 (fun j hj => by have := ((h.deps y hy).1.lt j hj).1; omega) u, (h.deps y hy).2⟩, h.apart⟩
theorem OwnV.at' {w : World} {base n cap : Nat} {a : Option Addr} {ys : List XV} {vs : List V} (h : OwnV w base (.slice a n cap) ys) (hy : ys.map XV.v = vs) : Vers w a vs := by
  obtain ⟨a', c, he, hD⟩ := h.asD hy
  simp at he
  obtain ⟨rfl, _⟩ := he
  exact hD
theorem Blk.fill15 {w : World} {Z : Nat} {x0 x1 x2 x3 x4 x5 x6 x7 x8 x9 x10 x11 x12 x13 x14 v0 v1 v2 v3 v4 v5 v6 v7 v8 v9 v10 v11 v12 v13 v14 : Value} {T : TypeId} (h : Blk w Z #[x0, x1, x2, x3, x4, x5, x6, x7, x8, x9, x10, x11, x12, x13, x14] T) : Blk (((((((((((((((w.setCell ⟨Z, 0, none⟩ (v0)).setCell ⟨Z, 1, none⟩ (v1)).setCell ⟨Z, 2, none⟩ (v2)).setCell ⟨Z, 3, none⟩ (v3)).setCell ⟨Z, 4, none⟩ (v4)).setCell ⟨Z, 5, none⟩ (v5)).setCell ⟨Z, 6, none⟩ (v6)).setCell ⟨Z, 7, none⟩ (v7)).setCell ⟨Z, 8, none⟩ (v8)).setCell ⟨Z, 9, none⟩ (v9)).setCell ⟨Z, 10, none⟩ (v10)).setCell ⟨Z, 11, none⟩ (v11)).setCell ⟨Z, 12, none⟩ (v12)).setCell ⟨Z, 13, none⟩ (v13)).setCell ⟨Z, 14, none⟩ (v14)) Z #[v0, v1, v2, v3, v4, v5, v6, v7, v8, v9, v10, v11, v12, v13, v14] T := by
  have := (((((((((((((((h.set 0 v0).set 1 v1).set 2 v2).set 3 v3).set 4 v4).set 5 v5).set 6 v6).set 7 v7).set 8 v8).set 9 v9).set 10 v10).set 11 v11).set 12 v12).set 13 v13).set 14 v14)
  simpa using this
theorem rowFill15 {w : World} {base Z : Nat} {v0 v1 v2 v3 v4 v5 v6 v7 v8 v9 v10 v11 v12 v13 v14 v : Value} {xs : List D} (h : RowD w base v xs) (hZ : Z < base) : RowD (((((((((((((((w.setCell ⟨Z, 0, none⟩ (v0)).setCell ⟨Z, 1, none⟩ (v1)).setCell ⟨Z, 2, none⟩ (v2)).setCell ⟨Z, 3, none⟩ (v3)).setCell ⟨Z, 4, none⟩ (v4)).setCell ⟨Z, 5, none⟩ (v5)).setCell ⟨Z, 6, none⟩ (v6)).setCell ⟨Z, 7, none⟩ (v7)).setCell ⟨Z, 8, none⟩ (v8)).setCell ⟨Z, 9, none⟩ (v9)).setCell ⟨Z, 10, none⟩ (v10)).setCell ⟨Z, 11, none⟩ (v11)).setCell ⟨Z, 12, none⟩ (v12)).setCell ⟨Z, 13, none⟩ (v13)).setCell ⟨Z, 14, none⟩ (v14)) base v xs := (rowSetB (rowSetB (rowSetB (rowSetB (rowSetB (rowSetB (rowSetB (rowSetB (rowSetB (rowSetB (rowSetB (rowSetB (rowSetB (rowSetB (rowSetB h hZ) hZ) hZ) hZ) hZ) hZ) hZ) hZ) hZ) hZ) hZ) hZ) hZ) hZ) hZ)
theorem OwnV.fill15 {w : World} {base Z : Nat} {v0 v1 v2 v3 v4 v5 v6 v7 v8 v9 v10 v11 v12 v13 v14 v : Value} {ys : List XV} (h : OwnV w base v ys) (hZ : Z < base) : OwnV (((((((((((((((w.setCell ⟨Z, 0, none⟩ (v0)).setCell ⟨Z, 1, none⟩ (v1)).setCell ⟨Z, 2, none⟩ (v2)).setCell ⟨Z, 3, none⟩ (v3)).setCell ⟨Z, 4, none⟩ (v4)).setCell ⟨Z, 5, none⟩ (v5)).setCell ⟨Z, 6, none⟩ (v6)).setCell ⟨Z, 7, none⟩ (v7)).setCell ⟨Z, 8, none⟩ (v8)).setCell ⟨Z, 9, none⟩ (v9)).setCell ⟨Z, 10, none⟩ (v10)).setCell ⟨Z, 11, none⟩ (v11)).setCell ⟨Z, 12, none⟩ (v12)).setCell ⟨Z, 13, none⟩ (v13)).setCell ⟨Z, 14, none⟩ (v14)) base v ys := (((((((((((((((h.setB hZ).setB hZ).setB hZ).setB hZ).setB hZ).setB hZ).setB hZ).setB hZ).setB hZ).setB hZ).setB hZ).setB hZ).setB hZ).setB hZ).setB hZ)
theorem fill15_below {n : Nat} {a w : World} {Z : Nat} {v0 v1 v2 v3 v4 v5 v6 v7 v8 v9 v10 v11 v12 v13 v14 : Value} (h : Below n a w) (hZ : n ≤ Z) : Below n a (((((((((((((((w.setCell ⟨Z, 0, none⟩ (v0)).setCell ⟨Z, 1, none⟩ (v1)).setCell ⟨Z, 2, none⟩ (v2)).setCell ⟨Z, 3, none⟩ (v3)).setCell ⟨Z, 4, none⟩ (v4)).setCell ⟨Z, 5, none⟩ (v5)).setCell ⟨Z, 6, none⟩ (v6)).setCell ⟨Z, 7, none⟩ (v7)).setCell ⟨Z, 8, none⟩ (v8)).setCell ⟨Z, 9, none⟩ (v9)).setCell ⟨Z, 10, none⟩ (v10)).setCell ⟨Z, 11, none⟩ (v11)).setCell ⟨Z, 12, none⟩ (v12)).setCell ⟨Z, 13, none⟩ (v13)).setCell ⟨Z, 14, none⟩ (v14)) := (((((((((((((((h.setCell (p := ⟨Z, 0, none⟩) hZ _).setCell (p := ⟨Z, 1, none⟩) hZ _).setCell (p := ⟨Z, 2, none⟩) hZ _).setCell (p := ⟨Z, 3, none⟩) hZ _).setCell (p := ⟨Z, 4, none⟩) hZ _).setCell (p := ⟨Z, 5, none⟩) hZ _).setCell (p := ⟨Z, 6, none⟩) hZ _).setCell (p := ⟨Z, 7, none⟩) hZ _).setCell (p := ⟨Z, 8, none⟩) hZ _).setCell (p := ⟨Z, 9, none⟩) hZ _).setCell (p := ⟨Z, 10, none⟩) hZ _).setCell (p := ⟨Z, 11, none⟩) hZ _).setCell (p := ⟨Z, 12, none⟩) hZ _).setCell (p := ⟨Z, 13, none⟩) hZ _).setCell (p := ⟨Z, 14, none⟩) hZ _)

set_option maxHeartbeats 8000000 in
set_option maxRecDepth 20000 in
theorem toWord_any (x : Wd) (a : Wa) (w : World) (h : InL w x a) (h1 : x.ds.length ≤ 1048576) (h2 : x.vs.length ≤ 1048576) (h3 : x.ws.length ≤ 1048576) (h4 : x.os.length ≤ 1048576) (h5 : ∀ v ∈ x.vs, v.ds.length ≤ 1048576) (h6 : ∀ v ∈ x.ws, v.ds.length ≤ 1048576) :
    Calls Tryz.prog 23 #[wordV x a] w fun e w' => ∃ b : Wa, e = .returned (wordV x b) ∧ InL w' x b ∧ Below w.heap.size w w' := by
  go_enter Tryz.func23, Tryz.ntmps23
  go_wp2_with fail
  refine (toStamp_any x.t x.s _).mono ?_
  rintro e w1 ⟨rfl, hb⟩
  have B1 : Below w.heap.size w w1 := ((((Below.refl _ _).alloc (Nat.le_refl _) _).alloc (by simp) _).alloc (by simp; omega) _).trans (hb.mono (by simp; omega))
  have A1 := (((Blk.new w _ _).alloc _).alloc _).below hb (by simp; omega)
  have Z1 := ((Blk.new _ _ _).alloc _).below hb (by simp)
  have O1 := (Blk.new _ _ _).below hb (by simp)
  simp only [World.size_alloc] at Z1 O1
  have z1 := O1.lt
  clear hb
  obtain ⟨qa, ga⟩ := A1.rules
  obtain ⟨qo, go⟩ := O1.rules
  have O1b : Blk ((((w1.setCell ⟨w.heap.size + 1 + 1, 5, none⟩ (.int .i64 x.t)).setCell ⟨w.heap.size + 1 + 1, 6, none⟩ (.int .i64 x.s)).setCell ⟨w.heap.size + 1 + 1, 7, none⟩ (.int .i64 x.val)).setCell ⟨w.heap.size + 1 + 1, 8, none⟩ (.bool x.yes)) (w.heap.size + 1 + 1) #[.int .i64 x.kind, .int .i64 x.fr, .int .i64 x.to, .int .i64 x.call, .int .i64 x.key, .int .i64 x.t, .int .i64 x.s, .int .i64 x.val, .bool x.yes, .slice none 0 0, .int .i64 0, .int .i64 0, .slice none 0 0, .slice none 0 0, .slice none 0 0] 41 := by
    have := ((((O1.set 5 (.int .i64 x.t)).set 6 (.int .i64 x.s)).set 7 (.int .i64 x.val)).set 8 (.bool x.yes))
    simpa using this
  have A1b := ((((A1.other (a := ⟨w.heap.size + 1 + 1, 5, none⟩) (by simp; omega) (.int .i64 x.t)).other (a := ⟨w.heap.size + 1 + 1, 6, none⟩) (by simp; omega) (.int .i64 x.s)).other (a := ⟨w.heap.size + 1 + 1, 7, none⟩) (by simp; omega) (.int .i64 x.val)).other (a := ⟨w.heap.size + 1 + 1, 8, none⟩) (by simp; omega) (.bool x.yes))
  have Z1b := ((((Z1.other (a := ⟨w.heap.size + 1 + 1, 5, none⟩) (by simp) (.int .i64 x.t)).other (a := ⟨w.heap.size + 1 + 1, 6, none⟩) (by simp) (.int .i64 x.s)).other (a := ⟨w.heap.size + 1 + 1, 7, none⟩) (by simp) (.int .i64 x.val)).other (a := ⟨w.heap.size + 1 + 1, 8, none⟩) (by simp) (.bool x.yes))
  have B1b := ((((B1.setCell (p := ⟨w.heap.size + 1 + 1, 5, none⟩) (by simp; omega) (.int .i64 x.t)).setCell (p := ⟨w.heap.size + 1 + 1, 6, none⟩) (by simp; omega) (.int .i64 x.s)).setCell (p := ⟨w.heap.size + 1 + 1, 7, none⟩) (by simp; omega) (.int .i64 x.val)).setCell (p := ⟨w.heap.size + 1 + 1, 8, none⟩) (by simp; omega) (.bool x.yes))
  go_wp2_with fail
  clear qa ga qo go A1 O1 Z1 B1
  generalize ((((w1.setCell ⟨w.heap.size + 1 + 1, 5, none⟩ (.int .i64 x.t)).setCell ⟨w.heap.size + 1 + 1, 6, none⟩ (.int .i64 x.s)).setCell ⟨w.heap.size + 1 + 1, 7, none⟩ (.int .i64 x.val)).setCell ⟨w.heap.size + 1 + 1, 8, none⟩ (.bool x.yes)) = W1 at *
  have z1b := O1b.lt
  refine (toDeps_any a.da a.dc x.ds _ h1 (h.d.below B1b)).mono ?_
  rintro e w2 ⟨bd, rfl, _, RR, hb⟩
  have A2 := A1b.below hb A1b.lt
  have Z2 := Z1b.below hb Z1b.lt
  have O2 := O1b.below hb O1b.lt
  have B2 : Below w.heap.size w w2 := B1b.trans (hb.mono B1b.size)
  have RD2 := row_mono RR (base' := (w.heap.size + 3)) (by omega)
  clear RR
  have z2 := O2.lt
  clear hb A1b O1b Z1b B1b
  obtain ⟨qa, ga⟩ := A2.rules
  obtain ⟨qo, go⟩ := O2.rules
  have O2b : Blk (((w2.setCell ⟨w.heap.size + 1 + 1, 9, none⟩ (.slice (some ⟨bd, 0, none⟩) x.ds.length x.ds.length)).setCell ⟨w.heap.size + 1 + 1, 10, none⟩ (.int .i64 x.slot)).setCell ⟨w.heap.size + 1 + 1, 11, none⟩ (.int .i64 x.ep)) (w.heap.size + 1 + 1) #[.int .i64 x.kind, .int .i64 x.fr, .int .i64 x.to, .int .i64 x.call, .int .i64 x.key, .int .i64 x.t, .int .i64 x.s, .int .i64 x.val, .bool x.yes, .slice (some ⟨bd, 0, none⟩) x.ds.length x.ds.length, .int .i64 x.slot, .int .i64 x.ep, .slice none 0 0, .slice none 0 0, .slice none 0 0] 41 := by
    have := (((O2.set 9 (.slice (some ⟨bd, 0, none⟩) x.ds.length x.ds.length)).set 10 (.int .i64 x.slot)).set 11 (.int .i64 x.ep))
    simpa using this
  have A2b := (((A2.other (a := ⟨w.heap.size + 1 + 1, 9, none⟩) (by simp; omega) (.slice (some ⟨bd, 0, none⟩) x.ds.length x.ds.length)).other (a := ⟨w.heap.size + 1 + 1, 10, none⟩) (by simp; omega) (.int .i64 x.slot)).other (a := ⟨w.heap.size + 1 + 1, 11, none⟩) (by simp; omega) (.int .i64 x.ep))
  have Z2b := (((Z2.other (a := ⟨w.heap.size + 1 + 1, 9, none⟩) (by simp) (.slice (some ⟨bd, 0, none⟩) x.ds.length x.ds.length)).other (a := ⟨w.heap.size + 1 + 1, 10, none⟩) (by simp) (.int .i64 x.slot)).other (a := ⟨w.heap.size + 1 + 1, 11, none⟩) (by simp) (.int .i64 x.ep))
  have B2b := (((B2.setCell (p := ⟨w.heap.size + 1 + 1, 9, none⟩) (by simp; omega) (.slice (some ⟨bd, 0, none⟩) x.ds.length x.ds.length)).setCell (p := ⟨w.heap.size + 1 + 1, 10, none⟩) (by simp; omega) (.int .i64 x.slot)).setCell (p := ⟨w.heap.size + 1 + 1, 11, none⟩) (by simp; omega) (.int .i64 x.ep))
  have RD2b := (rowSetB (rowSetB (rowSetB RD2 (Z := w.heap.size + 1 + 1) (j := 9) (u := .slice (some ⟨bd, 0, none⟩) x.ds.length x.ds.length) (by omega)) (Z := w.heap.size + 1 + 1) (j := 10) (u := .int .i64 x.slot) (by omega)) (Z := w.heap.size + 1 + 1) (j := 11) (u := .int .i64 x.ep) (by omega))
  go_wp2_with fail
  clear qa ga qo go A2 O2 Z2 B2 RD2
  generalize (((w2.setCell ⟨w.heap.size + 1 + 1, 9, none⟩ (.slice (some ⟨bd, 0, none⟩) x.ds.length x.ds.length)).setCell ⟨w.heap.size + 1 + 1, 10, none⟩ (.int .i64 x.slot)).setCell ⟨w.heap.size + 1 + 1, 11, none⟩ (.int .i64 x.ep)) = W2 at *
  have z2b := O2b.lt
  refine (toVers_any a.va a.vc x.vs _ h2 h5 (h.v.below B2b)).mono ?_
  rintro e w3 ⟨u3, ys, rfl, OO, hy, hb⟩
  obtain ⟨va, vc, rfl, _⟩ := OO.asD hy
  have A3 := A2b.below hb A2b.lt
  have Z3 := Z2b.below hb Z2b.lt
  have O3 := O2b.below hb O2b.lt
  have B3 : Below w.heap.size w w3 := B2b.trans (hb.mono B2b.size)
  have RD3 := row_below RD2b hb (Nat.le_refl _)
  have OV3 := OO.mono (base' := (w.heap.size + 3)) (by omega)
  clear OO
  have z3 := O3.lt
  clear hb A2b O2b Z2b B2b RD2b
  obtain ⟨qa, ga⟩ := A3.rules
  obtain ⟨qo, go⟩ := O3.rules
  have O3b : Blk (w3.setCell ⟨w.heap.size + 1 + 1, 12, none⟩ (.slice va x.vs.length vc)) (w.heap.size + 1 + 1) #[.int .i64 x.kind, .int .i64 x.fr, .int .i64 x.to, .int .i64 x.call, .int .i64 x.key, .int .i64 x.t, .int .i64 x.s, .int .i64 x.val, .bool x.yes, .slice (some ⟨bd, 0, none⟩) x.ds.length x.ds.length, .int .i64 x.slot, .int .i64 x.ep, .slice va x.vs.length vc, .slice none 0 0, .slice none 0 0] 41 := by
    have := (O3.set 12 (.slice va x.vs.length vc))
    simpa using this
  have A3b := (A3.other (a := ⟨w.heap.size + 1 + 1, 12, none⟩) (by simp; omega) (.slice va x.vs.length vc))
  have Z3b := (Z3.other (a := ⟨w.heap.size + 1 + 1, 12, none⟩) (by simp) (.slice va x.vs.length vc))
  have B3b := (B3.setCell (p := ⟨w.heap.size + 1 + 1, 12, none⟩) (by simp; omega) (.slice va x.vs.length vc))
  have RD3b := (rowSetB RD3 (Z := w.heap.size + 1 + 1) (j := 12) (u := .slice va x.vs.length vc) (by omega))
  have OV3b := (OwnV.setB OV3 (Z := w.heap.size + 1 + 1) (j := 12) (u := .slice va x.vs.length vc) (by omega))
  go_wp2_with fail
  clear qa ga qo go A3 O3 Z3 B3 RD3 OV3
  generalize (w3.setCell ⟨w.heap.size + 1 + 1, 12, none⟩ (.slice va x.vs.length vc)) = W3 at *
  have z3b := O3b.lt
  refine (toVers_any a.wa a.wc x.ws _ h3 h6 (h.w.below B3b)).mono ?_
  rintro e w4 ⟨u4, zs, rfl, OO, hz, hb⟩
  obtain ⟨wa, wc, rfl, _⟩ := OO.asD hz
  have A4 := A3b.below hb A3b.lt
  have Z4 := Z3b.below hb Z3b.lt
  have O4 := O3b.below hb O3b.lt
  have B4 : Below w.heap.size w w4 := B3b.trans (hb.mono B3b.size)
  have RD4 := row_below RD3b hb (Nat.le_refl _)
  have OV4 := OV3b.below hb (Nat.le_refl _)
  have OW4 := OO.mono (base' := (w.heap.size + 3)) (by omega)
  clear OO
  have z4 := O4.lt
  clear hb A3b O3b Z3b B3b RD3b OV3b
  obtain ⟨qa, ga⟩ := A4.rules
  obtain ⟨qo, go⟩ := O4.rules
  have O4b : Blk (w4.setCell ⟨w.heap.size + 1 + 1, 13, none⟩ (.slice wa x.ws.length wc)) (w.heap.size + 1 + 1) #[.int .i64 x.kind, .int .i64 x.fr, .int .i64 x.to, .int .i64 x.call, .int .i64 x.key, .int .i64 x.t, .int .i64 x.s, .int .i64 x.val, .bool x.yes, .slice (some ⟨bd, 0, none⟩) x.ds.length x.ds.length, .int .i64 x.slot, .int .i64 x.ep, .slice va x.vs.length vc, .slice wa x.ws.length wc, .slice none 0 0] 41 := by
    have := (O4.set 13 (.slice wa x.ws.length wc))
    simpa using this
  have A4b := (A4.other (a := ⟨w.heap.size + 1 + 1, 13, none⟩) (by simp; omega) (.slice wa x.ws.length wc))
  have Z4b := (Z4.other (a := ⟨w.heap.size + 1 + 1, 13, none⟩) (by simp) (.slice wa x.ws.length wc))
  have B4b := (B4.setCell (p := ⟨w.heap.size + 1 + 1, 13, none⟩) (by simp; omega) (.slice wa x.ws.length wc))
  have RD4b := (rowSetB RD4 (Z := w.heap.size + 1 + 1) (j := 13) (u := .slice wa x.ws.length wc) (by omega))
  have OV4b := (OwnV.setB OV4 (Z := w.heap.size + 1 + 1) (j := 13) (u := .slice wa x.ws.length wc) (by omega))
  have OW4b := (OwnV.setB OW4 (Z := w.heap.size + 1 + 1) (j := 13) (u := .slice wa x.ws.length wc) (by omega))
  go_wp2_with fail
  clear qa ga qo go A4 O4 Z4 B4 RD4 OV4 OW4
  generalize (w4.setCell ⟨w.heap.size + 1 + 1, 13, none⟩ (.slice wa x.ws.length wc)) = W4 at *
  have z4b := O4b.lt
  refine (toDeps_any a.oa a.oc x.os _ h4 (h.o.below B4b)).mono ?_
  rintro e w5 ⟨bo, rfl, _, RR, hb⟩
  have A5 := A4b.below hb A4b.lt
  have Z5 := Z4b.below hb Z4b.lt
  have O5 := O4b.below hb O4b.lt
  have B5 : Below w.heap.size w w5 := B4b.trans (hb.mono B4b.size)
  have RD5 := row_below RD4b hb (Nat.le_refl _)
  have OV5 := OV4b.below hb (Nat.le_refl _)
  have OW5 := OW4b.below hb (Nat.le_refl _)
  have RO5 := row_mono RR (base' := (w.heap.size + 3)) (by omega)
  clear RR
  have z5 := O5.lt
  clear hb A4b O4b Z4b B4b RD4b OV4b OW4b
  obtain ⟨qo, go⟩ := O5.rules
  obtain ⟨qz, gz⟩ := Z5.rules
  have Z6 := Z5.other (a := ⟨w.heap.size + 1 + 1, 14, none⟩) (by simp) (.slice (some ⟨bo, 0, none⟩) x.os.length x.os.length)
  have B6 := B5.setCell (p := ⟨w.heap.size + 1 + 1, 14, none⟩) (by simp; omega) (.slice (some ⟨bo, 0, none⟩) x.os.length x.os.length)
  have RD6 := rowSetB RD5 (Z := w.heap.size + 1 + 1) (j := 14) (u := .slice (some ⟨bo, 0, none⟩) x.os.length x.os.length) (by omega)
  have OV6 := OwnV.setB OV5 (Z := w.heap.size + 1 + 1) (j := 14) (u := .slice (some ⟨bo, 0, none⟩) x.os.length x.os.length) (by omega)
  have OW6 := OwnV.setB OW5 (Z := w.heap.size + 1 + 1) (j := 14) (u := .slice (some ⟨bo, 0, none⟩) x.os.length x.os.length) (by omega)
  have RO6 := rowSetB RO5 (Z := w.heap.size + 1 + 1) (j := 14) (u := .slice (some ⟨bo, 0, none⟩) x.os.length x.os.length) (by omega)
  clear A5 Z5 B5 RD5 OV5 OW5 RO5
  go_wp2_with fail
  refine bodyPost_ret (v := wordV x ⟨some ⟨bd, 0, none⟩, x.ds.length, va, vc, wa, wc, some ⟨bo, 0, none⟩, x.os.length⟩) ?_ rfl ⟨_, rfl, ⟨row_deps' (rowFill15 RD6 (by omega)), (OV6.fill15 (by omega)).at' hy, (OW6.fill15 (by omega)).at' hz, row_deps' (rowFill15 RO6 (by omega))⟩, fill15_below B6 (by omega)⟩
  refine Blk.gen (B := w.heap.size + 1) (vs := #[.int .i64 x.kind, .int .i64 x.fr, .int .i64 x.to, .int .i64 x.call, .int .i64 x.key, .int .i64 x.t, .int .i64 x.s, .int .i64 x.val, .bool x.yes, .slice (some ⟨bd, 0, none⟩) x.ds.length x.ds.length, .int .i64 x.slot, .int .i64 x.ep, .slice va x.vs.length vc, .slice wa x.ws.length wc, .slice (some ⟨bo, 0, none⟩) x.os.length x.os.length]) (T := 41) ?_ (P := fun W => (results Tryz.f23 _).run Tryz.prog W = .ok _ W) ?_
  · exact Blk.fill15 Z6
  intro W hW
  obtain ⟨k, f⟩ := hW.rules
  simp [results, Tryz.results23, go_sem, k]

set_option maxHeartbeats 4000000 in
set_option maxRecDepth 20000 in
theorem eqWord_any (x : Wd) (a b : Wa) (w : World) (h : InL w x a) (h' : InL w x b) (h1 : x.ds.length ≤ 1048576) (h2 : x.vs.length ≤ 1048576) (h3 : x.ws.length ≤ 1048576) (h4 : x.os.length ≤ 1048576) (h5 : ∀ v ∈ x.vs, v.ds.length ≤ 1048576) (h6 : ∀ v ∈ x.ws, v.ds.length ≤ 1048576) :
    Calls Tryz.prog 18 #[wordV x a, wordV x b] w fun e w' => e = .returned (.bool true) ∧ Below w.heap.size w w' := by
  have A0 : Blk ((w.alloc (.cells #[.int .i64 x.kind, .int .i64 x.fr, .int .i64 x.to, .int .i64 x.call, .int .i64 x.key, .int .i64 x.t, .int .i64 x.s, .int .i64 x.val, .bool x.yes, .slice a.da x.ds.length a.dc, .int .i64 x.slot, .int .i64 x.ep, .slice a.va x.vs.length a.vc, .slice a.wa x.ws.length a.wc, .slice a.oa x.os.length a.oc] 41)).alloc (.cells #[.int .i64 x.kind, .int .i64 x.fr, .int .i64 x.to, .int .i64 x.call, .int .i64 x.key, .int .i64 x.t, .int .i64 x.s, .int .i64 x.val, .bool x.yes, .slice b.da x.ds.length b.dc, .int .i64 x.slot, .int .i64 x.ep, .slice b.va x.vs.length b.vc, .slice b.wa x.ws.length b.wc, .slice b.oa x.os.length b.oc] 41)) w.heap.size #[.int .i64 x.kind, .int .i64 x.fr, .int .i64 x.to, .int .i64 x.call, .int .i64 x.key, .int .i64 x.t, .int .i64 x.s, .int .i64 x.val, .bool x.yes, .slice a.da x.ds.length a.dc, .int .i64 x.slot, .int .i64 x.ep, .slice a.va x.vs.length a.vc, .slice a.wa x.ws.length a.wc, .slice a.oa x.os.length a.oc] 41 := (Blk.new w _ _).alloc _
  have Z0 : Blk ((w.alloc (.cells #[.int .i64 x.kind, .int .i64 x.fr, .int .i64 x.to, .int .i64 x.call, .int .i64 x.key, .int .i64 x.t, .int .i64 x.s, .int .i64 x.val, .bool x.yes, .slice a.da x.ds.length a.dc, .int .i64 x.slot, .int .i64 x.ep, .slice a.va x.vs.length a.vc, .slice a.wa x.ws.length a.wc, .slice a.oa x.os.length a.oc] 41)).alloc (.cells #[.int .i64 x.kind, .int .i64 x.fr, .int .i64 x.to, .int .i64 x.call, .int .i64 x.key, .int .i64 x.t, .int .i64 x.s, .int .i64 x.val, .bool x.yes, .slice b.da x.ds.length b.dc, .int .i64 x.slot, .int .i64 x.ep, .slice b.va x.vs.length b.vc, .slice b.wa x.ws.length b.wc, .slice b.oa x.os.length b.oc] 41)) (w.heap.size + 1) #[.int .i64 x.kind, .int .i64 x.fr, .int .i64 x.to, .int .i64 x.call, .int .i64 x.key, .int .i64 x.t, .int .i64 x.s, .int .i64 x.val, .bool x.yes, .slice b.da x.ds.length b.dc, .int .i64 x.slot, .int .i64 x.ep, .slice b.va x.vs.length b.vc, .slice b.wa x.ws.length b.wc, .slice b.oa x.os.length b.oc] 41 := by have := Blk.new (w.alloc (.cells #[.int .i64 x.kind, .int .i64 x.fr, .int .i64 x.to, .int .i64 x.call, .int .i64 x.key, .int .i64 x.t, .int .i64 x.s, .int .i64 x.val, .bool x.yes, .slice a.da x.ds.length a.dc, .int .i64 x.slot, .int .i64 x.ep, .slice a.va x.vs.length a.vc, .slice a.wa x.ws.length a.wc, .slice a.oa x.os.length a.oc] 41)) #[.int .i64 x.kind, .int .i64 x.fr, .int .i64 x.to, .int .i64 x.call, .int .i64 x.key, .int .i64 x.t, .int .i64 x.s, .int .i64 x.val, .bool x.yes, .slice b.da x.ds.length b.dc, .int .i64 x.slot, .int .i64 x.ep, .slice b.va x.vs.length b.vc, .slice b.wa x.ws.length b.wc, .slice b.oa x.os.length b.oc] 41; simpa using this
  have B0 : Below w.heap.size w ((w.alloc (.cells #[.int .i64 x.kind, .int .i64 x.fr, .int .i64 x.to, .int .i64 x.call, .int .i64 x.key, .int .i64 x.t, .int .i64 x.s, .int .i64 x.val, .bool x.yes, .slice a.da x.ds.length a.dc, .int .i64 x.slot, .int .i64 x.ep, .slice a.va x.vs.length a.vc, .slice a.wa x.ws.length a.wc, .slice a.oa x.os.length a.oc] 41)).alloc (.cells #[.int .i64 x.kind, .int .i64 x.fr, .int .i64 x.to, .int .i64 x.call, .int .i64 x.key, .int .i64 x.t, .int .i64 x.s, .int .i64 x.val, .bool x.yes, .slice b.da x.ds.length b.dc, .int .i64 x.slot, .int .i64 x.ep, .slice b.va x.vs.length b.vc, .slice b.wa x.ws.length b.wc, .slice b.oa x.os.length b.oc] 41)) := ((Below.refl _ _).alloc (Nat.le_refl _) _).alloc (by simp) _
  have L0 := h.below B0
  have M0 := h'.below B0
  clear h h'
  go_enter Tryz.func18, Tryz.ntmps18
  go_wp2_with fail
  generalize ((w.alloc (.cells #[.int .i64 x.kind, .int .i64 x.fr, .int .i64 x.to, .int .i64 x.call, .int .i64 x.key, .int .i64 x.t, .int .i64 x.s, .int .i64 x.val, .bool x.yes, .slice a.da x.ds.length a.dc, .int .i64 x.slot, .int .i64 x.ep, .slice a.va x.vs.length a.vc, .slice a.wa x.ws.length a.wc, .slice a.oa x.os.length a.oc] 41)).alloc (.cells #[.int .i64 x.kind, .int .i64 x.fr, .int .i64 x.to, .int .i64 x.call, .int .i64 x.key, .int .i64 x.t, .int .i64 x.s, .int .i64 x.val, .bool x.yes, .slice b.da x.ds.length b.dc, .int .i64 x.slot, .int .i64 x.ep, .slice b.va x.vs.length b.vc, .slice b.wa x.ws.length b.wc, .slice b.oa x.os.length b.oc] 41)) = w0 at *
  refine (eqStamp_any x.t x.s _).mono ?_
  rintro e w1 ⟨rfl, hb⟩
  have A1 := A0.below hb A0.lt
  have Z1 := Z0.below hb Z0.lt
  have L1 := L0.below hb
  have M1 := M0.below hb
  have B1 : Below w.heap.size w w1 := B0.trans (hb.mono B0.size)
  clear A0 Z0 L0 M0 B0 hb
  obtain ⟨q1, g1⟩ := A1.rules
  obtain ⟨q2, g2⟩ := Z1.rules
  go_wp2_with fail
  clear q1 g1 q2 g2
  refine (eqDeps_any a.da b.da x.ds a.dc b.dc _ h1 L1.d M1.d).mono ?_
  rintro e w2 ⟨rfl, hb⟩
  have A2 := A1.below hb A1.lt
  have Z2 := Z1.below hb Z1.lt
  have L2 := L1.below hb
  have M2 := M1.below hb
  have B2 : Below w.heap.size w w2 := B1.trans (hb.mono B1.size)
  clear A1 Z1 L1 M1 B1 hb
  obtain ⟨q1, g1⟩ := A2.rules
  obtain ⟨q2, g2⟩ := Z2.rules
  go_wp2_with fail
  clear q1 g1 q2 g2
  refine (eqVers_any a.va b.va x.vs a.vc b.vc _ h2 h5 L2.v M2.v).mono ?_
  rintro e w3 ⟨rfl, hb⟩
  have A3 := A2.below hb A2.lt
  have Z3 := Z2.below hb Z2.lt
  have L3 := L2.below hb
  have M3 := M2.below hb
  have B3 : Below w.heap.size w w3 := B2.trans (hb.mono B2.size)
  clear A2 Z2 L2 M2 B2 hb
  obtain ⟨q1, g1⟩ := A3.rules
  obtain ⟨q2, g2⟩ := Z3.rules
  go_wp2_with fail
  clear q1 g1 q2 g2
  refine (eqVers_any a.wa b.wa x.ws a.wc b.wc _ h3 h6 L3.w M3.w).mono ?_
  rintro e w4 ⟨rfl, hb⟩
  have A4 := A3.below hb A3.lt
  have Z4 := Z3.below hb Z3.lt
  have L4 := L3.below hb
  have M4 := M3.below hb
  have B4 : Below w.heap.size w w4 := B3.trans (hb.mono B3.size)
  clear A3 Z3 L3 M3 B3 hb
  obtain ⟨q1, g1⟩ := A4.rules
  obtain ⟨q2, g2⟩ := Z4.rules
  go_wp2_with fail
  clear q1 g1 q2 g2
  refine (eqDeps_any a.oa b.oa x.os a.oc b.oc _ h4 L4.o M4.o).mono ?_
  rintro e w5 ⟨rfl, hb⟩
  have B5 : Below w.heap.size w w5 := B4.trans (hb.mono B4.size)
  clear A4 Z4 L4 M4 B4 hb
  go_wp2_with fail
  go_ret
  exact ⟨rfl, B5⟩
end Go.Proofs.YtpjidogilofppaaGreat

