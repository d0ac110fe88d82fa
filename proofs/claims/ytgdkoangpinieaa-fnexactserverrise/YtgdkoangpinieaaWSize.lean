/- Words that came in: their size, and their copy. -/
import Derived.Test.YtgdkoangpinieaaWNum
import Derived.Test.YtgdkoangpinieaaGAR
namespace Go.Proofs.Ytgdkoangpinieaa
open Go.ChangeShapes Go.WideShapes Go.ChangeAt Go.RowKit

set_option maxHeartbeats 2000000 in
theorem szVersL_any (a : Option Addr) (cap : Nat) (vs : List V) (left : Int) (w : World) (hn : vs.length ≤ maxLen) (l0 : 0 ≤ left) (l1 : left ≤ 1048576) (h : VersI w a vs) :
    Calls Try.prog 76 #[.slice a vs.length cap, .int .i64 left] w fun e w' => e = .returned (.int .i64 (if left < (vs.length : Int) + tot vs then -1 else left - vs.length - tot vs)) ∧ Below w.heap.size w w' := by
  unfold maxLen at hn
  by_cases hbig : left < (vs.length : Int)
  · rw [if_pos (by omega)]
    have h2 : left - vs.length < 0 := by omega
    go_enter Try.func76, Try.ntmps76
    go_wp2
    go_ret
    exact ⟨rfl, Below.refl _ _⟩
  obtain ⟨r, hr⟩ : ∃ r : Int, r = (if left < (vs.length : Int) + (tot vs : Int) then (-1 : Int) else left - (vs.length : Int) - (tot vs : Int)) := ⟨_, rfl⟩
  rw [← hr]
  have HR : Hid _ := hr
  have h2 : (0 : Int) ≤ left - vs.length := by omega
  clear hr
  go_enter Try.func76, Try.ntmps76
  go_wp2
  go_loopw [1, 5] (fun l i wr => ∃ k : Nat, k ≤ vs.length ∧ i = .int .i64 k ∧ l = .int .i64 (left - vs.length - (tot (vs.take k) : Int)) ∧ (0 : Int) ≤ left - vs.length - (tot (vs.take k) : Int) ∧ Below w.heap.size w wr) (fun _ i _ => vs.length - (intOf i).toNat)
  case atStart => exact ⟨0, Nat.zero_le _, rfl, by simp [tot], by simp [tot]; omega, Below.refl _ _⟩
  case round =>
    obtain ⟨k, hk, rfl, rfl, h0, hB⟩ := hrel
    by_cases hlt : k < vs.length
    · rcases h.below hB with hx | ⟨b, o, rfl, hbb, hx⟩
      · rw [hx] at hlt; simp at hlt
      · obtain ⟨da, dc, c0, c1, c2, c3, c4, c5, c6, hd, hl⟩ := hx k hlt
        have ht := tot_take hlt
        have htl := tot_le vs (k + 1)
        have hz := fun w => szVerL_any vs[k].k vs[k].t vs[k].s vs[k].val vs[k].cl vs[k].ca (left - vs.length - (tot (vs.take k) : Int)) da vs[k].ds.length dc w hl h0 (by omega)
        have HT : Hid (tot (vs.take (k + 1)) = tot (vs.take k) + vs[k].ds.length) := ht
        rw [HT.out] at htl
        clear ht hd hx
        generalize vs[k] = v at *
        generalize tot (vs.take k) = tk at *
        by_cases hs : (left - vs.length - (tk : Int)) < (v.ds.length : Int)
        · have HN : Hid (r = -1) := by show r = -1; rw [HR.out, if_pos (by omega)]
          have hneg : (-1 : Int) < 0 := by omega
          simp only [if_pos hs] at hz
          go_wp2_with fail
          refine (hz _).mono ?_
          rintro e w2 ⟨rfl, hb2⟩
          clear hz
          go_wp2_with fail
          go_ret
          exact ⟨by rw [HN.out]; rfl, hB.trans (hb2.mono hB.size)⟩
        · simp only [if_neg hs] at hz
          have hpos : (0 : Int) ≤ left - vs.length - (tk : Int) - (v.ds.length : Int) := by omega
          have HE : Hid (left - vs.length - (tk : Int) - (v.ds.length : Int) = left - vs.length - ((tk + v.ds.length : Nat) : Int)) := by show _ = _; omega
          go_wp2_with fail
          refine (hz _).mono ?_
          rintro e w2 ⟨rfl, hb2⟩
          clear hz
          go_wp2_with fail
          go_roundw
          case rel => exact ⟨k + 1, by omega, by go_num, by rw [HT.out, ← HE.out], by rw [HT.out]; omega, hB.trans (hb2.mono hB.size)⟩
          case measure => simp [intOf]; omega
    · have hk2 : k = vs.length := by omega
      subst hk2
      rw [List.take_length] at h0 ⊢
      have HN : Hid (r = left - vs.length - (tot vs : Int)) := by show r = _; rw [HR.out, if_neg (by omega)]
      go_wp2
      go_ret
      exact ⟨by rw [HN.out]; rfl, hB⟩


/-- A word that came in. -/
structure InI (W : World) (x : Wd) (a : Wa) : Prop where
  d : Deps W a.da x.ds
  v : VersI W a.va x.vs
  w : VersI W a.wa x.ws
  o : Deps W a.oa x.os
  dl : x.ds.length ≤ maxLen
  vl : x.vs.length ≤ maxLen
  wl : x.ws.length ≤ maxLen
  ol : x.os.length ≤ maxLen
theorem InI.below {w w' : World} {x : Wd} {a : Wa} (h : InI w x a) (k : Below w.heap.size w w') : InI w' x a := ⟨h.d.below k, h.v.below k, h.w.below k, h.o.below k, h.dl, h.vl, h.wl, h.ol⟩
/-- How much there is of a word. -/
def sizeW (x : Wd) : Int := (x.ds.length : Int) + ((x.vs.length : Int) + tot x.vs) + ((x.ws.length : Int) + tot x.ws) + x.os.length
theorem if_sum {l n : Int} : ∃ r : Int, (if l < n then (-1 : Int) else l - n) = r ∧ (r < 0 ∧ l < n ∨ r = l - n ∧ 0 ≤ r) := by
  by_cases h : l < n
  · exact ⟨-1, if_pos h, .inl ⟨by omega, h⟩⟩
  · exact ⟨l - n, if_neg h, .inr ⟨rfl, by omega⟩⟩
theorem if_sum2 {l n m : Int} : ∃ r : Int, (if l < n + m then (-1 : Int) else l - n - m) = r ∧ (r < 0 ∧ l < n + m ∨ r = l - n - m ∧ 0 ≤ r) := by
  by_cases h : l < n + m
  · exact ⟨-1, if_pos h, .inl ⟨by omega, h⟩⟩
  · exact ⟨l - n - m, if_neg h, .inr ⟨rfl, by omega⟩⟩

set_option maxHeartbeats 1000000 in
theorem szWord_any (x : Wd) (a : Wa) (w : World) (h : InI w x a) : Calls Try.prog 61 #[wordV x a, .int .i64 1048576] w fun e w' => ∃ r : Int, e = .returned (.int .i64 r) ∧ (r < 0 ∨ 0 ≤ r ∧ sizeW x ≤ 1048576) ∧ Below w.heap.size w w' := by
  have b0 : Below w.heap.size w (w.alloc (.cells #[.int .i64 x.kind, .int .i64 x.fr, .int .i64 x.to, .int .i64 x.call, .int .i64 x.key, .int .i64 x.t, .int .i64 x.s, .int .i64 x.val, .bool x.yes, .slice a.da x.ds.length a.dc, .int .i64 x.slot, .int .i64 x.ep, .slice a.va x.vs.length a.vc, .slice a.wa x.ws.length a.wc, .slice a.oa x.os.length a.oc] 72)) := (Below.refl _ _).alloc (Nat.le_refl _) _
  have A0 := Blk.new w #[.int .i64 x.kind, .int .i64 x.fr, .int .i64 x.to, .int .i64 x.call, .int .i64 x.key, .int .i64 x.t, .int .i64 x.s, .int .i64 x.val, .bool x.yes, .slice a.da x.ds.length a.dc, .int .i64 x.slot, .int .i64 x.ep, .slice a.va x.vs.length a.vc, .slice a.wa x.ws.length a.wc, .slice a.oa x.os.length a.oc] 72
  have I0 := h.below b0
  obtain ⟨r1, e1, c1⟩ := if_sum (l := 1048576) (n := (x.ds.length : Int))
  have s1 := fun W => szDeps_any a.da x.ds.length a.dc 1048576 W h.dl (by omega) (by omega)
  rw [e1] at s1
  have HS : Hid (sizeW x = (x.ds.length : Int) + ((x.vs.length : Int) + tot x.vs) + ((x.ws.length : Int) + tot x.ws) + x.os.length) := rfl
  generalize sizeW x = sz at *
  have vl := h.vl
  have wl := h.wl
  have ol := h.ol
  clear h e1
  go_enter Try.func61, Try.ntmps61
  go_wp2_with fail
  generalize w.alloc (.cells #[.int .i64 x.kind, .int .i64 x.fr, .int .i64 x.to, .int .i64 x.call, .int .i64 x.key, .int .i64 x.t, .int .i64 x.s, .int .i64 x.val, .bool x.yes, .slice a.da x.ds.length a.dc, .int .i64 x.slot, .int .i64 x.ep, .slice a.va x.vs.length a.vc, .slice a.wa x.ws.length a.wc, .slice a.oa x.os.length a.oc] 72) = w0 at *
  refine (s1 _).mono ?_
  rintro e w1 ⟨rfl, rfl⟩
  clear s1
  rcases c1 with ⟨c1, _⟩ | ⟨c1, n1⟩
  · have d1 : decide (r1 < 0) = true := by simpa using c1
    have HN : Hid (r1 < 0) := c1
    clear c1 A0 I0 HS
    go_wp2_with fail
    go_ret
    exact ⟨-1, rfl, .inl (by omega), b0⟩
  obtain ⟨r2, e2, c2⟩ := if_sum2 (l := r1) (n := (x.vs.length : Int)) (m := (tot x.vs : Int))
  have s2 := fun W h => szVersL_any a.va a.vc x.vs r1 W vl n1 (by omega) h
  rw [e2] at s2
  have d1 : decide (r1 < 0) = false := by simp; omega
  obtain ⟨q1, g1⟩ := A0.rules
  have H1 : Hid (r1 = 1048576 - (x.ds.length : Int)) := c1
  clear c1 e2
  go_wp2_with fail
  clear q1 g1 d1
  refine (s2 _ I0.v).mono ?_
  rintro e w2 ⟨rfl, hb2⟩
  have A2 := A0.below hb2 A0.lt
  have I2 := I0.below hb2
  have B2 : Below w.heap.size w w2 := b0.trans (hb2.mono b0.size)
  clear A0 I0 b0 hb2 s2
  rcases c2 with ⟨c2, _⟩ | ⟨c2, n2⟩
  · have d1 : decide (r2 < 0) = true := by simpa using c2
    clear A2 I2 HS c2
    go_wp2_with fail
    go_ret
    exact ⟨-1, rfl, .inl (by omega), B2⟩
  obtain ⟨r3, e3, c3⟩ := if_sum2 (l := r2) (n := (x.ws.length : Int)) (m := (tot x.ws : Int))
  have s3 := fun W h => szVersL_any a.wa a.wc x.ws r2 W wl n2 (by have := H1.out; omega) h
  rw [e3] at s3
  have d1 : decide (r2 < 0) = false := by simp; omega
  obtain ⟨q1, g1⟩ := A2.rules
  have H2 : Hid (r2 = r1 - (x.vs.length : Int) - (tot x.vs : Int)) := c2
  clear c2 e3
  go_wp2_with fail
  clear q1 g1 d1
  refine (s3 _ I2.w).mono ?_
  rintro e w3 ⟨rfl, hb3⟩
  have A3 := A2.below hb3 A2.lt
  have B3 : Below w.heap.size w w3 := B2.trans (hb3.mono B2.size)
  clear A2 I2 B2 hb3 s3
  rcases c3 with ⟨c3, _⟩ | ⟨c3, n3⟩
  · have d1 : decide (r3 < 0) = true := by simpa using c3
    clear A3 HS c3
    go_wp2_with fail
    go_ret
    exact ⟨-1, rfl, .inl (by omega), B3⟩
  obtain ⟨r4, e4, c4⟩ := if_sum (l := r3) (n := (x.os.length : Int))
  have s4 := fun W => szDeps_any a.oa x.os.length a.oc r3 W ol n3 (by have := H1.out; have := H2.out; omega)
  rw [e4] at s4
  have d1 : decide (r3 < 0) = false := by simp; omega
  obtain ⟨q1, g1⟩ := A3.rules
  have H3 : Hid (r3 = r2 - (x.ws.length : Int) - (tot x.ws : Int)) := c3
  clear c3 e4
  go_wp2_with fail
  clear q1 g1 d1 A3
  refine (s4 _).mono ?_
  rintro e w4 ⟨rfl, rfl⟩
  clear s4
  rcases c4 with ⟨c4, _⟩ | ⟨c4, n4⟩
  · have d1 : decide (r4 < 0) = true := by simpa using c4
    clear HS c4
    go_wp2_with fail
    go_ret
    exact ⟨-1, rfl, .inl (by omega), B3⟩
  have d1 : decide (r4 < 0) = false := by simp; omega
  have HF : Hid (sz ≤ 1048576) := by
    have := H1.out; have := H2.out; have := H3.out; have := HS.out
    show _ ≤ _
    omega
  clear HS H1 H2 H3 c4
  go_wp2_with fail
  go_ret
  exact ⟨r4, rfl, .inr ⟨n4, HF.out⟩, B3⟩
end Go.Proofs.Ytgdkoangpinieaa
