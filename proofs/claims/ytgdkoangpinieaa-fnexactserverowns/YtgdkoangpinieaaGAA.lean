/- 2 texts in one: DrawC, DrawCT. -/
import Derived.Test.YtgdkoangpinieaaDrawVer
import Derived.Test.YtgdkoangpinieaaSPutC
import Derived.Test.YtgdkoangpinieaaGAC
/- Draws of versions in a list. -/
namespace Go.Proofs.Ytgdkoangpinieaa
open Go.ChangeShapes Go.WideShapes Go.ChangeAt Go.RowKit

/-- Few versions, of few deps. -/
def Few (n : Nat) (vs : List V) : Prop := vs.length ≤ n ∧ ∀ v ∈ vs, v.ds.length ≤ 6
theorem Few.put {vs : List V} (h : Few 80 vs) {v : V} (hv : v.ds.length ≤ 6) : Few 80 (cPut vs v) := by
  unfold cPut
  split
  · split
    · rename_i hp
      have h80 : vs.length < 80 := by unfold putB at hp; simp at hp; omega
      refine ⟨by rw [insV_len]; omega, fun x hx => ?_⟩
      rcases insV_mem.1 hx with rfl | hx
      · exact hv
      · exact h.2 x hx
    · exact h
  · exact ⟨by simp, fun x hx => (by cases hx)⟩
theorem Few.more {n m : Nat} {vs : List V} (h : Few n vs) (hm : n ≤ m) : Few m vs := ⟨Nat.le_trans h.1 hm, h.2⟩
theorem OwnV.step {B : Nat} {w w' : World} {base : Nat} {v : Value} {ys : List XV} (h : OwnV w base v ys) (k : Stp B w w') (hB : B < base) : OwnV w' base v ys :=
  ⟨row_step h.row k hB, fun y hy => ⟨row_step (h.deps y hy).1 k hB, (h.deps y hy).2⟩, h.apart⟩
theorem OwnV.asD {w : World} {base : Nat} {u : Value} {ys : List XV} {vs : List V} (h : OwnV w base u ys) (hy : ys.map XV.v = vs) : ∃ a cap, u = .slice a vs.length cap ∧ Vers w a vs := by
  obtain ⟨a, cap, h1, h2, h3⟩ := h.vers
  subst hy
  exact ⟨a, cap, by rw [h1, List.length_map], h2⟩

set_option maxHeartbeats 4000000 in
theorem drawChain (B : Nat) (p most : Int) (w : World) (h : Rd w B p) (hp : p ≤ 500000) (h1 : 1 ≤ most) (h2 : most ≤ 20) :
    Calls Try.prog 91 #[.pointer (some ⟨B, 0, none⟩), .int .i64 most] w fun e w' => ∃ (v : Value) (ys : List XV) (vs : List V) (p' : Int), e = .returned v ∧ OwnV w' w.heap.size v ys ∧ ys.map XV.v = vs ∧ Few 81 vs ∧ p' ≤ p + 2000 ∧ Rd w' B p' ∧ Stp B w w' := by
  have hB := h.1
  go_enter Try.func91, Try.ntmps91
  go_wp2_with fail
  refine (pick_any _ p most _ (h.alloc _) (by omega) (by omega)).mono ?_
  rintro e w2 ⟨n, rfl, n0, n1, hr2, hs2, hz2'⟩
  have hown0 : OwnV (w.alloc (.cells #[] 28)) w.heap.size (.slice (some ⟨w.heap.size, 0, none⟩) 0 0) [] := ⟨World.ownsRow_made w #[] 0 (Nat.le_refl _) (by unfold maxLen; omega) rfl, fun _ h => (by cases h), List.Pairwise.nil⟩
  have hown2 := hown0.step hs2 hB
  have S2 : Stp B w w2 := ((Stp.refl B w).alloc _).trans hs2
  clear hs2 hown0 hz2'
  obtain ⟨m, rfl⟩ := Int.eq_ofNat_of_zero_le n0
  have hm : m ≤ 20 := by omega
  clear n0 n1
  go_wp2_with fail
  go_loopw [5, 6] (fun v i wr => ∃ (k : Nat) (ys : List XV) (vs : List V) (p' : Int), k ≤ 20 ∧ i = .int .i64 k ∧ OwnV wr w.heap.size v ys ∧ ys.map XV.v = vs ∧ Few 80 vs ∧ p' ≤ p + 1 + 40 * (20 - k) ∧ Rd wr B p' ∧ Stp B w wr) (fun _ i _ => (intOf i).toNat)
  case atStart => exact ⟨m, [], [], p + 1, hm, rfl, hown2, rfl, ⟨by simp, fun _ h => (by cases h)⟩, by omega, hr2, S2⟩
  case round =>
    obtain ⟨k, ys, vs, q, hk, rfl, hO, hy, hF, hq, hR, hS⟩ := hrel
    clear hown2 hr2 S2 hm
    obtain ⟨va, vc, rfl, hV⟩ := hO.asD hy
    by_cases hk0 : (0 : Int) < k
    · clear hV
      go_wp2_with fail
      refine (drawVer _ q _ hR (by omega)).mono ?_
      rintro e w3 ⟨vk, vt, vS, vval, vcl, vca, da, dc, ds, q3, rfl, hdl, hrow, hq3, hR3, hS3⟩
      have hO3 := hO.step hS3 hB
      obtain ⟨va', vc', e', hV3⟩ := hO3.asD hy
      injection e' with e1 e2 e3
      subst e1 e3
      have T3 : Stp B w w3 := hS.trans hS3
      have hD3 := row_deps' hrow
      clear hO hO3 hR hS hS3 hrow e2
      go_wp2_with fail
      have HL : vs.length ≤ 80 := hF.1
      refine (sPutV_any va vc vs ⟨vk, vt, vS, vval, vcl, vca, ds⟩ da dc _ (by omega) hV3 (by simp only; omega) hD3).mono ?_
      rintro e w4 ⟨u4, ys4, rfl, O4, hy4, hb4⟩
      have F4 := hF.put (v := ⟨vk, vt, vS, vval, vcl, vca, ds⟩) hdl
      have O5 := O4.mono T3.size
      have R4 := hR3.below hb4
      have T4 : Stp B w w4 := T3.trans (Stp.ofBelow hb4)
      generalize cPut vs ⟨vk, vt, vS, vval, vcl, vca, ds⟩ = us at *
      generalize cDid vs ⟨vk, vt, vS, vval, vcl, vca, ds⟩ = did at *
      clear O4 hb4 hR3 T3 hV3 hD3 HL hF hy
      go_wp2_with fail
      go_roundw
      case rel => exact ⟨k - 1, ys4, us, _, by omega, by go_num, O5, hy4, F4, by omega, R4, T4⟩
      case measure => simp [intOf]; omega
    · have hk1 : k = 0 := by omega
      subst hk1
      clear hV
      go_wp2_with fail
      refine (pick_any _ q 16 _ hR (by omega) (by omega)).mono ?_
      rintro e w3 ⟨c, rfl, c0, c1, hr3, hs3, hz3⟩
      have hO3 := hO.step hs3 hB
      have T3 : Stp B w w3 := hS.trans hs3
      clear hR hS hO hs3 hz3
      by_cases h0 : c = 0
      · subst h0
        go_wp2_with fail
        refine (drawVer _ _ _ hr3 (by omega)).mono ?_
        rintro e w4 ⟨vk, vt, vS, vval, vcl, vca, da, dc, ds, q4, rfl, hdl, hrow, hq4, hR4, hS4⟩
        have hO4 := hO3.step hS4 hB
        have T4 : Stp B w w4 := T3.trans hS4
        have hap : ∀ z ∈ ys, ApartV z.p (.slice da ds.length dc) := fun z hz j hj hj' => by
          have a1 := ((hO3.deps z hz).1.lt j hj).2; have a2 := (hrow.lt j hj').1; omega
        have hrow' := row_mono hrow (base' := w.heap.size) (by have := T3.size; omega)
        have hyl : ys.length ≤ 80 := by have := hF.1; rw [← hy] at this; simpa using this
        have z4 := T4.size
        clear hO3 hr3 T3 hS4 hrow
        go_wp2_with (first | (at_builtin; refine wpList_append_ver _ rfl _ _ rfl w.heap.size _ ys rfl (hO4.alloc _) ⟨⟨vk, vt, vS, vval, vcl, vca, ds⟩, .slice da ds.length dc⟩ w4.heap.size rfl (Blk.new w4 _ _) (hrow'.alloc _) (by simp only; omega) hap (by omega) (by simp; omega) ?_))
        intro v' w5 hO5 hg5
        have R5 := (hR4.alloc (.cells #[.int .i64 vk, .int .i64 vt, .int .i64 vS, .int .i64 vval, .int .i64 vcl, .int .i64 vca, .slice da ds.length dc] 28)).grown hg5 (fun j hj => by have := (hO4.row.lt j hj).1; omega)
        have T5 := (T4.alloc (.cells #[.int .i64 vk, .int .i64 vt, .int .i64 vS, .int .i64 vval, .int .i64 vcl, .int .i64 vca, .slice da ds.length dc] 28)).grown hg5 (fun j hj => (hO4.row.lt j hj).1)
        have F5 : Few 81 (vs ++ [(⟨vk, vt, vS, vval, vcl, vca, ds⟩ : V)]) := ⟨by have := hF.1; simp; omega, fun x hx => by
          rcases List.mem_append.1 hx with hx | hx
          · exact hF.2 x hx
          · simp at hx; subst hx; exact hdl⟩
        clear hO4 hR4 T4 hg5 hap hrow'
        go_wp2_with fail
        go_ret
        exact ⟨_, _, vs ++ [(⟨vk, vt, vS, vval, vcl, vca, ds⟩ : V)], q4, rfl, hO5, by simp [hy], F5, by omega, R5, T5⟩
      · by_cases h1' : c = 1
        · subst h1'
          go_wp2_with fail
          go_loopw [5, 7] (fun v i wr => ∃ (n : Nat) (ys : List XV) (vs : List V) (p' : Int), n ≤ 40 ∧ i = .int .i64 n ∧ OwnV wr w.heap.size v ys ∧ ys.map XV.v = vs ∧ Few 80 vs ∧ p' ≤ q + 1 + n ∧ Rd wr B p' ∧ Stp B w wr) (fun _ i _ => 40 - (intOf i).toNat)
          case atStart => exact ⟨0, ys, vs, _, by omega, rfl, hO3, hy, hF, by omega, hr3, T3⟩
          case round =>
            clear hO3 hr3 T3 hy hF
            obtain ⟨n, ys5, vs5, q5, hn, rfl, hO5, hy5, hF5, hq5, hR5, hT5⟩ := hrel
            obtain ⟨va5, vc5, rfl, _⟩ := hO5.asD hy5
            by_cases hlt : (n : Int) < 40
            · go_wp2_with fail
              refine (pick_any _ q5 4 _ hR5 (by omega) (by omega)).mono ?_
              rintro e w6 ⟨d, rfl, d0, d1, hr6, hs6, hz6⟩
              have hO6 := hO5.step hs6 hB
              have T6 : Stp B w w6 := hT5.trans hs6
              clear hR5 hT5 hO5 hs6 hz6
              by_cases hd : d = 0
              · subst hd
                go_wp2_with fail
                go_loopw [5, 8] (fun v i wr => ∃ (k : Nat) (ys : List XV) (vs : List V), k ≤ 3 ∧ i = .int .i64 k ∧ OwnV wr w.heap.size v ys ∧ ys.map XV.v = vs ∧ Few 80 vs ∧ Rd wr B (q5 + 1) ∧ Stp B w wr) (fun _ i _ => 3 - (intOf i).toNat)
                case atStart => exact ⟨0, ys5, vs5, by omega, rfl, hO6, hy5, hF5, hr6, T6⟩
                case round =>
                  clear hO6 hr6 T6 hy5 hF5
                  obtain ⟨k, ys7, vs7, hk7, rfl, hO7, hy7, hF7, hR7, hT7⟩ := hrel
                  obtain ⟨va7, vc7, rfl, hV7⟩ := hO7.asD hy7
                  by_cases hk3 : (k : Int) < 3
                  · have HL : vs7.length ≤ 80 := hF7.1
                    go_wp2_with fail
                    have b8 : Below wr.heap.size wr (wr.alloc (.cells #[.int .i64 k, .int .i64 (20 + n), .int .i64 k, .int .i64 0, .int .i64 1, .int .i64 9, .slice none 0 0] 28)) := (Below.refl _ wr).alloc (Nat.le_refl _) _
                    refine (sPutV_any va7 vc7 vs7 ⟨k, 20 + n, k, 0, 1, 9, []⟩ none 0 _ (by omega) (hV7.below b8) (by simp) (.inl rfl)).mono ?_
                    rintro e w9 ⟨u9, ys9, rfl, O9, hy9, hb9⟩
                    have F9 := hF7.put (v := ⟨k, 20 + n, k, 0, 1, 9, []⟩) (by simp)
                    have hbb : Below wr.heap.size wr w9 := b8.trans (hb9.mono b8.size)
                    have O9' := O9.mono (base' := w.heap.size) (by have := hT7.size; have := b8.size; omega)
                    have R9 := hR7.below hbb
                    have T9 : Stp B w w9 := hT7.trans (Stp.ofBelow hbb)
                    generalize cPut vs7 ⟨k, 20 + n, k, 0, 1, 9, []⟩ = us at *
                    generalize cDid vs7 ⟨k, 20 + n, k, 0, 1, 9, []⟩ = did at *
                    clear O9 hb9 b8 hbb hR7 hT7 hV7 HL hF7 hy7 hO7
                    go_wp2_with fail
                    go_roundw
                    case rel => exact ⟨k + 1, ys9, us, by omega, by go_num, O9', hy9, F9, R9, T9⟩
                    case measure => simp [intOf]; omega
                  · have hk4 : k = 3 := by omega
                    subst hk4
                    clear hV7
                    go_wp2_with fail
                    go_roundw
                    case rel => exact ⟨n + 1, ys7, vs7, _, by omega, by go_num, hO7, hy7, hF7, by omega, hR7, hT7⟩
                    case measure => simp [intOf]; omega
              · have F6 := hF5.more (m := 81) (by omega)
                go_wp2_with fail
                go_ret
                exact ⟨_, ys5, vs5, _, rfl, hO6, hy5, F6, by omega, hr6, T6⟩
            · have F6 := hF5.more (m := 81) (by omega)
              have hn40 : n = 40 := by omega
              subst hn40
              go_wp2_with fail
              go_ret
              exact ⟨_, rfl, ys5, hO5, by rw [hy5]; exact F6, q5, by omega, hR5, hT5⟩
        · have F5 := hF.more (m := 81) (by omega)
          go_wp2_with fail
          go_ret
          exact ⟨_, ys, vs, _, rfl, hO3, hy, F5, by omega, hr3, T3⟩
end Go.Proofs.Ytgdkoangpinieaa

/- Draws for the laws of chains. -/
namespace Go.Proofs.Ytgdkoangpinieaa
open Go.ChangeShapes Go.WideShapes Go.ChangeAt Go.RowKit

theorem drawCOk (w : World) (a : Option Addr) (len cap : Nat) (h : Code w a len cap) :
    Calls Try.prog 59 #[.slice a len cap] w fun e w' => ∃ (v : Value) (ys : List XV) (vs : List V), e = .returned v ∧ OwnV w' w.heap.size v ys ∧ ys.map XV.v = vs ∧ Few 81 vs ∧ Below w.heap.size w w' := by
  go_enter Try.func59, Try.ntmps59
  go_wp2_with fail
  refine (open_any w a len cap h).mono ?_
  rintro e w1 ⟨rfl, hr, hb, hs⟩
  go_wp2_with fail
  refine (drawChain _ 0 9 w1 hr (by omega) (by omega) (by omega)).mono ?_
  rintro e w2 ⟨v, ys, vs, p', rfl, hO, hy, hF, _, hr2, hs2⟩
  have hB : Below w.heap.size w w2 := hs2.below hb (Nat.le_refl _)
  have hO2 := hO.mono (base' := w.heap.size) (by omega)
  clear hs2 hr2 hr hb hO
  go_wp2_with fail
  go_ret
  exact ⟨_, ys, vs, rfl, hO2, hy, hF, hB⟩

theorem drawCTop (w : World) (a : Option Addr) (len cap : Nat) (h : Code w a len cap) :
    Calls Try.prog 35 #[.slice a len cap] w fun e w' => ∃ (v : Value) (ys : List XV) (vs : List V) (k : Int), e = .returned (.tuple #[v, .int .i64 k]) ∧ OwnV w' w.heap.size v ys ∧ ys.map XV.v = vs ∧ Few 81 vs ∧ -1 ≤ k ∧ k ≤ 6 ∧ Below w.heap.size w w' := by
  go_enter Try.func35, Try.ntmps35
  go_wp2_with fail
  refine (open_any w a len cap h).mono ?_
  rintro e w1 ⟨rfl, hr, hb, hs⟩
  go_wp2_with fail
  refine (drawChain _ 0 12 w1 hr (by omega) (by omega) (by omega)).mono ?_
  rintro e w2 ⟨v, ys, vs, p', rfl, hO, hy, hF, hp', hr2, hs2⟩
  have hB : Below w.heap.size w w2 := hs2.below hb (Nat.le_refl _)
  have hz1 : w.heap.size < w1.heap.size := by omega
  clear hs2 hr hb
  go_wp2_with fail
  refine (pick_any _ p' 8 _ hr2 (by omega) (by omega)).mono ?_
  rintro e w3 ⟨k, rfl, k0, k1, hr3, hs3, hz3⟩
  have hB3 : Below w.heap.size w w3 := hs3.below hB (Nat.le_refl _)
  have hO3 := (hO.step hs3 hz1).mono (base' := w.heap.size) (by omega)
  clear hs3 hr3 hr2 hB hO hz3
  go_wp2_with fail
  go_ret2
  exact ⟨_, ys, vs, _, rfl, hO3, hy, hF, by omega, by omega, hB3⟩

theorem drawCSlot (w : World) (a : Option Addr) (len cap : Nat) (h : Code w a len cap) :
    Calls Try.prog 47 #[.slice a len cap] w fun e w' => ∃ (v : Value) (ys : List XV) (vs : List V) (k : Int), e = .returned (.tuple #[v, .int .i64 k]) ∧ OwnV w' w.heap.size v ys ∧ ys.map XV.v = vs ∧ Few 81 vs ∧ -1 ≤ k ∧ k ≤ 20 ∧ Below w.heap.size w w' := by
  go_enter Try.func47, Try.ntmps47
  go_wp2_with fail
  refine (open_any w a len cap h).mono ?_
  rintro e w1 ⟨rfl, hr, hb, hs⟩
  go_wp2_with fail
  refine (drawChain _ 0 12 w1 hr (by omega) (by omega) (by omega)).mono ?_
  rintro e w2 ⟨v, ys, vs, p', rfl, hO, hy, hF, hp', hr2, hs2⟩
  have hB : Below w.heap.size w w2 := hs2.below hb (Nat.le_refl _)
  have hz1 : w.heap.size < w1.heap.size := by omega
  clear hs2 hr hb
  go_wp2_with fail
  refine (pick_any _ p' _ _ hr2 (by omega) (by omega)).mono ?_
  rintro e w3 ⟨k, rfl, k0, k1, hr3, hs3, hz3⟩
  have hB3 : Below w.heap.size w w3 := hs3.below hB (Nat.le_refl _)
  have hO3 := (hO.step hs3 hz1).mono (base' := w.heap.size) (by omega)
  clear hs3 hr3 hr2 hB hO hz3
  go_wp2_with fail
  go_ret2
  exact ⟨_, ys, vs, _, rfl, hO3, hy, hF, by omega, by omega, hB3⟩
end Go.Proofs.Ytgdkoangpinieaa

