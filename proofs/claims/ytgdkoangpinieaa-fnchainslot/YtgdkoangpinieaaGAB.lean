/- 2 texts in one: SPut2, DrawDeps. -/
import Derived.Test.YtgdkoangpinieaaSPut
import Derived.Test.YtgdkoangpinieaaStamp
import Derived.Test.YtgdkoangpinieaaGAH
/- The specification's DepsPut, at all deps. -/
namespace Go.Proofs.Ytgdkoangpinieaa
open Go.ChangeShapes Go.WideShapes Go.ChangeAt Go.RowKit

set_option maxHeartbeats 1000000 in
set_option maxRecDepth 100000 in
theorem sPut_no (a : Option Addr) (cap : Nat) (xs : List D) (d : D) (w : World) (hn : xs.length ≤ 1099511627776) (h : Deps w a xs) (hno : depsOk xs = false ∨ okD d = false) :
    Calls Try.prog 113 #[.slice a xs.length cap, depV d.k d.t d.s] w fun e w' => ∃ v, e = .returned v ∧ w'.ownsRow w.heap.size 51 3 v (putL xs d).length (flat3 (putL xs d)) ∧ Below w.heap.size w w' := by
  have HP : Hid (putL xs d = []) := putL_no hno
  have B0 : Below w.heap.size w (w.alloc (.cells #[.int .i64 d.k, .int .i64 d.t, .int .i64 d.s] 51)) := (Below.refl _ _).alloc (Nat.le_refl _) _
  have hS := sDepsOk_any a cap xs _ hn (h.below B0)
  rcases hok : depsOk xs with _ | _
  · rw [hok] at hS
    clear h
    go_enter Try.func113, Try.ntmps113
    go_wp2_with fail
    refine hS.mono ?_
    rintro e w1 ⟨rfl, hb1⟩
    have hB1 : Below w.heap.size w w1 := B0.trans (hb1.mono (by simp))
    clear hb1 hS B0
    have hown0 : (w1.alloc (.cells #[] 51)).ownsRow w.heap.size 51 3 (.slice (some ⟨w1.heap.size, 0, none⟩) 0 0) 0 [] := World.ownsRow_made w1 #[] 0 hB1.size (by unfold maxLen; omega) rfl
    go_wp2_with fail
    go_ret
    exact ⟨_, rfl, by rw [HP.out]; exact hown0, hB1.alloc hB1.size _⟩
  · have hd : okD d = false := by rcases hno with h | h; rw [hok] at h; cases h; exact h
    rw [hok] at hS
    have hS1 := fun (w : World) h => sDepsOk_any (some ⟨w.heap.size, 0, none⟩) 1 [d] (w.alloc (.cells #[.int .i64 d.k, .int .i64 d.t, .int .i64 d.s] 51)) (by simp) h
    rw [depsOk_one, hd] at hS1
    simp only [List.length_cons, List.length_nil, Nat.zero_add] at hS1
    clear h
    go_enter Try.func113, Try.ntmps113
    go_wp2_with fail
    refine hS.mono ?_
    rintro e w1 ⟨rfl, hb1⟩
    have D1 := (Blk.new w _ _).below hb1 (by simp)
    have hB1 : Below w.heap.size w w1 := B0.trans (hb1.mono (by simp))
    obtain ⟨q1, g1⟩ := D1.rules
    clear hb1 hS B0
    go_wp2_with fail
    refine (hS1 _ (deps_one (Blk.new w1 _ _))).mono ?_
    rintro e w2 ⟨rfl, hb2⟩
    have hB2 : Below w.heap.size w w2 := (hB1.alloc hB1.size _).trans (hb2.mono (by have := hB1.size; simp; omega))
    have hown0 : (w2.alloc (.cells #[] 51)).ownsRow w.heap.size 51 3 (.slice (some ⟨w2.heap.size, 0, none⟩) 0 0) 0 [] := World.ownsRow_made w2 #[] 0 hB2.size (by unfold maxLen; omega) rfl
    clear hb2 q1 g1 D1 hB1 hS1
    go_wp2_with fail
    go_ret
    exact ⟨_, rfl, by rw [HP.out]; exact hown0, hB2.alloc hB2.size _⟩

theorem sPut_any (a : Option Addr) (cap : Nat) (xs : List D) (d : D) (w : World) (hn : xs.length ≤ 1099511627776) (h : Deps w a xs) :
    Calls Try.prog 113 #[.slice a xs.length cap, depV d.k d.t d.s] w fun e w' => ∃ v, e = .returned v ∧ w'.ownsRow w.heap.size 51 3 v (putL xs d).length (flat3 (putL xs d)) ∧ Below w.heap.size w w' := by
  by_cases hb : depsOk xs = true ∧ okD d = true
  · exact sPut_yes a cap xs d w hn h hb.1 hb.2
  · refine sPut_no a cap xs d w hn h ?_
    rcases h1 : depsOk xs with _ | _
    · exact .inl rfl
    · rcases h2 : okD d with _ | _
      · exact .inr rfl
      · exact absurd ⟨h1, h2⟩ hb
end Go.Proofs.Ytgdkoangpinieaa

/- Deps are drawn. -/
namespace Go.Proofs.Ytgdkoangpinieaa
open Go.ChangeShapes Go.WideShapes Go.ChangeAt Go.RowKit

theorem Stp.ofBelow {B : Nat} {w w' : World} (h : Below w.heap.size w w') : Stp B w w' := ⟨h.os, h.tape, h.output, h.size, fun k hk _ => h.block k hk⟩
theorem Rd.below {w w' : World} {B : Nat} {p : Int} (h : Rd w B p) (k : Below w.heap.size w w') : Rd w' B p := h.of_block k.size fun j hj => k.block j (by have := h.1; omega)
theorem row_step {B : Nat} {w w' : World} {base : Nat} {e : TypeId} {size : Nat} {v : Value} {n : Nat} {xs : List Value} (h : w.ownsRow base e size v n xs) (k : Stp B w w') (hB : B < base) : w'.ownsRow base e size v n xs := by
  refine ⟨h.1, ?_⟩
  rcases h.2 with hn | ⟨g, cap, cur, rfl, hb, hg, rest⟩
  · exact .inl hn
  · exact .inr ⟨g, cap, cur, rfl, hb, (k.block g (Array.getElem?_eq_some_iff.1 hg).1 (by omega)).trans hg, rest⟩
theorem Blk.stp {B A : Nat} {w w' : World} {vs : Array Value} {T : TypeId} (h : Blk w A vs T) (k : Stp B w w') (hne : A ≠ B) : Blk w' A vs T := (k.block A h.lt hne).trans h
theorem Stp.grown {B : Nat} {a w w' : World} {row : Option Nat} (h : Stp B a w) (g : w.grownBy w' row) (hr : ∀ j, row = some j → a.heap.size ≤ j) : Stp B a w' :=
  ⟨g.os.trans h.os, g.tape.trans h.tape, g.output.trans h.output, Nat.le_trans h.size g.size, fun k hk hB => (g.block k (by have := h.size; omega) (fun e => by have := hr k e.symm; omega)).trans (h.block k hk hB)⟩
theorem Rd.grown {B : Nat} {w w' : World} {p : Int} {row : Option Nat} (h : Rd w B p) (g : w.grownBy w' row) (hr : ∀ k, row = some k → B < k) : Rd w' B p :=
  h.of_block g.size fun k hk => g.block k (by have := h.1; omega) (fun e => by have := hr k e.symm; omega)

set_option maxHeartbeats 1000000 in
theorem drawDep (B : Nat) (p : Int) (w : World) (h : Rd w B p) (hp : p ≤ 900000) :
    Calls Try.prog 160 #[.pointer (some ⟨B, 0, none⟩)] w fun e w' => ∃ d : D, e = .returned (depV d.k d.t d.s) ∧ (0 ≤ d.k ∧ d.k ≤ 5 ∧ 1 ≤ d.t ∧ d.t ≤ 5 ∧ 0 ≤ d.s ∧ d.s ≤ 3) ∧ Rd w' B (p + 1 + 1 + 1) ∧ Stp B w w' := by
  have hB := h.1
  have n0 : w.heap.size ≠ B := by omega
  go_enter Try.func160, Try.ntmps160
  go_wp2_with fail
  refine (pick_any _ p 6 _ (h.alloc _) (by omega) (by omega)).mono ?_
  rintro e w1 ⟨v, rfl, v0, v1, hr1, hs1, hz1⟩
  go_wp2_with fail
  refine (pick_any _ _ 5 _ hr1 (by omega) (by omega)).mono ?_
  rintro e w2 ⟨u, rfl, u0, u1, hr2, hs2, hz2⟩
  go_wp2_with fail
  refine (pick_any _ _ 4 _ hr2 (by omega) (by omega)).mono ?_
  rintro e w3 ⟨k, rfl, k0, k1, hr3, hs3, hz3⟩
  have S3 : Stp B w w3 := ((((Stp.refl B w).alloc _).trans hs1).trans hs2).trans hs3
  have D3 := (((Blk.new w _ _).stp hs1 n0).stp hs2 n0).stp hs3 n0
  obtain ⟨q1, q2⟩ := D3.rules
  clear hs1 hs2 hs3 hr1 hr2 hz1 hz2 hz3
  go_wp2_with fail
  refine bodyPost_ret (v := depV v (1 + u) k) ?_ rfl ⟨⟨v, 1 + u, k⟩, rfl, by simp only; omega, ((hr3.setNew (by simp; omega) _).setNew (by simp; omega) _).setNew (by simp; omega) _, ((S3.setNew (by simp) _).setNew (by simp) _).setNew (by simp) _⟩
  refine Blk.gen (B := w.heap.size) (vs := #[.int .i64 v, .int .i64 (1 + u), .int .i64 k]) (T := 51) ?_ (P := fun W => (results Try.f160 _).run Try.prog W = .ok _ W) ?_
  · exact Blk.fill3 D3
  intro W hW
  obtain ⟨k, f⟩ := hW.rules
  simp [results, Try.results160, go_sem, k]

theorem flat3_set0 {xs : List D} (h : 0 < xs.length) (t s : Int) : ((flat3 xs).set 1 (.int .i64 t)).set 2 (.int .i64 s) = flat3 (xs.set 0 ⟨xs[0].k, t, s⟩) := by
  cases xs with
  | nil => simp at h
  | cons x xs => simp [flat3]

set_option maxHeartbeats 2000000 in
set_option maxRecDepth 100000 in
theorem drawDeps (B : Nat) (p : Int) (w : World) (h : Rd w B p) (hp : p ≤ 800000) :
    Calls Try.prog 115 #[.pointer (some ⟨B, 0, none⟩)] w fun e w' => ∃ (v : Value) (xs : List D) (p' : Int), e = .returned v ∧ xs.length ≤ 7 ∧ w'.ownsRow w.heap.size 51 3 v xs.length (flat3 xs) ∧ p' ≤ p + 30 ∧ Rd w' B p' ∧ Stp B w w' := by
  obtain ⟨i0, hi, hz0, hz1, hz2⟩ := info_parts infoDep
  have hB := h.1
  go_enter Try.func115, Try.ntmps115
  go_wp2_with fail
  refine (pick_any _ p 5 _ (h.alloc _) (by omega) (by omega)).mono ?_
  rintro e w2 ⟨n, rfl, n0, n1, hr2, hs2, hz2'⟩
  have hown0 : (w.alloc (.cells #[] 51)).ownsRow w.heap.size 51 3 (.slice (some ⟨w.heap.size, 0, none⟩) 0 0) 0 [] := World.ownsRow_made w #[] 0 (Nat.le_refl _) (by unfold maxLen; omega) rfl
  have hown2 := row_step hown0 hs2 hB
  have S2 : Stp B w w2 := ((Stp.refl B w).alloc _).trans hs2
  clear hs2 hown0 hz2'
  obtain ⟨m, rfl⟩ := Int.eq_ofNat_of_zero_le n0
  have hm : m ≤ 4 := by omega
  clear n0 n1
  go_wp2_with fail
  go_loopw [3, 4] (fun v i wr => ∃ (k : Nat) (xs : List D) (p' : Int), k ≤ 4 ∧ i = .int .i64 k ∧ xs.length ≤ 6 ∧ p' ≤ p + 1 + 3 * (4 - k) ∧ wr.ownsRow w.heap.size 51 3 v xs.length (flat3 xs) ∧ Rd wr B p' ∧ Stp B w wr) (fun _ i _ => (intOf i).toNat)
  case atStart => exact ⟨m, [], p + 1, hm, rfl, by simp, by omega, hown2, hr2, S2⟩
  case round =>
    obtain ⟨k, xs, q, hk, rfl, hxl, hq, hown, hR, hS⟩ := hrel
    clear hown2 hr2 S2 hm
    obtain ⟨va, vc, rfl, _⟩ := row_slice hown
    by_cases hk0 : (0 : Int) < k
    · go_wp2_with fail
      refine (drawDep _ q _ hR (by omega)).mono ?_
      rintro e w3 ⟨d, rfl, _, hr3, hs3⟩
      have hown3 := row_step hown hs3 hB
      have hS3 : Stp B w w3 := hS.trans hs3
      clear hR hS hown hs3
      go_wp2_with fail
      refine (sPut_any va vc xs d _ (by omega) (by obtain ⟨a', c', he, hD, _⟩ := deps_of_row hown3; simp at he; obtain ⟨rfl, _⟩ := he; exact hD)).mono ?_
      rintro e w4 ⟨v4, rfl, hrow4, hb4⟩
      have hrow5 := row_mono hrow4 hS3.size
      have hR4 := hr3.below hb4
      have hS4 : Stp B w w4 := hS3.trans (Stp.ofBelow hb4)
      have hl4 := putL_len xs d
      generalize putL xs d = ys at *
      obtain ⟨vb, vd, rfl, _⟩ := row_slice hrow5
      clear hrow4 hb4 hr3 hS3 hown3
      go_wp2_with fail
      go_roundw
      case rel => exact ⟨k - 1, ys, _, by omega, by go_num, hl4, by omega, hrow5, hR4, hS4⟩
      case measure => simp [intOf]; omega
    · have hk1 : k = 0 := by omega
      subst hk1
      go_wp2_with fail
      refine (pick_any _ q 14 _ hR (by omega) (by omega)).mono ?_
      rintro e w3 ⟨c, rfl, c0, c1, hr3, hs3, hz3⟩
      have hown3 := row_step hown hs3 hB
      have hS3 : Stp B w w3 := hS.trans hs3
      clear hR hS hown hs3 hz3
      by_cases h0 : c = 0
      · subst h0
        go_wp2_with fail
        refine (pick_any _ _ 7 _ hr3 (by omega) (by omega)).mono ?_
        rintro e w4 ⟨u, rfl, u0, u1, hr4, hs4, hz4⟩
        have hown4 := row_step hown3 hs4 hB
        have hS4 : Stp B w w4 := hS3.trans hs4
        clear hr3 hs4 hown3 hS3 hz4
        go_wp2_with fail
        refine (drawStamp _ _ _ hr4 (by omega)).mono ?_
        rintro e w5 ⟨t, s, q5, rfl, _, _, _, _, q1, q2, hr5, hs5⟩
        have hown5 := row_step hown4 hs5 hB
        have hS5 : Stp B w w5 := hS4.trans hs5
        have hz5 := hr5.1
        have hsz5 := hS5.size
        clear hr4 hs5 hown4 hS4
        go_wp2_with (first | (at_builtin; refine wpList_append_own _ rfl _ _ 26 rfl w.heap.size 51 i0 (.agg #[.int .i64 0, .int .i64 0, .int .i64 0]) 3 24 Try.underlying26 hi hz0 hz1 hz2 rfl (by decide) _ _ _ rfl (hown5.alloc _) ⟨w5.heap.size, 0, none⟩ 1 1 [.int .i64 (u - 1), .int .i64 t, .int .i64 s] rfl rfl (cells3' (Blk.new w5 _ _)) (by intro u hu; simp at hu; rcases hu with rfl | rfl | rfl <;> rfl) (by unfold maxLen; omega) (by omega) (by simp; omega) ?_))
        intro v' w6 hown6 hg6 _
        have hrow : ∀ j, (Value.ownBlock _) = some j → w.heap.size ≤ j := fun j hj => (hown5.lt j hj).1
        have hR6 := (hr5.alloc (.cells #[.int .i64 (u - 1), .int .i64 t, .int .i64 s] 51)).grown hg6 (fun j hj => by have := hrow j hj; omega)
        have hS6 := (hS5.alloc (.cells #[.int .i64 (u - 1), .int .i64 t, .int .i64 s] 51)).grown hg6 hrow
        have hown7 : w6.ownsRow w.heap.size 51 3 v' (xs ++ [(⟨u - 1, t, s⟩ : D)]).length (flat3 (xs ++ [(⟨u - 1, t, s⟩ : D)])) := by rw [flat3_snoc]; simpa using hown6
        have hl7 : (xs ++ [(⟨u - 1, t, s⟩ : D)]).length ≤ 7 := by simp; omega
        generalize (xs ++ [(⟨u - 1, t, s⟩ : D)]) = ys at *
        clear hown6 hown5 hg6 hr5 hS5 hrow
        go_wp2_with fail
        go_ret
        exact ⟨_, ys, q5, rfl, hl7, hown7, by omega, hR6, hS6⟩
      · by_cases h1 : c = 1
        · subst h1
          by_cases hlen : (0 : Int) < (xs.length : Int)
          · go_wp2_with fail
            refine (drawStamp _ _ _ hr3 (by omega)).mono ?_
            rintro e w5 ⟨t, s, q5, rfl, _, _, _, _, q1, q2, hr5, hs5⟩
            have hown5 := row_step hown3 hs5 hB
            have hS5 : Stp B w w5 := hS3.trans hs5
            clear hr3 hs5 hown3 hS3
            obtain ⟨g, rfl⟩ : ∃ g, va = some ⟨g, 0, none⟩ := by
              rcases hown5.2 with ⟨hn, hn0⟩ | ⟨g, cap, cur, he, _⟩
              · omega
              · simp at he; exact ⟨g, he.1⟩
            have hgb := (hown5.lt g rfl).1
            have hl3 : (flat3 xs).length = xs.length * 3 := flat3_len xs
            have d1 : w5.cell? ⟨g, 1, none⟩ = some ((flat3 xs)[1]'(by omega)) := by rw [hown5.cellAt 1 (by omega)]; exact List.getElem?_eq_getElem _
            have d2 : w5.cell? ⟨g, 2, none⟩ = some ((flat3 xs)[2]'(by omega)) := by rw [hown5.cellAt 2 (by omega)]; exact List.getElem?_eq_getElem _
            have f1 : w5.frozen? ⟨g, 1, none⟩ = false := hown5.frozenAt _
            have f2 : w5.frozen? ⟨g, 2, none⟩ = false := hown5.frozenAt _
            have ho7 := ((hown5.stored 1 (.int .i64 t)).1.stored 2 (.int .i64 s)).1
            rw [flat3_set0 (by omega)] at ho7
            have ho8 : ((w5.setCell ⟨g, 1, none⟩ (.int .i64 t)).setCell ⟨g, 2, none⟩ (.int .i64 s)).ownsRow w.heap.size 51 3 (.slice (some ⟨g, 0, none⟩) xs.length vc) (xs.set 0 ⟨xs[0].k, t, s⟩).length (flat3 (xs.set 0 ⟨xs[0].k, t, s⟩)) := by simpa using ho7
            have hl8 : (xs.set 0 ⟨xs[0].k, t, s⟩).length ≤ 7 := by simp; omega
            generalize (flat3 xs)[1]'(by omega) = u1 at *
            generalize (flat3 xs)[2]'(by omega) = u2 at *
            generalize xs.set 0 ⟨xs[0].k, t, s⟩ = ys at *
            clear hown5 ho7 hl3
            go_wp2_with fail
            go_ret
            exact ⟨_, ys, q5, rfl, hl8, ho8, by omega, (hr5.setNew (by simp; omega) _).setNew (by simp; omega) _, (hS5.setNew (by simp; omega) _).setNew (by simp; omega) _⟩
          · go_wp2_with fail
            go_ret
            exact ⟨_, xs, _, rfl, by omega, hown3, by omega, hr3, hS3⟩
        · have hk0' : (c == 0) = false := by simpa using h0
          have hk1' : (c == 1) = false := by simpa using h1
          go_wp2_with fail
          go_ret
          exact ⟨_, xs, _, rfl, by omega, hown3, by omega, hr3, hS3⟩
end Go.Proofs.Ytgdkoangpinieaa

