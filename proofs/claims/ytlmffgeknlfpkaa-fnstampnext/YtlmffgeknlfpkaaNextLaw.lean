/- The law: the next stamp is behind all, and its site's. -/
import Derived.Test.YtlmffgeknlfpkaaBoth
import Derived.Test.YtlmffgeknlfpkaaDrawOk
import Derived.Test.YtlmffgeknlfpkaaCmp
namespace Go.Proofs.Ytlmffgeknlfpkaa
open Go.ChangeShapes Go.WideShapes Go.ChangeAt Go.RowKit

theorem row_below {w w' : World} {base : Nat} {e : TypeId} {size : Nat} {v : Value} {n : Nat} {xs : List Value} (h : w.ownsRow base e size v n xs) (k : Below w.heap.size w w') : w'.ownsRow base e size v n xs := by
  refine ⟨h.1, ?_⟩
  rcases h.2 with hn | ⟨g, cap, cur, rfl, hb, hg, rest⟩
  · exact .inl hn
  · exact .inr ⟨g, cap, cur, rfl, hb, (k.block g (Array.getElem?_eq_some_iff.1 hg).1).trans hg, rest⟩

/-- What the law knows in its loop: nothing old has turned, the list lies there, and the next stamp in the block K. -/
def InLoop (w0 : World) (g K : Nat) (xs : List (Int × Int)) (t s : Int) (w : World) : Prop :=
  Below w0.heap.size w0 w ∧ Stamps w (some ⟨g, 0, none⟩) xs ∧ K < w.heap.size ∧ w.cell? ⟨K, 0, none⟩ = some (.int .i64 t) ∧ w.cell? ⟨K, 1, none⟩ = some (.int .i64 s)
theorem InLoop.below {w0 w w' : World} {g K : Nat} {xs : List (Int × Int)} {t s : Int} (h : InLoop w0 g K xs t s w) (k : Below w.heap.size w w') : InLoop w0 g K xs t s w' := by
  obtain ⟨h1, h2, h3, h4, h5⟩ := h
  exact ⟨h1.trans (k.mono h1.size), h2.below k, Nat.lt_of_lt_of_le h3 k.size, (k.cell (p := ⟨K, 0, none⟩) h3).trans h4, (k.cell (p := ⟨K, 1, none⟩) h3).trans h5⟩
/-- .. and one stamp of the list. -/
def InRound (w0 : World) (g K k : Nat) (xs : List (Int × Int)) (t s r q : Int) (w : World) : Prop :=
  (Below w0.heap.size w0 w ∧ Stamps w (some ⟨g, 0, none⟩) xs ∧ K < w.heap.size ∧ w.cell? ⟨K, 0, none⟩ = some (.int .i64 t) ∧ w.cell? ⟨K, 1, none⟩ = some (.int .i64 s)) ∧ g < w.heap.size ∧ w.cell? ⟨g, k * 2, none⟩ = some (.int .i64 r) ∧ w.cell? ⟨g, k * 2 + 1, none⟩ = some (.int .i64 q)
theorem InRound.below {w0 w w' : World} {g K k : Nat} {xs : List (Int × Int)} {t s r q : Int} (h : InRound w0 g K k xs t s r q w) (b : Below w.heap.size w w') : InRound w0 g K k xs t s r q w' := by
  obtain ⟨h1, h2, h3, h4⟩ := h
  exact ⟨InLoop.below h1 b, Nat.lt_of_lt_of_le h2 b.size, (b.cell (p := ⟨g, _, none⟩) h2).trans h3, (b.cell (p := ⟨g, _, none⟩) h2).trans h4⟩
theorem InRound.drew {w0 w : World} {g K k : Nat} {xs : List (Int × Int)} {t s r q : Int} (h : InRound w0 g K k xs t s r q w) : InRound w0 g K k xs t s r q w.drew := h.below (Below.refl _ _).drew
theorem InLoop.round {w0 w : World} {g K k : Nat} {xs : List (Int × Int)} {t s : Int} (h : InLoop w0 g K xs t s w) (hk : k < xs.length) : InRound w0 g K k xs t s xs[k].1 xs[k].2 w := by
  refine ⟨h, ?_⟩
  rcases h.2.1 with h | ⟨b, o, he, hb, h⟩
  · rw [h] at hk; simp at hk
  · simp at he
    obtain ⟨rfl, rfl⟩ := he
    have := h k hk
    simp only [Nat.zero_add] at this
    exact ⟨hb, this.1, this.2⟩

theorem next_less {site : Int} {xs : List (Int × Int)} {k : Nat} (hk : k < xs.length) : lessB xs[k].1 xs[k].2 (maxT xs + 1) site = true := by
  have := maxT_mem (List.getElem_mem hk)
  simp [lessB]; omega
theorem maxT_more (xs : List (Int × Int)) (t s : Int) : maxT xs ≤ maxT (xs ++ [(t, s)]) := by rw [maxT_snoc]; split <;> omega
theorem next_ok {site : Int} {xs : List (Int × Int)} (h : hasNext site xs = true) : okB (maxT xs + 1) site = true ∧ 0 ≤ maxT xs ∧ maxT xs < 9999 := by
  have := maxT_nonneg xs
  simp [hasNext, inB] at h
  simp [okB]; omega

set_option maxHeartbeats 4000000 in
theorem lawNext (w : World) (a c : Option Addr) (len cap len1 cap1 : Nat) (h : Code w a len cap) (h' : Code w c len1 cap1) :
    Calls Try.prog 5 #[.slice a len cap, .slice c len1 cap1] w fun e w' => e = .returned (.bool true) ∧ Below w.heap.size w w' := by
  obtain ⟨i0, hi, hz0, hz1, hz2⟩ := info_parts info24
  have hm := h.2.1
  have hl := h.1
  have hm' := h'.2.1
  have hl' := h'.1
  unfold maxLen at hm hm'
  by_cases hc : 1048576 < (len : Int)
  · go_enter Try.func5, Try.ntmps5
    go_wp2
    go_ret
    exact ⟨rfl, Below.refl _ _⟩
  by_cases hc' : 1048576 < (len1 : Int)
  · go_enter Try.func5, Try.ntmps5
    go_wp2
    go_ret
    exact ⟨rfl, Below.refl _ _⟩
  go_enter Try.func5, Try.ntmps5
  go_wp2_with fail
  refine (drawNext w a len cap h).mono ?_
  rintro e w1 ⟨site, xs, g, cp, rfl, _, _, hx, hS, hB⟩
  have hx' : xs.length ≤ 1099511627776 := by omega
  clear h hm hl hm' hl'
  rcases hN : hasNext site xs with _ | _
  · have E := next_no hN
    go_wp2_with fail
    refine (sNext_any site _ cp xs w1 hx' hS).mono ?_
    rw [E]
    rintro e w2 ⟨rfl, h2⟩
    go_wp2_with fail
    refine (iNext_any site _ cp xs _ hx' ((hS.below h2).below ((Below.refl _ _).alloc (Nat.le_refl _) _))).mono ?_
    rw [E]
    rintro e w3 ⟨rfl, h3⟩
    obtain ⟨k1, k2, k3, k4, k5⟩ := bothNext _ xs w w1 0 0 hB hS w2 h2 w3 (h3.mono (by simp))
    clear h2 h3 hS hB E
    go_wp2
    go_ret
    exact ⟨rfl, k1⟩
  · have E := next_yes hN
    go_wp2_with fail
    refine (sNext_any site _ cp xs w1 hx' hS).mono ?_
    rw [E]
    rintro e w2 ⟨rfl, h2⟩
    go_wp2_with fail
    refine (iNext_any site _ cp xs _ hx' ((hS.below h2).below ((Below.refl _ _).alloc (Nat.le_refl _) _))).mono ?_
    rw [E]
    rintro e w3 ⟨rfl, h3⟩
    obtain ⟨k1, k2, k3, k4, k5⟩ := bothNext _ xs w w1 (maxT xs + 1) site hB hS w2 h2 w3 (h3.mono (by simp))
    obtain ⟨o1, o2, o3⟩ := next_ok hN
    clear h2 h3 hS hB E hN
    go_wp2_with fail
    have I0 : InLoop w g w3.heap.size xs (maxT xs + 1) site (w3.alloc (.cells #[.int .i64 (maxT xs + 1), .int .i64 site] 24)) :=
      ⟨k1, k2, by simp, by simp [go_sem], by simp [go_sem]⟩
    clear k1 k2 k3 k4 k5
    generalize w3.heap.size = K at *
    generalize w3.alloc (.cells #[.int .i64 (maxT xs + 1), .int .i64 site] 24) = w4 at *
    go_loopw [11] (fun i wr => ∃ k : Nat, k ≤ xs.length ∧ i = .int .i64 k ∧ InLoop w g K xs (maxT xs + 1) site wr) (fun i _ => xs.length - (intOf i).toNat)
    case atStart => exact ⟨0, Nat.zero_le _, rfl, I0⟩
    case round =>
      obtain ⟨k, hk, rfl, I1⟩ := hrel
      clear I0
      by_cases hlt : k < xs.length
      · have R := I1.round hlt
        have hless := next_less (site := site) hlt
        generalize xs[k].1 = r at *
        generalize xs[k].2 = q at *
        clear I1
        go_wp2_with fail
        go_region_held3 (fun W => (Below w.heap.size w W ∧ Stamps W (some ⟨g, 0, none⟩) xs ∧ K < W.heap.size ∧ W.cell? ⟨K, 0, none⟩ = some (.int .i64 (maxT xs + 1)) ∧ W.cell? ⟨K, 1, none⟩ = some (.int .i64 site)) ∧ g < W.heap.size ∧ W.cell? ⟨g, k * 2, none⟩ = some (.int .i64 r) ∧ W.cell? ⟨g, k * 2 + 1, none⟩ = some (.int .i64 q)) (first | exact InRound.drew (by assumption) | exact InRound.below (by assumption) (by assumption)) (first | (go_at_call 8; refine (iLess_any _ _ _ _ _).mono ?_; rintro e w5 ⟨rfl, hb5⟩))
        rename_i R2
        have I2 : InLoop w g K xs (maxT xs + 1) site _ := R2.1
        clear R R2
        go_wp2
        go_roundw
        case rel => exact ⟨k + 1, by omega, by go_num, I2⟩
        case measure => simp [intOf]; omega
      · have hk2 : k = xs.length := by omega
        subst hk2
        obtain ⟨B1, S1, hK, c0, c1⟩ := id I1
        have hB1s := B1.size
        have hown0 : (wr.alloc (.cells #[] 24)).ownsRow wr.heap.size 24 2 (.slice (some ⟨wr.heap.size, 0, none⟩) 0 0) 0 [] :=
          World.ownsRow_made wr #[] 0 (Nat.le_refl _) (by unfold maxLen; omega) rfl
        have S0 : Stamps (wr.alloc (.cells #[] 24)) (some ⟨g, 0, none⟩) xs := S1.below ((Below.refl _ _).alloc (Nat.le_refl _) _)
        clear S1 hc hc' I1
        go_wp2_with (first | (at_builtin; refine wpList_append_own _ rfl _ _ 32 rfl wr.heap.size 24 i0 (.agg #[.int .i64 0, .int .i64 0]) 2 16 Try.underlying32 hi hz0 hz1 hz2 rfl (by decide) _ _ _ rfl hown0 ⟨g, 0, none⟩ xs.length cp (flat xs) rfl ?d0 ?d1 ?d2 ?d3 ?d4 ?d5 ?_))
        case d0 => exact flat_len xs
        case d1 => exact stamps_cells S0
        case d2 => exact flat_one xs
        case d3 => unfold maxLen; omega
        case d4 => omega
        case d5 => simp
        intro v' w5 hown5 hg5 _
        have HG : Hid ((wr.alloc (.cells #[] 24)).grownBy w5 (some wr.heap.size)) := hg5
        have B5 : Below w.heap.size w w5 := (B1.alloc hB1s _).grown HG.out (by simp; omega) (fun j hj => by simp at hj; omega)
        have W5 : Below wr.heap.size wr w5 := ((Below.refl wr.heap.size wr).alloc (Nat.le_refl _) _).grown HG.out (by simp) (fun j hj => by simp at hj; omega)
        have hs5 := W5.size
        clear hg5 HG S0 hown0 B1
        go_wp2_with fail
        refine (drawOk w5 c len1 cap1 (h'.below B5)).mono ?_
        rintro e w6 ⟨t, s, rfl, _, b6⟩
        have hown6 := row_below hown5 b6
        have W6 : Below wr.heap.size wr w6 := W5.trans (b6.mono hs5)
        have B6 : Below w.heap.size w w6 := B5.trans (b6.mono B5.size)
        have hs6 := W6.size
        clear hown5 b6 W5 B5
        go_wp2_with (first | (at_builtin; refine wpList_append_own _ rfl _ _ 32 rfl wr.heap.size 24 i0 (.agg #[.int .i64 0, .int .i64 0]) 2 16 Try.underlying32 hi hz0 hz1 hz2 rfl (by decide) _ _ _ rfl (hown6.alloc _) ⟨w6.heap.size, 0, none⟩ 1 1 [.int .i64 t, .int .i64 s] rfl rfl ?c1 ?c2 ?c3 ?c4 ?c5 ?_))
        case c1 =>
          intro j u hj
          match j, hj with
          | 0, hj => simp at hj; subst hj; simp [Addr.add, go_sem]
          | 1, hj => simp at hj; subst hj; simp [Addr.add, go_sem]
          | (j + 2), hj => simp at hj
        case c2 => intro u hu; simp at hu; rcases hu with rfl | rfl <;> rfl
        case c3 => unfold maxLen; omega
        case c4 => omega
        case c5 => simp; omega
        intro v7 w7 hown7 hg7 _
        rw [← flat_snoc] at hown7
        have hrow : ∀ j, (Value.ownBlock v') = some j → wr.heap.size ≤ j := fun j hj => (hown6.lt j hj).1
        have W7 : Below wr.heap.size wr w7 := (W6.alloc (by omega) _).grown hg7 (by simp; omega) hrow
        have B7 : Below w.heap.size w w7 := (B6.alloc (by omega) _).grown hg7 (by simp; omega) (fun j hj => by have := hrow j hj; omega)
        have hs7 := W7.size
        have c2 : w7.cell? ⟨K, 0, none⟩ = some (.int .i64 (maxT xs + 1)) := (W7.cell (p := ⟨K, 0, none⟩) hK).trans c0
        have c3 : w7.cell? ⟨K, 1, none⟩ = some (.int .i64 site) := (W7.cell (p := ⟨K, 1, none⟩) hK).trans c1
        have hlen : xs.length + 1 = (xs ++ [(t, s)]).length := by simp
        rw [hlen] at hown7
        obtain ⟨b7, cp7, hv7, S7⟩ := stamps_of_row hown7
        rw [← hlen] at hv7
        subst hv7
        have hK7 : K < w7.heap.size := by omega
        have HL : Hid (xs.length + 1 = (xs ++ [(t, s)]).length) := hlen
        clear hown6 hown7 hg7 hrow W6 B6 c0 c1 W7 hlen
        rcases hN2 : hasNext site (xs ++ [(t, s)]) with _ | _
        · have E := next_no hN2
          clear hN2
          go_wp2_with fail
          rw [HL.out]
          refine (iNext_any site _ cp7 (xs ++ [(t, s)]) w7 (by simp; omega) S7).mono ?_
          rw [E]
          rintro e w8 ⟨rfl, h8⟩
          have I8 : InLoop w g K [] (maxT xs + 1) site w8 := InLoop.below ⟨B7, .inl rfl, hK7, c2, c3⟩ h8
          clear E h8 B7 c2 c3 S7 hK7
          obtain ⟨B8, -, hK8, c4, c5⟩ := id I8
          go_wp2_with fail
          refine (iOk_any _ _ _).mono ?_
          rintro e w9 ⟨rfl, h9⟩
          have B9 : Below w.heap.size w w9 := (B8.alloc B8.size _).trans (h9.mono (by have := B8.size; simp; omega))
          clear h9 B8 I8
          go_wp2
          go_ret
          exact ⟨rfl, B9⟩
        · have E := next_yes hN2
          obtain ⟨_, p2, p3⟩ := next_ok hN2
          have hge := maxT_more xs t s
          clear hN2
          generalize maxT (xs ++ [(t, s)]) = M at *
          go_wp2_with fail
          rw [HL.out]
          refine (iNext_any site _ cp7 (xs ++ [(t, s)]) w7 (by simp; omega) S7).mono ?_
          rw [E]
          rintro e w8 ⟨rfl, h8⟩
          have I8 : InLoop w g K [] (maxT xs + 1) site w8 := InLoop.below ⟨B7, .inl rfl, hK7, c2, c3⟩ h8
          clear E h8 B7 c2 c3 S7 hK7
          obtain ⟨B8, -, hK8, c4, c5⟩ := id I8
          have hne : K ≠ w8.heap.size := by omega
          have c6 : (w8.alloc (.cells #[.int .i64 (M + 1), .int .i64 site] 24)).cell? ⟨K, 0, none⟩ = some (.int .i64 (maxT xs + 1)) := (World.cell?_alloc_lt _ _ _ hK8).trans c4
          go_wp2_with fail
          refine (iOk_any _ _ _).mono ?_
          rintro e w9 ⟨rfl, h9⟩
          obtain ⟨d9, f9⟩ := bcell h9
          have B9 : Below w.heap.size w w9 := (B8.alloc B8.size _).trans (h9.mono (by have := B8.size; simp; omega))
          have e1 : w9.cell? ⟨w8.heap.size, 0, none⟩ = some (.int .i64 (M + 1)) := by rw [d9 _ _ (by simp)]; simp [go_sem]
          have e2 : w9.cell? ⟨K, 0, none⟩ = some (.int .i64 (maxT xs + 1)) := by rw [d9 _ _ (by simp; omega)]; exact c6
          have hd : decide (maxT xs + 1 ≤ M + 1) = true := by simp; omega
          clear h9 B8 I8 d9 f9 c4 c5 c6
          go_wp2
          go_ret
          exact ⟨rfl, B9⟩
end Go.Proofs.Ytlmffgeknlfpkaa
