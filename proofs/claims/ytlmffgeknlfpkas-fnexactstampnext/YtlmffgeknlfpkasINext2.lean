/- The program's StampNext, and its loop. -/
import Derived.Test.YtlmffgeknlfpkasINext
namespace Go.Proofs.Ytlmffgeknlfpkas
open Go.ChangeShapes Go.WideShapes Go.ChangeAt Go.RowKit

theorem later_time (c t s : Int) (h1 : 0 ≤ s) (h2 : s ≤ 3) : later c (t * 4 + s) / 4 = if c / 4 < t then t else c / 4 := by
  unfold later; split <;> split <;> omega
theorem later_bd (c t s : Int) (h : 0 ≤ c ∧ c ≤ 40000) (h1 : 1 ≤ t ∧ t ≤ 9999) (h2 : 0 ≤ s ∧ s ≤ 3) : 0 ≤ later c (t * 4 + s) ∧ later c (t * 4 + s) ≤ 40000 := by
  unfold later; split <;> omega

set_option maxHeartbeats 2000000 in
theorem latest_any (a : Option Addr) (cap : Nat) (xs : List (Int × Int)) (w : World) (hn : xs.length ≤ 1099511627776) (h : Stamps w a xs) :
    Calls Try.prog 23 #[.slice a xs.length cap, .func (.func 24) #[] #[]] w fun e w' => ∃ c : Int, e = .returned (.tuple #[.int .i64 c, .bool (allOk xs)]) ∧ (allOk xs = true → 0 ≤ c ∧ c ≤ 40000 ∧ c / 4 = maxT xs) ∧ Below w.heap.size w w' := by
  go_enter Try.func23, Try.ntmps23
  go_wp2
  go_loopw [6, 11] (fun t i wr => ∃ (k : Nat) (c : Int), k ≤ xs.length ∧ i = .int .i64 k ∧ t = .int .i64 c ∧ 0 ≤ c ∧ c ≤ 40000 ∧ Hid (c / 4 = maxT (xs.take k)) ∧ allOk (xs.take k) = true ∧ Below w.heap.size w wr) (fun _ i _ => xs.length - (intOf i).toNat)
  case atStart => exact ⟨0, 0, Nat.zero_le _, rfl, rfl, by omega, by omega, rfl, rfl, Below.refl _ _⟩
  case round =>
    obtain ⟨k, c, hk, rfl, rfl, hc0, hc1, HC, hok, hb⟩ := hrel
    by_cases hlt : k < xs.length
    · have hS := h.below hb
      rcases hS with hS | ⟨b, o, rfl, hbb, hS⟩
      · rw [hS] at hlt; simp at hlt
      · obtain ⟨e0, e1⟩ := hS k hlt
        have HT : Hid (xs.take (k + 1) = xs.take k ++ [xs[k]]) := take_more xs k hlt
        generalize hx : xs[k] = x at *
        obtain ⟨t, s⟩ := x
        by_cases hkk : okB t s = true
        · obtain ⟨t1, t2, s1, s2⟩ := ok_bounds hkk
          go_wp2_with fail
          refine (iOk_any _ _ _).mono ?_
          rintro e w1 ⟨rfl, hb1⟩
          obtain ⟨c1, f1⟩ := bcell hb1
          have hz : wr.heap.size < w1.heap.size := by have := hb1.size; simp at this; omega
          go_wp2_with fail
          refine (code_any _ _ _ (by omega)).mono ?_
          rintro e w2 ⟨rfl, hb2⟩
          go_wp2_with fail
          have hB1 : Below w.heap.size w w1 := (hb.alloc hb.size _).trans (hb1.mono (by have := hb.size; simp; omega))
          have hB2 : Below w.heap.size w w2 := hB1.trans (hb2.mono hB1.size)
          refine (last_any _ _ _).mono ?_
          rintro e w3 ⟨rfl, rfl⟩
          have HO : Hid (allOk (xs.take (k + 1)) = true) := by rw [HT.out, allOk_snoc, hok, hkk]; rfl
          have HM : Hid (later c (t * 4 + s) / 4 = maxT (xs.take (k + 1))) := by
            show later c (t * 4 + s) / 4 = maxT (xs.take (k + 1))
            rw [HT.out, later_time c t s s1 s2, maxT_snoc, HC.out]
          have hl := later_bd c t s ⟨hc0, hc1⟩ ⟨t1, t2⟩ ⟨s1, s2⟩
          clear hb1 hb2 HT e0 e1 hS hx hb c1 f1 HC hB1
          go_wp2
          go_roundw
          case rel => exact ⟨k + 1, _, by omega, by go_num, rfl, hl.1, hl.2, HM, HO.out, hB2⟩
          case measure => simp [intOf]; omega
        · have hkf : okB t s = false := by simpa using hkk
          have HN : Hid (allOk xs = false) := allOk_not hlt (by rw [hx]; exact hkf)
          clear hkk
          go_wp2_with fail
          refine (iOk_any _ _ _).mono ?_
          rintro e w1 ⟨rfl, hb1⟩
          have hB1 : Below w.heap.size w w1 := (hb.alloc hb.size _).trans (hb1.mono (by have := hb.size; simp; omega))
          clear hb1 HT e0 e1 hS hx hb HC
          go_wp2
          go_ret2
          exact ⟨0, by rw [HN.out]; rfl, fun hh => absurd hh (by rw [HN.out]; exact Bool.false_ne_true), hB1⟩
    · have hk2 : k = xs.length := by omega
      subst hk2
      rw [List.take_length] at *
      have HA : Hid (allOk xs = true) := hok
      clear hok
      go_wp2
      go_ret2
      exact ⟨c, by rw [HA.out]; rfl, fun _ => ⟨hc0, hc1, HC.out⟩, hb⟩

theorem next_code (c site : Int) (h1 : 0 ≤ site) (h2 : site ≤ 3) : ((c / 4 + 1) * 4 + site) / 4 = c / 4 + 1 ∧ ((c / 4 + 1) * 4 + site) % 4 = site := by omega

set_option maxHeartbeats 2000000 in
theorem iNext_any (site : Int) (a : Option Addr) (cap : Nat) (xs : List (Int × Int)) (w : World) (hn : xs.length ≤ 1099511627776) (h : Stamps w a xs) :
    Calls Try.prog 14 #[.int .i64 site, .slice a xs.length cap] w fun e w' => e = .returned (nextV site xs) ∧ Below w.heap.size w w' := by
  have B0 : Below w.heap.size w (w.alloc (.cells #[.int .i64 0, .int .i64 0] 25)) := (Below.refl _ _).alloc (Nat.le_refl _) _
  by_cases hs : inB site 0 3 = true
  · obtain ⟨s1, s2⟩ : 0 ≤ site ∧ site ≤ 3 := by simpa [inB] using hs
    have hsd : (sideOf site < 0) = False := by rw [side_in site s1 (by omega)]; simp; omega
    by_cases hok : allOk xs = true
    · go_enter Try.func14, Try.ntmps14
      go_wp2_with fail
      refine (iSide_any _ _).mono ?_
      rintro e w0 ⟨rfl, rfl⟩
      go_wp2_with fail
      refine (latest_any a cap xs _ hn (h.below B0)).mono ?_
      rintro e w1 ⟨c, rfl, hc, hb1⟩
      obtain ⟨c0, c1, hcm⟩ := hc hok
      have HC : Hid (c / 4 = maxT xs) := hcm
      clear hc hcm
      go_wp2_with fail
      refine (cnext_any c site _ c0 (by omega) s1 s2).mono ?_
      rintro e w2 ⟨rfl, hb2⟩
      go_wp2_with fail
      refine (stamp_any _ _ (by omega) (by omega)).mono ?_
      obtain ⟨n1, n2⟩ := next_code c site s1 s2
      rw [n1, n2]
      rintro e w3 ⟨rfl, hb3⟩
      clear n1 n2
      have B1 : Below (w.heap.size + 1) (w.alloc (.cells #[.int .i64 0, .int .i64 0] 25)) w1 := hb1.mono (by simp)
      have B2 := B1.trans (hb2.mono (by have := B1.size; simpa using this))
      have B3 := B2.trans (hb3.mono (by have := B2.size; simpa using this))
      have hz : w.heap.size < w3.heap.size := by have := B3.size; simp at this; omega
      have BW : Below w.heap.size w w3 := B0.trans (B3.mono (by omega))
      have g0 : w3.cell? ⟨w.heap.size, 0, none⟩ = some (.int .i64 0) := (B3.cell (p := ⟨w.heap.size, 0, none⟩) (by simp)).trans (by simp [go_sem])
      have g1 : w3.cell? ⟨w.heap.size, 1, none⟩ = some (.int .i64 0) := (B3.cell (p := ⟨w.heap.size, 1, none⟩) (by simp)).trans (by simp [go_sem])
      have f0 : w3.frozen? ⟨w.heap.size, 0, none⟩ = false := (B3.frozen (p := ⟨w.heap.size, 0, none⟩) (by simp)).trans (by simp [go_sem])
      have f1 : w3.frozen? ⟨w.heap.size, 1, none⟩ = false := (B3.frozen (p := ⟨w.heap.size, 1, none⟩) (by simp)).trans (by simp [go_sem])
      clear hb1 hb2 hb3 B0 B1 B2 B3
      go_wp2_with fail
      refine (iOk_any _ _ _).mono ?_
      rintro e w4 ⟨rfl, hb4⟩
      obtain ⟨c4, f4⟩ := bcell hb4
      have hz4 : w.heap.size < w4.heap.size := by have := hb4.size; simp at this; omega
      have z1 : w.heap.size < w3.heap.size + 1 := by omega
      have BZ : Below w.heap.size w w4 := (BW.alloc (by omega) _).trans (hb4.mono (by simp; omega))
      have g2 : w4.cell? ⟨w.heap.size, 0, none⟩ = some (.int .i64 0) := by rw [c4 _ _ (by simp; omega), World.cell?_alloc_lt _ _ _ (by simpa using hz)]; exact g0
      have g3 : w4.cell? ⟨w.heap.size, 1, none⟩ = some (.int .i64 0) := by rw [c4 _ _ (by simp; omega), World.cell?_alloc_lt _ _ _ (by simpa using hz)]; exact g1
      have hne : w.heap.size ≠ w3.heap.size := by omega
      have f2 : w4.frozen? ⟨w.heap.size, 0, none⟩ = false := by rw [f4 _ _ (by simp; omega)]; go_simp
      have f3 : w4.frozen? ⟨w.heap.size, 1, none⟩ = false := by rw [f4 _ _ (by simp; omega)]; go_simp
      have g4 : w4.cell? ⟨w3.heap.size, 0, none⟩ = some (.int .i64 (c / 4 + 1)) := by rw [c4 _ _ (by simp)]; simp [go_sem]
      have g5 : w4.cell? ⟨w3.heap.size, 1, none⟩ = some (.int .i64 site) := by rw [c4 _ _ (by simp)]; simp [go_sem]
      clear hb4 c4 f4 g0 g1 f0 f1 BW
      by_cases hfull : maxT xs < 9999
      · have HN : Hid (nextV site xs = .tuple #[stampV (c / 4 + 1) site, .bool true]) := by
          show nextV site xs = _
          rw [HC.out]; exact next_yes (next_mk hs hok hfull)
        have hk : okB (c / 4 + 1) site = true := by have := HC.out; simp [okB]; omega
        clear hsd hok hs
        go_wp2
        refine bodyPost_ret (v := .tuple #[stampV (c / 4 + 1) site, .bool true]) (by simp [results, Try.results14, go_sem, g2, g3]) rfl ⟨by rw [HN.out], ?_⟩
        exact (BZ.setCell (by simp) _).setCell (by simp) _
      · have HN : Hid (nextV site xs = .tuple #[stampV 0 0, .bool false]) := next_no (next_full hfull)
        have hk : okB (c / 4 + 1) site = false := by have := HC.out; simp [okB]; omega
        clear hsd hok hs
        go_wp2
        refine bodyPost_ret (v := .tuple #[stampV 0 0, .bool false]) (by simp [results, Try.results14, go_sem, g2, g3]) rfl ⟨by rw [HN.out], ?_⟩
        exact (BZ.setCell (by simp) _).setCell (by simp) _
    · have hof : allOk xs = false := by simpa using hok
      have HN : Hid (nextV site xs = .tuple #[stampV 0 0, .bool false]) := next_no (next_bad hof)
      clear hok
      go_enter Try.func14, Try.ntmps14
      go_wp2_with fail
      refine (iSide_any _ _).mono ?_
      rintro e w0 ⟨rfl, rfl⟩
      go_wp2_with fail
      refine (latest_any a cap xs _ hn (h.below B0)).mono ?_
      rintro e w1 ⟨c, rfl, hc, hb1⟩
      clear hc
      have B1 : Below (w.heap.size + 1) (w.alloc (.cells #[.int .i64 0, .int .i64 0] 25)) w1 := hb1.mono (by simp)
      have BW : Below w.heap.size w w1 := B0.trans (B1.mono (by omega))
      have g0 : w1.cell? ⟨w.heap.size, 0, none⟩ = some (.int .i64 0) := (B1.cell (p := ⟨w.heap.size, 0, none⟩) (by simp)).trans (by simp [go_sem])
      have g1 : w1.cell? ⟨w.heap.size, 1, none⟩ = some (.int .i64 0) := (B1.cell (p := ⟨w.heap.size, 1, none⟩) (by simp)).trans (by simp [go_sem])
      have f0 : w1.frozen? ⟨w.heap.size, 0, none⟩ = false := (B1.frozen (p := ⟨w.heap.size, 0, none⟩) (by simp)).trans (by simp [go_sem])
      have f1 : w1.frozen? ⟨w.heap.size, 1, none⟩ = false := (B1.frozen (p := ⟨w.heap.size, 1, none⟩) (by simp)).trans (by simp [go_sem])
      clear hb1 B0 B1 hsd
      go_wp2
      refine bodyPost_ret (v := .tuple #[stampV 0 0, .bool false]) (by simp [results, Try.results14, go_sem, g0, g1]) rfl ⟨by rw [HN.out], ?_⟩
      exact (BW.setCell (by simp) _).setCell (by simp) _
  · have hsf : inB site 0 3 = false := by simpa using hs
    have HN : Hid (nextV site xs = .tuple #[stampV 0 0, .bool false]) := next_no (next_site xs hsf)
    have hsd : sideOf site = -1 := side_out site (by simp [inB] at hsf; omega)
    clear hs
    go_enter Try.func14, Try.ntmps14
    go_wp2_with fail
    refine (iSide_any _ _).mono ?_
    rintro e w0 ⟨rfl, rfl⟩
    go_wp2
    refine bodyPost_ret (v := .tuple #[stampV 0 0, .bool false]) (by simp [results, Try.results14, go_sem]) rfl ⟨by rw [HN.out], ?_⟩
    exact B0
end Go.Proofs.Ytlmffgeknlfpkas
