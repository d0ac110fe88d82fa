/- The specification's StampNext. -/
import Derived.Test.YtlmffgeknlfpkasNextNum
import Derived.Test.YtlmffgeknlfpkasStampOk
namespace Go.Proofs.Ytlmffgeknlfpkas
open Go.ChangeShapes Go.WideShapes Go.ChangeAt Go.RowKit

theorem sNext_no (site : Int) (a : Option Addr) (n cap : Nat) (xs : List (Int × Int)) (w : World) (h : inB site 0 3 = false) :
    Calls Try.prog 12 #[.int .i64 site, .slice a n cap] w fun e w' => e = .returned (nextV site xs) ∧ Below w.heap.size w w' := by
  rw [next_no (next_site xs h)]
  go_enter Try.func12, Try.ntmps12
  go_wp2_with (first | (go_at_call 18; refine (site_any _ _).mono ?_; rintro e w' ⟨rfl, rfl⟩))
  refine bodyPost_ret (v := .tuple #[stampV 0 0, .bool false]) (by simp [results, Try.results12, go_sem]) rfl ⟨rfl, ?_⟩
  exact (Below.refl _ _).alloc (Nat.le_refl _) _

set_option maxHeartbeats 2000000 in
theorem sNext_yes (site : Int) (a : Option Addr) (cap : Nat) (xs : List (Int × Int)) (w : World) (hs : inB site 0 3 = true) (hn : xs.length ≤ 1099511627776) (h : Stamps w a xs) :
    Calls Try.prog 12 #[.int .i64 site, .slice a xs.length cap] w fun e w' => e = .returned (nextV site xs) ∧ Below w.heap.size w w' := by
  have B0 : Below w.heap.size w (w.alloc (.cells #[.int .i64 0, .int .i64 0] 25)) := (Below.refl _ _).alloc (Nat.le_refl _) _
  go_enter Try.func12, Try.ntmps12
  go_wp2_with (first | (go_at_call 18; refine (site_any _ _).mono ?_; rintro e w' ⟨rfl, rfl⟩))
  go_loopw [6, 7] (fun t i wr => ∃ k : Nat, k ≤ xs.length ∧ i = .int .i64 k ∧ t = .int .i64 (maxT (xs.take k)) ∧ allOk (xs.take k) = true ∧ Below (w.heap.size + 1) (w.alloc (.cells #[.int .i64 0, .int .i64 0] 25)) wr) (fun _ i _ => xs.length - (intOf i).toNat)
  case atStart => exact ⟨0, Nat.zero_le _, rfl, rfl, rfl, Below.refl _ _⟩
  case round =>
    obtain ⟨k, hk, rfl, rfl, hok, hb⟩ := hrel
    have hm0 := maxT_nonneg (xs.take k)
    have hm1 := maxT_le (xs.take k) hok
    have g0 : wr.cell? ⟨w.heap.size, 0, none⟩ = some (.int .i64 0) := (hb.cell (p := ⟨w.heap.size, 0, none⟩) (by simp)).trans (by simp [go_sem])
    have g1 : wr.cell? ⟨w.heap.size, 1, none⟩ = some (.int .i64 0) := (hb.cell (p := ⟨w.heap.size, 1, none⟩) (by simp)).trans (by simp [go_sem])
    have f0 : wr.frozen? ⟨w.heap.size, 0, none⟩ = false := (hb.frozen (p := ⟨w.heap.size, 0, none⟩) (by simp)).trans (by simp [go_sem])
    have f1 : wr.frozen? ⟨w.heap.size, 1, none⟩ = false := (hb.frozen (p := ⟨w.heap.size, 1, none⟩) (by simp)).trans (by simp [go_sem])
    have Bw : Below w.heap.size w wr := B0.trans (hb.mono (by omega))
    by_cases hlt : k < xs.length
    · have hS := h.below Bw
      rcases hS with hS | ⟨b, o, rfl, hbb, hS⟩
      · rw [hS] at hlt; simp at hlt
      · obtain ⟨e0, e1⟩ := hS k hlt
        have HT : Hid (xs.take (k + 1) = xs.take k ++ [xs[k]]) := take_more xs k hlt
        generalize hx : xs[k] = x at *
        obtain ⟨t, s⟩ := x
        by_cases hkk : okB t s = true
        · go_wp2_with fail
          refine (sOk_any _ _ _).mono ?_
          rintro e w1 ⟨rfl, hb1⟩
          have e2 : w1.cell? ⟨b, o + k * 2, none⟩ = some (.int .i64 t) := (hb1.cell (p := ⟨b, _, none⟩) hbb).trans e0
          have hB1 : Below (w.heap.size + 1) (w.alloc (.cells #[.int .i64 0, .int .i64 0] 25)) w1 := hb.trans (hb1.mono (by have := hb.size; simpa using this))
          have HO : Hid (allOk (xs.take (k + 1)) = true) := by rw [HT.out, allOk_snoc, hok, hkk]; rfl
          have HM : Hid (maxT (xs.take (k + 1)) = if maxT (xs.take k) < t then t else maxT (xs.take k)) := by rw [HT.out]; exact maxT_snoc _ _ _
          clear hb1 HT e0 e1 g0 g1 f0 f1 hS hx Bw hb
          by_cases hgt : maxT (xs.take k) < t
          · go_wp2
            go_roundw
            case rel => exact ⟨k + 1, by omega, by go_num, by rw [HM.out, if_pos (by omega)], HO.out, hB1⟩
            case measure => simp [intOf]; omega
          · go_wp2
            go_roundw
            case rel => exact ⟨k + 1, by omega, by go_num, by rw [HM.out, if_neg (by omega)], HO.out, hB1⟩
            case measure => simp [intOf]; omega
        · have hkf : okB t s = false := by simpa using hkk
          have HN : Hid (nextV site xs = .tuple #[stampV 0 0, .bool false]) := next_no (next_bad (allOk_not hlt (by rw [hx]; exact hkf)))
          clear hkk
          go_wp2_with fail
          refine (sOk_any _ _ _).mono ?_
          rintro e w1 ⟨rfl, hb1⟩
          have hw : w.heap.size < wr.heap.size := by have := hb.size; simp at this; omega
          have c0 : w1.cell? ⟨w.heap.size, 0, none⟩ = some (.int .i64 0) := (hb1.cell (p := ⟨w.heap.size, 0, none⟩) hw).trans g0
          have c1 : w1.cell? ⟨w.heap.size, 1, none⟩ = some (.int .i64 0) := (hb1.cell (p := ⟨w.heap.size, 1, none⟩) hw).trans g1
          have d0 : w1.frozen? ⟨w.heap.size, 0, none⟩ = false := (hb1.frozen (p := ⟨w.heap.size, 0, none⟩) hw).trans f0
          have d1 : w1.frozen? ⟨w.heap.size, 1, none⟩ = false := (hb1.frozen (p := ⟨w.heap.size, 1, none⟩) hw).trans f1
          have B2 : Below w.heap.size w w1 := Bw.trans (hb1.mono (by omega))
          clear hb1 HT e0 e1 g0 g1 f0 f1 hS hx Bw hb B0
          go_wp2
          refine bodyPost_ret (v := .tuple #[stampV 0 0, .bool false]) (by simp [results, Try.results12, go_sem, c0, c1]) rfl ⟨by rw [HN.out], ?_⟩
          exact (B2.setCell (by simp) _).setCell (by simp) _
    · have hk2 : k = xs.length := by omega
      subst hk2
      rw [List.take_length] at *
      by_cases hfull : maxT xs < 9999
      · have HN : Hid (nextV site xs = .tuple #[stampV (maxT xs + 1) site, .bool true]) := next_yes (next_mk hs hok hfull)
        clear hb B0
        go_wp2
        refine bodyPost_ret (v := .tuple #[stampV (maxT xs + 1) site, .bool true]) (by simp [results, Try.results12, go_sem, g0, g1]) rfl ⟨by rw [HN.out], ?_⟩
        exact (Bw.setCell (by simp) _).setCell (by simp) _
      · have HN : Hid (nextV site xs = .tuple #[stampV 0 0, .bool false]) := next_no (next_full hfull)
        clear hb B0
        go_wp2
        refine bodyPost_ret (v := .tuple #[stampV 0 0, .bool false]) (by simp [results, Try.results12, go_sem, g0, g1]) rfl ⟨by rw [HN.out], ?_⟩
        exact (Bw.setCell (by simp) _).setCell (by simp) _
end Go.Proofs.Ytlmffgeknlfpkas
