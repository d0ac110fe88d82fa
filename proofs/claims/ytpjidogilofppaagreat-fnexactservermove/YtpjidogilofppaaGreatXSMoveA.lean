/- The exact law of ServerMove. -/
import Derived.Test.YtpjidogilofppaaGreatMvL
import Derived.Test.YtpjidogilofppaaGreatGSX
namespace Go.Proofs.YtpjidogilofppaaGreat
open Go.ChangeShapes Go.WideShapes Go.ChangeAt Go.RowKit Go.Deep

theorem iMove_any (x : Sv) (a : Sa) (n : Int) (w : World) (hl : LenS x) (h : InS w x a) : Calls Tryz.prog 17 #[servV x a, .int .i64 n] w fun e w' => ∃ b ys zs c us ts, e = .returned (.tuple #[servV (moveS x n) b, wordV (moveW x n) c, .bool (moveB x n)]) ∧ OwnS w' w.heap.size (moveS x n) b ys zs ∧ OwnW w' w.heap.size (moveW x n) c us ts ∧ (∀ j, inSv (moveS x n) b ys zs j → ¬ inWd (moveW x n) c us ts j) ∧ Below w.heap.size w w' := by
  rcases hs : servB x with _ | _
  · exact iMove_no x a n w hl h hs
  rcases hg : goB x n with _ | _
  · exact iMove_stays x a n w hl h hs hg
  obtain ⟨t1, t2, t3, he⟩ := slotsB_three (xs := x.sl) (by unfold servB at hs; simp at hs; exact hs.1.1.1.1.1.1.1)
  rcases goB_in he hg with rfl | rfl | rfl
  · exact iMove_goes0 x a w hl h hs hg
  · exact iMove_goes1 x a w hl h hs hg
  · exact iMove_goes2 x a w hl h hs hg
theorem sMove_any (x : Sv) (a : Sa) (n : Int) (w : World) (hl : LenS x) (h : InS w x a) : Calls Tryz.prog 16 #[servV x a, .int .i64 n] w fun e w' => ∃ b c, e = .returned (.tuple #[servV (moveS x n) b, wordV (moveW x n) c, .bool (moveB x n)]) ∧ InS w' (moveS x n) b ∧ InL w' (moveW x n) c ∧ Below w.heap.size w w' := by
  rcases hs : servB x with _ | _
  · exact sMove_no x a n w hl h hs
  obtain ⟨t1, t2, t3, he⟩ := slotsB_three (xs := x.sl) (by unfold servB at hs; simp at hs; exact hs.1.1.1.1.1.1.1)
  rcases hg : goB x n with _ | _
  · rcases hu : x.up with _ | _
    · exact sMove_down x a n w hl h hs hg hu
    by_cases hn : n < 0 ∨ 3 ≤ n
    · exact sMove_out x a n w hl h hs hg hu hn
    have hn3 : n = 0 ∨ n = 1 ∨ n = 2 := by omega
    have hg2 := hg
    unfold goB ownsB at hg2
    rw [hu, he] at hg2
    rcases hn3 with rfl | rfl | rfl
    · by_cases ht : t1.st = 1
      · exact sMove_full0 x a w hl h hs hg hu t1 t2 t3 he ht (by have e1 : standAt [t1, t2, t3] 0 = t1.st := rfl; have e2 : epAt [t1, t2, t3] 0 = t1.ep := rfl; rw [e1, e2, ht] at hg2; simpa using hg2)
      · exact sMove_not0 x a w hl h hs hg hu t1 t2 t3 he ht
    · by_cases ht : t2.st = 1
      · exact sMove_full1 x a w hl h hs hg hu t1 t2 t3 he ht (by have e1 : standAt [t1, t2, t3] 1 = t2.st := rfl; have e2 : epAt [t1, t2, t3] 1 = t2.ep := rfl; rw [e1, e2, ht] at hg2; simpa using hg2)
      · exact sMove_not1 x a w hl h hs hg hu t1 t2 t3 he ht
    · by_cases ht : t3.st = 1
      · exact sMove_full2 x a w hl h hs hg hu t1 t2 t3 he ht (by have e1 : standAt [t1, t2, t3] 2 = t3.st := rfl; have e2 : epAt [t1, t2, t3] 2 = t3.ep := rfl; rw [e1, e2, ht] at hg2; simpa using hg2)
      · exact sMove_not2 x a w hl h hs hg hu t1 t2 t3 he ht
  rcases goB_in he hg with rfl | rfl | rfl
  · exact sMove_goes0 x a w hl h hs hg
  · exact sMove_goes1 x a w hl h hs hg
  · exact sMove_goes2 x a w hl h hs hg

theorem end_size' (x : Sv) (h : sizeS x ≤ 1048576) : 0 ≤ endS 1 x ∧ endS 1 x ≤ 10000000 := by
  unfold sizeS at h
  unfold endS endV
  omega
theorem move_fit (x : Sv) (n : Int) (hs : sizeS x ≤ 1048576) : sizeS (moveS x n) ≤ 1048576 ∧ sizeW (moveW x n) ≤ 1048576 ∧ endW (endS 1 (moveS x n)) (moveW x n) ≤ 10000000 ∧ 0 ≤ endW (endS 1 (moveS x n)) (moveW x n) := by
  have h1 := move_sizeS x n
  have h2 := end_size' (moveS x n) (by omega)
  refine ⟨by omega, ?_⟩
  have hz : sizeW zeroWd ≤ 1048576 ∧ ∀ k, endW k zeroWd = k := ⟨by simp [sizeW, zeroWd, tot], fun k => by simp [endW, endV, zeroWd, tot]⟩
  rcases hb : servB x with _ | _
  · rw [(move_no hb n).2.1]; exact ⟨hz.1, by rw [hz.2]; exact ⟨h2.2, h2.1⟩⟩
  rcases hg : goB x n with _ | _
  · rw [(move_stays hb hg).2.1]; exact ⟨hz.1, by rw [hz.2]; exact ⟨h2.2, h2.1⟩⟩
  obtain ⟨m1, m2, _⟩ := move_goes hb hg
  obtain ⟨p1, p2, p3, p4, p5⟩ := serv_parts hb
  have s1 := slotL_fit x.vs n
  have s2 := slotL_fit x.ws n
  have s3 : (owesL x.os n).length ≤ x.os.length := List.length_filter_le _ _
  rw [m1, m2]
  unfold sizeS at hs
  have l1 : (leaveL x.sl n).length = x.sl.length := leave_len _ _
  refine ⟨?_, ?_, ?_⟩
  · simp only [sizeW, bulkX, leftX, List.length_nil]; omega
  · simp only [endW, endS, endV, bulkX, leftX, l1, List.length_nil]; omega
  · simp only [endW, endS, endV, bulkX, leftX, l1, List.length_nil]; omega
theorem fitW {z : Wd} (h : sizeW z ≤ 1048576) : z.ds.length ≤ 1048576 ∧ z.vs.length ≤ 1048576 ∧ z.ws.length ≤ 1048576 ∧ z.os.length ≤ 1048576 ∧ (∀ v ∈ z.vs, v.ds.length ≤ 1048576) ∧ (∀ v ∈ z.ws, v.ds.length ≤ 1048576) := by
  unfold sizeW at h
  exact ⟨by omega, by omega, by omega, by omega, fun v hv => by have := tot_mem hv; omega, fun v hv => by have := tot_mem hv; omega⟩
end Go.Proofs.YtpjidogilofppaaGreat
