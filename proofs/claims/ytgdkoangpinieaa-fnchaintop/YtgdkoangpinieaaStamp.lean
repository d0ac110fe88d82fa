/- A stamp is drawn. -/
import Derived.Test.YtgdkoangpinieaaGAC
namespace Go.Proofs.Ytgdkoangpinieaa
open Go.ChangeShapes Go.WideShapes Go.ChangeAt Go.RowKit

theorem Stp.rules {B : Nat} {w w' : World} (h : Stp B w w') : (∀ b o, b < w.heap.size → b ≠ B → w'.cell? ⟨b, o, none⟩ = w.cell? ⟨b, o, none⟩) ∧ (∀ b o, b < w.heap.size → b ≠ B → w'.frozen? ⟨b, o, none⟩ = w.frozen? ⟨b, o, none⟩) :=
  ⟨fun _ _ => h.cell, fun _ _ => h.frozen⟩

set_option maxHeartbeats 1000000 in
theorem drawStamp (B : Nat) (p : Int) (w : World) (h : Rd w B p) (hp : p ≤ 900000) :
    Calls Try.prog 111 #[.pointer (some ⟨B, 0, none⟩)] w fun e w' => ∃ t s p' : Int, e = .returned (stampV t s) ∧ -1 ≤ t ∧ t ≤ 10000 ∧ -1 ≤ s ∧ s ≤ 4 ∧ p ≤ p' ∧ p' ≤ p + 4 ∧ Rd w' B p' ∧ Stp B w w' := by
  have hB := h.1
  have n0 : w.heap.size ≠ B := by omega
  have n1 : w.heap.size + 1 ≠ B := by omega
  have n2 : w.heap.size + 1 + 1 ≠ B := by omega
  go_enter Try.func111, Try.ntmps111
  go_wp2_with fail
  refine (pick_any _ p 5 _ (h.alloc _) (by omega) (by omega)).mono ?_
  rintro e w1 ⟨v, rfl, v0, v1, hr1, hs1, hz1⟩
  obtain ⟨c1, f1⟩ := hs1.rules
  simp only [World.size_alloc] at hz1
  go_wp2_with fail
  refine (pick_any _ _ 4 _ hr1 (by omega) (by omega)).mono ?_
  rintro e w2 ⟨u, rfl, u0, u1, hr2, hs2, hz2⟩
  obtain ⟨c2, f2⟩ := hs2.rules
  go_wp2_with fail
  refine (pick_any _ _ 20 _ (hr2.alloc _) (by omega) (by omega)).mono ?_
  rintro e w3 ⟨k, rfl, k0, k1, hr3, hs3, hz3⟩
  obtain ⟨c3, f3⟩ := hs3.rules
  simp only [World.size_alloc] at hz3
  have S3 : Stp B w w3 := ((((Stp.refl B w).alloc _).trans hs1).trans hs2).alloc _ |>.trans hs3
  have g0 : w3.cell? ⟨w.heap.size, 0, none⟩ = some (.int .i64 0) := by go_simp
  have g1 : w3.cell? ⟨w.heap.size, 1, none⟩ = some (.int .i64 0) := by go_simp
  by_cases h0 : k = 0
  · subst h0
    go_wp2_with fail
    refine (pick_any _ _ 4 _ (hr3.alloc _) (by omega) (by omega)).mono ?_
    rintro e w4 ⟨q, rfl, q0, q1, hr4, hs4, hz4⟩
    obtain ⟨c4, f4⟩ := hs4.rules
    simp only [World.size_alloc] at hz4
    have S4 : Stp B w w4 := (S3.alloc _).trans hs4
    have g2 : w4.cell? ⟨w.heap.size, 0, none⟩ = some (.int .i64 0) := by go_simp
    have g3 : w4.cell? ⟨w.heap.size, 1, none⟩ = some (.int .i64 0) := by go_simp
    have hq : q = 0 ∨ q = 1 ∨ q = 2 ∨ q = 3 := by omega
    rcases hq with rfl | rfl | rfl | rfl
    · go_wp2
      refine bodyPost_ret (v := stampV (-1) u) (by simp [results, Try.results111, go_sem, g2, g3]) rfl ⟨-1, u, _, rfl, by omega, by omega, by omega, by omega, by omega, by omega, ((hr4.setNew (by simp; omega) _).setNew (by simp; omega) _).setNew (by simp; omega) _, ((S4.setNew (by simp) _).setNew (by simp) _).setNew (by simp) _⟩
    · go_wp2
      refine bodyPost_ret (v := stampV 0 u) (by simp [results, Try.results111, go_sem, g2, g3]) rfl ⟨0, u, _, rfl, by omega, by omega, by omega, by omega, by omega, by omega, ((hr4.setNew (by simp; omega) _).setNew (by simp; omega) _).setNew (by simp; omega) _, ((S4.setNew (by simp) _).setNew (by simp) _).setNew (by simp) _⟩
    · go_wp2
      refine bodyPost_ret (v := stampV 9999 u) (by simp [results, Try.results111, go_sem, g2, g3]) rfl ⟨9999, u, _, rfl, by omega, by omega, by omega, by omega, by omega, by omega, ((hr4.setNew (by simp; omega) _).setNew (by simp; omega) _).setNew (by simp; omega) _, ((S4.setNew (by simp) _).setNew (by simp) _).setNew (by simp) _⟩
    · go_wp2
      refine bodyPost_ret (v := stampV 10000 u) (by simp [results, Try.results111, go_sem, g2, g3]) rfl ⟨10000, u, _, rfl, by omega, by omega, by omega, by omega, by omega, by omega, ((hr4.setNew (by simp; omega) _).setNew (by simp; omega) _).setNew (by simp; omega) _, ((S4.setNew (by simp) _).setNew (by simp) _).setNew (by simp) _⟩
  · by_cases h1 : k = 1
    · subst h1
      go_wp2_with fail
      refine (pick_any _ _ 2 _ (hr3.alloc _) (by omega) (by omega)).mono ?_
      rintro e w4 ⟨q, rfl, q0, q1, hr4, hs4, hz4⟩
      obtain ⟨c4, f4⟩ := hs4.rules
      simp only [World.size_alloc] at hz4
      have S4 : Stp B w w4 := (S3.alloc _).trans hs4
      have g2 : w4.cell? ⟨w.heap.size, 0, none⟩ = some (.int .i64 0) := by go_simp
      have g3 : w4.cell? ⟨w.heap.size, 1, none⟩ = some (.int .i64 0) := by go_simp
      have hq : q = 0 ∨ q = 1 := by omega
      rcases hq with rfl | rfl
      · go_wp2
        refine bodyPost_ret (v := stampV (1 + v) (-1)) (by simp [results, Try.results111, go_sem, g2, g3]) rfl ⟨1 + v, -1, _, rfl, by omega, by omega, by omega, by omega, by omega, by omega, ((hr4.setNew (by simp; omega) _).setNew (by simp; omega) _).setNew (by simp; omega) _, ((S4.setNew (by simp) _).setNew (by simp) _).setNew (by simp) _⟩
      · go_wp2
        refine bodyPost_ret (v := stampV (1 + v) 4) (by simp [results, Try.results111, go_sem, g2, g3]) rfl ⟨1 + v, 4, _, rfl, by omega, by omega, by omega, by omega, by omega, by omega, ((hr4.setNew (by simp; omega) _).setNew (by simp; omega) _).setNew (by simp; omega) _, ((S4.setNew (by simp) _).setNew (by simp) _).setNew (by simp) _⟩
    · have hk0 : (k == 0) = false := by simpa using h0
      have hk1 : (k == 1) = false := by simpa using h1
      go_wp2
      refine bodyPost_ret (v := stampV (1 + v) u) (by simp [results, Try.results111, go_sem, g0, g1]) rfl ⟨1 + v, u, _, rfl, by omega, by omega, by omega, by omega, by omega, by omega, (hr3.setNew (by simp; omega) _).setNew (by simp; omega) _, (S3.setNew (by simp) _).setNew (by simp) _⟩
end Go.Proofs.Ytgdkoangpinieaa
