/- The laws' own comparison of versions. -/
import Derived.Test.YtgdkoangpinieaaGAJ
namespace Go.Proofs.Ytgdkoangpinieaa
open Go.ChangeShapes Go.WideShapes Go.ChangeAt Go.RowKit

set_option maxHeartbeats 2000000 in
theorem liVer_any (v : V) (a b : Option Addr) (cap cap' : Nat) (w : World) (hn : v.ds.length ≤ 1048576) (h : Deps w a v.ds) (h' : Deps w b v.ds) :
    Calls Try.prog 38 #[verV v.k v.t v.s v.val v.cl v.ca a v.ds.length cap, verV v.k v.t v.s v.val v.cl v.ca b v.ds.length cap'] w fun e w' => e = .returned (.bool true) ∧ Below w.heap.size w w' := by
  have hB : Below w.heap.size w ((w.alloc (.cells #[.int .i64 v.k, .int .i64 v.t, .int .i64 v.s, .int .i64 v.val, .int .i64 v.cl, .int .i64 v.ca, .slice a v.ds.length cap] 28)).alloc (.cells #[.int .i64 v.k, .int .i64 v.t, .int .i64 v.s, .int .i64 v.val, .int .i64 v.cl, .int .i64 v.ca, .slice b v.ds.length cap'] 28)) := ((Below.refl _ _).alloc (Nat.le_refl _) _).alloc (by simp) _
  go_enter Try.func38, Try.ntmps38
  go_wp2_with fail
  refine (liDeps_any a b v.ds cap cap' _ hn (h.below hB) (h'.below hB)).mono ?_
  rintro e w2 ⟨rfl, hb2⟩
  have B2 : Below w.heap.size w w2 := hB.trans (hb2.mono hB.size)
  clear hb2 hB
  go_wp2_with fail
  go_ret
  exact ⟨rfl, B2⟩

set_option maxHeartbeats 4000000 in
theorem liVers_any (a c : Option Addr) (vs : List V) (cap cap' : Nat) (w : World) (hn : vs.length ≤ 1048576) (hl : ∀ v ∈ vs, v.ds.length ≤ 1048576) (h : Vers w a vs) (h' : Vers w c vs) :
    Calls Try.prog 32 #[.slice a vs.length cap, .slice c vs.length cap'] w fun e w' => e = .returned (.bool true) ∧ Below w.heap.size w w' := by
  go_enter Try.func32, Try.ntmps32
  go_wp2
  go_loopw [5] (fun i wr => ∃ k : Nat, k ≤ vs.length ∧ i = .int .i64 k ∧ Below w.heap.size w wr) (fun i _ => vs.length - (intOf i).toNat)
  case atStart => exact ⟨0, Nat.zero_le _, rfl, Below.refl _ _⟩
  case round =>
    obtain ⟨k, hk, rfl, hB⟩ := hrel
    by_cases hlt : k < vs.length
    · obtain ⟨b, o, da, dc, rfl, hbb, hv⟩ := (h.below hB).at hlt
      obtain ⟨b', o', da', dc', rfl, hbb', hv'⟩ := (h'.below hB).at hlt
      obtain ⟨r0, r1, r2, r3, r4, r5, r6⟩ := hv.rules
      obtain ⟨q0, q1, q2, q3, q4, q5, q6⟩ := hv'.rules
      have hd := hv.ds
      have hd' := hv'.ds
      have hvl := hl vs[k] (List.getElem_mem hlt)
      have ne := since_ne wr
      clear hv hv' h h'
      generalize vs[k] = v at *
      go_wp2_with fail
      refine wp_region_class (S := Since wr) (by kernel_rfl) (by kernel_rfl) (Below.refl _ _).drew ?_
      repeat (go_big_quiet_step ((rename_i n; first | (go_at_call 38; exact Calls.inClass (liVer_any v _ _ _ _ _ hvl (hd.below n.h) (hd'.below n.h)) Since.keep))))
      refine wpQuiet_nil ?_
      rintro W ⟨n, hnW⟩
      have R2 := n.h
      rw [← hnW] at R2
      have hB2 : Below w.heap.size w W := hB.trans (R2.mono hB.size)
      clear R2 r0 r1 r2 r3 r4 r5 r6 q0 q1 q2 q3 q4 q5 q6 ne hnW n hB hd hd'
      go_wp2
      go_roundw
      case rel => exact ⟨k + 1, by omega, by go_num, hB2⟩
      case measure => simp [intOf]; omega
    · go_wp2
      go_ret
      exact ⟨rfl, hB⟩
end Go.Proofs.Ytgdkoangpinieaa
