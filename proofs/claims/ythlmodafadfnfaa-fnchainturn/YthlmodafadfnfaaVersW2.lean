/- The program's copies of versions. -/
import Derived.Test.YthlmodafadfnfaaVersW
namespace Go.Proofs.Ythlmodafadfnfaa
open Go.ChangeShapes Go.WideShapes Go.ChangeAt Go.RowKit

set_option maxHeartbeats 2000000 in
theorem iVers_any (a : Option Addr) (cap : Nat) (vs : List V) (w : World) (hn : vs.length ≤ 1099511627776) (h : Vers w a vs) :
    Calls Try.prog 115 #[.slice a vs.length cap] w fun e w' => ∃ v ys, e = .returned v ∧ OwnV w' w.heap.size v ys ∧ ys.map XV.v = vs ∧ Below w.heap.size w w' := by
  go_enter Try.func115, Try.ntmps115
  go_wp2
  go_loopw [3, 8] (fun u i wr => ∃ (k : Nat) (ys : List XV), k ≤ vs.length ∧ i = .int .i64 k ∧ Hid (ys.map XV.v = vs.take k) ∧ OwnV wr w.heap.size u ys ∧ Below w.heap.size w wr) (fun _ i _ => vs.length - (intOf i).toNat)
  case atStart => exact ⟨0, [], Nat.zero_le _, rfl, rfl, OwnV.nil _ _, Below.refl _ _⟩
  case round =>
    obtain ⟨k, ys, hk, rfl, HY, hO, hB⟩ := hrel
    by_cases hlt : k < vs.length
    · obtain ⟨b, o, da, dc, rfl, hbb, hv⟩ := (h.below hB).at hlt
      have HS : Hid (vs.take (k + 1) = vs.take k ++ [vs[k]]) := takeV vs k hlt
      have hyl : ys.length ≤ 1099511627776 := by have := congrArg List.length HY.out; simp at this; omega
      obtain ⟨c0, c1, c2, c3, c4, c5, c6, hd, hdl⟩ := hv
      generalize vs[k] = v at *
      have hO1 := hO.alloc (.cells #[.int .i64 v.k, .int .i64 v.t, .int .i64 v.s, .int .i64 v.val, .int .i64 v.cl, .int .i64 v.ca, .slice da v.ds.length dc] 28)
      have hB1 := hB.alloc hB.size (.cells #[.int .i64 v.k, .int .i64 v.t, .int .i64 v.s, .int .i64 v.val, .int .i64 v.cl, .int .i64 v.ca, .slice da v.ds.length dc] 28)
      have hd1 := hd.below ((Below.refl _ wr).alloc (Nat.le_refl _) (.cells #[.int .i64 v.k, .int .i64 v.t, .int .i64 v.s, .int .i64 v.val, .int .i64 v.cl, .int .i64 v.ca, .slice da v.ds.length dc] 28))
      go_wp2_with fail
      clear hO hB hd
      refine (iCopy_any v da dc _ hdl hd1).mono ?_
      rintro e w2 ⟨pa, pc, rfl, hrow, hb2⟩
      have hO2 := (hO1.below hb2 (Nat.le_refl _)).alloc (.cells #[.int .i64 v.k, .int .i64 v.t, .int .i64 v.s, .int .i64 v.val, .int .i64 v.cl, .int .i64 v.ca, .slice pa v.ds.length pc] 28)
      have hB2 : Below w.heap.size w w2 := hB1.trans (hb2.mono hB1.size)
      have hB3 := hB2.alloc hB2.size (.cells #[.int .i64 v.k, .int .i64 v.t, .int .i64 v.s, .int .i64 v.val, .int .i64 v.cl, .int .i64 v.ca, .slice pa v.ds.length pc] 28)
      have hap : ∀ z ∈ ys, ApartV z.p (.slice pa v.ds.length pc) := fun z hz => apart_new (hO1.deps z hz).1 hrow (Nat.le_refl _)
      have hrow3 := row_mono (hrow.alloc (.cells #[.int .i64 v.k, .int .i64 v.t, .int .i64 v.s, .int .i64 v.val, .int .i64 v.cl, .int .i64 v.ca, .slice pa v.ds.length pc] 28)) hB1.size
      have hN := Blk.new w2 #[.int .i64 v.k, .int .i64 v.t, .int .i64 v.s, .int .i64 v.val, .int .i64 v.cl, .int .i64 v.ca, .slice pa v.ds.length pc] 28
      have hs3 := hB3.size
      clear hrow hb2 hO1 hB1 hB2 c0 c1 c2 c3 c4 c5 c6 hd1 h
      go_wp2_with (first | (at_builtin
                            refine wpList_append_ver _ rfl _ _ rfl w.heap.size _ ys rfl hO2 ⟨v, .slice pa v.ds.length pc⟩ w2.heap.size rfl hN hrow3 hdl hap hyl hs3 ?_
                            intro v' w3 hO3 hg3
                            have hB4 : Below w.heap.size w w3 := hB3.grown hg3 hs3 (fun j hj => (hO2.row.lt j hj).1)
                            clear hg3 hO2 hap hrow3 hN hB3 hs3))
      go_roundw
      case rel => exact ⟨k + 1, _, by omega, by go_num, by show List.map XV.v _ = _; rw [HS.out, List.map_append, HY.out]; rfl, hO3, hB4⟩
      case measure => simp [intOf]; omega
    · have hk2 : k = vs.length := by omega
      subst hk2
      rw [List.take_length] at HY
      go_wp2
      go_ret
      exact ⟨_, ys, rfl, hO, HY.out, hB⟩
end Go.Proofs.Ythlmodafadfnfaa
