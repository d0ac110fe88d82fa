/- Lists of versions are copied; one more is put in its place. -/
import Derived.Test.YthlmodafadfnfaaCopyV
namespace Go.Proofs.Ythlmodafadfnfaa
open Go.ChangeShapes Go.WideShapes Go.ChangeAt Go.RowKit

/-- A version that was laid in a block of its own is appended to versions of the call's own. -/
theorem wpList_append_ver (w : World) {ops : Array Oper} {rest : List Oper} {o : Oper} {a : Act} {Q : Exit → Act → World → Prop} (hgd : o.guard = none) (s x : Operand)
    (ho : o.op = .call { callee := .builtin .append, args := #[s, x], argTypes := #[23, 23] })
    (base : Nat) (v : Value) (ys : List XV) (hs : a.eval s = v) (hO : OwnV w base v ys) (y : XV) (g : Nat) (hx : a.eval x = .slice (some ⟨g, 0, none⟩) 1 1)
    (hB : Blk w g #[.int .i64 y.v.k, .int .i64 y.v.t, .int .i64 y.v.s, .int .i64 y.v.val, .int .i64 y.v.cl, .int .i64 y.v.ca, y.p] 28)
    (hd : w.ownsRow base 51 3 y.p y.v.ds.length (flat3 y.v.ds)) (hl : y.v.ds.length ≤ 1099511627776) (ha : ∀ z ∈ ys, ApartV z.p y.p) (hn : ys.length ≤ 1099511627776) (hb : base ≤ w.heap.size)
    (h : ∀ v' w', OwnV w' base v' (ys ++ [y]) → w.grownBy w' v.ownBlock → wpList Try.prog ops Q rest (a.put o.dst v') w') : wpList Try.prog ops Q (o :: rest) a w := by
  obtain ⟨i0, hi, hz0, hz1, hz2⟩ := info_parts infoVer
  refine wpList_append_own w hgd s x 23 ho base 28 i0 (.agg #[.int .i64 0, .int .i64 0, .int .i64 0, .int .i64 0, .int .i64 0, .int .i64 0, .slice none 0 0]) 7 72 Try.underlying23 hi hz0 hz1 hz2 rfl (by decide) v ys.length (flat7 ys) hs hO.row ⟨g, 0, none⟩ 1 1 (flat7 [y]) hx rfl (cells7 hB) (flat7_one fun z hz => ?_) (by unfold maxLen; omega) (by omega) hb fun v' w' h2 h3 _ => h v' w' (hO.snoc h3 h2 hd hl ha) h3
  simp at hz
  subst hz
  exact (good_of_row hd hl).one

set_option maxHeartbeats 2000000 in
theorem sVers_any (a : Option Addr) (cap : Nat) (vs : List V) (w : World) (hn : vs.length ≤ 1099511627776) (h : Vers w a vs) :
    Calls Try.prog 64 #[.slice a vs.length cap] w fun e w' => ∃ v ys, e = .returned v ∧ OwnV w' w.heap.size v ys ∧ ys.map XV.v = vs ∧ Below w.heap.size w w' := by
  have O0 : OwnV (w.alloc (.cells #[] 28)) w.heap.size (.slice (some ⟨w.heap.size, 0, none⟩) 0 0) [] := ⟨World.ownsRow_made w #[] 0 (Nat.le_refl _) (by unfold maxLen; omega) rfl, fun _ h => (by cases h), List.Pairwise.nil⟩
  have B0 : Below w.heap.size w (w.alloc (.cells #[] 28)) := (Below.refl _ _).alloc (Nat.le_refl _) _
  go_enter Try.func64, Try.ntmps64
  go_wp2
  go_loopw [3, 4] (fun u i wr => ∃ (k : Nat) (ys : List XV), k ≤ vs.length ∧ i = .int .i64 k ∧ Hid (ys.map XV.v = vs.take k) ∧ OwnV wr w.heap.size u ys ∧ Below w.heap.size w wr) (fun _ i _ => vs.length - (intOf i).toNat)
  case atStart => exact ⟨0, [], Nat.zero_le _, rfl, rfl, O0, B0⟩
  case round =>
    obtain ⟨k, ys, hk, rfl, HY, hO, hB⟩ := hrel
    clear O0 B0
    by_cases hlt : k < vs.length
    · obtain ⟨b, o, da, dc, rfl, hbb, hv⟩ := (h.below hB).at hlt
      have HS : Hid (vs.take (k + 1) = vs.take k ++ [vs[k]]) := takeV vs k hlt
      have hyl : ys.length ≤ 1099511627776 := by have := congrArg List.length HY.out; simp at this; omega
      obtain ⟨c0, c1, c2, c3, c4, c5, c6, hd, hdl⟩ := hv
      generalize vs[k] = v at *
      go_wp2_with fail
      refine (sCopy_any v da dc _ hdl hd).mono ?_
      rintro e w2 ⟨pa, pc, rfl, hrow, hb2⟩
      have hO2 := (hO.below hb2 (Nat.le_refl _)).alloc (.cells #[.int .i64 v.k, .int .i64 v.t, .int .i64 v.s, .int .i64 v.val, .int .i64 v.cl, .int .i64 v.ca, .slice pa v.ds.length pc] 28)
      have hB2 : Below w.heap.size w w2 := hB.trans (hb2.mono hB.size)
      have hB3 := hB2.alloc hB2.size (.cells #[.int .i64 v.k, .int .i64 v.t, .int .i64 v.s, .int .i64 v.val, .int .i64 v.cl, .int .i64 v.ca, .slice pa v.ds.length pc] 28)
      have hap : ∀ z ∈ ys, ApartV z.p (.slice pa v.ds.length pc) := fun z hz => apart_new (hO.deps z hz).1 hrow (Nat.le_refl _)
      have hrow3 := row_mono (hrow.alloc (.cells #[.int .i64 v.k, .int .i64 v.t, .int .i64 v.s, .int .i64 v.val, .int .i64 v.cl, .int .i64 v.ca, .slice pa v.ds.length pc] 28)) hB.size
      have hN := Blk.new w2 #[.int .i64 v.k, .int .i64 v.t, .int .i64 v.s, .int .i64 v.val, .int .i64 v.cl, .int .i64 v.ca, .slice pa v.ds.length pc] 28
      have hs3 := hB3.size
      clear hrow hb2 c0 c1 c2 c3 c4 c5 c6 hd hO hB hB2 h
      go_wp2_with (first | (at_builtin
                            refine wpList_append_ver _ rfl _ _ rfl w.heap.size _ ys rfl hO2 ⟨v, .slice pa v.ds.length pc⟩ w2.heap.size rfl hN hrow3 hdl hap hyl hs3 ?_
                            intro v' w3 hO3 hg3
                            have hB4 : Below w.heap.size w w3 := hB3.grown hg3 hs3 (fun j hj => (hO2.row.lt j hj).1)
                            clear hg3 hO2 hap hrow3 hN hB3))
      go_roundw
      case rel => exact ⟨k + 1, _, by omega, by go_num, by show List.map XV.v _ = _; rw [HS.out, List.map_append, HY.out]; rfl, hO3, hB4⟩
      case measure => simp [intOf]; omega
    · have hk2 : k = vs.length := by omega
      subst hk2
      rw [List.take_length] at HY
      go_wp2
      go_ret
      exact ⟨_, ys, rfl, hO, HY.out, hB⟩
end Go.Proofs.Ythlmodafadfnfaa
