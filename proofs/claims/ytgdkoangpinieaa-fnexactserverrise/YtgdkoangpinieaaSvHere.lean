/- The specification's ServerOk: slots that are here. -/
import Derived.Test.YtgdkoangpinieaaSvOkA
import Derived.Test.YtgdkoangpinieaaSvOkB
import Derived.Test.YtgdkoangpinieaaSideS
namespace Go.Proofs.Ytgdkoangpinieaa
open Go.ChangeShapes Go.WideShapes Go.ChangeAt Go.RowKit

theorem slot_b {n r : Int} (h : slotOf n = r) {w : World} : Calls Try.prog 119 #[.int .i64 n] w fun e w' => e = .returned (.int .i64 r) ∧ Below w.heap.size w w' := (sslot_is h w).mono fun e w' h => ⟨h.1, by rw [h.2]; exact Below.refl _ _⟩
theorem stand_at {xs : List Sl} {r : Nat} (h : r < xs.length) : standAt xs (r : Int) = xs[r].st := by
  unfold standAt
  rw [if_neg (by omega)]
  simp [h]
set_option maxHeartbeats 2000000 in
set_option maxRecDepth 20000 in
theorem sHere_any (x : Sv) (a : Sa) (key : Int) (w : World) (h3 : x.sl.length = 3) (hk : inB key 0 5 = true) (h : Slots w a.la x.sl) :
    Calls Try.prog 181 #[servV x a, .int .i64 key] w fun e w' => e = .returned (.bool (hereB x.sl key)) ∧ Below w.heap.size w w' := by
  obtain ⟨r, hr, hr3⟩ : ∃ r : Nat, slotOf key = (r : Int) ∧ r < x.sl.length := by
    rcases slot_in hk with h | h | h
    · exact ⟨0, h, by omega⟩
    · exact ⟨1, h, by omega⟩
    · exact ⟨2, h, by omega⟩
  have b0 : Below w.heap.size w (w.alloc (.cells #[.int .i64 x.site, .bool x.up, .slice a.la x.sl.length a.lc, .slice a.va x.vs.length a.vc, .slice a.wa x.ws.length a.wc, .slice a.oa x.os.length a.oc, .slice a.ka x.kn.length a.kc] 63)) := (Below.refl _ _).alloc (Nat.le_refl _) _
  have A0 := Blk.new w #[.int .i64 x.site, .bool x.up, .slice a.la x.sl.length a.lc, .slice a.va x.vs.length a.vc, .slice a.wa x.ws.length a.wc, .slice a.oa x.os.length a.oc, .slice a.ka x.kn.length a.kc] 63
  obtain ⟨b, o, hae, hbb, _, c1⟩ := (h.below b0).at hr3
  have HE : Hid (hereB x.sl key = !(x.sl[r].st == 0)) := by show _ = _; unfold hereB; rw [hr, stand_at hr3]
  have j0 : (0 : Int) ≤ (r : Int) := by omega
  have j1 : (r : Int) < (x.sl.length : Int) := by omega
  have HS : Hid (slotOf key = (r : Int)) := hr
  generalize hereB x.sl key = q at *
  generalize x.sl[r] = sl at *
  clear h hr h3 hk
  go_enter Try.func181, Try.ntmps181
  go_wp2_with fail
  generalize (w.alloc (.cells #[.int .i64 x.site, .bool x.up, .slice a.la x.sl.length a.lc, .slice a.va x.vs.length a.vc, .slice a.wa x.ws.length a.wc, .slice a.oa x.os.length a.oc, .slice a.ka x.kn.length a.kc] 63)) = W2 at *
  have r1 : ∀ (n' : Wof (Since W2)) (j : Nat), n'.W.cell? ⟨w.heap.size, j, none⟩ = #[.int .i64 x.site, .bool x.up, .slice a.la x.sl.length a.lc, .slice a.va x.vs.length a.vc, .slice a.wa x.ws.length a.wc, .slice a.oa x.os.length a.oc, .slice a.ka x.kn.length a.kc][j]? := fun n' j => (A0.below n'.h A0.lt).cell j
  have r2 := since_cell c1
  have ne := since_ne W2
  have l1 := A0.lt
  rw [hae] at r1
  clear A0 c1 hae
  refine wp_region_class (S := Since W2) (by kernel_rfl) (by kernel_rfl) (Below.refl _ _).drew ?_
  repeat (go_big_quiet_step ((rename_i n; first | (go_at_call 119; exact Calls.inClass (slot_b HS.out) Since.keep))))
  refine wpQuiet_nil ?_
  rintro W ⟨n, hnW⟩
  have R2 := n.h
  rw [← hnW] at R2
  have B2 : Below w.heap.size w W := b0.trans (R2.mono b0.size)
  clear R2 r1 r2 ne hnW n b0
  go_wp2_with fail
  go_ret
  exact ⟨by rw [HE.out]; simp [bne], B2⟩
theorem sHere_is {x : Sv} {a : Sa} {key : Int} {q : Bool} (hq : hereB x.sl key = q) {w : World} (h3 : x.sl.length = 3) (hk : inB key 0 5 = true) (h : Slots w a.la x.sl) : Calls Try.prog 181 #[servV x a, .int .i64 key] w fun e w' => e = .returned (.bool q) ∧ Below w.heap.size w w' := by rw [← hq]; exact sHere_any x a key w h3 hk h

set_option maxHeartbeats 4000000 in
set_option maxRecDepth 20000 in
theorem sAllHere_any (x : Sv) (a : Sa) (va : Option Addr) (cap : Nat) (vs : List V) (w : World) (h3 : x.sl.length = 3) (hc : chainB vs = true) (h : Slots w a.la x.sl) (hv : Vers w va vs) :
    Calls Try.prog 149 #[servV x a, .slice va vs.length cap] w fun e w' => e = .returned (.bool (allHere x.sl vs)) ∧ Below w.heap.size w w' := by
  have b0 : Below w.heap.size w (w.alloc (.cells #[.int .i64 x.site, .bool x.up, .slice a.la x.sl.length a.lc, .slice a.va x.vs.length a.vc, .slice a.wa x.ws.length a.wc, .slice a.oa x.os.length a.oc, .slice a.ka x.kn.length a.kc] 63)) := (Below.refl _ _).alloc (Nat.le_refl _) _
  have A0 := Blk.new w #[.int .i64 x.site, .bool x.up, .slice a.la x.sl.length a.lc, .slice a.va x.vs.length a.vc, .slice a.wa x.ws.length a.wc, .slice a.oa x.os.length a.oc, .slice a.ka x.kn.length a.kc] 63
  have hl : vs.length ≤ 80 := (chainB_iff.1 hc).1
  have hk5 : Hid (∀ v ∈ vs, inB v.k 0 5 = true) := by show ∀ v ∈ vs, _; intro v hv; exact chain_key hc hv
  have H3 : Hid (x.sl.length = 3) := h3
  have s1 := h.below b0
  have v1 := hv.below b0
  have hp := A0.lt
  clear h hc hv h3
  go_enter Try.func149, Try.ntmps149
  go_wp2_with fail
  generalize (w.alloc (.cells #[.int .i64 x.site, .bool x.up, .slice a.la x.sl.length a.lc, .slice a.va x.vs.length a.vc, .slice a.wa x.ws.length a.wc, .slice a.oa x.os.length a.oc, .slice a.ka x.kn.length a.kc] 63)) = W1 at *
  go_loopw [5] (fun i wr => ∃ k : Nat, k ≤ vs.length ∧ i = .int .i64 k ∧ Hid (allHere x.sl (vs.take k) = true) ∧ Below W1.heap.size W1 wr) (fun i _ => vs.length - (intOf i).toNat)
  case atStart => exact ⟨0, Nat.zero_le _, rfl, rfl, Below.refl _ _⟩
  case round =>
    obtain ⟨k, hk, rfl, HA, hB⟩ := hrel
    have A1 := A0.below hB hp
    have z1 := A1.lt
    by_cases hlt : k < vs.length
    · obtain ⟨b, o, da, dc, rfl, hbb, hv⟩ := (v1.below hB).at hlt
      have hin := hk5.out vs[k] (List.getElem_mem hlt)
      have HY : Hid (hereB x.sl vs[k].k = true → allHere x.sl (vs.take (k + 1)) = true) := by show _ → _; intro hp; exact here_step hlt HA.out hp
      have HN : Hid (hereB x.sl vs[k].k = false → allHere x.sl vs = false) := by show _ → _; intro hp; exact here_bad hlt hp
      obtain ⟨r0, _⟩ := hv.rules
      have s2 := s1.below hB
      have j0 : (0 : Int) ≤ (k : Int) := by omega
      have j1 : (k : Int) < (vs.length : Int) := by omega
      clear v1 s1 HA hv
      generalize vs[k] = v at *
      have HI : Hid (inB v.k 0 5 = true) := hin
      clear hin
      have r1 : ∀ (n' : Wof (Since wr)) (j : Nat), n'.W.cell? ⟨w.heap.size, j, none⟩ = #[.int .i64 x.site, .bool x.up, .slice a.la x.sl.length a.lc, .slice a.va x.vs.length a.vc, .slice a.wa x.ws.length a.wc, .slice a.oa x.os.length a.oc, .slice a.ka x.kn.length a.kc][j]? := fun n' j => (A1.below n'.h A1.lt).cell j
      have ne := since_ne wr
      obtain ⟨q, hq⟩ : ∃ q, hereB x.sl v.k = q := ⟨_, rfl⟩
      have HQ : Hid (hereB x.sl v.k = q) := hq
      rw [hq] at HY HN
      clear hq A1 A0
      go_wp2_with fail
      refine wp_region_class (S := Since wr) (by kernel_rfl) (by kernel_rfl) (Below.refl _ _).drew ?_
      repeat (go_big_quiet_step ((rename_i n; first | (go_at_call 181; exact Calls.inClass (sHere_is HQ.out H3.out HI.out (s2.below n.h)) Since.keep))))
      refine wpQuiet_nil ?_
      rintro W ⟨n, hnW⟩
      have R2 := n.h
      rw [← hnW] at R2
      have B2 : Below W1.heap.size W1 W := hB.trans (R2.mono hB.size)
      clear R2 r0 r1 ne hnW n hB s2
      rcases q with _ | _
      · have HR : Hid (allHere x.sl vs = false) := HN.out rfl
        clear HN HY HQ HI
        go_wp2_with fail
        go_ret
        exact ⟨by rw [HR.out]; rfl, b0.trans (B2.mono b0.size)⟩
      · have HR : Hid (allHere x.sl (vs.take (k + 1)) = true) := HY.out rfl
        clear HN HY HQ HI
        go_wp2_with fail
        go_roundw
        case rel => exact ⟨k + 1, by omega, by go_num, HR, B2⟩
        case measure => simp [intOf]; omega
    · have hk2 : k = vs.length := by omega
      subst hk2
      rw [List.take_length] at HA
      clear A1 A0
      go_wp2_with fail
      go_ret
      exact ⟨by rw [HA.out]; rfl, b0.trans (hB.mono b0.size)⟩
end Go.Proofs.Ytgdkoangpinieaa
