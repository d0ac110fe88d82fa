/- The program's ServerOk, the rest. -/
import Derived.Test.YtgdkoangpinieaaSvOkA
namespace Go.Proofs.Ytgdkoangpinieaa
open Go.ChangeShapes Go.WideShapes Go.ChangeAt Go.RowKit

/-- What is asked of one that waits. -/
def wait1 (x : Sv) (v : V) : Bool := !(sideOf v.s == sideOf x.site) && !(hasB x.vs v.k v.t v.s)
def waitsP (x : Sv) (ws : List V) : Bool := ws.all (wait1 x)
theorem waitsB_eq (x : Sv) : waitsB x = waitsP x x.ws := rfl
theorem waits_step {x : Sv} {vs : List V} {k : Nat} (hk : k < vs.length) (h : waitsP x (vs.take k) = true) (hp : wait1 x vs[k] = true) : waitsP x (vs.take (k + 1)) = true := by
  unfold waitsP at *; rw [List.take_succ_eq_append_getElem hk, List.all_append, h]; simp [hp]
theorem waits_bad {x : Sv} {vs : List V} {k : Nat} (hk : k < vs.length) (hp : wait1 x vs[k] = false) : waitsP x vs = false := by
  unfold waitsP; rw [List.all_eq_false]; exact ⟨vs[k], List.getElem_mem hk, by simp [hp]⟩
def owedP (x : Sv) (os : List D) : Bool := os.all fun d => hasB x.vs d.k d.t d.s
theorem owedB_eq (x : Sv) : owedB x = owedP x x.os := rfl
theorem owed_step {x : Sv} {vs : List D} {k : Nat} (hk : k < vs.length) (h : owedP x (vs.take k) = true) (hp : hasB x.vs vs[k].k vs[k].t vs[k].s = true) : owedP x (vs.take (k + 1)) = true := by
  unfold owedP at *; rw [List.take_succ_eq_append_getElem hk, List.all_append, h]; simp [hp]
theorem owed_bad {x : Sv} {vs : List D} {k : Nat} (hk : k < vs.length) (hp : hasB x.vs vs[k].k vs[k].t vs[k].s = false) : owedP x vs = false := by
  unfold owedP; rw [List.all_eq_false]; exact ⟨vs[k], List.getElem_mem hk, by simp [hp]⟩

set_option maxHeartbeats 4000000 in
theorem owesOk_any (x : Sv) (a : Sa) (w : World) (hc : chainB x.vs = true) (ho : x.os.length ≤ 1099511627776) (h : InS w x a) :
    Calls Try.prog 155 #[servV x a] w fun e w' => e = .returned (.bool (owedB x)) ∧ Below w.heap.size w w' := by
  rw [owedB_eq]
  have A0 := Blk.new w #[.int .i64 x.site, .bool x.up, .slice a.la x.sl.length a.lc, .slice a.va x.vs.length a.vc, .slice a.wa x.ws.length a.wc, .slice a.oa x.os.length a.oc, .slice a.ka x.kn.length a.kc] 63
  have b0 : Below w.heap.size w (w.alloc (.cells #[.int .i64 x.site, .bool x.up, .slice a.la x.sl.length a.lc, .slice a.va x.vs.length a.vc, .slice a.wa x.ws.length a.wc, .slice a.oa x.os.length a.oc, .slice a.ka x.kn.length a.kc] 63)) := (Below.refl _ _).alloc (Nat.le_refl _) _
  have h1 := h.below b0
  clear h
  have hp := A0.lt
  obtain ⟨q0, g0⟩ := A0.rules
  go_enter Try.func155, Try.ntmps155
  go_wp2_with fail
  clear q0 g0
  generalize w.alloc (.cells #[.int .i64 x.site, .bool x.up, .slice a.la x.sl.length a.lc, .slice a.va x.vs.length a.vc, .slice a.wa x.ws.length a.wc, .slice a.oa x.os.length a.oc, .slice a.ka x.kn.length a.kc] 63) = W1 at *
  go_loopw [8] (fun i wr => ∃ k : Nat, k ≤ x.os.length ∧ i = .int .i64 k ∧ Hid (owedP x (x.os.take k) = true) ∧ Below W1.heap.size W1 wr) (fun i _ => x.os.length - (intOf i).toNat)
  case atStart => exact ⟨0, Nat.zero_le _, rfl, rfl, Below.refl _ _⟩
  case round =>
    obtain ⟨k, hk, rfl, HA, hB⟩ := hrel
    have A1 := A0.below hB hp
    have z1 := A1.lt
    by_cases hlt : k < x.os.length
    · obtain ⟨b, o, hae, hbb, c0, c1, c2⟩ := (h1.o.below hB).at hlt
      have HY : Hid (hasB x.vs x.os[k].k x.os[k].t x.os[k].s = true → owedP x (x.os.take (k + 1)) = true) := by show _ → _; intro hp; exact owed_step hlt HA.out hp
      have HN : Hid (hasB x.vs x.os[k].k x.os[k].t x.os[k].s = false → owedP x x.os = false) := by show _ → _; intro hp; exact owed_bad hlt hp
      have hV := h1.v.below hB
      have j0 : (0 : Int) ≤ (k : Int) := by omega
      have j1 : (k : Int) < (x.os.length : Int) := by omega
      clear h1 HA
      generalize x.os[k] = d at *
      have hB1 : Below W1.heap.size W1 (wr.alloc (.cells #[.int .i64 d.k, .int .i64 d.t, .int .i64 d.s] 51)) := hB.alloc hB.size _
      have A2 := A1.alloc (.cells #[.int .i64 d.k, .int .i64 d.t, .int .i64 d.s] 51)
      have hV2 := hV.below ((Below.refl _ wr).alloc (Nat.le_refl _) (.cells #[.int .i64 d.k, .int .i64 d.t, .int .i64 d.s] 51))
      have hH := hasVer_any a.va a.vc x.vs d.k d.t d.s _ hc hV2
      generalize hasB x.vs d.k d.t d.s = r at *
      obtain ⟨q1, g1⟩ := A1.rules
      rw [hae]
      clear hV hV2 A1 hB A0
      go_wp2_with fail
      clear q1 g1 c0 c1 c2
      generalize wr.alloc (.cells #[.int .i64 d.k, .int .i64 d.t, .int .i64 d.s] 51) = W2 at *
      refine hH.mono ?_
      rintro e w2 ⟨rfl, hb⟩
      have B2 : Below W1.heap.size W1 w2 := hB1.trans (hb.mono hB1.size)
      clear hH hb hB1 A2
      rcases r with _ | _
      · have HR := HN.out rfl
        have HR2 : Hid (owedP x x.os = false) := HR
        clear HR HN HY
        go_wp2_with fail
        go_ret
        exact ⟨by rw [HR2.out]; rfl, b0.trans (B2.mono b0.size)⟩
      · have HR2 : Hid (owedP x (x.os.take (k + 1)) = true) := HY.out rfl
        clear HN HY
        go_wp2_with fail
        go_roundw
        case rel => exact ⟨k + 1, by omega, by go_num, HR2, B2⟩
        case measure => simp [intOf]; omega
    · have hk2 : k = x.os.length := by omega
      subst hk2
      rw [List.take_length] at HA
      clear A1 A0
      go_wp2_with fail
      go_ret
      exact ⟨by rw [HA.out]; rfl, b0.trans (hB.mono b0.size)⟩

theorem listsS_any (x : Sv) (a : Sa) (w : World) (hl : LenS x) (h : InS w x a) : Calls Try.prog 152 #[servV x a] w fun e w' => e = .returned (.bool (listsS x)) ∧ Below w.heap.size w w' := by
  have b0 : Below w.heap.size w (w.alloc (.cells #[.int .i64 x.site, .bool x.up, .slice a.la x.sl.length a.lc, .slice a.va x.vs.length a.vc, .slice a.wa x.ws.length a.wc, .slice a.oa x.os.length a.oc, .slice a.ka x.kn.length a.kc] 63)) := (Below.refl _ _).alloc (Nat.le_refl _) _
  have A0 := Blk.new w #[.int .i64 x.site, .bool x.up, .slice a.la x.sl.length a.lc, .slice a.va x.vs.length a.vc, .slice a.wa x.ws.length a.wc, .slice a.oa x.os.length a.oc, .slice a.ka x.kn.length a.kc] 63
  have L0 := h.below b0
  have h1 := fun W h => iChainOk_any a.va a.vc x.vs W hl.v h
  have h2 := fun W h => iChainOk_any a.wa a.wc x.ws W hl.w h
  have h3 := fun W h => debts_any a.oa a.oc x.os W hl.o h
  have h4 := fun W h => debts_any a.ka a.kc x.kn W hl.k h
  have HE : Hid (listsS x = (chainB x.vs && chainB x.ws && owesB x.os && owesB x.kn)) := rfl
  generalize listsS x = r at *
  generalize chainB x.vs = r1 at *
  generalize chainB x.ws = r2 at *
  generalize owesB x.os = r3 at *
  generalize owesB x.kn = r4 at *
  have HR : Hid (r = (r1 && r2 && r3 && r4)) := HE.out
  clear HE h hl
  go_enter Try.func152, Try.ntmps152
  go_wp2_with fail
  generalize (w.alloc (.cells #[.int .i64 x.site, .bool x.up, .slice a.la x.sl.length a.lc, .slice a.va x.vs.length a.vc, .slice a.wa x.ws.length a.wc, .slice a.oa x.os.length a.oc, .slice a.ka x.kn.length a.kc] 63)) = w0 at *
  refine (h1 _ L0.v).mono ?_
  rintro e w1 ⟨rfl, hb1⟩
  have A1 := A0.below hb1 A0.lt
  have L1 := L0.below hb1
  have B1 : Below w.heap.size w w1 := b0.trans (hb1.mono b0.size)
  clear A0 L0 b0 hb1 h1
  rcases r1 with _ | _
  · clear A1 L1 h2 h3 h4
    go_wp2_with fail
    go_ret
    exact ⟨by rw [HR.out]; simp, B1⟩
  obtain ⟨q1, g1⟩ := A1.rules
  go_wp2_with fail
  clear q1 g1
  refine (h2 _ L1.w).mono ?_
  rintro e w2 ⟨rfl, hb2⟩
  have A2 := A1.below hb2 A1.lt
  have L2 := L1.below hb2
  have B2 : Below w.heap.size w w2 := B1.trans (hb2.mono B1.size)
  clear A1 L1 B1 hb2 h2
  rcases r2 with _ | _
  · clear A2 L2 h3 h4
    go_wp2_with fail
    go_ret
    exact ⟨by rw [HR.out]; simp, B2⟩
  obtain ⟨q1, g1⟩ := A2.rules
  go_wp2_with fail
  clear q1 g1
  refine (h3 _ L2.o).mono ?_
  rintro e w3 ⟨rfl, hb3⟩
  have A3 := A2.below hb3 A2.lt
  have L3 := L2.below hb3
  have B3 : Below w.heap.size w w3 := B2.trans (hb3.mono B2.size)
  clear A2 L2 B2 hb3 h3
  rcases r3 with _ | _
  · clear A3 L3 h4
    go_wp2_with fail
    go_ret
    exact ⟨by rw [HR.out]; simp, B3⟩
  obtain ⟨q1, g1⟩ := A3.rules
  go_wp2_with fail
  clear q1 g1
  refine (h4 _ L3.k).mono ?_
  rintro e w4 ⟨rfl, hb4⟩
  have B4 : Below w.heap.size w w4 := B3.trans (hb4.mono B3.size)
  clear A3 L3 B3 hb4 h4
  go_wp2_with fail
  go_ret
  exact ⟨by rw [HR.out]; simp, B4⟩

end Go.Proofs.Ytgdkoangpinieaa
