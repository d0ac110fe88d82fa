/- 4 texts in one: SideS, SvHere, SvQ, WOwesS. -/
import Derived.Test.YtpjidogilofppaaGreatZA
import Derived.Test.YtpjidogilofppaaGreatZO
import Derived.Test.YtpjidogilofppaaGreatSAtV
import Derived.Test.YtpjidogilofppaaGreatGAJ
import Derived.Test.YtpjidogilofppaaGreatZW
import Derived.Test.YtpjidogilofppaaGreatZD
/- The specification's SiteSide. -/
namespace Go.Proofs.YtpjidogilofppaaGreat
open Go.ChangeShapes Go.WideShapes Go.ChangeAt Go.RowKit

theorem sSide_any (n : Int) (w : World) : Calls Tryz.prog 79 #[.int .i64 n] w fun e w' => e = .returned (.int .i64 (sideOf n)) ∧ w' = w := by
  by_cases h0 : n < 0
  · rw [side_out n (.inl h0)]
    go_enter Tryz.func79, Tryz.ntmps79
    go_wp2
    go_ret
    exact ⟨rfl, rfl⟩
  · by_cases h1 : 4 ≤ n
    · rw [side_out n (.inr h1)]
      have hd : decide (n ≤ 3) = false := by simp; omega
      go_enter Tryz.func79, Tryz.ntmps79
      go_wp2
      go_ret
      exact ⟨rfl, rfl⟩
    · have h0' : 0 ≤ n := by omega
      have h1' : n < 4 := by omega
      rw [side_in n h0' h1']
      have hd : decide (n ≤ 3) = true := by simp; omega
      go_enter Tryz.func79, Tryz.ntmps79
      go_wp2
      go_ret
      exact ⟨rfl, rfl⟩
end Go.Proofs.YtpjidogilofppaaGreat

/- The specification's ServerOk: slots that are here. -/
namespace Go.Proofs.YtpjidogilofppaaGreat
open Go.ChangeShapes Go.WideShapes Go.ChangeAt Go.RowKit

theorem slot_b {n r : Int} (h : slotOf n = r) {w : World} : Calls Tryz.prog 80 #[.int .i64 n] w fun e w' => e = .returned (.int .i64 r) ∧ Below w.heap.size w w' := (sslot_is h w).mono fun e w' h => ⟨h.1, by rw [h.2]; exact Below.refl _ _⟩
theorem stand_at {xs : List Sl} {r : Nat} (h : r < xs.length) : standAt xs (r : Int) = xs[r].st := by
  unfold standAt
  rw [if_neg (by omega)]
  simp [h]
set_option maxHeartbeats 2000000 in
set_option maxRecDepth 20000 in
theorem sHere_any (x : Sv) (a : Sa) (key : Int) (w : World) (h3 : x.sl.length = 3) (hk : inB key 0 5 = true) (h : Slots w a.la x.sl) :
    Calls Tryz.prog 185 #[servV x a, .int .i64 key] w fun e w' => e = .returned (.bool (hereB x.sl key)) ∧ Below w.heap.size w w' := by
  obtain ⟨r, hr, hr3⟩ : ∃ r : Nat, slotOf key = (r : Int) ∧ r < x.sl.length := by
    rcases slot_in hk with h | h | h
    · exact ⟨0, h, by omega⟩
    · exact ⟨1, h, by omega⟩
    · exact ⟨2, h, by omega⟩
  have b0 : Below w.heap.size w (w.alloc (.cells #[.int .i64 x.site, .bool x.up, .slice a.la x.sl.length a.lc, .slice a.va x.vs.length a.vc, .slice a.wa x.ws.length a.wc, .slice a.oa x.os.length a.oc, .slice a.ka x.kn.length a.kc] 32)) := (Below.refl _ _).alloc (Nat.le_refl _) _
  have A0 := Blk.new w #[.int .i64 x.site, .bool x.up, .slice a.la x.sl.length a.lc, .slice a.va x.vs.length a.vc, .slice a.wa x.ws.length a.wc, .slice a.oa x.os.length a.oc, .slice a.ka x.kn.length a.kc] 32
  obtain ⟨b, o, hae, hbb, _, c1⟩ := (h.below b0).at hr3
  have HE : Hid (hereB x.sl key = !(x.sl[r].st == 0)) := by show _ = _; unfold hereB; rw [hr, stand_at hr3]
  have j0 : (0 : Int) ≤ (r : Int) := by omega
  have j1 : (r : Int) < (x.sl.length : Int) := by omega
  have HS : Hid (slotOf key = (r : Int)) := hr
  generalize hereB x.sl key = q at *
  generalize x.sl[r] = sl at *
  clear h hr h3 hk
  go_enter Tryz.func185, Tryz.ntmps185
  go_wp2_with fail
  generalize (w.alloc (.cells #[.int .i64 x.site, .bool x.up, .slice a.la x.sl.length a.lc, .slice a.va x.vs.length a.vc, .slice a.wa x.ws.length a.wc, .slice a.oa x.os.length a.oc, .slice a.ka x.kn.length a.kc] 32)) = W2 at *
  have r1 : ∀ (n' : Wof (Since W2)) (j : Nat), n'.W.cell? ⟨w.heap.size, j, none⟩ = #[.int .i64 x.site, .bool x.up, .slice a.la x.sl.length a.lc, .slice a.va x.vs.length a.vc, .slice a.wa x.ws.length a.wc, .slice a.oa x.os.length a.oc, .slice a.ka x.kn.length a.kc][j]? := fun n' j => (A0.below n'.h A0.lt).cell j
  have r2 := since_cell c1
  have ne := since_ne W2
  have l1 := A0.lt
  rw [hae] at r1
  clear A0 c1 hae
  refine wp_region_class (S := Since W2) (by kernel_rfl) (by kernel_rfl) (Below.refl _ _).drew ?_
  repeat (go_big_quiet_step ((rename_i n; first | (go_at_call 80; exact Calls.inClass (slot_b HS.out) Since.keep))))
  refine wpQuiet_nil ?_
  rintro W ⟨n, hnW⟩
  have R2 := n.h
  rw [← hnW] at R2
  have B2 : Below w.heap.size w W := b0.trans (R2.mono b0.size)
  clear R2 r1 r2 ne hnW n b0
  go_wp2_with fail
  go_ret
  exact ⟨by rw [HE.out]; simp [bne], B2⟩
theorem sHere_is {x : Sv} {a : Sa} {key : Int} {q : Bool} (hq : hereB x.sl key = q) {w : World} (h3 : x.sl.length = 3) (hk : inB key 0 5 = true) (h : Slots w a.la x.sl) : Calls Tryz.prog 185 #[servV x a, .int .i64 key] w fun e w' => e = .returned (.bool q) ∧ Below w.heap.size w w' := by rw [← hq]; exact sHere_any x a key w h3 hk h

set_option maxHeartbeats 4000000 in
set_option maxRecDepth 20000 in
theorem sAllHere_any (x : Sv) (a : Sa) (va : Option Addr) (cap : Nat) (vs : List V) (w : World) (h3 : x.sl.length = 3) (hc : chainB vs = true) (h : Slots w a.la x.sl) (hv : Vers w va vs) :
    Calls Tryz.prog 115 #[servV x a, .slice va vs.length cap] w fun e w' => e = .returned (.bool (allHere x.sl vs)) ∧ Below w.heap.size w w' := by
  have b0 : Below w.heap.size w (w.alloc (.cells #[.int .i64 x.site, .bool x.up, .slice a.la x.sl.length a.lc, .slice a.va x.vs.length a.vc, .slice a.wa x.ws.length a.wc, .slice a.oa x.os.length a.oc, .slice a.ka x.kn.length a.kc] 32)) := (Below.refl _ _).alloc (Nat.le_refl _) _
  have A0 := Blk.new w #[.int .i64 x.site, .bool x.up, .slice a.la x.sl.length a.lc, .slice a.va x.vs.length a.vc, .slice a.wa x.ws.length a.wc, .slice a.oa x.os.length a.oc, .slice a.ka x.kn.length a.kc] 32
  have hl : vs.length ≤ 80 := (chainB_iff.1 hc).1
  have hk5 : Hid (∀ v ∈ vs, inB v.k 0 5 = true) := by show ∀ v ∈ vs, _; intro v hv; exact chain_key hc hv
  have H3 : Hid (x.sl.length = 3) := h3
  have s1 := h.below b0
  have v1 := hv.below b0
  have hp := A0.lt
  clear h hc hv h3
  go_enter Tryz.func115, Tryz.ntmps115
  go_wp2_with fail
  generalize (w.alloc (.cells #[.int .i64 x.site, .bool x.up, .slice a.la x.sl.length a.lc, .slice a.va x.vs.length a.vc, .slice a.wa x.ws.length a.wc, .slice a.oa x.os.length a.oc, .slice a.ka x.kn.length a.kc] 32)) = W1 at *
  go_loopw [5] (fun i wr => ∃ k : Nat, k ≤ vs.length ∧ i = .int .i64 k ∧ Hid (allHere x.sl (vs.take k) = true) ∧ Below W1.heap.size W1 wr) (fun i _ => vs.length - (intOf i).toNat)
  case atStart => exact ⟨0, Nat.zero_le _, rfl, rfl, Below.refl _ _⟩
  case round =>
    obtain ⟨k, hk, rfl, HA, hB⟩ := hrel
    have A1 := A0.below hB hp
    have z1 := A1.lt
    by_cases hlt : k < vs.length
    · obtain ⟨b, o, da, dc, rfl, hbb, hv⟩ := (v1.below hB).at hlt
      have hin := hk5.out vs[k] (List.getElem_mem hlt)
      have HY : Hid (hereB x.sl vs[k].k = true → allHere x.sl (vs.take (k + 1)) = true) := by show _ → _; intro hp; exact here_step hlt HA.out hp
      have HN : Hid (hereB x.sl vs[k].k = false → allHere x.sl vs = false) := by show _ → _; intro hp; exact here_bad hlt hp
      obtain ⟨r0, _⟩ := hv.rules
      have s2 := s1.below hB
      have j0 : (0 : Int) ≤ (k : Int) := by omega
      have j1 : (k : Int) < (vs.length : Int) := by omega
      clear v1 s1 HA hv
      generalize vs[k] = v at *
      have HI : Hid (inB v.k 0 5 = true) := hin
      clear hin
      have r1 : ∀ (n' : Wof (Since wr)) (j : Nat), n'.W.cell? ⟨w.heap.size, j, none⟩ = #[.int .i64 x.site, .bool x.up, .slice a.la x.sl.length a.lc, .slice a.va x.vs.length a.vc, .slice a.wa x.ws.length a.wc, .slice a.oa x.os.length a.oc, .slice a.ka x.kn.length a.kc][j]? := fun n' j => (A1.below n'.h A1.lt).cell j
      have ne := since_ne wr
      obtain ⟨q, hq⟩ : ∃ q, hereB x.sl v.k = q := ⟨_, rfl⟩
      have HQ : Hid (hereB x.sl v.k = q) := hq
      rw [hq] at HY HN
      clear hq A1 A0
      go_wp2_with fail
      refine wp_region_class (S := Since wr) (by kernel_rfl) (by kernel_rfl) (Below.refl _ _).drew ?_
      repeat (go_big_quiet_step ((rename_i n; first | (go_at_call 185; exact Calls.inClass (sHere_is HQ.out H3.out HI.out (s2.below n.h)) Since.keep))))
      refine wpQuiet_nil ?_
      rintro W ⟨n, hnW⟩
      have R2 := n.h
      rw [← hnW] at R2
      have B2 : Below W1.heap.size W1 W := hB.trans (R2.mono hB.size)
      clear R2 r0 r1 ne hnW n hB s2
      rcases q with _ | _
      · have HR : Hid (allHere x.sl vs = false) := HN.out rfl
        clear HN HY HQ HI
        go_wp2_with fail
        go_ret
        exact ⟨by rw [HR.out]; rfl, b0.trans (B2.mono b0.size)⟩
      · have HR : Hid (allHere x.sl (vs.take (k + 1)) = true) := HY.out rfl
        clear HN HY HQ HI
        go_wp2_with fail
        go_roundw
        case rel => exact ⟨k + 1, by omega, by go_num, HR, B2⟩
        case measure => simp [intOf]; omega
    · have hk2 : k = vs.length := by omega
      subst hk2
      rw [List.take_length] at HA
      clear A1 A0
      go_wp2_with fail
      go_ret
      exact ⟨by rw [HA.out]; rfl, b0.trans (hB.mono b0.size)⟩
end Go.Proofs.YtpjidogilofppaaGreat

/- The specification's ServerOk: what is looked for among versions. -/
namespace Go.Proofs.YtpjidogilofppaaGreat
open Go.ChangeShapes Go.WideShapes Go.ChangeAt Go.RowKit

/-- What a region reads: a server's box, and three cells. -/
abbrev InQ (B : Nat) (vs : Array Value) (b p : Nat) (dk dt dss : Int) (W : World) : Prop := (∀ j, W.cell? ⟨B, j, none⟩ = vs[j]?) ∧ W.cell? ⟨b, p, none⟩ = some (.int .i64 dk) ∧ W.cell? ⟨b, p + 1, none⟩ = some (.int .i64 dt) ∧ W.cell? ⟨b, p + 2, none⟩ = some (.int .i64 dss)
theorem InQ.at {w W : World} {B b p : Nat} {vs : Array Value} {T : TypeId} {dk dt dss : Int} {n : Nat} (hA : Blk w B vs T) (hB : B < n) (hb : b < n) (c0 : w.cell? ⟨b, p, none⟩ = some (.int .i64 dk)) (c1 : w.cell? ⟨b, p + 1, none⟩ = some (.int .i64 dt)) (c2 : w.cell? ⟨b, p + 2, none⟩ = some (.int .i64 dss)) (k : Below n w W) : InQ B vs b p dk dt dss W :=
  ⟨fun j => (hA.below k hB).cell j, (k.cell (p := ⟨b, _, none⟩) hb).trans c0, (k.cell (p := ⟨b, _, none⟩) hb).trans c1, (k.cell (p := ⟨b, _, none⟩) hb).trans c2⟩
theorem InQ.since {W : World} {B b p : Nat} {vs : Array Value} {dk dt dss : Int} (h : InQ B vs b p dk dt dss W) (hB : B < W.heap.size) (hb : b < W.heap.size) : (∀ (n : Wof (Since W)) (j : Nat), n.W.cell? ⟨B, j, none⟩ = vs[j]?) ∧ (∀ n : Wof (Since W), n.W.cell? ⟨b, p, none⟩ = some (.int .i64 dk)) ∧ (∀ n : Wof (Since W), n.W.cell? ⟨b, p + 1, none⟩ = some (.int .i64 dt)) ∧ (∀ n : Wof (Since W), n.W.cell? ⟨b, p + 2, none⟩ = some (.int .i64 dss)) :=
  ⟨fun n j => (n.h.cell (p := ⟨B, j, none⟩) hB).trans (h.1 j), fun n => (n.h.cell (p := ⟨b, _, none⟩) hb).trans h.2.1, fun n => (n.h.cell (p := ⟨b, _, none⟩) hb).trans h.2.2.1, fun n => (n.h.cell (p := ⟨b, _, none⟩) hb).trans h.2.2.2⟩
theorem InQ.ne {W : World} {B b p : Nat} {vs : Array Value} {dk dt dss : Int} (_ : InQ B vs b p dk dt dss W) : Nonempty (Wof (Since W)) := since_ne W
theorem sside_b (n : Int) {w : World} : Calls Tryz.prog 79 #[.int .i64 n] w fun e w' => e = .returned (.int .i64 (sideOf n)) ∧ Below w.heap.size w w' := (sSide_any n w).mono fun e w' h => ⟨h.1, by rw [h.2]; exact Below.refl _ _⟩
end Go.Proofs.YtpjidogilofppaaGreat

/- Debts in order: the specification's check. -/
namespace Go.Proofs.YtpjidogilofppaaGreat
open Go.ChangeShapes Go.WideShapes Go.ChangeAt Go.RowKit

theorem okD_nokey {d : D} (h : inB d.k 0 5 = false) : okD d = false := by unfold okD; rw [h]; rfl
theorem okD_nostamp {d : D} (h : okB d.t d.s = false) : okD d = false := by unfold okD; rw [h]; simp
theorem okD_both {d : D} (h : inB d.k 0 5 = true) (h' : okB d.t d.s = true) : okD d = true := by unfold okD; rw [h, h']; rfl

set_option maxHeartbeats 4000000 in
theorem sOwes_any (a : Option Addr) (cap : Nat) (xs : List D) (w : World) (hn : xs.length ≤ 1099511627776) (h : Deps w a xs) :
    Calls Tryz.prog 114 #[.slice a xs.length cap] w fun e w' => e = .returned (.bool (owesB xs)) ∧ Below w.heap.size w w' := by
  by_cases hl : 80 < (xs.length : Int)
  · have HN : Hid (owesB xs = false) := owesB_long (by omega)
    go_enter Tryz.func114, Tryz.ntmps114
    go_wp2
    go_ret
    exact ⟨by rw [HN.out]; rfl, Below.refl _ _⟩
  have hl2 : (xs.length : Int) ≤ 80 := by omega
  have hl3 : xs.length ≤ 80 := by omega
  clear hl hn
  go_enter Tryz.func114, Tryz.ntmps114
  go_wp2
  go_loopw [3] (fun i wr => ∃ k : Nat, k ≤ xs.length ∧ i = .int .i64 k ∧ Hid (owesP (xs.take k)) ∧ Below w.heap.size w wr) (fun i _ => xs.length - (intOf i).toNat)
  case atStart => exact ⟨0, Nat.zero_le _, rfl, owesP_nil, Below.refl _ _⟩
  case round =>
    obtain ⟨k, hk, rfl, HC, hB⟩ := hrel
    by_cases hlt : k < xs.length
    · obtain ⟨b, o, rfl, hbb, c0, c1, c2⟩ := (h.below hB).at hlt
      rcases hkey : inB xs[k].k 0 5 with _ | _
      · have HN : Hid (owesB xs = false) := owesB_no (owesP_bad hlt (okD_nokey hkey))
        clear HC h
        generalize xs[k] = v at *
        have r := since_new (wr := wr) (vs := #[.int .i64 v.k, .int .i64 v.t, .int .i64 v.s]) (T := 116)
        have ne := since_ne (wr.alloc (.cells #[.int .i64 v.k, .int .i64 v.t, .int .i64 v.s] 116))
        go_wp2_with fail
        clear c0 c1 c2
        refine wp_region_class (S := Since (wr.alloc (.cells #[.int .i64 v.k, .int .i64 v.t, .int .i64 v.s] 116))) (by kernel_rfl) (by kernel_rfl) (Below.refl _ _).drew ?_
        repeat (go_big_quiet_step ((rename_i n; first | (go_at_call 141; exact Calls.inClassSame (sKey_is hkey _)))))
        refine wpQuiet_nil ?_
        rintro W ⟨n, hnW⟩
        have R2 := n.h
        rw [← hnW] at R2
        have hB1 := hB.alloc hB.size (.cells #[.int .i64 v.k, .int .i64 v.t, .int .i64 v.s] 116)
        have hB2 : Below w.heap.size w W := hB1.trans (R2.mono hB1.size)
        clear R2 r ne hnW n hB hB1
        go_wp2
        go_ret
        exact ⟨by rw [HN.out]; rfl, hB2⟩
      rcases hst : okB xs[k].t xs[k].s with _ | _
      · have HN : Hid (owesB xs = false) := owesB_no (owesP_bad hlt (okD_nostamp hst))
        clear HC h
        generalize xs[k] = v at *
        have r := since_new (wr := wr) (vs := #[.int .i64 v.k, .int .i64 v.t, .int .i64 v.s]) (T := 116)
        have ne := since_ne (wr.alloc (.cells #[.int .i64 v.k, .int .i64 v.t, .int .i64 v.s] 116))
        go_wp2_with fail
        clear c0 c1 c2
        refine wp_region_class (S := Since (wr.alloc (.cells #[.int .i64 v.k, .int .i64 v.t, .int .i64 v.s] 116))) (by kernel_rfl) (by kernel_rfl) (Below.refl _ _).drew ?_
        repeat (go_big_quiet_step ((rename_i n; first | (go_at_call 141; exact Calls.inClassSame (sKey_is hkey _)) | (go_at_call 103; exact Calls.inClass (sOk_is hst _) Since.keep))))
        refine wpQuiet_nil ?_
        rintro W ⟨n, hnW⟩
        have R2 := n.h
        rw [← hnW] at R2
        have hB1 := hB.alloc hB.size (.cells #[.int .i64 v.k, .int .i64 v.t, .int .i64 v.s] 116)
        have hB2 : Below w.heap.size w W := hB1.trans (R2.mono hB1.size)
        clear R2 r ne hnW n hB hB1
        go_wp2
        go_ret
        exact ⟨by rw [HN.out]; rfl, hB2⟩
      have hok := okD_both hkey hst
      rcases k with _ | j
      · have HO : Hid (owesP (xs.take (0 + 1))) := owesP_step hlt HC.out hok (.inl rfl)
        clear HC h hok
        simp only [Nat.zero_mul, Nat.add_zero] at c0 c1 c2
        generalize xs[0] = v at *
        have r := since_new (wr := wr) (vs := #[.int .i64 v.k, .int .i64 v.t, .int .i64 v.s]) (T := 116)
        have ne := since_ne (wr.alloc (.cells #[.int .i64 v.k, .int .i64 v.t, .int .i64 v.s] 116))
        go_wp2_with fail
        clear c0 c1 c2
        refine wp_region_class (S := Since (wr.alloc (.cells #[.int .i64 v.k, .int .i64 v.t, .int .i64 v.s] 116))) (by kernel_rfl) (by kernel_rfl) (Below.refl _ _).drew ?_
        repeat (go_big_quiet_step ((rename_i n; first | (go_at_call 141; exact Calls.inClassSame (sKey_is hkey _)) | (go_at_call 103; exact Calls.inClass (sOk_is hst _) Since.keep))))
        refine wpQuiet_nil ?_
        rintro W ⟨n, hnW⟩
        have R2 := n.h
        rw [← hnW] at R2
        have hB1 := hB.alloc hB.size (.cells #[.int .i64 v.k, .int .i64 v.t, .int .i64 v.s] 116)
        have hB2 : Below w.heap.size w W := hB1.trans (R2.mono hB1.size)
        clear R2 r ne hnW n hB hB1
        go_wp2
        go_roundw
        case rel => exact ⟨0 + 1, by omega, by go_num, HO, hB2⟩
        case measure => simp [intOf]; omega
      obtain ⟨b', o', he, _, p0, p1, p2⟩ := (h.below hB).at (k := j) (by omega)
      simp at he
      obtain ⟨rfl, rfl⟩ := he
      by_cases hgt : xs[j + 1].k < xs[j].k
      · have HN : Hid (owesB xs = false) := owesB_no (owesP_order hlt (by omega) (lessD_keyno hgt))
        have d1 : decide (xs[j + 1].k < xs[j].k) = true := by simpa using hgt
        clear HC h hok
        generalize xs[j + 1] = v at *
        generalize xs[j] = u at *
        have q0 := since_cell (((al0 wr (.cells #[.int .i64 v.k, .int .i64 v.t, .int .i64 v.s] 116)).cell (p := ⟨b, _, none⟩) hbb).trans p0)
        have q1 := since_cell (((al0 wr (.cells #[.int .i64 v.k, .int .i64 v.t, .int .i64 v.s] 116)).cell (p := ⟨b, _, none⟩) hbb).trans p1)
        have q2 := since_cell (((al0 wr (.cells #[.int .i64 v.k, .int .i64 v.t, .int .i64 v.s] 116)).cell (p := ⟨b, _, none⟩) hbb).trans p2)
        clear p0 p1 p2
        have r := since_new (wr := wr) (vs := #[.int .i64 v.k, .int .i64 v.t, .int .i64 v.s]) (T := 116)
        have ne := since_ne (wr.alloc (.cells #[.int .i64 v.k, .int .i64 v.t, .int .i64 v.s] 116))
        go_wp2_with fail
        clear c0 c1 c2
        refine wp_region_class (S := Since (wr.alloc (.cells #[.int .i64 v.k, .int .i64 v.t, .int .i64 v.s] 116))) (by kernel_rfl) (by kernel_rfl) (Below.refl _ _).drew ?_
        repeat (go_big_quiet_step ((rename_i n; first | (go_at_call 141; exact Calls.inClassSame (sKey_is hkey _)) | (go_at_call 103; exact Calls.inClass (sOk_is hst _) Since.keep))))
        refine wpQuiet_nil ?_
        rintro W ⟨n, hnW⟩
        have R2 := n.h
        rw [← hnW] at R2
        have hB1 := hB.alloc hB.size (.cells #[.int .i64 v.k, .int .i64 v.t, .int .i64 v.s] 116)
        have hB2 : Below w.heap.size w W := hB1.trans (R2.mono hB1.size)
        clear R2 r ne hnW n hB hB1 q0 q1 q2
        go_wp2
        go_ret
        exact ⟨by rw [HN.out]; rfl, hB2⟩
      have d1 : decide (xs[j + 1].k < xs[j].k) = false := by simpa using hgt
      by_cases heq : xs[j].k = xs[j + 1].k
      · have d2 : (xs[j].k == xs[j + 1].k) = true := by simpa using heq
        rcases hls : lessB xs[j].t xs[j].s xs[j + 1].t xs[j + 1].s with _ | _
        · have HN : Hid (owesB xs = false) := owesB_no (owesP_order hlt (by omega) (by rw [← hls]; exact lessD_stamp heq))
          clear heq hgt
          clear HC h hok
          generalize xs[j + 1] = v at *
          generalize xs[j] = u at *
          have q0 := since_cell (((al0 wr (.cells #[.int .i64 v.k, .int .i64 v.t, .int .i64 v.s] 116)).cell (p := ⟨b, _, none⟩) hbb).trans p0)
          have q1 := since_cell (((al0 wr (.cells #[.int .i64 v.k, .int .i64 v.t, .int .i64 v.s] 116)).cell (p := ⟨b, _, none⟩) hbb).trans p1)
          have q2 := since_cell (((al0 wr (.cells #[.int .i64 v.k, .int .i64 v.t, .int .i64 v.s] 116)).cell (p := ⟨b, _, none⟩) hbb).trans p2)
          clear p0 p1 p2
          have r := since_new (wr := wr) (vs := #[.int .i64 v.k, .int .i64 v.t, .int .i64 v.s]) (T := 116)
          have ne := since_ne (wr.alloc (.cells #[.int .i64 v.k, .int .i64 v.t, .int .i64 v.s] 116))
          go_wp2_with fail
          clear c0 c1 c2
          refine wp_region_class (S := Since (wr.alloc (.cells #[.int .i64 v.k, .int .i64 v.t, .int .i64 v.s] 116))) (by kernel_rfl) (by kernel_rfl) (Below.refl _ _).drew ?_
          repeat (go_big_quiet_step ((rename_i n; first | (go_at_call 141; exact Calls.inClassSame (sKey_is hkey _)) | (go_at_call 103; exact Calls.inClass (sOk_is hst _) Since.keep) | (go_at_call 169; exact Calls.inClass (sLess_is hls _) Since.keep))))
          refine wpQuiet_nil ?_
          rintro W ⟨n, hnW⟩
          have R2 := n.h
          rw [← hnW] at R2
          have hB1 := hB.alloc hB.size (.cells #[.int .i64 v.k, .int .i64 v.t, .int .i64 v.s] 116)
          have hB2 : Below w.heap.size w W := hB1.trans (R2.mono hB1.size)
          clear R2 r ne hnW n hB hB1 q0 q1 q2
          go_wp2
          go_ret
          exact ⟨by rw [HN.out]; rfl, hB2⟩
        · have HO : Hid (owesP (xs.take (j + 1 + 1))) := owesP_step hlt HC.out hok (.inr ⟨by omega, by rw [← hls]; exact lessD_stamp heq⟩)
          clear heq hgt
          clear HC h hok
          generalize xs[j + 1] = v at *
          generalize xs[j] = u at *
          have q0 := since_cell (((al0 wr (.cells #[.int .i64 v.k, .int .i64 v.t, .int .i64 v.s] 116)).cell (p := ⟨b, _, none⟩) hbb).trans p0)
          have q1 := since_cell (((al0 wr (.cells #[.int .i64 v.k, .int .i64 v.t, .int .i64 v.s] 116)).cell (p := ⟨b, _, none⟩) hbb).trans p1)
          have q2 := since_cell (((al0 wr (.cells #[.int .i64 v.k, .int .i64 v.t, .int .i64 v.s] 116)).cell (p := ⟨b, _, none⟩) hbb).trans p2)
          clear p0 p1 p2
          have r := since_new (wr := wr) (vs := #[.int .i64 v.k, .int .i64 v.t, .int .i64 v.s]) (T := 116)
          have ne := since_ne (wr.alloc (.cells #[.int .i64 v.k, .int .i64 v.t, .int .i64 v.s] 116))
          go_wp2_with fail
          clear c0 c1 c2
          refine wp_region_class (S := Since (wr.alloc (.cells #[.int .i64 v.k, .int .i64 v.t, .int .i64 v.s] 116))) (by kernel_rfl) (by kernel_rfl) (Below.refl _ _).drew ?_
          repeat (go_big_quiet_step ((rename_i n; first | (go_at_call 141; exact Calls.inClassSame (sKey_is hkey _)) | (go_at_call 103; exact Calls.inClass (sOk_is hst _) Since.keep) | (go_at_call 169; exact Calls.inClass (sLess_is hls _) Since.keep))))
          refine wpQuiet_nil ?_
          rintro W ⟨n, hnW⟩
          have R2 := n.h
          rw [← hnW] at R2
          have hB1 := hB.alloc hB.size (.cells #[.int .i64 v.k, .int .i64 v.t, .int .i64 v.s] 116)
          have hB2 : Below w.heap.size w W := hB1.trans (R2.mono hB1.size)
          clear R2 r ne hnW n hB hB1 q0 q1 q2
          go_wp2
          go_roundw
          case rel => exact ⟨j + 1 + 1, by omega, by go_num, HO, hB2⟩
          case measure => simp [intOf]; omega
      · have d2 : (xs[j].k == xs[j + 1].k) = false := by simpa using heq
        have HO : Hid (owesP (xs.take (j + 1 + 1))) := owesP_step hlt HC.out hok (.inr ⟨by omega, lessD_key (by simp only [Nat.add_sub_cancel]; omega)⟩)
        clear heq hgt
        clear HC h hok
        generalize xs[j + 1] = v at *
        generalize xs[j] = u at *
        have q0 := since_cell (((al0 wr (.cells #[.int .i64 v.k, .int .i64 v.t, .int .i64 v.s] 116)).cell (p := ⟨b, _, none⟩) hbb).trans p0)
        have q1 := since_cell (((al0 wr (.cells #[.int .i64 v.k, .int .i64 v.t, .int .i64 v.s] 116)).cell (p := ⟨b, _, none⟩) hbb).trans p1)
        have q2 := since_cell (((al0 wr (.cells #[.int .i64 v.k, .int .i64 v.t, .int .i64 v.s] 116)).cell (p := ⟨b, _, none⟩) hbb).trans p2)
        clear p0 p1 p2
        have r := since_new (wr := wr) (vs := #[.int .i64 v.k, .int .i64 v.t, .int .i64 v.s]) (T := 116)
        have ne := since_ne (wr.alloc (.cells #[.int .i64 v.k, .int .i64 v.t, .int .i64 v.s] 116))
        go_wp2_with fail
        clear c0 c1 c2
        refine wp_region_class (S := Since (wr.alloc (.cells #[.int .i64 v.k, .int .i64 v.t, .int .i64 v.s] 116))) (by kernel_rfl) (by kernel_rfl) (Below.refl _ _).drew ?_
        repeat (go_big_quiet_step ((rename_i n; first | (go_at_call 141; exact Calls.inClassSame (sKey_is hkey _)) | (go_at_call 103; exact Calls.inClass (sOk_is hst _) Since.keep))))
        refine wpQuiet_nil ?_
        rintro W ⟨n, hnW⟩
        have R2 := n.h
        rw [← hnW] at R2
        have hB1 := hB.alloc hB.size (.cells #[.int .i64 v.k, .int .i64 v.t, .int .i64 v.s] 116)
        have hB2 : Below w.heap.size w W := hB1.trans (R2.mono hB1.size)
        clear R2 r ne hnW n hB hB1 q0 q1 q2
        go_wp2
        go_roundw
        case rel => exact ⟨j + 1 + 1, by omega, by go_num, HO, hB2⟩
        case measure => simp [intOf]; omega
    · have hk2 : k = xs.length := by omega
      subst hk2
      rw [List.take_length] at HC
      have HY : Hid (owesB xs = true) := owesB_yes hl3 HC.out
      go_wp2
      go_ret
      exact ⟨by rw [HY.out]; rfl, hB⟩
end Go.Proofs.YtpjidogilofppaaGreat

