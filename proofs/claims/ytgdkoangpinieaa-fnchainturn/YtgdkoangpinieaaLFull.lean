/- The law: no more versions are taken than there is room for. -/
import Derived.Test.YtgdkoangpinieaaDrawCP
import Derived.Test.YtgdkoangpinieaaLiV
import Derived.Test.YtgdkoangpinieaaGAL
namespace Go.Proofs.Ytgdkoangpinieaa
open Go.ChangeShapes Go.WideShapes Go.ChangeAt Go.RowKit

theorem Few.put81 {vs : List V} (h : Few 81 vs) {v : V} (hv : v.ds.length ≤ 6) : Few 81 (cPut vs v) := by
  cases hc : chainB vs with
  | false => rw [(put_no hc).1]; exact ⟨by simp, fun x hx => (by cases hx)⟩
  | true => exact (Few.put ⟨(chainB_iff.1 hc).1, h.2⟩ hv).more (by omega)
theorem put_chain {vs : List V} (h : chainB vs = true) (v : V) : chainB (cPut vs v) = true := by
  cases hp : putB vs v with
  | false => rw [(put_stay h hp).1]; exact h
  | true =>
    rw [(put_take h hp).1]
    unfold putB at hp
    simp at hp
    obtain ⟨⟨h1, h2⟩, h3⟩ := hp
    have hc := chainB_iff.1 h
    refine chainB_iff.2 ⟨by rw [insV_len]; omega, fun x hx => ?_, insV_asc hc.2.2 h2⟩
    rcases insV_mem.1 hx with rfl | hx
    · exact h1
    · exact hc.2.1 x hx
theorem many {n : Nat} : ∀ m : List Int, (∀ i : Nat, i < n → (100 + (i : Int)) ∈ m) → n ≤ m.length := by
  induction n with
  | zero => intro m _; omega
  | succ n ih =>
    intro m h
    have hm := h n (by omega)
    have := ih (m.erase (100 + (n : Int))) fun i hi => (List.mem_erase_of_ne (by omega)).2 (h i (by omega))
    rw [List.length_erase_of_mem hm] at this
    have := List.length_pos_of_mem hm
    omega
/-- The one that is put at a turn. -/
def fullV (n : Nat) : V := ⟨3, 100 + n, 1, 0, 0, 1, []⟩
theorem fullV_ok {n : Nat} (h : n ≤ 100) : okV (fullV n) = true := by
  unfold fullV okV verB numsB inB okB
  simp [depsOk, early]
  omega
/-- Behind n turns: full, or all of them are there. -/
def Turns (n : Nat) (vs : List V) : Prop := chainB vs = true ∧ (vs.length = 80 ∨ ∀ i : Nat, i < n → ∃ v ∈ vs, v.t = 100 + (i : Int))
theorem Turns.len {n : Nat} {vs : List V} (h : Turns n vs) (hn : 80 ≤ n) : vs.length = 80 := by
  rcases h.2 with e | e
  · exact e
  · have h1 := many (vs.map V.t) (n := n) fun i hi => by obtain ⟨v, hv, e⟩ := e i hi; exact List.mem_map.2 ⟨v, hv, e⟩
    have h2 := (chainB_iff.1 h.1).1
    rw [List.length_map] at h1
    omega
theorem Turns.next {n : Nat} {vs : List V} (h : Turns n vs) (hn : n ≤ 100) : Turns (n + 1) (cPut vs (fullV n)) := by
  refine ⟨put_chain h.1 _, ?_⟩
  rcases h.2 with e | e
  · left; rw [(put_stay h.1 (putB_full (by omega))).1]; exact e
  · by_cases hl : vs.length = 80
    · left; rw [(put_stay h.1 (putB_full (by omega))).1]; exact hl
    · have hlt : vs.length < 80 := by have := (chainB_iff.1 h.1).1; omega
      right
      cases hc : cAt vs (fullV n).k (fullV n).t (fullV n).s with
      | none =>
        rw [(put_take h.1 (putB_yes (fullV_ok hn) (by rw [hc]; rfl) hlt)).1]
        intro i hi
        by_cases hin : i = n
        · subst hin; exact ⟨_, insV_mem.2 (.inl rfl), rfl⟩
        · obtain ⟨v, hv, e'⟩ := e i (by omega)
          exact ⟨v, insV_mem.2 (.inr hv), e'⟩
      | some u =>
        rw [(put_stay h.1 (putB_there (by rw [hc]; rfl))).1]
        have hu := cAt_mem hc
        intro i hi
        by_cases hin : i = n
        · subst hin; exact ⟨u, hu.1, hu.2.2.1⟩
        · exact e i (by omega)
theorem Turns.full {n : Nat} {vs : List V} (h : Turns n vs) (hn : 80 ≤ n) : cDid vs (fullV n) = false := (put_stay h.1 (putB_full (by have := h.len hn; omega))).2

set_option maxHeartbeats 4000000 in
set_option maxRecDepth 20000 in
theorem lawFull (w : World) (a : Option Addr) (len cap : Nat) (h : Code w a len cap) :
    Calls Try.prog 15 #[.slice a len cap] w fun e w' => e = .returned (.bool true) ∧ Below w.heap.size w w' := by
  have hm := h.2.1
  have hl := h.1
  unfold maxLen at hm
  by_cases hc : 1048576 < (len : Int)
  · go_enter Try.func15, Try.ntmps15
    go_wp2
    go_ret
    exact ⟨rfl, Below.refl _ _⟩
  go_enter Try.func15, Try.ntmps15
  go_wp2_with fail
  refine (drawCPut w a len cap h).mono ?_
  rintro e w1 ⟨v1, ys, vs, x, da, dc, rfl, O1, hy, hF, hxl, D1, B1⟩
  obtain ⟨va, vc, rfl, V1⟩ := O1.asD hy
  have hvl : vs.length ≤ 81 := hF.1
  have Fp := hF.put81 hxl
  have lp := Fp.1
  have dp : ∀ v ∈ cPut vs x, v.ds.length ≤ 1048576 := fun v hv => by have := Fp.2 v hv; omega
  have hI := fun W va' vc' h h' => iPutV_any va vc vs x va' vc' W (by omega) h (by omega) h'
  have hS := fun W va' vc' h h' => sPutV_any va vc vs x va' vc' W (by omega) h (by omega) h'
  have hC := fun W h => sChainOk_any va vc vs W (by omega) h
  have HT : Hid (chainB vs = true → Turns 0 (cPut vs x)) := fun hb => ⟨put_chain hb x, .inr fun i hi => by omega⟩
  generalize cPut vs x = pl at *
  generalize cDid vs x = did at *
  have b1 := (Below.refl _ w1).alloc (Nat.le_refl _) (.cells #[.int .i64 x.k, .int .i64 x.t, .int .i64 x.s, .int .i64 x.val, .int .i64 x.cl, .int .i64 x.ca, .slice da x.ds.length dc] 28)
  have A1 := Blk.new w1 #[.int .i64 x.k, .int .i64 x.t, .int .i64 x.s, .int .i64 x.val, .int .i64 x.cl, .int .i64 x.ca, .slice da x.ds.length dc] 28
  have V1' := V1.below b1
  have D1' := D1.below b1
  have B1' := B1.trans (b1.mono B1.size)
  clear h hm hl O1 hy hF hc Fp V1 D1 B1 b1
  obtain ⟨q1, g1⟩ := A1.rules
  go_wp2_with fail
  clear q1 g1
  generalize w1.alloc (.cells #[.int .i64 x.k, .int .i64 x.t, .int .i64 x.s, .int .i64 x.val, .int .i64 x.cl, .int .i64 x.ca, .slice da x.ds.length dc] 28) = w1' at *
  refine (hS _ _ _ V1' D1').mono ?_
  rintro e w2 ⟨u2, ys2, rfl, P2, hy2, hb2⟩
  obtain ⟨aP, cP, rfl, VP2⟩ := P2.asD hy2
  have V2 := V1'.below hb2
  have D2 := D1'.below hb2
  have A2 := A1.below hb2 A1.lt
  have B2 : Below w.heap.size w w2 := B1'.trans (hb2.mono B1'.size)
  clear V1' D1' B1' hb2 P2 A1 hS
  obtain ⟨q1, g1⟩ := A2.rules
  go_wp2_with fail
  clear q1 g1
  refine (hI _ _ _ V2 D2).mono ?_
  rintro e w3 ⟨u3, ys3, rfl, G3, hy3, hb3⟩
  obtain ⟨aG, cG, rfl, VG3⟩ := G3.asD hy3
  have V3 := V2.below hb3
  have VP3 := VP2.below hb3
  have B3 : Below w.heap.size w w3 := B2.trans (hb3.mono B2.size)
  clear V2 D2 B2 hb3 VP2 A2 G3 hI
  go_wp2_with fail
  refine (liVers_any aG aP pl cG cP _ (by omega) dp VG3 VP3).mono ?_
  rintro e w4 ⟨rfl, hb4⟩
  have V4 := V3.below hb4
  have VP4 := VP3.below hb4
  have VG4 := VG3.below hb4
  have B4 : Below w.heap.size w w4 := B3.trans (hb4.mono B3.size)
  clear V3 VP3 VG3 B3 hb4
  go_wp2_with fail
  refine (hC _ V4).mono ?_
  rintro e w5 ⟨rfl, hb5⟩
  have VP5 := VP4.below hb5
  have VG5 := VG4.below hb5
  have B5 : Below w.heap.size w w5 := B4.trans (hb5.mono B4.size)
  clear V4 VP4 VG4 B4 hb5 hC
  rcases hcb : chainB vs with _ | _
  · clear HT
    go_wp2_with fail
    refine (liVers_any aG aP pl cG cP _ (by omega) dp VG5 VP5).mono ?_
    rintro e w6 ⟨rfl, hb6⟩
    have B6 : Below w.heap.size w w6 := B5.trans (hb6.mono B5.size)
    clear VP5 VG5 B5 hb6
    go_wp2_with fail
    go_ret
    exact ⟨rfl, B6⟩
  · have T0 : Hid (Turns 0 pl) := HT.out hcb
    clear HT hcb VP5 dp
    go_wp2_with fail
    go_loopw [7, 8, 9] (fun l o i wr => ∃ (n : Nat) (ax : Option Addr) (cx : Nat) (us : List V) (b : Bool), n ≤ 82 ∧ i = .int .i64 n ∧ l = .slice ax us.length cx ∧ o = .bool b ∧ Vers wr ax us ∧ Turns n us ∧ (n = 82 → b = false) ∧ Below w.heap.size w wr) (fun _ _ i _ => 82 - (intOf i).toNat)
    case atStart => exact ⟨0, aG, cG, pl, did, by omega, rfl, rfl, rfl, VG5, T0.out, fun e => by omega, B5⟩
    case round =>
      obtain ⟨n, ax, cx, us, b, hn, rfl, rfl, rfl, VX, TX, hb, BX⟩ := hrel
      clear VG5 B5 T0
      have hul := (chainB_iff.1 TX.1).1
      by_cases hlt : (n : Int) < 82
      · have hIn := iPutV_any ax cx us (fullV n) none 0 wr (by omega) VX (by simp [fullV]) (.inl rfl)
        have TN := TX.next (by omega)
        have hdone : n + 1 = 82 → cDid us (fullV n) = false := fun e => TX.full (by omega)
        have HTN : Hid (Turns (n + 1) (cPut us (fullV n)) ∧ (n + 1 = 82 → cDid us (fullV n) = false)) := ⟨TN, hdone⟩
        clear TN hdone TX VX hb
        generalize cPut us (fullV n) = us2 at *
        generalize cDid us (fullV n) = b2 at *
        go_wp2_with fail
        refine hIn.mono ?_
        rintro e w8 ⟨u8, ys8, rfl, G8, hy8, hb8⟩
        obtain ⟨a8, c8, rfl, V8⟩ := G8.asD hy8
        have B8 : Below w.heap.size w w8 := BX.trans (hb8.mono BX.size)
        clear G8 hb8 BX hIn hy8
        go_wp2_with fail
        go_roundw
        case rel => exact ⟨n + 1, a8, c8, us2, b2, by omega, by go_num, rfl, rfl, V8, HTN.out.1, HTN.out.2, B8⟩
        case measure => simp [intOf]; omega
      · have hn2 : n = 82 := by omega
        subst hn2
        have hbf := hb rfl
        have h80 : us.length = 80 := TX.len (by omega)
        have hok := iChainOk_any ax cx us wr (by omega) VX
        rw [TX.1] at hok
        have h80' : (us.length : Int) = 80 := by omega
        subst hbf
        clear TX VX hb h80
        go_wp2_with fail
        refine hok.mono ?_
        rintro e w8 ⟨rfl, hb8⟩
        have B8 : Below w.heap.size w w8 := BX.trans (hb8.mono BX.size)
        clear hok hb8 BX
        go_wp2_with fail
        go_ret
        exact ⟨rfl, B8⟩
end Go.Proofs.Ytgdkoangpinieaa
