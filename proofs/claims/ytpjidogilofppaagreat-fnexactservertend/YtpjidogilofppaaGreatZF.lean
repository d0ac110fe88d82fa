/- 4 texts in one: SvStI, SvCopyS, SvFall, SvFallS. -/
import Derived.Test.YtpjidogilofppaaGreatSvHost
import Derived.Test.YtpjidogilofppaaGreatGAJ
import Derived.Test.YtpjidogilofppaaGreatSvHostOf
import Derived.Test.YtpjidogilofppaaGreatSvOkS
/- ServerStart of the program. -/
namespace Go.Proofs.YtpjidogilofppaaGreat
open Go.ChangeShapes Go.WideShapes Go.ChangeAt Go.RowKit

/-- A server at first. -/
def startX (n : Int) : Sv := if 0 ≤ n ∧ n ≤ 3 then ⟨n, true, if n % 2 = 0 then [⟨1, 1⟩, ⟨0, 0⟩, ⟨1, 1⟩] else [⟨0, 0⟩, ⟨1, 1⟩, ⟨0, 0⟩], [], [], [], []⟩ else ⟨0, false, [], [], [], [], []⟩
abbrev noA : Sa := ⟨none, 0, none, 0, none, 0, none, 0, none, 0⟩
theorem rowD_nil (w : World) (base : Nat) : RowD w base (.slice none 0 0) [] := World.ownsRow_nil _ _ _ _
/-- A server without versions and debts owns its slots. -/
theorem start_own {w : World} {base : Nat} {n : Int} {up : Bool} {sl : List Sl} {pa : Option Addr} {pc : Nat} (h : RowS w base (.slice pa sl.length pc) sl) : OwnS w base ⟨n, up, sl, [], [], [], []⟩ ⟨pa, pc, none, 0, none, 0, none, 0, none, 0⟩ [] [] :=
  have hn : ∀ b, ¬ inV (.slice none 0 0) [] b := fun b hb => by
    rcases hb with hb | ⟨y, hy, _⟩
    · simp [Value.ownBlock] at hb
    · cases hy
  ⟨h, OwnV.nil _ _, OwnV.nil _ _, rowD_nil _ _, rowD_nil _ _, rfl, rfl, fun b h' => absurd h' (hn b), fun b h' => absurd h' (hn b), fun b h' => absurd h' (hn b), fun b h' => absurd h' (hn b), fun b h' => absurd h' (hn b), fun b h' => by simp [Value.ownBlock] at h'⟩
theorem sideIs {n r : Int} (h : sideOf n = r) (w : World) : Calls Tryz.prog 187 #[.int .i64 n] w fun e w' => e = .returned (.int .i64 r) ∧ w' = w := by rw [← h]; exact iSide_any n w

end Go.Proofs.YtpjidogilofppaaGreat

/- The specification's copy of a server. -/
namespace Go.Proofs.YtpjidogilofppaaGreat
open Go.ChangeShapes Go.WideShapes Go.ChangeAt Go.RowKit

/-- An empty row that was just made. -/
theorem empty_row (w : World) (e : TypeId) (size : Nat) : (w.alloc (.cells #[] e)).ownsRow w.heap.size e size (.slice (some ⟨w.heap.size, 0, none⟩) 0 0) 0 [] := by
  have := World.ownsRow_made (base := w.heap.size) (e := e) (size := size) w #[] 0 (Nat.le_refl _) (by unfold maxLen; omega) (by simp)
  simpa using this
theorem Below.of_own {n : Nat} {w0 w w1 : World} {j : Nat} (h : Below n w0 w) (hn : n ≤ w.heap.size) (hg : w.grownBy w1 (some j)) (hj : n ≤ j) : Below n w0 w1 := h.grown hg hn (fun i hi => by simp at hi; omega)

set_option maxHeartbeats 8000000 in
set_option maxRecDepth 20000 in
theorem sCopySv_any (x : Sv) (a : Sa) (w : World) (hf : LenS x) (h : InS w x a) :
    Calls Tryz.prog 43 #[servV x a] w fun e w' => ∃ b ys zs, e = .returned (servV x b) ∧ OwnS w' w.heap.size x b ys zs ∧ Below w.heap.size w w' := by
  have L : InS w x a := h
  have W0 : Below w.heap.size w ((w.alloc (.cells #[.int .i64 x.site, .bool x.up, .slice a.la x.sl.length a.lc, .slice a.va x.vs.length a.vc, .slice a.wa x.ws.length a.wc, .slice a.oa x.os.length a.oc, .slice a.ka x.kn.length a.kc] 32)).alloc (.cells #[.int .i64 0, .bool false, .slice none 0 0, .slice none 0 0, .slice none 0 0, .slice none 0 0, .slice none 0 0] 32)) := ((Below.refl _ _).alloc (Nat.le_refl _) _).alloc (by simp) _
  have A0 : Blk ((w.alloc (.cells #[.int .i64 x.site, .bool x.up, .slice a.la x.sl.length a.lc, .slice a.va x.vs.length a.vc, .slice a.wa x.ws.length a.wc, .slice a.oa x.os.length a.oc, .slice a.ka x.kn.length a.kc] 32)).alloc (.cells #[.int .i64 0, .bool false, .slice none 0 0, .slice none 0 0, .slice none 0 0, .slice none 0 0, .slice none 0 0] 32)) w.heap.size #[.int .i64 x.site, .bool x.up, .slice a.la x.sl.length a.lc, .slice a.va x.vs.length a.vc, .slice a.wa x.ws.length a.wc, .slice a.oa x.os.length a.oc, .slice a.ka x.kn.length a.kc] 32 := (Blk.new w _ _).alloc _
  have Z0 : Blk ((w.alloc (.cells #[.int .i64 x.site, .bool x.up, .slice a.la x.sl.length a.lc, .slice a.va x.vs.length a.vc, .slice a.wa x.ws.length a.wc, .slice a.oa x.os.length a.oc, .slice a.ka x.kn.length a.kc] 32)).alloc (.cells #[.int .i64 0, .bool false, .slice none 0 0, .slice none 0 0, .slice none 0 0, .slice none 0 0, .slice none 0 0] 32)) (w.heap.size + 1) #[.int .i64 0, .bool false, .slice none 0 0, .slice none 0 0, .slice none 0 0, .slice none 0 0, .slice none 0 0] 32 := by have := Blk.new (w.alloc (.cells #[.int .i64 x.site, .bool x.up, .slice a.la x.sl.length a.lc, .slice a.va x.vs.length a.vc, .slice a.wa x.ws.length a.wc, .slice a.oa x.os.length a.oc, .slice a.ka x.kn.length a.kc] 32)) #[.int .i64 0, .bool false, .slice none 0 0, .slice none 0 0, .slice none 0 0, .slice none 0 0, .slice none 0 0] 32; simpa using this
  have sz0 : ((w.alloc (.cells #[.int .i64 x.site, .bool x.up, .slice a.la x.sl.length a.lc, .slice a.va x.vs.length a.vc, .slice a.wa x.ws.length a.wc, .slice a.oa x.os.length a.oc, .slice a.ka x.kn.length a.kc] 32)).alloc (.cells #[.int .i64 0, .bool false, .slice none 0 0, .slice none 0 0, .slice none 0 0, .slice none 0 0, .slice none 0 0] 32)).heap.size = w.heap.size + 1 + 1 := by simp
  clear h
  have E1 := empty_row ((w.alloc (.cells #[.int .i64 x.site, .bool x.up, .slice a.la x.sl.length a.lc, .slice a.va x.vs.length a.vc, .slice a.wa x.ws.length a.wc, .slice a.oa x.os.length a.oc, .slice a.ka x.kn.length a.kc] 32)).alloc (.cells #[.int .i64 0, .bool false, .slice none 0 0, .slice none 0 0, .slice none 0 0, .slice none 0 0, .slice none 0 0] 32)) 84 2
  have W1 : Below w.heap.size w (((w.alloc (.cells #[.int .i64 x.site, .bool x.up, .slice a.la x.sl.length a.lc, .slice a.va x.vs.length a.vc, .slice a.wa x.ws.length a.wc, .slice a.oa x.os.length a.oc, .slice a.ka x.kn.length a.kc] 32)).alloc (.cells #[.int .i64 0, .bool false, .slice none 0 0, .slice none 0 0, .slice none 0 0, .slice none 0 0, .slice none 0 0] 32)).alloc (.cells #[] 84)) := W0.alloc W0.size _
  have A1 := A0.alloc (.cells #[] 84)
  have Z1 := Z0.alloc (.cells #[] 84)
  have L1 := L.below W1
  rw [sz0] at E1
  have hl1 := hf.l
  go_enter Tryz.func43, Tryz.ntmps43
  go_wp2_with (first | (at_builtin; refine wpList_append_slots _ rfl _ _ rfl (w.heap.size + 1 + 1) (.slice (some ⟨w.heap.size + 1 + 1, 0, none⟩) 0 0) rfl E1 a.la a.lc x.sl rfl L1.l hl1 (by simp) ?_
                        intro v' w1 hrow hg hloc
                        obtain ⟨la, lc, rfl, _⟩ := row_slice hrow
                        have A2 := A1.grown hg (by simp [Value.ownBlock] <;> omega)
                        have Z2 := Z1.grown hg (by simp [Value.ownBlock] <;> omega)
                        have W2 : Below w.heap.size w w1 := W1.grown hg W1.size (fun j hj => by simp [Value.ownBlock] at hj; omega)
                        have RL2 : Hid (RowS w1 (w.heap.size + 1 + 1) (.slice la x.sl.length lc) x.sl) := hrow
                        have z2 := Z2.lt
                        clear A0 Z0 W0 E1 L1 A1 Z1 W1 hg hloc hrow sz0 hl1
                        have A2b : Blk (w1.setCell ⟨w.heap.size, 2, none⟩ (.slice la x.sl.length lc)) w.heap.size #[.int .i64 x.site, .bool x.up, .slice la x.sl.length lc, .slice a.va x.vs.length a.vc, .slice a.wa x.ws.length a.wc, .slice a.oa x.os.length a.oc, .slice a.ka x.kn.length a.kc] 32 := by
                          have := A2.set 2 (.slice la x.sl.length lc)
                          simpa using this
                        have Z2b := Z2.other (a := ⟨w.heap.size, 2, none⟩) (by simp) (.slice la x.sl.length lc)
                        have W2b := W2.setCell (p := ⟨w.heap.size, 2, none⟩) (by simp) (.slice la x.sl.length lc)
                        have RL2b : Hid (RowS (w1.setCell ⟨w.heap.size, 2, none⟩ (.slice la x.sl.length lc)) (w.heap.size + 1 + 1) (.slice la x.sl.length lc) x.sl) := rowSetB2 RL2.out (by omega)
                        obtain ⟨q1, g1⟩ := A2.rules
                        obtain ⟨q2, g2⟩ := A2b.rules))
  clear q1 g1 q2 g2 A2 Z2 W2 RL2
  generalize w1.setCell ⟨w.heap.size, 2, none⟩ (.slice la x.sl.length lc) = U2 at *
  have z2b := Z2b.lt
  have RLm : Hid (∀ b, (Value.slice la x.sl.length lc).ownBlock = some b → b < U2.heap.size) := by show ∀ b, _; intro b hb; exact (RL2b.out.lt b hb).2
  refine (sVers_any a.va a.vc x.vs _ hf.v (L.below W2b).v).mono ?_
  rintro e w3 ⟨u, ys, rfl, OO, hy, hb⟩
  obtain ⟨va, vc, rfl, _⟩ := OO.asD hy
  have A3 := A2b.below hb A2b.lt
  have Z3 := Z2b.below hb Z2b.lt
  have W3 : Below w.heap.size w w3 := W2b.trans (hb.mono W2b.size)
  have RL3 := row_below RL2b.out hb (Nat.le_refl _)
  have OV3 := OO.mono (base' := (w.heap.size + 1 + 1)) (by omega)
  have iv : Hid (∀ b, inV (.slice va x.vs.length vc) ys b → b < w3.heap.size) := by show ∀ b, _; intro b hb; exact (OO.lt hb).2
  have HY : Hid (ys.map XV.v = x.vs) := hy
  have n3 := hb.size
  have z3 := Z3.lt
  clear hb A2b Z2b W2b RL2b OO hy
  have A3b : Blk (w3.setCell ⟨w.heap.size, 3, none⟩ (.slice va x.vs.length vc)) w.heap.size #[.int .i64 x.site, .bool x.up, .slice la x.sl.length lc, .slice va x.vs.length vc, .slice a.wa x.ws.length a.wc, .slice a.oa x.os.length a.oc, .slice a.ka x.kn.length a.kc] 32 := by
    have := A3.set 3 (.slice va x.vs.length vc)
    simpa using this
  have Z3b := Z3.other (a := ⟨w.heap.size, 3, none⟩) (by simp) (.slice va x.vs.length vc)
  have W3b := W3.setCell (p := ⟨w.heap.size, 3, none⟩) (by simp) (.slice va x.vs.length vc)
  have RL3b := rowSetB2 RL3 (Z := w.heap.size) (j := 3) (u := .slice va x.vs.length vc) (by omega)
  have OV3b := OV3.setB (Z := w.heap.size) (j := 3) (u := .slice va x.vs.length vc) (by omega)
  have n3b : (w3.setCell ⟨w.heap.size, 3, none⟩ (.slice va x.vs.length vc)).heap.size = w3.heap.size := by simp
  obtain ⟨q1, g1⟩ := A3.rules
  obtain ⟨q2, g2⟩ := A3b.rules
  go_wp2_with fail
  clear q1 g1 q2 g2 A3 Z3 W3 RL3 OV3
  generalize w3.setCell ⟨w.heap.size, 3, none⟩ (.slice va x.vs.length vc) = U3 at *
  have z3b := Z3b.lt
  refine (sVers_any a.wa a.wc x.ws _ hf.w (L.below W3b).w).mono ?_
  rintro e w4 ⟨u, zs, rfl, OO, hz, hb⟩
  obtain ⟨wa, wc, rfl, _⟩ := OO.asD hz
  have A4 := A3b.below hb A3b.lt
  have Z4 := Z3b.below hb Z3b.lt
  have W4 : Below w.heap.size w w4 := W3b.trans (hb.mono W3b.size)
  have RL4 := row_below RL3b hb (Nat.le_refl _)
  have OV4 := OV3b.below hb (Nat.le_refl _)
  have OW4 := OO.mono (base' := (w.heap.size + 1 + 1)) (by omega)
  have iw : Hid (∀ b, inV (.slice wa x.ws.length wc) zs b → w3.heap.size ≤ b ∧ b < w4.heap.size) := by show ∀ b, _; intro b hb; have := OO.lt hb; omega
  have HZ : Hid (zs.map XV.v = x.ws) := hz
  have n4 := hb.size
  have z4 := Z4.lt
  clear hb A3b Z3b W3b RL3b OV3b OO hz
  have A4b : Blk (w4.setCell ⟨w.heap.size, 4, none⟩ (.slice wa x.ws.length wc)) w.heap.size #[.int .i64 x.site, .bool x.up, .slice la x.sl.length lc, .slice va x.vs.length vc, .slice wa x.ws.length wc, .slice a.oa x.os.length a.oc, .slice a.ka x.kn.length a.kc] 32 := by
    have := A4.set 4 (.slice wa x.ws.length wc)
    simpa using this
  have Z4b := Z4.other (a := ⟨w.heap.size, 4, none⟩) (by simp) (.slice wa x.ws.length wc)
  have W4b := W4.setCell (p := ⟨w.heap.size, 4, none⟩) (by simp) (.slice wa x.ws.length wc)
  have RL4b := rowSetB2 RL4 (Z := w.heap.size) (j := 4) (u := .slice wa x.ws.length wc) (by omega)
  have OV4b := OV4.setB (Z := w.heap.size) (j := 4) (u := .slice wa x.ws.length wc) (by omega)
  have OW4b := OW4.setB (Z := w.heap.size) (j := 4) (u := .slice wa x.ws.length wc) (by omega)
  have n4b : (w4.setCell ⟨w.heap.size, 4, none⟩ (.slice wa x.ws.length wc)).heap.size = w4.heap.size := by simp
  have E5 := empty_row (w4.setCell ⟨w.heap.size, 4, none⟩ (.slice wa x.ws.length wc)) 116 3
  rw [n4b] at E5
  have A5 := A4b.alloc (.cells #[] 116)
  have Z5 := Z4b.alloc (.cells #[] 116)
  have W5 := W4b.alloc W4b.size (.cells #[] 116)
  have RL5 := (show World.ownsRow _ _ _ _ _ _ _ from RL4b).alloc (.cells #[] 116)
  have OV5 := OV4b.alloc (.cells #[] 116)
  have OW5 := OW4b.alloc (.cells #[] 116)
  have RL5h : Hid _ := RL5
  have L5 := (L.below W5).o
  have nz4 := W4.size
  obtain ⟨q1, g1⟩ := A4.rules
  obtain ⟨q2, g2⟩ := A4b.rules
  obtain ⟨q3, g3⟩ := A5.rules
  have za4 := A4.lt
  have ol := hf.o
  have kl := hf.k
  clear Z4 W4 RL4 OV4 OW4 Z4b W4b RL4b OV4b OW4b A4 A4b RL5
  go_wp2_with (first
    | (at_builtin; refine wpList_append_deps _ rfl _ _ rfl w6.heap.size (.slice (some ⟨w6.heap.size, 0, none⟩) 0 0) rfl E7 a.ka a.kc x.kn rfl L7 kl (by simp) ?_
       intro v' w8 hrow hg hloc
       obtain ⟨ka, kc, rfl, _⟩ := row_slice hrow
       have hgj : some w6.heap.size = some w6.heap.size := rfl
       have A8 := A7.grown hg (by simp [Value.ownBlock] <;> omega)
       have Z8 := Z7.grown hg (by simp [Value.ownBlock] <;> omega)
       have W8 : Below w.heap.size w w8 := W7.grown hg W7.size (fun j hj => by simp [Value.ownBlock] at hj; omega)
       have o8 := only_grown hg
       have RL8 := o8.row RL7h.out (fun j hj hs => by simp [Value.ownBlock] at hs; have := RLm.out j hj; omega)
       have OV8 := o8.ownV OV7 (fun j hj hs => by simp [Value.ownBlock] at hs; have := iv.out j hj; omega)
       have OW8 := o8.ownV OW7 (fun j hj hs => by simp [Value.ownBlock] at hs; have := iw.out j hj; omega)
       have RO8 := o8.row RO7h.out (fun j hj hs => by simp [Value.ownBlock] at hs; have := io.out j hj; omega)
       have RK8 : Hid (RowD w8 w6.heap.size (.slice ka x.kn.length kc) x.kn) := hrow
       have ik : Hid (∀ b, (Value.slice ka x.kn.length kc).ownBlock = some b → w6.heap.size ≤ b) := by show ∀ b, _; intro b hb; exact (hrow.lt b hb).1
       have z8 := Z8.lt
       have A8b : Blk (w8.setCell ⟨w.heap.size, 6, none⟩ (.slice ka x.kn.length kc)) w.heap.size #[.int .i64 x.site, .bool x.up, .slice la x.sl.length lc, .slice va x.vs.length vc, .slice wa x.ws.length wc, .slice oa x.os.length oc, .slice ka x.kn.length kc] 32 := by
         have := A8.set 6 (.slice ka x.kn.length kc)
         simpa using this
       have Z8b := Z8.other (a := ⟨w.heap.size, 6, none⟩) (by simp) (.slice ka x.kn.length kc)
       have W8b := W8.setCell (p := ⟨w.heap.size, 6, none⟩) (by simp) (.slice ka x.kn.length kc)
       have S8 := (OwnS.mk4 (x := x) (a := ⟨la, lc, va, vc, wa, wc, oa, oc, ka, kc⟩) RL8 OV8 OW8 (row_mono RO8 (base' := w.heap.size + 1 + 1) (by omega)) (row_mono RK8.out (base' := w.heap.size + 1 + 1) (by omega)) HY.out HZ.out w3.heap.size w4.heap.size w6.heap.size iv.out iw.out (fun b hb => by have := io.out b hb; omega) (fun b hb => by have := ik.out b hb; omega) (by omega) (by omega)).setB (Z := w.heap.size) (j := 6) (u := .slice ka x.kn.length kc) (by omega)
       clear A7 Z7 W7 RL7h OV7 OW7 RO7h hg hloc hrow o8 RL8 OV8 OW8 RO8 RK8 E7 L7 q1 g1 q2 g2 q3 g3
       obtain ⟨q1, g1⟩ := A8.rules
       obtain ⟨q2, g2⟩ := A8b.rules
       obtain ⟨q4, g4⟩ := Z8b.rules)
    | (at_builtin; refine wpList_append_deps _ rfl _ _ rfl w4.heap.size (.slice (some ⟨w4.heap.size, 0, none⟩) 0 0) rfl E5 a.oa a.oc x.os rfl L5 ol (by simp) ?_
       intro v' w6 hrow hg hloc
       obtain ⟨oa, oc, rfl, _⟩ := row_slice hrow
       have A6 := A5.grown hg (by simp [Value.ownBlock] <;> omega)
       have Z6 := Z5.grown hg (by simp [Value.ownBlock] <;> omega)
       have W6 : Below w.heap.size w w6 := W5.grown hg W5.size (fun j hj => by simp [Value.ownBlock] at hj; omega)
       have o6 := only_grown hg
       have n6 := o6.size
       simp only [World.size_alloc, n4b] at n6
       have RL6 := o6.row RL5h.out (fun j hj hs => by simp [Value.ownBlock] at hs; have := RLm.out j hj; omega)
       have OV6 := o6.ownV OV5 (fun j hj hs => by simp [Value.ownBlock] at hs; have := iv.out j hj; omega)
       have OW6 := o6.ownV OW5 (fun j hj hs => by simp [Value.ownBlock] at hs; have := iw.out j hj; omega)
       have io : Hid (∀ b, (Value.slice oa x.os.length oc).ownBlock = some b → w4.heap.size ≤ b ∧ b < w6.heap.size) := by show ∀ b, _; intro b hb; exact hrow.lt b hb
       have RO6 : RowD w6 w4.heap.size (.slice oa x.os.length oc) x.os := hrow
       have z6 := Z6.lt
       have A6b : Blk (w6.setCell ⟨w.heap.size, 5, none⟩ (.slice oa x.os.length oc)) w.heap.size #[.int .i64 x.site, .bool x.up, .slice la x.sl.length lc, .slice va x.vs.length vc, .slice wa x.ws.length wc, .slice oa x.os.length oc, .slice a.ka x.kn.length a.kc] 32 := by
         have := A6.set 5 (.slice oa x.os.length oc)
         simpa using this
       have Z6b := Z6.other (a := ⟨w.heap.size, 5, none⟩) (by simp) (.slice oa x.os.length oc)
       have W6b := W6.setCell (p := ⟨w.heap.size, 5, none⟩) (by simp) (.slice oa x.os.length oc)
       have RL6b := rowSetB2 RL6 (Z := w.heap.size) (j := 5) (u := .slice oa x.os.length oc) (by omega)
       have OV6b := OV6.setB (Z := w.heap.size) (j := 5) (u := .slice oa x.os.length oc) (by omega)
       have OW6b := OW6.setB (Z := w.heap.size) (j := 5) (u := .slice oa x.os.length oc) (by omega)
       have RO6b := rowSetB RO6 (Z := w.heap.size) (j := 5) (u := .slice oa x.os.length oc) (by omega)
       have n6b : (w6.setCell ⟨w.heap.size, 5, none⟩ (.slice oa x.os.length oc)).heap.size = w6.heap.size := by simp
       have E7 := empty_row (w6.setCell ⟨w.heap.size, 5, none⟩ (.slice oa x.os.length oc)) 116 3
       rw [n6b] at E7
       have A7 := A6b.alloc (.cells #[] 116)
       have Z7 := Z6b.alloc (.cells #[] 116)
       have W7 := W6b.alloc W6b.size (.cells #[] 116)
       have RL7h : Hid _ := (show World.ownsRow _ _ _ _ _ _ _ from RL6b).alloc (.cells #[] 116)
       have OV7 := OV6b.alloc (.cells #[] 116)
       have OW7 := OW6b.alloc (.cells #[] 116)
       have RO7h : Hid _ := (show World.ownsRow _ _ _ _ _ _ _ from RO6b).alloc (.cells #[] 116)
       have L7 := (L.below W7).k
       have nz6 := W6.size
       clear A5 Z5 W5 RL5h OV5 OW5 hg hloc hrow o6 RL6 OV6 OW6 RO6 E5 L5 q1 g1 q2 g2 q3 g3 RL6b OV6b OW6b RO6b W6 W6b Z6 Z6b
       obtain ⟨q1, g1⟩ := A6.rules
       obtain ⟨q2, g2⟩ := A6b.rules
       obtain ⟨q3, g3⟩ := A7.rules
       have za6 := A6.lt
       clear A6 A6b))
  refine bodyPost_ret (v := servV x ⟨la, lc, va, vc, wa, wc, oa, oc, ka, kc⟩) ?_ rfl ⟨_, rfl, ⟨ys, zs, (S8.fill (by omega)).mono (by omega)⟩, fill7_below W8b (by omega)⟩
  refine Blk.gen (B := w.heap.size + 1) (vs := #[.int .i64 x.site, .bool x.up, .slice la x.sl.length lc, .slice va x.vs.length vc, .slice wa x.ws.length wc, .slice oa x.os.length oc, .slice ka x.kn.length kc]) (T := 32) ?_ (P := fun W => (results Tryz.f43 _).run Tryz.prog W = .ok _ W) ?_
  · exact Blk.fill7 Z8b
  intro W hW
  obtain ⟨k, f⟩ := hW.rules
  simp [results, Tryz.results43, go_sem, k]
end Go.Proofs.YtpjidogilofppaaGreat

/- ServerFall and ServerRise of the program. -/
namespace Go.Proofs.YtpjidogilofppaaGreat
open Go.ChangeShapes Go.WideShapes Go.ChangeAt Go.RowKit

set_option maxHeartbeats 4000000 in
theorem hostOf_no (x : Sv) (a : Sa) (w : World) (hl : LenS x) (h : InS w x a) (hs : servB x = false) :
    Calls Tryz.prog 48 #[servV x a] w fun e w' => e = .returned (.tuple #[.agg #[.slice none 0 0, .slice none 0 0, .slice none 0 0, .int .i64 0, .bool false, .int .i64 0, .int .i64 0, .int .i64 0, .int .i64 0, .int .i64 0, .int .i64 0, .slice none 0 0], .bool false]) ∧ Below w.heap.size w w' := by
  have b0 : Below w.heap.size w ((w.alloc (.cells #[.int .i64 x.site, .bool x.up, .slice a.la x.sl.length a.lc, .slice a.va x.vs.length a.vc, .slice a.wa x.ws.length a.wc, .slice a.oa x.os.length a.oc, .slice a.ka x.kn.length a.kc] 32)).alloc (.cells #[.slice none 0 0, .slice none 0 0, .slice none 0 0, .int .i64 0, .bool false, .int .i64 0, .int .i64 0, .int .i64 0, .int .i64 0, .int .i64 0, .int .i64 0, .slice none 0 0] 88)) := ((Below.refl _ _).alloc (Nat.le_refl _) _).alloc (by simp) _
  have R0 : Blk ((w.alloc (.cells #[.int .i64 x.site, .bool x.up, .slice a.la x.sl.length a.lc, .slice a.va x.vs.length a.vc, .slice a.wa x.ws.length a.wc, .slice a.oa x.os.length a.oc, .slice a.ka x.kn.length a.kc] 32)).alloc (.cells #[.slice none 0 0, .slice none 0 0, .slice none 0 0, .int .i64 0, .bool false, .int .i64 0, .int .i64 0, .int .i64 0, .int .i64 0, .int .i64 0, .int .i64 0, .slice none 0 0] 88)) (w.heap.size + 1) #[.slice none 0 0, .slice none 0 0, .slice none 0 0, .int .i64 0, .bool false, .int .i64 0, .int .i64 0, .int .i64 0, .int .i64 0, .int .i64 0, .int .i64 0, .slice none 0 0] 88 := by have := Blk.new (w.alloc (.cells #[.int .i64 x.site, .bool x.up, .slice a.la x.sl.length a.lc, .slice a.va x.vs.length a.vc, .slice a.wa x.ws.length a.wc, .slice a.oa x.os.length a.oc, .slice a.ka x.kn.length a.kc] 32)) #[.slice none 0 0, .slice none 0 0, .slice none 0 0, .int .i64 0, .bool false, .int .i64 0, .int .i64 0, .int .i64 0, .int .i64 0, .int .i64 0, .int .i64 0, .slice none 0 0] 88; simpa using this
  have L0 := h.below b0
  have hO := fun W h => iServerOk_any x a W hl h
  rw [hs] at hO
  clear h hs
  go_enter Tryz.func48, Tryz.ntmps48
  go_wp2_with fail
  generalize ((w.alloc (.cells #[.int .i64 x.site, .bool x.up, .slice a.la x.sl.length a.lc, .slice a.va x.vs.length a.vc, .slice a.wa x.ws.length a.wc, .slice a.oa x.os.length a.oc, .slice a.ka x.kn.length a.kc] 32)).alloc (.cells #[.slice none 0 0, .slice none 0 0, .slice none 0 0, .int .i64 0, .bool false, .int .i64 0, .int .i64 0, .int .i64 0, .int .i64 0, .int .i64 0, .int .i64 0, .slice none 0 0] 88)) = u0 at *
  refine (hO _ L0).mono ?_
  rintro e w1 ⟨rfl, hb⟩
  have R1 := R0.below hb R0.lt
  have B1 : Below w.heap.size w w1 := b0.trans (hb.mono b0.size)
  clear R0 L0 b0 hb hO
  obtain ⟨q1, g1⟩ := R1.rules
  go_wp2_with fail
  refine bodyPost_ret (v := .tuple #[.agg #[.slice none 0 0, .slice none 0 0, .slice none 0 0, .int .i64 0, .bool false, .int .i64 0, .int .i64 0, .int .i64 0, .int .i64 0, .int .i64 0, .int .i64 0, .slice none 0 0], .bool false]) ?_ rfl ⟨rfl, fill_below B1 (by omega)⟩
  refine Blk.gen (B := w.heap.size + 1) (vs := #[.slice none 0 0, .slice none 0 0, .slice none 0 0, .int .i64 0, .bool false, .int .i64 0, .int .i64 0, .int .i64 0, .int .i64 0, .int .i64 0, .int .i64 0, .slice none 0 0]) (T := 88) ?_ (P := fun W => (results Tryz.f48 _).run Tryz.prog W = .ok _ W) ?_
  · exact Blk.fill R1
  intro W hW
  obtain ⟨k, f⟩ := hW.rules
  simp [results, Tryz.results48, go_sem, k]

theorem OwnK.of_only {w w' : World} {S : Nat → Prop} (o : Only w w' S) {base : Nat} {x : Sv} {a : Sa} {ys zs : List XV} (h : OwnK w base x a ys zs) (hS : ∀ j, inSv x a ys zs j → ¬ S j) : OwnK w' base x a ys zs :=
  ⟨o.ownV h.v (fun j hj => hS j (.inr (.inl hj))), o.ownV h.w (fun j hj => hS j (.inr (.inr (.inl hj)))), o.row h.o (fun j hj => hS j (.inr (.inr (.inr (.inl hj))))), o.row h.k (fun j hj => hS j (.inr (.inr (.inr (.inr hj))))), h.hy, h.hz, h.vw, h.vo, h.vk, h.wo, h.wk, h.ok⟩
theorem OwnK.lt {w : World} {base : Nat} {x : Sv} {va wa oa ka : Option Addr} {vc wc oc kc : Nat} {ys zs : List XV} (h : OwnK w base x ⟨none, 0, va, vc, wa, wc, oa, oc, ka, kc⟩ ys zs) {j : Nat} (hj : inSv x ⟨none, 0, va, vc, wa, wc, oa, oc, ka, kc⟩ ys zs j) : j < w.heap.size := by
  rcases hj with hj | hj | hj | hj | hj
  · simp [Value.ownBlock] at hj
  · exact (h.v.lt hj).2
  · exact (h.w.lt hj).2
  · exact (h.o.lt j hj).2
  · exact (h.k.lt j hj).2
/-- A server that falls. -/
def fallX (x : Sv) : Sv := if servB x = true then ⟨x.site, false, x.sl, x.vs, x.ws, x.os, []⟩ else ⟨0, false, [], [], [], [], []⟩
/-- A server that rises. -/
def riseX (x : Sv) : Sv := if servB x = true then ⟨x.site, true, x.sl, x.vs, x.ws, x.os, x.kn⟩ else ⟨0, false, [], [], [], [], []⟩
theorem OwnK.noKn {W : World} {base : Nat} {x : Sv} {a : Sa} {ys zs : List XV} (h : OwnK W base x a ys zs) (up : Bool) (pa : Option Addr) (pc : Nat) : OwnK W base ⟨x.site, up, x.sl, x.vs, x.ws, x.os, []⟩ ⟨pa, pc, a.va, a.vc, a.wa, a.wc, a.oa, a.oc, none, 0⟩ ys zs :=
  ⟨h.v, h.w, h.o, rowD_nil _ _, h.hy, h.hz, h.vw, h.vo, fun b _ hb => by simp [Value.ownBlock] at hb, h.wo, fun b _ hb => by simp [Value.ownBlock] at hb, fun b _ hb => by simp [Value.ownBlock] at hb⟩
theorem OwnK.ups {W : World} {base : Nat} {x : Sv} {a : Sa} {ys zs : List XV} (h : OwnK W base x a ys zs) (up : Bool) (pa : Option Addr) (pc : Nat) : OwnK W base ⟨x.site, up, x.sl, x.vs, x.ws, x.os, x.kn⟩ ⟨pa, pc, a.va, a.vc, a.wa, a.wc, a.oa, a.oc, a.ka, a.kc⟩ ys zs :=
  ⟨h.v, h.w, h.o, h.k, h.hy, h.hz, h.vw, h.vo, h.vk, h.wo, h.wk, h.ok⟩

end Go.Proofs.YtpjidogilofppaaGreat

/- ServerFall and ServerRise of the specification. -/
namespace Go.Proofs.YtpjidogilofppaaGreat
open Go.ChangeShapes Go.WideShapes Go.ChangeAt Go.RowKit


theorem OwnS.fallI {W : World} {base : Nat} {x : Sv} {b : Sa} {ys zs : List XV} {up : Bool} {pa : Option Addr} (h : OwnS W base x b ys zs) : InS W ⟨x.site, up, x.sl, x.vs, x.ws, x.os, []⟩ ⟨b.la, b.lc, b.va, b.vc, b.wa, b.wc, b.oa, b.oc, pa, 0⟩ := ⟨h.inS.l, h.inS.v, h.inS.w, h.inS.o, .inl rfl⟩
theorem InS.ups {W : World} {x : Sv} {b : Sa} {up : Bool} (h : InS W x b) : InS W ⟨x.site, up, x.sl, x.vs, x.ws, x.os, x.kn⟩ b := ⟨h.l, h.v, h.w, h.o, h.k⟩
end Go.Proofs.YtpjidogilofppaaGreat

