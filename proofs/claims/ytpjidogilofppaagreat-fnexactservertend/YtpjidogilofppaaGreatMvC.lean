/- What is of a slot, and all else, parted by the program. -/
import Derived.Test.YtpjidogilofppaaGreatZM
import Derived.Deep.CutBlock
import Derived.Deep.DeepCutAuto
namespace Go.Proofs.YtpjidogilofppaaGreat
open Go.ChangeShapes Go.WideShapes Go.ChangeAt Go.RowKit
/-- What a server keeps of slots: rows of the call's own, apart. -/
structure OwnP (M : World) (base : Nat) (pv : Option Addr) (pvc : Nat) (pw : Option Addr) (pwc : Nat) (po : Option Addr) (poc : Nat) (vs ws : List V) (os : List D) (ys zs : List XV) : Prop where
  v : OwnV M base (.slice pv vs.length pvc) ys
  w : OwnV M base (.slice pw ws.length pwc) zs
  o : RowD M base (.slice po os.length poc) os
  hy : ys.map XV.v = vs
  hz : zs.map XV.v = ws
  vw : ∀ b, inV (.slice pv vs.length pvc) ys b → ¬ inV (.slice pw ws.length pwc) zs b
  vo : ∀ b, inV (.slice pv vs.length pvc) ys b → (Value.slice po os.length poc).ownBlock ≠ some b
  wo : ∀ b, inV (.slice pw ws.length pwc) zs b → (Value.slice po os.length poc).ownBlock ≠ some b
theorem OwnP.below {w w' : World} {base : Nat} {pv : Option Addr} {pvc : Nat} {pw : Option Addr} {pwc : Nat} {po : Option Addr} {poc : Nat} {vs ws : List V} {os : List D} {ys zs : List XV} (h : OwnP w base pv pvc pw pwc po poc vs ws os ys zs) {m : Nat} (k : Below m w w') (hm : w.heap.size ≤ m) : OwnP w' base pv pvc pw pwc po poc vs ws os ys zs :=
  ⟨h.v.below k hm, h.w.below k hm, row_below h.o k hm, h.hy, h.hz, h.vw, h.vo, h.wo⟩
theorem OwnP.mono {w : World} {base base' : Nat} {pv : Option Addr} {pvc : Nat} {pw : Option Addr} {pwc : Nat} {po : Option Addr} {poc : Nat} {vs ws : List V} {os : List D} {ys zs : List XV} (h : OwnP w base pv pvc pw pwc po poc vs ws os ys zs) (hb : base' ≤ base) : OwnP w base' pv pvc pw pwc po poc vs ws os ys zs :=
  ⟨h.v.mono hb, h.w.mono hb, row_mono h.o hb, h.hy, h.hz, h.vw, h.vo, h.wo⟩
theorem OwnP.setB {w : World} {base Z j : Nat} {u : Value} {pv : Option Addr} {pvc : Nat} {pw : Option Addr} {pwc : Nat} {po : Option Addr} {poc : Nat} {vs ws : List V} {os : List D} {ys zs : List XV} (h : OwnP w base pv pvc pw pwc po poc vs ws os ys zs) (hZ : Z < base) : OwnP (w.setCell ⟨Z, j, none⟩ u) base pv pvc pw pwc po poc vs ws os ys zs :=
  ⟨h.v.setB hZ, h.w.setB hZ, rowSetB h.o hZ, h.hy, h.hz, h.vw, h.vo, h.wo⟩
theorem own_parts {M : World} {n1 n2 n3 base : Nat} {pv : Option Addr} {pvc : Nat} {pw : Option Addr} {pwc : Nat} {po : Option Addr} {poc : Nat} {vs ws : List V} {os : List D} {ys zs : List XV} (v : OwnV M n1 (.slice pv ys.length pvc) ys) (w : OwnV M n3 (.slice pw zs.length pwc) zs) (o : RowD M n2 (.slice po os.length poc) os) (hy : ys.map XV.v = vs) (hz : zs.map XV.v = ws) (rv : ∀ b, inV (.slice pv ys.length pvc) ys b → n1 ≤ b ∧ b < n3) (ro : ∀ b, (Value.slice po os.length poc).ownBlock = some b → b < n1) (b1 : base ≤ n1) (b2 : base ≤ n2) (b3 : base ≤ n3) (b13 : n1 ≤ n3) : OwnP M base pv pvc pw pwc po poc vs ws os ys zs := by
  have e1 : ys.length = vs.length := by rw [← hy]; simp
  have e2 : zs.length = ws.length := by rw [← hz]; simp
  rw [e1] at v rv
  have rw3 := fun b hb => (w.lt (j := b) hb).1
  rw [e2] at w rw3
  exact ⟨v.mono b1, w.mono b3, row_mono o b2, hy, hz, fun b h h' => by have := rv b h; have := rw3 b h'; omega, fun b h h' => by have := rv b h; have := ro b h'; omega, fun b h h' => by have := rw3 b h; have := ro b h'; omega⟩
theorem IsP.set1 {n0 Z j : Nat} {ds : List D} {u v : Value} {xs : Array Value} {w : World} (h : IsP n0 ds u w) (hZ : Blk w Z xs 82) : IsP n0 ds u (w.setCell ⟨Z, j, none⟩ v) := by
  obtain ⟨pa, pc, rfl, h⟩ := h
  refine ⟨pa, pc, rfl, ?_⟩
  have hne : (Value.slice pa ds.length pc).ownBlock ≠ some Z := fun e => by
    rcases h.2 with ⟨e1, _⟩ | ⟨g, cap, cur, e1, _, hg, _⟩
    · rw [e1] at e; simp [Value.ownBlock] at e
    · rw [e1] at e
      simp [Value.ownBlock] at e
      subst e
      unfold Blk at hZ
      rw [hg] at hZ
      simp at hZ
  exact ((Only.refl w (fun b => b = Z)).set (A := Z) rfl _).row h (fun j hj e => by subst e; exact hne hj)
theorem fill33 {w : World} {A B : Nat} {T T' : TypeId} {z0 z1 z2 y0 y1 y2 a0 a1 a2 b0 b1 b2 : Value} (hA : Blk w A #[z0, z1, z2] T) (hB : Blk w B #[y0, y1, y2] T') (hne : A ≠ B) : Blk ((((((w.setCell ⟨A, 0, none⟩ a0).setCell ⟨A, 1, none⟩ a1).setCell ⟨A, 2, none⟩ a2).setCell ⟨B, 0, none⟩ b0).setCell ⟨B, 1, none⟩ b1).setCell ⟨B, 2, none⟩ b2).drew A #[a0, a1, a2] T ∧ Blk ((((((w.setCell ⟨A, 0, none⟩ a0).setCell ⟨A, 1, none⟩ a1).setCell ⟨A, 2, none⟩ a2).setCell ⟨B, 0, none⟩ b0).setCell ⟨B, 1, none⟩ b1).setCell ⟨B, 2, none⟩ b2).drew B #[b0, b1, b2] T' := by
  constructor
  · have := (((((hA.set 0 a0).set 1 a1).set 2 a2).other (a := ⟨B, 0, none⟩) (by simpa using hne) b0).other (a := ⟨B, 1, none⟩) (by simpa using hne) b1).other (a := ⟨B, 2, none⟩) (by simpa using hne) b2
    have h2 := this.below (Below.refl _ _).drew this.lt
    simpa using h2
  · have := (((((hB.other (a := ⟨A, 0, none⟩) (by simpa using hne.symm) a0).other (a := ⟨A, 1, none⟩) (by simpa using hne.symm) a1).other (a := ⟨A, 2, none⟩) (by simpa using hne.symm) a2).set 0 b0).set 1 b1).set 2 b2
    have h2 := this.below (Below.refl _ _).drew this.lt
    simpa using h2
theorem Blk.gen2 {W : World} {A B : Nat} {vs us : Array Value} {T T' : TypeId} {P : World → Prop} (hA : Blk W A vs T) (hB : Blk W B us T') (h : ∀ W, Blk W A vs T → Blk W B us T' → P W) : P W := h W hA hB
theorem uncons1 {α : Type} {l : List α} {n : Nat} (h : l.length = n + 1) : ∃ x t, l = x :: t ∧ t.length = n := by
  cases l with
  | nil => simp at h
  | cons x t => exact ⟨x, t, rfl, by simpa using h⟩
set_option maxHeartbeats 8000000 in
set_option maxRecDepth 20000 in
theorem parted_any (va wa oa : Option Addr) (vc wk oc : Nat) (vs ws : List V) (os : List D) (slot : Int) (w : World) (hv : Vers w va vs) (hw : Vers w wa ws) (ho : Deps w oa os) (nv : vs.length ≤ 1099511627776) (nw : ws.length ≤ 1099511627776) (no : os.length ≤ 1099511627776) :
    Calls Tryz.prog 138 #[.agg #[.slice va vs.length vc, .slice wa ws.length wk, .slice oa os.length oc], .int .i64 slot] w fun e w' => ∃ pv pvc pw pwc po poc rv rvc rw' rwc ro roc ys zs ys' zs', e = .returned (.tuple #[.agg #[.slice pv (slotL vs slot).length pvc, .slice pw (slotL ws slot).length pwc, .slice po (os.filter (fun d => slotOf d.k == slot)).length poc], .agg #[.slice rv (restL vs slot).length rvc, .slice rw' (restL ws slot).length rwc, .slice ro (os.filter (fun d => !(slotOf d.k == slot))).length roc]]) ∧ OwnP w' w.heap.size pv pvc pw pwc po poc (slotL vs slot) (slotL ws slot) (os.filter (fun d => slotOf d.k == slot)) ys zs ∧ OwnP w' w.heap.size rv rvc rw' rwc ro roc (restL vs slot) (restL ws slot) (os.filter (fun d => !(slotOf d.k == slot))) ys' zs' ∧ Below w.heap.size w w' := by
  have hst : (store ⟨w.heap.size + 1 + 1 + 1 + 1, 0, none⟩ (.func (.func 200) #[] #[.pointer (some ⟨w.heap.size + 1, 0, none⟩)])).run Tryz.prog (((((w.alloc (.cells #[.slice va vs.length vc, .slice wa ws.length wk, .slice oa os.length oc] 82)).alloc (.cells #[.int .i64 slot] 3)).alloc (.cells #[.slice none 0 0, .slice none 0 0, .slice none 0 0] 82)).alloc (.cells #[.slice none 0 0, .slice none 0 0, .slice none 0 0] 82)).alloc (.cells #[.nilFunc] 174)) = .ok () (((((w.alloc (.cells #[.slice va vs.length vc, .slice wa ws.length wk, .slice oa os.length oc] 82)).alloc (.cells #[.int .i64 slot] 3)).alloc (.cells #[.slice none 0 0, .slice none 0 0, .slice none 0 0] 82)).alloc (.cells #[.slice none 0 0, .slice none 0 0, .slice none 0 0] 82)).alloc (.cells #[(.func (.func 200) #[] #[.pointer (some ⟨w.heap.size + 1, 0, none⟩)])] 174)) := by
    rw [run_store Tryz.prog _ _ (.func (.func 200) #[] #[.pointer (some ⟨w.heap.size + 1, 0, none⟩)]) _ rfl]
    simp [go_sem]
  have A0 : Blk (((((w.alloc (.cells #[.slice va vs.length vc, .slice wa ws.length wk, .slice oa os.length oc] 82)).alloc (.cells #[.int .i64 slot] 3)).alloc (.cells #[.slice none 0 0, .slice none 0 0, .slice none 0 0] 82)).alloc (.cells #[.slice none 0 0, .slice none 0 0, .slice none 0 0] 82)).alloc (.cells #[(.func (.func 200) #[] #[.pointer (some ⟨w.heap.size + 1, 0, none⟩)])] 174)) w.heap.size #[.slice va vs.length vc, .slice wa ws.length wk, .slice oa os.length oc] 82 := ((((Blk.new w _ _).alloc _).alloc _).alloc _).alloc _
  have S0 : Blk (((((w.alloc (.cells #[.slice va vs.length vc, .slice wa ws.length wk, .slice oa os.length oc] 82)).alloc (.cells #[.int .i64 slot] 3)).alloc (.cells #[.slice none 0 0, .slice none 0 0, .slice none 0 0] 82)).alloc (.cells #[.slice none 0 0, .slice none 0 0, .slice none 0 0] 82)).alloc (.cells #[(.func (.func 200) #[] #[.pointer (some ⟨w.heap.size + 1, 0, none⟩)])] 174)) (w.heap.size + 1) #[.int .i64 slot] 3 := by have := ((((Blk.new (w.alloc (.cells #[.slice va vs.length vc, .slice wa ws.length wk, .slice oa os.length oc] 82)) #[.int .i64 slot] 3).alloc (.cells #[.slice none 0 0, .slice none 0 0, .slice none 0 0] 82)).alloc (.cells #[.slice none 0 0, .slice none 0 0, .slice none 0 0] 82)).alloc (.cells #[(.func (.func 200) #[] #[.pointer (some ⟨w.heap.size + 1, 0, none⟩)])] 174)); simpa using this
  have F0 : Blk (((((w.alloc (.cells #[.slice va vs.length vc, .slice wa ws.length wk, .slice oa os.length oc] 82)).alloc (.cells #[.int .i64 slot] 3)).alloc (.cells #[.slice none 0 0, .slice none 0 0, .slice none 0 0] 82)).alloc (.cells #[.slice none 0 0, .slice none 0 0, .slice none 0 0] 82)).alloc (.cells #[(.func (.func 200) #[] #[.pointer (some ⟨w.heap.size + 1, 0, none⟩)])] 174)) (w.heap.size + 1 + 1 + 1 + 1) #[(.func (.func 200) #[] #[.pointer (some ⟨w.heap.size + 1, 0, none⟩)])] 174 := by have := Blk.new ((((w.alloc (.cells #[.slice va vs.length vc, .slice wa ws.length wk, .slice oa os.length oc] 82)).alloc (.cells #[.int .i64 slot] 3)).alloc (.cells #[.slice none 0 0, .slice none 0 0, .slice none 0 0] 82)).alloc (.cells #[.slice none 0 0, .slice none 0 0, .slice none 0 0] 82)) #[(.func (.func 200) #[] #[.pointer (some ⟨w.heap.size + 1, 0, none⟩)])] 174; simpa using this
  have Q0 : Blk (((((w.alloc (.cells #[.slice va vs.length vc, .slice wa ws.length wk, .slice oa os.length oc] 82)).alloc (.cells #[.int .i64 slot] 3)).alloc (.cells #[.slice none 0 0, .slice none 0 0, .slice none 0 0] 82)).alloc (.cells #[.slice none 0 0, .slice none 0 0, .slice none 0 0] 82)).alloc (.cells #[(.func (.func 200) #[] #[.pointer (some ⟨w.heap.size + 1, 0, none⟩)])] 174)) (w.heap.size + 1 + 1) #[.slice none 0 0, .slice none 0 0, .slice none 0 0] 82 := by have := ((Blk.new ((w.alloc (.cells #[.slice va vs.length vc, .slice wa ws.length wk, .slice oa os.length oc] 82)).alloc (.cells #[.int .i64 slot] 3)) #[.slice none 0 0, .slice none 0 0, .slice none 0 0] 82).alloc (.cells #[.slice none 0 0, .slice none 0 0, .slice none 0 0] 82)).alloc (.cells #[(.func (.func 200) #[] #[.pointer (some ⟨w.heap.size + 1, 0, none⟩)])] 174); simpa using this
  have Y0 : Blk (((((w.alloc (.cells #[.slice va vs.length vc, .slice wa ws.length wk, .slice oa os.length oc] 82)).alloc (.cells #[.int .i64 slot] 3)).alloc (.cells #[.slice none 0 0, .slice none 0 0, .slice none 0 0] 82)).alloc (.cells #[.slice none 0 0, .slice none 0 0, .slice none 0 0] 82)).alloc (.cells #[(.func (.func 200) #[] #[.pointer (some ⟨w.heap.size + 1, 0, none⟩)])] 174)) (w.heap.size + 1 + 1 + 1) #[.slice none 0 0, .slice none 0 0, .slice none 0 0] 82 := by have := (Blk.new (((w.alloc (.cells #[.slice va vs.length vc, .slice wa ws.length wk, .slice oa os.length oc] 82)).alloc (.cells #[.int .i64 slot] 3)).alloc (.cells #[.slice none 0 0, .slice none 0 0, .slice none 0 0] 82)) #[.slice none 0 0, .slice none 0 0, .slice none 0 0] 82).alloc (.cells #[(.func (.func 200) #[] #[.pointer (some ⟨w.heap.size + 1, 0, none⟩)])] 174); simpa using this
  have b0 : Below w.heap.size w (((((w.alloc (.cells #[.slice va vs.length vc, .slice wa ws.length wk, .slice oa os.length oc] 82)).alloc (.cells #[.int .i64 slot] 3)).alloc (.cells #[.slice none 0 0, .slice none 0 0, .slice none 0 0] 82)).alloc (.cells #[.slice none 0 0, .slice none 0 0, .slice none 0 0] 82)).alloc (.cells #[(.func (.func 200) #[] #[.pointer (some ⟨w.heap.size + 1, 0, none⟩)])] 174)) := (((((Below.refl _ _).alloc (Nat.le_refl _) _).alloc (by simp) _).alloc (by simp; omega) _).alloc (by simp; omega) _).alloc (by simp; omega) _
  go_enter Tryz.func138, Tryz.ntmps138
  go_upto_region 3 with fail
  clear hst
  generalize (((((w.alloc (.cells #[.slice va vs.length vc, .slice wa ws.length wk, .slice oa os.length oc] 82)).alloc (.cells #[.int .i64 slot] 3)).alloc (.cells #[.slice none 0 0, .slice none 0 0, .slice none 0 0] 82)).alloc (.cells #[.slice none 0 0, .slice none 0 0, .slice none 0 0] 82)).alloc (.cells #[(.func (.func 200) #[] #[.pointer (some ⟨w.heap.size + 1, 0, none⟩)])] 174)) = u0 at *
  have hC1 := fun W h => chosen1_any oa oc os (w.heap.size + 1) (fun d => slotOf d.k == slot) W no (ho.below (b0.trans (Below.mono (h : Below u0.heap.size u0 W) b0.size))) (fun W' d hb => parted1_any d slot (w.heap.size + 1) W' (((S0.below h S0.lt).below hb (S0.below h S0.lt).lt).cell 0) ((S0.below h S0.lt).below hb (S0.below h S0.lt).lt).lt)
  have hC2 := fun W h => chosen2_any oa oc os (w.heap.size + 1 + 1 + 1 + 1) (fun d => !(slotOf d.k == slot)) W no (ho.below (b0.trans (Below.mono (h : Below u0.heap.size u0 W) b0.size))) (fun W' d hb => parted2_any d slot (w.heap.size + 1) (w.heap.size + 1 + 1 + 1 + 1) W' (((S0.below h S0.lt).below hb (S0.below h S0.lt).lt).cell 0) ((S0.below h S0.lt).below hb (S0.below h S0.lt).lt).lt (((F0.below h F0.lt).below hb (F0.below h F0.lt).lt).cell 0) ((F0.below h F0.lt).below hb (F0.below h F0.lt).lt).lt)
  go_cut [8, 9] (fun s8 s9 wx => ∃ D1 D2 x1 x2, s8 = .pointer (some ⟨D1, 0, none⟩) ∧ s9 = .pointer (some ⟨D2, 0, none⟩) ∧ D1 ≠ D2 ∧ u0.heap.size ≤ D1 ∧ u0.heap.size ≤ D2 ∧ Blk wx D1 (o3 x1) 82 ∧ Blk wx D2 (o3 x2) 82 ∧ IsP u0.heap.size (os.filter (fun d => slotOf d.k == slot)) x1 wx ∧ IsP u0.heap.size (os.filter (fun d => !(slotOf d.k == slot))) x2 wx ∧ Below u0.heap.size u0 wx)
  case first =>
    refine wp_region_any (by kernel_rfl) ?_
    refine wpAny_keeps (InvP w.heap.size u0.heap.size oa oc os (.func (.func 200) #[] #[.pointer (some ⟨w.heap.size + 1, 0, none⟩)]) (.func (.func 202) #[] #[.pointer (some ⟨w.heap.size + 1 + 1 + 1 + 1, 0, none⟩)]) (fun d => slotOf d.k == slot) (fun d => !(slotOf d.k == slot)) u0 _) ?_ ?_ _ _ _ _ (by simp) ⟨by simp, by simp, rfl, fun _ _ => rfl, fun j hj hl => ?_, fun D1 D2 l1 => ?_, (Below.refl _ _).drew, ?_, ?_⟩
    · intro l a W i hI hi
      obtain ⟨hun, o, ho, hdep⟩ := mem_ready.1 hi
      have t2a : a.tmps[2]? = some (.pointer (some ⟨w.heap.size, 0, none⟩)) := hI.fr 2 (by omega)
      have t6a : a.tmps[6]? = some (.pointer (some ⟨w.heap.size + 1 + 1 + 1 + 1, 0, none⟩)) := hI.fr 6 (by omega)
      have t7a : a.tmps[7]? = some (.func (.func 202) #[] #[.pointer (some ⟨w.heap.size + 1 + 1 + 1 + 1, 0, none⟩)]) := hI.fr 7 (by omega)
      have ck := (A0.below hI.be A0.lt).cell
      have cf := (F0.below hI.be F0.lt).cell 0
      have hi14 : i < 14 := by
        rcases Nat.lt_or_ge i 14 with h | h
        · exact h
        · rw [Array.getElem?_eq_none (by simpa using h)] at ho; cases ho
      have hls := hI.ls
      have h12F : l[10]? = some false → l[12]? = some false := fun e => by
        rcases e2 : l[12]? with _ | b
        · rw [Array.getElem?_eq_none_iff] at e2; omega
        · cases b
          · rfl
          · have := hI.oA e2; rw [e] at this; cases this
      have h13F : l[11]? = some false → l[13]? = some false := fun e => by
        rcases e2 : l[13]? with _ | b
        · rw [Array.getElem?_eq_none_iff] at e2; omega
        · cases b
          · rfl
          · have := hI.oB e2; rw [e] at this; cases this
      match i, hi14 with
      | 0, _ =>
        simp only [List.getElem?_toArray, List.getElem?_cons_zero, Option.some.injEq] at ho
        subst ho
        have hu := bitF hun
        refine wpOp_at rfl rfl ?_
        unfold Oper.wp
        simp [execOp, go_sem, t2a]
        exact hI.step (by omega) rfl (fun b12 b13 _ _ => rfl) (fun h => by omega) (fun h => by omega) (Below.refl _ _) (fun h => by omega)
      | 1, _ =>
        simp only [List.getElem?_toArray, List.getElem?_cons_succ, List.getElem?_cons_zero, Option.some.injEq] at ho
        subst ho
        have hu := bitF hun
        have d0 := bitT (hdep ⟨0, .data⟩ (by simp) rfl)
        obtain ⟨x0, t0, k0⟩ := hI.kv 0 (by omega) d0
        simp only [KP] at k0
        simp [dstP] at t0
        refine wpOp_at rfl rfl ?_
        unfold Oper.wp
        subst k0
        simp [execOp, go_sem, t0, ck 2]
        exact hI.step (by omega) rfl (fun b12 b13 _ _ => rfl) (fun h => by omega) (fun h => by omega) (Below.refl _ _) (fun h => by omega)
      | 2, _ =>
        simp only [List.getElem?_toArray, List.getElem?_cons_succ, List.getElem?_cons_zero, Option.some.injEq] at ho
        subst ho
        have hu := bitF hun
        refine wpOp_at rfl rfl ?_
        unfold Oper.wp
        simp [execOp, go_sem, t6a, cf]
        exact hI.step (by omega) rfl (fun b12 b13 _ _ => rfl) (fun h => by omega) (fun h => by omega) (Below.refl _ _) (fun h => by omega)
      | 3, _ =>
        simp only [List.getElem?_toArray, List.getElem?_cons_succ, List.getElem?_cons_zero, Option.some.injEq] at ho
        subst ho
        have hu := bitF hun
        have d1 := bitT (hdep ⟨1, .data⟩ (by simp) rfl)
        obtain ⟨x1, t1, k1⟩ := hI.kv 1 (by omega) d1
        simp only [KP] at k1
        simp [dstP] at t1
        have d2 := bitT (hdep ⟨2, .data⟩ (by simp) rfl)
        obtain ⟨x2, t2, k2⟩ := hI.kv 2 (by omega) d2
        simp only [KP] at k2
        simp [dstP] at t2
        refine wpOp_at rfl rfl ?_
        unfold Oper.wp
        subst k1 k2
        simp [execOp, go_sem, t1, t2]
        refine (hC1 W hI.be).mono ?_
        rintro e w1 ⟨pa, pc, rfl, R1, hb1⟩
        exact hI.step (by omega) rfl (fun b12 b13 _ _ => ⟨pa, pc, rfl, row_mono R1 hI.be.size⟩) (fun h => by omega) (fun h => by omega) hb1 (fun h => by omega)
      | 4, _ =>
        simp only [List.getElem?_toArray, List.getElem?_cons_succ, List.getElem?_cons_zero, Option.some.injEq] at ho
        subst ho
        have hu := bitF hun
        have d3 := bitT (hdep ⟨3, .data⟩ (by simp) rfl)
        obtain ⟨x3, t3, k3⟩ := hI.kv 3 (by omega) d3
        simp only [KP] at k3
        simp [dstP] at t3
        refine wpOp_at rfl rfl ?_
        unfold Oper.wp
        obtain ⟨pa, pc, rfl, R1⟩ := k3
        simp [execOp, go_sem, t3]
        exact hI.step (by omega) rfl (fun b12 b13 _ _ => ⟨_, rfl, pa, pc, rfl, R1⟩) (fun h => by omega) (fun h => by omega) (Below.refl _ _) (fun h => by omega)
      | 5, _ =>
        simp only [List.getElem?_toArray, List.getElem?_cons_succ, List.getElem?_cons_zero, Option.some.injEq] at ho
        subst ho
        have hu := bitF hun
        refine wpOp_at rfl rfl ?_
        unfold Oper.wp
        simp [execOp, go_sem, t2a]
        exact hI.step (by omega) rfl (fun b12 b13 _ _ => rfl) (fun h => by omega) (fun h => by omega) (Below.refl _ _) (fun h => by omega)
      | 6, _ =>
        simp only [List.getElem?_toArray, List.getElem?_cons_succ, List.getElem?_cons_zero, Option.some.injEq] at ho
        subst ho
        have hu := bitF hun
        have d5 := bitT (hdep ⟨5, .data⟩ (by simp) rfl)
        obtain ⟨x5, t5, k5⟩ := hI.kv 5 (by omega) d5
        simp only [KP] at k5
        simp [dstP] at t5
        refine wpOp_at rfl rfl ?_
        unfold Oper.wp
        subst k5
        simp [execOp, go_sem, t5, ck 2]
        exact hI.step (by omega) rfl (fun b12 b13 _ _ => rfl) (fun h => by omega) (fun h => by omega) (Below.refl _ _) (fun h => by omega)
      | 7, _ =>
        simp only [List.getElem?_toArray, List.getElem?_cons_succ, List.getElem?_cons_zero, Option.some.injEq] at ho
        subst ho
        have hu := bitF hun
        refine wpOp_at rfl rfl ?_
        unfold Oper.wp
        simp [execOp, go_sem, t7a]
        exact hI.step (by omega) rfl (fun b12 b13 _ _ => rfl) (fun h => by omega) (fun h => by omega) (Below.refl _ _) (fun h => by omega)
      | 8, _ =>
        simp only [List.getElem?_toArray, List.getElem?_cons_succ, List.getElem?_cons_zero, Option.some.injEq] at ho
        subst ho
        have hu := bitF hun
        have d6 := bitT (hdep ⟨6, .data⟩ (by simp) rfl)
        obtain ⟨x6, t6, k6⟩ := hI.kv 6 (by omega) d6
        simp only [KP] at k6
        simp [dstP] at t6
        have d7 := bitT (hdep ⟨7, .data⟩ (by simp) rfl)
        obtain ⟨x7, t7, k7⟩ := hI.kv 7 (by omega) d7
        simp only [KP] at k7
        simp [dstP] at t7
        refine wpOp_at rfl rfl ?_
        unfold Oper.wp
        subst k6 k7
        simp [execOp, go_sem, t6, t7]
        refine (hC2 W hI.be).mono ?_
        rintro e w1 ⟨pa, pc, rfl, R1, hb1⟩
        exact hI.step (by omega) rfl (fun b12 b13 _ _ => ⟨pa, pc, rfl, row_mono R1 hI.be.size⟩) (fun h => by omega) (fun h => by omega) hb1 (fun h => by omega)
      | 9, _ =>
        simp only [List.getElem?_toArray, List.getElem?_cons_succ, List.getElem?_cons_zero, Option.some.injEq] at ho
        subst ho
        have hu := bitF hun
        have d8 := bitT (hdep ⟨8, .data⟩ (by simp) rfl)
        obtain ⟨x8, t8, k8⟩ := hI.kv 8 (by omega) d8
        simp only [KP] at k8
        simp [dstP] at t8
        refine wpOp_at rfl rfl ?_
        unfold Oper.wp
        obtain ⟨pa, pc, rfl, R1⟩ := k8
        simp [execOp, go_sem, t8]
        exact hI.step (by omega) rfl (fun b12 b13 _ _ => ⟨_, rfl, pa, pc, rfl, R1⟩) (fun h => by omega) (fun h => by omega) (Below.refl _ _) (fun h => by omega)
      | 10, _ =>
        simp only [List.getElem?_toArray, List.getElem?_cons_succ, List.getElem?_cons_zero, Option.some.injEq] at ho
        subst ho
        have hu := bitF hun
        refine wpOp_at rfl rfl ?_
        unfold Oper.wp
        simp [execOp, go_sem]
        exact hI.step (by omega) rfl (fun b12 b13 e _ => ⟨_, rfl, hI.be.size, .slice none 0 0, Blk.new _ _ _, fun e2 => by rcases e e2 with h | h; exact absurd hu h; exact absurd rfl h⟩) (fun _ => h12F hu) (fun h => by omega) ((Below.refl _ _).alloc (Nat.le_refl _) _) (fun _ => rfl)
      | 11, _ =>
        simp only [List.getElem?_toArray, List.getElem?_cons_succ, List.getElem?_cons_zero, Option.some.injEq] at ho
        subst ho
        have hu := bitF hun
        refine wpOp_at rfl rfl ?_
        unfold Oper.wp
        simp [execOp, go_sem]
        exact hI.step (by omega) rfl (fun b12 b13 _ e => ⟨_, rfl, hI.be.size, .slice none 0 0, Blk.new _ _ _, fun e2 => by rcases e e2 with h | h; exact absurd hu h; exact absurd rfl h⟩) (fun h => by omega) (fun _ => h13F hu) ((Below.refl _ _).alloc (Nat.le_refl _) _) (fun _ => rfl)
      | 12, _ =>
        simp only [List.getElem?_toArray, List.getElem?_cons_succ, List.getElem?_cons_zero, Option.some.injEq] at ho
        subst ho
        have hu := bitF hun
        have d10 := bitT (hdep ⟨10, .data⟩ (by simp) rfl)
        obtain ⟨x10, t10, k10⟩ := hI.kv 10 (by omega) d10
        simp only [KP] at k10
        simp [dstP] at t10
        have d4 := bitT (hdep ⟨4, .data⟩ (by simp) rfl)
        obtain ⟨x4, t4, k4⟩ := hI.kv 4 (by omega) d4
        simp only [KP] at k4
        simp [dstP] at t4
        have d11 := bitT (hdep ⟨11, .phase⟩ (by simp) rfl)
        obtain ⟨x11, t11, k11⟩ := hI.kv 11 (by omega) d11
        simp only [KP] at k11
        simp [dstP] at t11
        refine wpOp_at rfl rfl ?_
        unfold Oper.wp
        obtain ⟨D1, rfl, hD1, y1, hb1, _⟩ := k10
        obtain ⟨u4, rfl, P4⟩ := k4
        obtain ⟨pa, pc, rfl, R4⟩ := P4
        obtain ⟨D2, rfl, hD2, y2, hb2, _⟩ := k11
        obtain ⟨qz, gz⟩ := hb1.rules
        simp [execOp, go_sem, t10, t4, qz, gz]
        exact hI.store12 d10 d11 t10 t11 ⟨pa, pc, rfl, R4⟩ (Nat.le_refl _)
      | 13, _ =>
        simp only [List.getElem?_toArray, List.getElem?_cons_succ, List.getElem?_cons_zero, Option.some.injEq] at ho
        subst ho
        have hu := bitF hun
        have d11 := bitT (hdep ⟨11, .data⟩ (by simp) rfl)
        obtain ⟨x11, t11, k11⟩ := hI.kv 11 (by omega) d11
        simp only [KP] at k11
        simp [dstP] at t11
        have d9 := bitT (hdep ⟨9, .data⟩ (by simp) rfl)
        obtain ⟨x9, t9, k9⟩ := hI.kv 9 (by omega) d9
        simp only [KP] at k9
        simp [dstP] at t9
        have d10 := bitT (hdep ⟨10, .phase⟩ (by simp) rfl)
        obtain ⟨x10, t10, k10⟩ := hI.kv 10 (by omega) d10
        simp only [KP] at k10
        simp [dstP] at t10
        refine wpOp_at rfl rfl ?_
        unfold Oper.wp
        obtain ⟨D2, rfl, hD2, y2, hb2, _⟩ := k11
        obtain ⟨u9, rfl, P9⟩ := k9
        obtain ⟨pa, pc, rfl, R4⟩ := P9
        obtain ⟨D1, rfl, hD1, y1, hb1, _⟩ := k10
        obtain ⟨qz, gz⟩ := hb2.rules
        simp [execOp, go_sem, t11, t9, qz, gz]
        exact hI.store13 d10 d11 t10 t11 ⟨pa, pc, rfl, R4⟩ (Nat.le_refl _)

    · intro l a W hI hr
      have a0 : l[0]? = some true := all_up (by simp [hI.ls]) hr (i := 0) rfl (by simp [Region.binds])
      have a1 : l[1]? = some true := all_up (by simp [hI.ls]) hr (i := 1) rfl (by simp [Region.binds, a0])
      have a2 : l[2]? = some true := all_up (by simp [hI.ls]) hr (i := 2) rfl (by simp [Region.binds])
      have a3 : l[3]? = some true := all_up (by simp [hI.ls]) hr (i := 3) rfl (by simp [Region.binds, a1, a2])
      have a4 : l[4]? = some true := all_up (by simp [hI.ls]) hr (i := 4) rfl (by simp [Region.binds, a3])
      have a5 : l[5]? = some true := all_up (by simp [hI.ls]) hr (i := 5) rfl (by simp [Region.binds])
      have a6 : l[6]? = some true := all_up (by simp [hI.ls]) hr (i := 6) rfl (by simp [Region.binds, a5])
      have a7 : l[7]? = some true := all_up (by simp [hI.ls]) hr (i := 7) rfl (by simp [Region.binds])
      have a8 : l[8]? = some true := all_up (by simp [hI.ls]) hr (i := 8) rfl (by simp [Region.binds, a6, a7, a3])
      have a9 : l[9]? = some true := all_up (by simp [hI.ls]) hr (i := 9) rfl (by simp [Region.binds, a8])
      have a10 : l[10]? = some true := all_up (by simp [hI.ls]) hr (i := 10) rfl (by simp [Region.binds])
      have a11 : l[11]? = some true := all_up (by simp [hI.ls]) hr (i := 11) rfl (by simp [Region.binds])
      have a12 : l[12]? = some true := all_up (by simp [hI.ls]) hr (i := 12) rfl (by simp [Region.binds, a0, a1, a2, a3, a4, a8, a10, a11])
      have a13 : l[13]? = some true := all_up (by simp [hI.ls]) hr (i := 13) rfl (by simp [Region.binds, a0, a1, a2, a3, a4, a5, a6, a7, a8, a9, a10, a11, a12])
      obtain ⟨v8, t8, D1, rfl, hD1, x1, hb1, k1⟩ := hI.kv 10 (by omega) a10
      obtain ⟨v9, t9, D2, rfl, hD2, x2, hb2, k2⟩ := hI.kv 11 (by omega) a11
      have k1' := k1 (by rw [Array.getD_eq_getD_getElem?, a12]; rfl)
      have k2' := k2 (by rw [Array.getD_eq_getD_getElem?, a13]; rfl)
      have hne := hI.ne D1 D2 a10 a11 t8 t9
      have hbe := hI.be
      have hts := hI.ts
      have hdf := hI.df
      have hfr := hI.fr
      clear hI hr a0 a1 a2 a3 a4 a5 a6 a7 a8 a9 a10 a11 a12 a13 k1 k2
      obtain ⟨tms, df⟩ := a
      simp only at hdf hts hfr t8 t9
      obtain ⟨tm, rfl⟩ : ∃ tm : List Value, tms = tm.toArray := ⟨tms.toList, by simp⟩
      subst hdf
      simp [dstP] at t8 t9 hts
      have L42 := hts
      clear hts
      obtain ⟨x0', tm0, rfl, L41⟩ := uncons1 (n := 41) L42
      obtain ⟨x1', tm1, rfl, L40⟩ := uncons1 (n := 40) L41
      obtain ⟨x2', tm2, rfl, L39⟩ := uncons1 (n := 39) L40
      obtain ⟨x3', tm3, rfl, L38⟩ := uncons1 (n := 38) L39
      obtain ⟨x4', tm4, rfl, L37⟩ := uncons1 (n := 37) L38
      obtain ⟨x5', tm5, rfl, L36⟩ := uncons1 (n := 36) L37
      obtain ⟨x6', tm6, rfl, L35⟩ := uncons1 (n := 35) L36
      obtain ⟨x7', tm7, rfl, L34⟩ := uncons1 (n := 34) L35
      obtain ⟨x8', tm8, rfl, L33⟩ := uncons1 (n := 33) L34
      obtain ⟨x9', tm9, rfl, L32⟩ := uncons1 (n := 32) L33
      obtain ⟨x10', tm10, rfl, L31⟩ := uncons1 (n := 31) L32
      obtain ⟨x11', tm11, rfl, L30⟩ := uncons1 (n := 30) L31
      obtain ⟨x12', tm12, rfl, L29⟩ := uncons1 (n := 29) L30
      obtain ⟨x13', tm13, rfl, L28⟩ := uncons1 (n := 28) L29
      obtain ⟨x14', tm14, rfl, L27⟩ := uncons1 (n := 27) L28
      obtain ⟨x15', tm15, rfl, L26⟩ := uncons1 (n := 26) L27
      obtain ⟨x16', tm16, rfl, L25⟩ := uncons1 (n := 25) L26
      obtain ⟨x17', tm17, rfl, L24⟩ := uncons1 (n := 24) L25
      obtain ⟨x18', tm18, rfl, L23⟩ := uncons1 (n := 23) L24
      obtain ⟨x19', tm19, rfl, L22⟩ := uncons1 (n := 22) L23
      obtain ⟨x20', tm20, rfl, L21⟩ := uncons1 (n := 21) L22
      obtain ⟨x21', tm21, rfl, L20⟩ := uncons1 (n := 20) L21
      obtain ⟨x22', tm22, rfl, L19⟩ := uncons1 (n := 19) L20
      obtain ⟨x23', tm23, rfl, L18⟩ := uncons1 (n := 18) L19
      obtain ⟨x24', tm24, rfl, L17⟩ := uncons1 (n := 17) L18
      obtain ⟨x25', tm25, rfl, L16⟩ := uncons1 (n := 16) L17
      obtain ⟨x26', tm26, rfl, L15⟩ := uncons1 (n := 15) L16
      obtain ⟨x27', tm27, rfl, L14⟩ := uncons1 (n := 14) L15
      obtain ⟨x28', tm28, rfl, L13⟩ := uncons1 (n := 13) L14
      obtain ⟨x29', tm29, rfl, L12⟩ := uncons1 (n := 12) L13
      obtain ⟨x30', tm30, rfl, L11⟩ := uncons1 (n := 11) L12
      obtain ⟨x31', tm31, rfl, L10⟩ := uncons1 (n := 10) L11
      obtain ⟨x32', tm32, rfl, L9⟩ := uncons1 (n := 9) L10
      obtain ⟨x33', tm33, rfl, L8⟩ := uncons1 (n := 8) L9
      obtain ⟨x34', tm34, rfl, L7⟩ := uncons1 (n := 7) L8
      obtain ⟨x35', tm35, rfl, L6⟩ := uncons1 (n := 6) L7
      obtain ⟨x36', tm36, rfl, L5⟩ := uncons1 (n := 5) L6
      obtain ⟨x37', tm37, rfl, L4⟩ := uncons1 (n := 4) L5
      obtain ⟨x38', tm38, rfl, L3⟩ := uncons1 (n := 3) L4
      obtain ⟨x39', tm39, rfl, L2⟩ := uncons1 (n := 2) L3
      obtain ⟨x40', tm40, rfl, L1⟩ := uncons1 (n := 1) L2
      obtain ⟨x41', tm41, rfl, L0⟩ := uncons1 (n := 0) L1
      obtain rfl := List.length_eq_zero_iff.1 L0
      simp at t8 t9
      subst t8 t9
      have f0 := hfr 0 (by omega)
      simp at f0
      subst f0
      have f1 := hfr 1 (by omega)
      simp at f1
      subst f1
      have f2 := hfr 2 (by omega)
      simp at f2
      subst f2
      have f3 := hfr 3 (by omega)
      simp at f3
      subst f3
      have f4 := hfr 4 (by omega)
      simp at f4
      subst f4
      have f5 := hfr 5 (by omega)
      simp at f5
      subst f5
      have f6 := hfr 6 (by omega)
      simp at f6
      subst f6
      have f7 := hfr 7 (by omega)
      simp at f7
      subst f7
      have f10 := hfr 10 (by omega)
      simp at f10
      subst f10
      have f11 := hfr 11 (by omega)
      simp at f11
      subst f11
      have f22 := hfr 22 (by omega)
      simp at f22
      subst f22
      have f23 := hfr 23 (by omega)
      simp at f23
      subst f23
      have f24 := hfr 24 (by omega)
      simp at f24
      subst f24
      have f25 := hfr 25 (by omega)
      simp at f25
      subst f25
      have f26 := hfr 26 (by omega)
      simp at f26
      subst f26
      have f27 := hfr 27 (by omega)
      simp at f27
      subst f27
      have f28 := hfr 28 (by omega)
      simp at f28
      subst f28
      have f29 := hfr 29 (by omega)
      simp at f29
      subst f29
      have f30 := hfr 30 (by omega)
      simp at f30
      subst f30
      have f31 := hfr 31 (by omega)
      simp at f31
      subst f31
      have f32 := hfr 32 (by omega)
      simp at f32
      subst f32
      have f33 := hfr 33 (by omega)
      simp at f33
      subst f33
      have f34 := hfr 34 (by omega)
      simp at f34
      subst f34
      have f35 := hfr 35 (by omega)
      simp at f35
      subst f35
      have f36 := hfr 36 (by omega)
      simp at f36
      subst f36
      have f37 := hfr 37 (by omega)
      simp at f37
      subst f37
      have f38 := hfr 38 (by omega)
      simp at f38
      subst f38
      have f39 := hfr 39 (by omega)
      simp at f39
      subst f39
      have f40 := hfr 40 (by omega)
      simp at f40
      subst f40
      have f41 := hfr 41 (by omega)
      simp at f41
      subst f41
      clear hfr
      go_wp2_with fail
      go_meet
      case rel => exact ⟨D1, D2, x1, x2, rfl, rfl, hne, hD1, hD2, hb1, hb2, k1', k2', hbe⟩

    · rw [Array.getElem?_replicate] at hl
      split at hl <;> simp at hl
    · rw [Array.getElem?_replicate] at l1
      split at l1 <;> simp at l1
    · intro e
      rw [Array.getElem?_replicate] at e
      split at e <;> simp at e
    · intro e
      rw [Array.getElem?_replicate] at e
      split at e <;> simp at e
  case rest =>
    obtain ⟨D1, D2, x1, x2, rfl, rfl, hne, hD1, hD2, E1, E2, I1, I2, hB⟩ := hcut
    generalize wc = w1 at *
    have A1 := A0.below hB A0.lt
    have S1 := S0.below hB S0.lt
    have Q1 := Q0.below hB Q0.lt
    have Y1 := Y0.below hB Y0.lt
    have B1 : Below w.heap.size w w1 := b0.trans (hB.mono b0.size)
    have n0 := b0.size
    have n1 := hB.size
    have nF := F0.lt
    clear hC1 hC2 A0 S0 F0 hB Q0 Y0
    obtain ⟨qa, ga⟩ := A1.rules
    obtain ⟨qs, gs⟩ := S1.rules
    go_wp2_with fail
    clear qa ga qs gs
    refine (iSlotC_any va vc vs slot _ nv (hv.below B1)).mono ?_
    rintro e w2 ⟨u, ys, u', zs, rfl, O2, O2', _, _, hy, hz, hb2⟩
    obtain ⟨pv, pvc, rfl, _⟩ := row_slice O2.row
    obtain ⟨rv, rvc, rfl, _⟩ := row_slice O2'.row
    have ly : Hid (ys.length = (slotL vs slot).length) := by show _ = _; rw [← hy]; simp
    have lz : Hid (zs.length = (restL vs slot).length) := by show _ = _; rw [← hz]; simp
    have z1 := E1.lt
    have z2 := E2.lt
    have J1 := (I1.below hb2)
    have J2 := (I2.below hb2)
    have E1a := E1.below hb2 E1.lt
    have E2a := E2.below hb2 E2.lt
    have B2 : Below w.heap.size w w2 := B1.trans (hb2.mono B1.size)
    have A2 := A1.below hb2 A1.lt
    have S2 := S1.below hb2 S1.lt
    have Q2 := Q1.below hb2 Q1.lt
    have Y2 := Y1.below hb2 Y1.lt
    have n2 := hb2.size
    have ry : Hid (∀ b, inV (.slice pv ys.length pvc) ys b → w1.heap.size ≤ b ∧ b < w2.heap.size) := by show ∀ b, _; intro b hb; exact O2.lt hb
    have rz : Hid (∀ b, inV (.slice rv zs.length rvc) zs b → w1.heap.size ≤ b ∧ b < w2.heap.size) := by show ∀ b, _; intro b hb; exact O2'.lt hb
    have ri1 : Hid (∀ b, x1.ownBlock = some b → b < w1.heap.size) := by show ∀ b, _; obtain ⟨pa, pc, rfl, R⟩ := I1; intro b hb; exact (R.lt b hb).2
    have ri2 : Hid (∀ b, x2.ownBlock = some b → b < w1.heap.size) := by show ∀ b, _; obtain ⟨pa, pc, rfl, R⟩ := I2; intro b hb; exact (R.lt b hb).2
    have HY : Hid (ys.map XV.v = slotL vs slot ∧ zs.map XV.v = restL vs slot) := ⟨hy, hz⟩
    clear hy hz E1 E2 I1 I2 B1 A1 S1 Q1 Y1 hb2
    have E3 : Blk ((w2.setCell ⟨D1, 0, none⟩ (.slice pv ys.length pvc)).setCell ⟨D2, 0, none⟩ (.slice rv zs.length rvc)) D1 #[.slice pv ys.length pvc, .slice none 0 0, x1] 82 := by have := (E1a.set 0 (.slice pv ys.length pvc)).other (a := ⟨D2, 0, none⟩) (by simp; omega) (.slice rv zs.length rvc); simpa using this
    have G3 : Blk ((w2.setCell ⟨D1, 0, none⟩ (.slice pv ys.length pvc)).setCell ⟨D2, 0, none⟩ (.slice rv zs.length rvc)) D2 #[.slice rv zs.length rvc, .slice none 0 0, x2] 82 := by have := (E2a.other (a := ⟨D1, 0, none⟩) (by simp; omega) (.slice pv ys.length pvc)).set 0 (.slice rv zs.length rvc); simpa using this
    have A3 := (A2.other (a := ⟨D1, 0, none⟩) (by simp; omega) (.slice pv ys.length pvc)).other (a := ⟨D2, 0, none⟩) (by simp; omega) (.slice rv zs.length rvc)
    have S3 := (S2.other (a := ⟨D1, 0, none⟩) (by simp; omega) (.slice pv ys.length pvc)).other (a := ⟨D2, 0, none⟩) (by simp; omega) (.slice rv zs.length rvc)
    have Q3 := (Q2.other (a := ⟨D1, 0, none⟩) (by simp; omega) (.slice pv ys.length pvc)).other (a := ⟨D2, 0, none⟩) (by simp; omega) (.slice rv zs.length rvc)
    have Y3 := (Y2.other (a := ⟨D1, 0, none⟩) (by simp; omega) (.slice pv ys.length pvc)).other (a := ⟨D2, 0, none⟩) (by simp; omega) (.slice rv zs.length rvc)
    have B3 := (B2.setCell (p := ⟨D1, 0, none⟩) (by simp; omega) (.slice pv ys.length pvc)).setCell (p := ⟨D2, 0, none⟩) (by simp; omega) (.slice rv zs.length rvc)
    have O3 := (O2.setB (Z := D1) (j := 0) (u := .slice pv ys.length pvc) (by omega)).setB (Z := D2) (j := 0) (u := .slice rv zs.length rvc) (by omega)
    have O3' := (O2'.setB (Z := D1) (j := 0) (u := .slice pv ys.length pvc) (by omega)).setB (Z := D2) (j := 0) (u := .slice rv zs.length rvc) (by omega)
    have K1 := (J1.set1 (v := .slice pv ys.length pvc) (j := 0) E1a).set1 (v := .slice rv zs.length rvc) (j := 0) (E2a.other (a := ⟨D1, 0, none⟩) (by simp; omega) (.slice pv ys.length pvc))
    have K2 := (J2.set1 (v := .slice pv ys.length pvc) (j := 0) E1a).set1 (v := .slice rv zs.length rvc) (j := 0) (E2a.other (a := ⟨D1, 0, none⟩) (by simp; omega) (.slice pv ys.length pvc))
    obtain ⟨q1, g1⟩ := E1a.rules
    obtain ⟨q2, g2⟩ := E2a.rules
    obtain ⟨q3, g3⟩ := A3.rules
    obtain ⟨q4, g4⟩ := S3.rules
    have n3 : ((w2.setCell ⟨D1, 0, none⟩ (.slice pv ys.length pvc)).setCell ⟨D2, 0, none⟩ (.slice rv zs.length rvc)).heap.size = w2.heap.size := by simp
    clear O2 O2' J1 J2 E1a E2a A2 S2 Q2 Y2
    go_wp2_with fail
    clear q1 g1 q2 g2 q3 g3 q4 g4
    generalize ((w2.setCell ⟨D1, 0, none⟩ (.slice pv ys.length pvc)).setCell ⟨D2, 0, none⟩ (.slice rv zs.length rvc)) = w3 at *
    refine (iSlotC_any wa wk ws slot _ nw (hw.below B3)).mono ?_
    rintro e w4 ⟨t, ps, t', qs, rfl, O4, O4', _, _, hy2, hz2, hb4⟩
    obtain ⟨pw, pwc, rfl, _⟩ := row_slice O4.row
    obtain ⟨rw', rwc, rfl, _⟩ := row_slice O4'.row
    have ly2 : Hid (ps.length = (slotL ws slot).length) := by show _ = _; rw [← hy2]; simp
    have lz2 : Hid (qs.length = (restL ws slot).length) := by show _ = _; rw [← hz2]; simp
    have HY2 : Hid (ps.map XV.v = slotL ws slot ∧ qs.map XV.v = restL ws slot) := ⟨hy2, hz2⟩
    have ry2 : Hid (∀ b, inV (.slice pw ps.length pwc) ps b → w3.heap.size ≤ b) := by show ∀ b, _; intro b hb; exact (O4.lt hb).1
    have rz2 : Hid (∀ b, inV (.slice rw' qs.length rwc) qs b → w3.heap.size ≤ b) := by show ∀ b, _; intro b hb; exact (O4'.lt hb).1
    have E5 := E3.below hb4 E3.lt
    have G5 := G3.below hb4 G3.lt
    have V5 := O3.below hb4 (Nat.le_refl _)
    have V5' := O3'.below hb4 (Nat.le_refl _)
    have J5 := K1.below hb4
    have J5' := K2.below hb4
    have B5 : Below w.heap.size w w4 := B3.trans (hb4.mono B3.size)
    have n4 := hb4.size
    have Q5 := Q3.below hb4 Q3.lt
    have Y5 := Y3.below hb4 Y3.lt
    clear hy2 hz2 E3 G3 A3 S3 Q3 Y3 O3 O3' K1 K2 B3 hb4
    obtain ⟨q1, g1⟩ := E5.rules
    obtain ⟨q2, g2⟩ := G5.rules
    have E6 : Blk ((w4.setCell ⟨D1, 1, none⟩ (.slice pw ps.length pwc)).setCell ⟨D2, 1, none⟩ (.slice rw' qs.length rwc)) D1 #[.slice pv ys.length pvc, .slice pw ps.length pwc, x1] 82 := by have := (E5.set 1 (.slice pw ps.length pwc)).other (a := ⟨D2, 1, none⟩) (by simp; omega) (.slice rw' qs.length rwc); simpa using this
    have G6 : Blk ((w4.setCell ⟨D1, 1, none⟩ (.slice pw ps.length pwc)).setCell ⟨D2, 1, none⟩ (.slice rw' qs.length rwc)) D2 #[.slice rv zs.length rvc, .slice rw' qs.length rwc, x2] 82 := by have := (G5.other (a := ⟨D1, 1, none⟩) (by simp; omega) (.slice pw ps.length pwc)).set 1 (.slice rw' qs.length rwc); simpa using this
    have Q6 := (Q5.other (a := ⟨D1, 1, none⟩) (by simp; omega) (.slice pw ps.length pwc)).other (a := ⟨D2, 1, none⟩) (by simp; omega) (.slice rw' qs.length rwc)
    have Y6 := (Y5.other (a := ⟨D1, 1, none⟩) (by simp; omega) (.slice pw ps.length pwc)).other (a := ⟨D2, 1, none⟩) (by simp; omega) (.slice rw' qs.length rwc)
    have B6 := (B5.setCell (p := ⟨D1, 1, none⟩) (by simp; omega) (.slice pw ps.length pwc)).setCell (p := ⟨D2, 1, none⟩) (by simp; omega) (.slice rw' qs.length rwc)
    have V6 := (V5.setB (Z := D1) (j := 1) (u := .slice pw ps.length pwc) (by omega)).setB (Z := D2) (j := 1) (u := .slice rw' qs.length rwc) (by omega)
    have V6' := (V5'.setB (Z := D1) (j := 1) (u := .slice pw ps.length pwc) (by omega)).setB (Z := D2) (j := 1) (u := .slice rw' qs.length rwc) (by omega)
    have W6 := (O4.setB (Z := D1) (j := 1) (u := .slice pw ps.length pwc) (by omega)).setB (Z := D2) (j := 1) (u := .slice rw' qs.length rwc) (by omega)
    have W6' := (O4'.setB (Z := D1) (j := 1) (u := .slice pw ps.length pwc) (by omega)).setB (Z := D2) (j := 1) (u := .slice rw' qs.length rwc) (by omega)
    have J6 := (J5.set1 (v := .slice pw ps.length pwc) (j := 1) E5).set1 (v := .slice rw' qs.length rwc) (j := 1) (G5.other (a := ⟨D1, 1, none⟩) (by simp; omega) (.slice pw ps.length pwc))
    have J6' := (J5'.set1 (v := .slice pw ps.length pwc) (j := 1) E5).set1 (v := .slice rw' qs.length rwc) (j := 1) (G5.other (a := ⟨D1, 1, none⟩) (by simp; omega) (.slice pw ps.length pwc))
    have n6 : ((w4.setCell ⟨D1, 1, none⟩ (.slice pw ps.length pwc)).setCell ⟨D2, 1, none⟩ (.slice rw' qs.length rwc)).heap.size = w4.heap.size := by simp
    go_wp2_with fail
    clear q1 g1 q2 g2 E5 G5 Q5 Y5 B5 V5 V5' O4 O4' J5 J5'
    generalize ((w4.setCell ⟨D1, 1, none⟩ (.slice pw ps.length pwc)).setCell ⟨D2, 1, none⟩ (.slice rw' qs.length rwc)) = w6 at *
    obtain ⟨po, poc, rfl, R6⟩ := J6
    obtain ⟨ro, roc, rfl, R6'⟩ := J6'
    obtain ⟨q1, g1⟩ := E6.rules
    obtain ⟨q2, g2⟩ := G6.rules
    obtain ⟨q3, g3⟩ := Q6.rules
    obtain ⟨q4, g4⟩ := Y6.rules
    have P6 : OwnP w6 (w.heap.size + 4) pv pvc pw pwc po poc (slotL vs slot) (slotL ws slot) (os.filter (fun d => slotOf d.k == slot)) ys ps := own_parts V6 W6 R6 HY.out.1 HY2.out.1 (fun b hb => by have := ry.out b hb; omega) ri1.out (by omega) (by omega) (by omega) (by omega)
    have P6' : OwnP w6 (w.heap.size + 4) rv rvc rw' rwc ro roc (restL vs slot) (restL ws slot) (os.filter (fun d => !(slotOf d.k == slot))) zs qs := own_parts V6' W6' R6' HY.out.2 HY2.out.2 (fun b hb => by have := rz.out b hb; omega) ri2.out (by omega) (by omega) (by omega) (by omega)
    rw [ly.out] at q1 E6
    rw [ly2.out] at q1 E6
    rw [lz.out] at q2 G6
    rw [lz2.out] at q2 G6
    clear V6 V6' W6 W6' R6 R6' HY HY2 ry rz ri1 ri2 ry2 rz2 ly lz ly2 lz2
    go_region_with fail
    all_goals go_wp2_with fail
    all_goals
      refine bodyPost_ret (v := .tuple #[.agg #[.slice pv (slotL vs slot).length pvc, .slice pw (slotL ws slot).length pwc, .slice po (os.filter (fun d => slotOf d.k == slot)).length poc], .agg #[.slice rv (restL vs slot).length rvc, .slice rw' (restL ws slot).length rwc, .slice ro (os.filter (fun d => !(slotOf d.k == slot))).length roc]]) ?_ rfl ⟨pv, pvc, pw, pwc, po, poc, rv, rvc, rw', rwc, ro, roc, ys, ps, zs, qs, rfl, ?_, ?_, ?_⟩
      · refine Blk.gen2 (A := w.heap.size + 1 + 1) (B := w.heap.size + 1 + 1 + 1) (vs := #[.slice pv (slotL vs slot).length pvc, .slice pw (slotL ws slot).length pwc, .slice po (os.filter (fun d => slotOf d.k == slot)).length poc]) (us := #[.slice rv (restL vs slot).length rvc, .slice rw' (restL ws slot).length rwc, .slice ro (os.filter (fun d => !(slotOf d.k == slot))).length roc]) (T := 82) (T' := 82) (P := fun W => (results Tryz.f138 _).run Tryz.prog W = .ok _ W) (fill33 Q6 Y6 (by omega)).1 (fill33 Q6 Y6 (by omega)).2 ?_
        intro W hA hB
        obtain ⟨k1, f1⟩ := hA.rules
        obtain ⟨k2, f2⟩ := hB.rules
        simp [results, Tryz.results138, go_sem, k1, k2]
      · exact ((((((((P6.setB (by omega)).setB (by omega)).setB (by omega)).setB (by omega)).setB (by omega)).setB (by omega)).below (Below.refl _ _).drew (Nat.le_refl _))).mono (by omega)
      · exact ((((((((P6'.setB (by omega)).setB (by omega)).setB (by omega)).setB (by omega)).setB (by omega)).setB (by omega)).below (Below.refl _ _).drew (Nat.le_refl _))).mono (by omega)
      · exact (((((((B6.setCell (p := ⟨w.heap.size + 1 + 1, 0, none⟩) (by simp; omega) _).setCell (p := ⟨w.heap.size + 1 + 1, 1, none⟩) (by simp; omega) _).setCell (p := ⟨w.heap.size + 1 + 1, 2, none⟩) (by simp; omega) _).setCell (p := ⟨w.heap.size + 1 + 1 + 1, 0, none⟩) (by simp; omega) _).setCell (p := ⟨w.heap.size + 1 + 1 + 1, 1, none⟩) (by simp; omega) _).setCell (p := ⟨w.heap.size + 1 + 1 + 1, 2, none⟩) (by simp; omega) _)).drew
end Go.Proofs.YtpjidogilofppaaGreat
