/- The program's hosts: copies, and a server told. -/
import Derived.Test.YtpjidogilofppaaGreatGSX
import Derived.Test.YtpjidogilofppaaGreatZO
import Derived.Test.YtpjidogilofppaaGreatGAJ
namespace Go.Proofs.YtpjidogilofppaaGreat
open Go.ChangeShapes Go.WideShapes Go.ChangeAt Go.RowKit

theorem slots_cells_any {w : World} {x : Addr} {ds : List Sl} (h : Slots w (some x) ds) : ∀ (j : Nat) (u : Value), (flat2 ds)[j]? = some u → w.cell? (x.add j) = some u := by
  intro j u hj
  rcases h with rfl | ⟨b, o, he, hb, h⟩
  · simp [flat2] at hj
  · simp at he
    subst he
    exact slots_cells (.inr ⟨b, o, rfl, hb, h⟩) j u hj
/-- Slots, wherever they lie, appended to nothing. -/
theorem wpList_append_slots (w : World) {ops : Array Oper} {rest : List Oper} {o : Oper} {a : Act} {Q : Exit → Act → World → Prop} (hgd : o.guard = none) (s x : Operand)
    (ho : o.op = .call { callee := .builtin .append, args := #[s, x], argTypes := #[28, 28] })
    (base : Nat) (v0 : Value) (hs : a.eval s = v0) (h0 : w.ownsRow base 84 2 v0 0 []) (da : Option Addr) (dc : Nat) (ds : List Sl) (hx : a.eval x = .slice da ds.length dc) (hd : Slots w da ds) (hl : ds.length ≤ 1099511627776) (hb : base ≤ w.heap.size)
    (h : ∀ v' w', w'.ownsRow base 84 2 v' ds.length (flat2 ds) → w.grownBy w' v0.ownBlock → (v'.ownBlock = v0.ownBlock ∨ v'.ownBlock = some w.heap.size) → wpList Tryz.prog ops Q rest (a.put o.dst v') w') : wpList Tryz.prog ops Q (o :: rest) a w := by
  obtain ⟨i0, hi, hz0, hz1, hz2⟩ := info_parts infoSlot
  cases da with
  | none =>
    have hds : ds = [] := by
      rcases hd with hd | ⟨b, o, he, _⟩
      · exact hd
      · cases he
    subst hds
    refine wpList_plain hgd fun K hK => ?_
    have hrun := run_append_none (P := Tryz.prog) (w := w) base 28 o.type 84 i0 2 dc Tryz.underlying28 hi v0 0 [] h0
    unfold Oper.wp
    simp only [List.length_nil] at hx
    simp [execOp, ho, resolve, invoke, builtin, hs, hx, hrun, Result.andThen]
    exact hK _ _ (h v0 w (by simpa [flat2] using h0) (grown_refl _ _) (.inl rfl))
  | some ad =>
    refine wpList_append_own_at w hgd s x 28 ho base 84 i0 (.agg #[.int .i64 0, .int .i64 0]) 2 16 Tryz.underlying28 hi hz0 hz1 hz2 rfl (by decide) v0 0 [] hs h0 ad ds.length dc (flat2 ds) hx (flat2_len ds) (slots_cells_any hd) (flat2_one ds) (by unfold maxLen; omega) (by omega) hb fun v' w' h2 h3 _ h5 => h v' w' (by simpa using h2) h3 h5

set_option maxHeartbeats 1000000 in
theorem copyDeps_any (a : Option Addr) (cap : Nat) (ds : List D) (w : World) (hl : ds.length ≤ 1099511627776) (hd : Deps w a ds) :
    Calls Tryz.prog 126 #[.slice a ds.length cap] w fun e w' => ∃ pa pc, e = .returned (.slice pa ds.length pc) ∧ RowD w' w.heap.size (.slice pa ds.length pc) ds ∧ Below w.heap.size w w' := by
  have E3 : w.ownsRow w.heap.size 116 3 (.slice none 0 0) 0 [] := World.ownsRow_nil _ _ _ _
  go_enter Tryz.func126, Tryz.ntmps126
  go_wp2_with (first | (at_builtin; refine wpList_append_deps _ rfl _ _ rfl w.heap.size (.slice none 0 0) rfl E3 a cap ds rfl hd hl (Nat.le_refl _) ?_
                        intro v' w1 hrow hg hloc
                        obtain ⟨pa, pc, rfl, _⟩ := row_slice hrow
                        have B1 : Below w.heap.size w w1 := (Below.refl _ _).grown hg (Nat.le_refl _) (fun j hj => by simp [Value.ownBlock] at hj)
                        have HR : Hid (RowD w1 w.heap.size (.slice pa ds.length pc) ds) := hrow
                        clear hrow hg hloc E3))
  go_ret
  exact ⟨pa, pc, rfl, HR.out, B1⟩

/-- A host's cells. -/
abbrev hostC (site : Int) (up : Bool) (v w o k : Value) (s1 s2 s3 : Sl) : Array Value := #[v, w, o, .int .i64 site, .bool up, .int .i64 s1.ep, .int .i64 s1.st, .int .i64 s2.ep, .int .i64 s2.st, .int .i64 s3.ep, .int .i64 s3.st, k]
theorem host_slots {W : World} {B : Nat} {site : Int} {up : Bool} {v w o k : Value} {s1 s2 s3 : Sl} {T : TypeId} (h : Blk W B (hostC site up v w o k s1 s2 s3) T) : Slots W (some ⟨B, 5, none⟩) [s1, s2, s3] := by
  refine .inr ⟨B, 5, rfl, h.lt, fun i hi => ?_⟩
  have hi3 : i < 3 := hi
  have : i = 0 ∨ i = 1 ∨ i = 2 := by omega
  rcases this with rfl | rfl | rfl
  · exact ⟨h.cell 5, h.cell 6⟩
  · exact ⟨h.cell 7, h.cell 8⟩
  · exact ⟨h.cell 9, h.cell 10⟩
set_option maxHeartbeats 2000000 in
set_option maxRecDepth 20000 in
theorem server_any (site : Int) (up : Bool) (va wa oa ka : Option Addr) (vn vc wn wc on oc kn kc : Nat) (s1 s2 s3 : Sl) (w : World) :
    Calls Tryz.prog 50 #[.agg (hostC site up (.slice va vn vc) (.slice wa wn wc) (.slice oa on oc) (.slice ka kn kc) s1 s2 s3)] w fun e w' => ∃ pa pc, e = .returned (.agg #[.int .i64 site, .bool up, .slice pa 3 pc, .slice va vn vc, .slice wa wn wc, .slice oa on oc, .slice ka kn kc]) ∧ RowS w' w.heap.size (.slice pa 3 pc) [s1, s2, s3] ∧ Below w.heap.size w w' := by
  have A3 : Blk ((w.alloc (.cells (hostC site up (.slice va vn vc) (.slice wa wn wc) (.slice oa on oc) (.slice ka kn kc) s1 s2 s3) 88)).alloc (.cells #[.int .i64 0, .bool false, .slice none 0 0, .slice none 0 0, .slice none 0 0, .slice none 0 0, .slice none 0 0] 32)) w.heap.size (hostC site up (.slice va vn vc) (.slice wa wn wc) (.slice oa on oc) (.slice ka kn kc) s1 s2 s3) 88 := (Blk.new w _ _).alloc _
  have Z3 : Blk ((w.alloc (.cells (hostC site up (.slice va vn vc) (.slice wa wn wc) (.slice oa on oc) (.slice ka kn kc) s1 s2 s3) 88)).alloc (.cells #[.int .i64 0, .bool false, .slice none 0 0, .slice none 0 0, .slice none 0 0, .slice none 0 0, .slice none 0 0] 32)) (w.heap.size + 1) #[.int .i64 0, .bool false, .slice none 0 0, .slice none 0 0, .slice none 0 0, .slice none 0 0, .slice none 0 0] 32 := by have := Blk.new (w.alloc (.cells (hostC site up (.slice va vn vc) (.slice wa wn wc) (.slice oa on oc) (.slice ka kn kc) s1 s2 s3) 88)) #[.int .i64 0, .bool false, .slice none 0 0, .slice none 0 0, .slice none 0 0, .slice none 0 0, .slice none 0 0] 32; simpa using this
  have B3 : Below w.heap.size w ((w.alloc (.cells (hostC site up (.slice va vn vc) (.slice wa wn wc) (.slice oa on oc) (.slice ka kn kc) s1 s2 s3) 88)).alloc (.cells #[.int .i64 0, .bool false, .slice none 0 0, .slice none 0 0, .slice none 0 0, .slice none 0 0, .slice none 0 0] 32)) := ((Below.refl _ _).alloc (Nat.le_refl _) _).alloc (by simp) _
  have E3 : ((w.alloc (.cells (hostC site up (.slice va vn vc) (.slice wa wn wc) (.slice oa on oc) (.slice ka kn kc) s1 s2 s3) 88)).alloc (.cells #[.int .i64 0, .bool false, .slice none 0 0, .slice none 0 0, .slice none 0 0, .slice none 0 0, .slice none 0 0] 32)).ownsRow w.heap.size 84 2 (.slice none 0 0) 0 [] := World.ownsRow_nil _ _ _ _
  have D3 := host_slots A3
  have S3 := B3.size
  go_enter Tryz.func50, Tryz.ntmps50
  go_wp2_with (first | (at_builtin; refine wpList_append_slots _ rfl _ _ rfl w.heap.size (.slice none 0 0) rfl E3 _ 3 [s1, s2, s3] rfl D3 (by simp) S3 ?_
                        intro v' w1 hrow hg hloc
                        obtain ⟨pa, pc, rfl, _⟩ := row_slice hrow
                        have A4 := A3.grown hg (by simp [Value.ownBlock])
                        have Z4 := Z3.grown hg (by simp [Value.ownBlock])
                        have B4 : Below w.heap.size w w1 := B3.grown hg S3 (fun j hj => by simp [Value.ownBlock] at hj)
                        have hnA : ∀ j, (Value.slice pa 3 pc).ownBlock = some j → j ≠ w.heap.size + 1 := fun j hj => by
                          rcases hloc with hl | hl
                          · have hl' : (Value.slice pa 3 pc).ownBlock = (Value.slice none 0 0).ownBlock := hl
                            rw [hl'] at hj; simp [Value.ownBlock] at hj
                          · have hl' : (Value.slice pa 3 pc).ownBlock = some _ := hl
                            rw [hl'] at hj; simp at hj; omega
                        have HR : Hid (RowS w1 w.heap.size (.slice pa 3 pc) [s1, s2, s3]) := hrow
                        obtain ⟨q1, g1⟩ := A4.rules
                        obtain ⟨q3, g3⟩ := Z4.rules
                        clear A3 Z3 B3 E3 D3 S3 hg hloc hrow))
  refine bodyPost_ret (v := .agg #[.int .i64 site, .bool up, .slice pa 3 pc, .slice va vn vc, .slice wa wn wc, .slice oa on oc, .slice ka kn kc]) ?_ rfl ⟨pa, pc, rfl, ?_, fill7_below B4 (by omega)⟩
  · refine Blk.gen (B := w.heap.size + 1) (vs := #[.int .i64 site, .bool up, .slice pa 3 pc, .slice va vn vc, .slice wa wn wc, .slice oa on oc, .slice ka kn kc]) (T := 32) ?_ (P := fun W => (results Tryz.f50 _).run Tryz.prog W = .ok _ W) ?_
    · exact Blk.fill7 Z4
    intro W hW
    obtain ⟨k, f⟩ := hW.rules
    simp [results, Tryz.results50, go_sem, k]
  · exact row_fill7 HR.out hnA
end Go.Proofs.YtpjidogilofppaaGreat
