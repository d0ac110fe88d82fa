/- 3 texts in one: CopyV, VersW, VersW2. -/
import Derived.Test.YtpjidogilofppaaGreatGAK
import Derived.Test.YtpjidogilofppaaGreatZV
import Derived.Maps.AppendAt
/- Versions are copied. -/
namespace Go.Proofs.YtpjidogilofppaaGreat
open Go.ChangeShapes Go.WideShapes Go.ChangeAt Go.RowKit

theorem Blk.grown {w w' : World} {B : Nat} {vs : Array Value} {T : TypeId} {row : Option Nat} (h : Blk w B vs T) (g : w.grownBy w' row) (hne : some B ≠ row) : Blk w' B vs T := (g.block B h.lt hne).trans h

theorem run_append_none {P : Program} {w : World} (base : Nat) (t ty e : TypeId) (i : TypeInfo) (size c : Nat) (ht : P.underlying t = some (.slice e)) (hi : P.info? e = some i)
    (v : Value) (n : Nat) (xs : List Value) (hown : w.ownsRow base e size v n xs) :
    (Builtin.append_ #[t, t] ty #[v, .slice none 0 c]).run P w = .ok v w := by
  rcases hown.2 with ⟨rfl, rfl⟩ | ⟨g, cap, cur, rfl, _, _, hnc, _⟩
  · simp [Builtin.append_, run_underlying ht, sizeOf, typeInfo, hi, Builtin.lenOf, Builtin.firstCells]
  · simp [Builtin.append_, run_underlying ht, sizeOf, typeInfo, hi, Builtin.lenOf, Builtin.firstCells, hnc, storeCells]

theorem deps_cells_any {w : World} {x : Addr} {ds : List D} (h : Deps w (some x) ds) : ∀ (j : Nat) (u : Value), (flat3 ds)[j]? = some u → w.cell? (x.add j) = some u := by
  intro j u hj
  rcases h with rfl | ⟨b, o, he, hb, h⟩
  · simp [flat3] at hj
  · simp at he
    subst he
    exact deps_cells (.inr ⟨b, o, rfl, hb, h⟩) j u hj

/-- Deps, wherever they lie, appended to nothing. -/
theorem wpList_append_deps (w : World) {ops : Array Oper} {rest : List Oper} {o : Oper} {a : Act} {Q : Exit → Act → World → Prop} (hgd : o.guard = none) (s x : Operand)
    (ho : o.op = .call { callee := .builtin .append, args := #[s, x], argTypes := #[30, 30] })
    (base : Nat) (v0 : Value) (hs : a.eval s = v0) (h0 : w.ownsRow base 116 3 v0 0 []) (da : Option Addr) (dc : Nat) (ds : List D) (hx : a.eval x = .slice da ds.length dc) (hd : Deps w da ds) (hl : ds.length ≤ 1099511627776) (hb : base ≤ w.heap.size)
    (h : ∀ v' w', w'.ownsRow base 116 3 v' ds.length (flat3 ds) → w.grownBy w' v0.ownBlock → (v'.ownBlock = v0.ownBlock ∨ v'.ownBlock = some w.heap.size) → wpList Tryz.prog ops Q rest (a.put o.dst v') w') : wpList Tryz.prog ops Q (o :: rest) a w := by
  obtain ⟨i0, hi, hz0, hz1, hz2⟩ := info_parts infoDep
  cases da with
  | none =>
    have hds : ds = [] := by
      rcases hd with hd | ⟨b, o, he, _⟩
      · exact hd
      · cases he
    subst hds
    refine wpList_plain hgd fun K hK => ?_
    have hrun := run_append_none (P := Tryz.prog) (w := w) base 30 o.type 116 i0 3 dc Tryz.underlying30 hi v0 0 [] h0
    unfold Oper.wp
    simp only [List.length_nil] at hx
    simp [execOp, ho, resolve, invoke, builtin, hs, hx, hrun, Result.andThen]
    exact hK _ _ (h v0 w (by simpa [flat3] using h0) (grown_refl _ _) (.inl rfl))
  | some ad =>
    refine wpList_append_own_at w hgd s x 30 ho base 116 i0 (.agg #[.int .i64 0, .int .i64 0, .int .i64 0]) 3 24 Tryz.underlying30 hi hz0 hz1 hz2 rfl (by decide) v0 0 [] hs h0 ad ds.length dc (flat3 ds) hx (flat3_len ds) (deps_cells_any hd) (flat3_one ds) (by unfold maxLen; omega) (by omega) hb fun v' w' h2 h3 _ h5 => h v' w' (by simpa using h2) h3 h5

theorem fill7_below {n : Nat} {a w : World} {Z : Nat} {v0 v1 v2 v3 v4 v5 v6 : Value} (h : Below n a w) (hZ : n ≤ Z) : Below n a (((((((w.setCell ⟨Z, 0, none⟩ v0).setCell ⟨Z, 1, none⟩ v1).setCell ⟨Z, 2, none⟩ v2).setCell ⟨Z, 3, none⟩ v3).setCell ⟨Z, 4, none⟩ v4).setCell ⟨Z, 5, none⟩ v5).setCell ⟨Z, 6, none⟩ v6) :=
  ((((((h.setCell (p := ⟨Z, 0, none⟩) hZ _).setCell (p := ⟨Z, 1, none⟩) hZ _).setCell (p := ⟨Z, 2, none⟩) hZ _).setCell (p := ⟨Z, 3, none⟩) hZ _).setCell (p := ⟨Z, 4, none⟩) hZ _).setCell (p := ⟨Z, 5, none⟩) hZ _).setCell (p := ⟨Z, 6, none⟩) hZ _

set_option maxHeartbeats 2000000 in
theorem sCopy_any (v : V) (da : Option Addr) (dc : Nat) (w : World) (hl : v.ds.length ≤ 1099511627776) (hd : Deps w da v.ds) :
    Calls Tryz.prog 104 #[verV v.k v.t v.s v.val v.cl v.ca da v.ds.length dc] w fun e w' => ∃ pa pc, e = .returned (verV v.k v.t v.s v.val v.cl v.ca pa v.ds.length pc) ∧ w'.ownsRow w.heap.size 116 3 (.slice pa v.ds.length pc) v.ds.length (flat3 v.ds) ∧ Below w.heap.size w w' := by
  obtain ⟨k, t, s, val, cl, ca, ds⟩ := v
  simp only at hl hd ⊢
  have A3 : Blk (((w.alloc (.cells #[.int .i64 k, .int .i64 t, .int .i64 s, .int .i64 val, .int .i64 cl, .int .i64 ca, .slice da ds.length dc] 107)).alloc (.cells #[.int .i64 0, .int .i64 0, .int .i64 0, .int .i64 0, .int .i64 0, .int .i64 0, .slice none 0 0] 107)).alloc (.cells #[] 116)) w.heap.size #[.int .i64 k, .int .i64 t, .int .i64 s, .int .i64 val, .int .i64 cl, .int .i64 ca, .slice da ds.length dc] 107 := ((Blk.new w _ _).alloc _).alloc _
  have Z3 : Blk (((w.alloc (.cells #[.int .i64 k, .int .i64 t, .int .i64 s, .int .i64 val, .int .i64 cl, .int .i64 ca, .slice da ds.length dc] 107)).alloc (.cells #[.int .i64 0, .int .i64 0, .int .i64 0, .int .i64 0, .int .i64 0, .int .i64 0, .slice none 0 0] 107)).alloc (.cells #[] 116)) (w.heap.size + 1) #[.int .i64 0, .int .i64 0, .int .i64 0, .int .i64 0, .int .i64 0, .int .i64 0, .slice none 0 0] 107 := by have := (Blk.new (w.alloc (.cells #[.int .i64 k, .int .i64 t, .int .i64 s, .int .i64 val, .int .i64 cl, .int .i64 ca, .slice da ds.length dc] 107)) #[.int .i64 0, .int .i64 0, .int .i64 0, .int .i64 0, .int .i64 0, .int .i64 0, .slice none 0 0] 107).alloc (.cells #[] 116); simpa using this
  have B3 : Below w.heap.size w (((w.alloc (.cells #[.int .i64 k, .int .i64 t, .int .i64 s, .int .i64 val, .int .i64 cl, .int .i64 ca, .slice da ds.length dc] 107)).alloc (.cells #[.int .i64 0, .int .i64 0, .int .i64 0, .int .i64 0, .int .i64 0, .int .i64 0, .slice none 0 0] 107)).alloc (.cells #[] 116)) := (((Below.refl _ w).alloc (Nat.le_refl _) _).alloc (by simp) _).alloc (by simp; omega) _
  have E3 : (((w.alloc (.cells #[.int .i64 k, .int .i64 t, .int .i64 s, .int .i64 val, .int .i64 cl, .int .i64 ca, .slice da ds.length dc] 107)).alloc (.cells #[.int .i64 0, .int .i64 0, .int .i64 0, .int .i64 0, .int .i64 0, .int .i64 0, .slice none 0 0] 107)).alloc (.cells #[] 116)).ownsRow w.heap.size 116 3 (.slice (some ⟨w.heap.size + 1 + 1, 0, none⟩) 0 0) 0 [] := by have := World.ownsRow_made (base := w.heap.size) (e := 116) (size := 3) ((w.alloc (.cells #[.int .i64 k, .int .i64 t, .int .i64 s, .int .i64 val, .int .i64 cl, .int .i64 ca, .slice da ds.length dc] 107)).alloc (.cells #[.int .i64 0, .int .i64 0, .int .i64 0, .int .i64 0, .int .i64 0, .int .i64 0, .slice none 0 0] 107)) #[] 0 (by simp; omega) (by unfold maxLen; omega) rfl; simpa using this
  have D3 := hd.below B3
  have S3 := B3.size
  go_enter Tryz.func104, Tryz.ntmps104
  go_wp2_with (first | (at_builtin; refine wpList_append_deps _ rfl _ _ rfl w.heap.size (.slice (some ⟨w.heap.size + 1 + 1, 0, none⟩) 0 0) rfl E3 da dc ds rfl D3 hl S3 ?_
                        intro v' w1 hrow hg hloc
                        obtain ⟨pa, pc, rfl, _⟩ := row_slice hrow
                        have A4 := A3.grown hg (by simp [Value.ownBlock] <;> omega)
                        have Z4 := Z3.grown hg (by simp [Value.ownBlock])
                        have B4 : Below w.heap.size w w1 := B3.grown hg S3 (fun j hj => by simp [Value.ownBlock] at hj <;> omega)
                        have hnA : ∀ j, (Value.slice pa ds.length pc).ownBlock = some j → j ≠ w.heap.size ∧ j ≠ w.heap.size + 1 := fun j hj => by
                          rcases hloc with hl | hl <;> rw [hl] at hj <;> simp [Value.ownBlock] at hj <;> simp <;> omega
                        have R5 := row_set hrow (A := w.heap.size) (i := 6) (fun j hj => (hnA j hj).1) (.slice pa ds.length pc)
                        have A5 := A4.set 6 (.slice pa ds.length pc)
                        have Z5 := Z4.other (a := ⟨w.heap.size, 6, none⟩) (by simp) (.slice pa ds.length pc)
                        have B5 := B4.setCell (p := ⟨w.heap.size, 6, none⟩) (by simp) (.slice pa ds.length pc)
                        obtain ⟨q1, g1⟩ := A4.rules
                        simp at A5
                        obtain ⟨q2, g2⟩ := A5.rules
                        obtain ⟨q3, g3⟩ := Z5.rules
                        clear A3 Z3 B3 E3 D3 S3 hg hloc A4 Z4))
  refine bodyPost_ret (v := verV k t s val cl ca pa ds.length pc) ?_ rfl ⟨pa, pc, rfl, row_fill7 R5 (fun j hj => (hnA j hj).2), fill7_below B5 (by omega)⟩
  refine Blk.gen (B := w.heap.size + 1) (vs := #[.int .i64 k, .int .i64 t, .int .i64 s, .int .i64 val, .int .i64 cl, .int .i64 ca, .slice pa ds.length pc]) (T := 107) ?_ (P := fun W => (results Tryz.f104 _).run Tryz.prog W = .ok _ W) ?_
  · exact Blk.fill7 Z5
  intro W hW
  obtain ⟨k, f⟩ := hW.rules
  simp [results, Tryz.results104, go_sem, k]

set_option maxHeartbeats 2000000 in
theorem iCopy_any (v : V) (da : Option Addr) (dc : Nat) (w : World) (hl : v.ds.length ≤ 1099511627776) (hd : Deps w da v.ds) :
    Calls Tryz.prog 181 #[verV v.k v.t v.s v.val v.cl v.ca da v.ds.length dc] w fun e w' => ∃ pa pc, e = .returned (verV v.k v.t v.s v.val v.cl v.ca pa v.ds.length pc) ∧ w'.ownsRow w.heap.size 116 3 (.slice pa v.ds.length pc) v.ds.length (flat3 v.ds) ∧ Below w.heap.size w w' := by
  obtain ⟨k, t, s, val, cl, ca, ds⟩ := v
  simp only at hl hd ⊢
  have A3 : Blk ((w.alloc (.cells #[.int .i64 k, .int .i64 t, .int .i64 s, .int .i64 val, .int .i64 cl, .int .i64 ca, .slice da ds.length dc] 107)).alloc (.cells #[.int .i64 0, .int .i64 0, .int .i64 0, .int .i64 0, .int .i64 0, .int .i64 0, .slice none 0 0] 107)) w.heap.size #[.int .i64 k, .int .i64 t, .int .i64 s, .int .i64 val, .int .i64 cl, .int .i64 ca, .slice da ds.length dc] 107 := ((Blk.new w _ _).alloc _)
  have Z3 : Blk ((w.alloc (.cells #[.int .i64 k, .int .i64 t, .int .i64 s, .int .i64 val, .int .i64 cl, .int .i64 ca, .slice da ds.length dc] 107)).alloc (.cells #[.int .i64 0, .int .i64 0, .int .i64 0, .int .i64 0, .int .i64 0, .int .i64 0, .slice none 0 0] 107)) (w.heap.size + 1) #[.int .i64 0, .int .i64 0, .int .i64 0, .int .i64 0, .int .i64 0, .int .i64 0, .slice none 0 0] 107 := by have := (Blk.new (w.alloc (.cells #[.int .i64 k, .int .i64 t, .int .i64 s, .int .i64 val, .int .i64 cl, .int .i64 ca, .slice da ds.length dc] 107)) #[.int .i64 0, .int .i64 0, .int .i64 0, .int .i64 0, .int .i64 0, .int .i64 0, .slice none 0 0] 107); simpa using this
  have B3 : Below w.heap.size w ((w.alloc (.cells #[.int .i64 k, .int .i64 t, .int .i64 s, .int .i64 val, .int .i64 cl, .int .i64 ca, .slice da ds.length dc] 107)).alloc (.cells #[.int .i64 0, .int .i64 0, .int .i64 0, .int .i64 0, .int .i64 0, .int .i64 0, .slice none 0 0] 107)) := (((Below.refl _ w).alloc (Nat.le_refl _) _).alloc (by simp) _)
  have E3 : ((w.alloc (.cells #[.int .i64 k, .int .i64 t, .int .i64 s, .int .i64 val, .int .i64 cl, .int .i64 ca, .slice da ds.length dc] 107)).alloc (.cells #[.int .i64 0, .int .i64 0, .int .i64 0, .int .i64 0, .int .i64 0, .int .i64 0, .slice none 0 0] 107)).ownsRow w.heap.size 116 3 (.slice none 0 0) 0 [] := World.ownsRow_nil _ _ _ _
  have D3 := hd.below B3
  have S3 := B3.size
  go_enter Tryz.func181, Tryz.ntmps181
  go_wp2_with (first | (at_builtin; refine wpList_append_deps _ rfl _ _ rfl w.heap.size (.slice none 0 0) rfl E3 da dc ds rfl D3 hl S3 ?_
                        intro v' w1 hrow hg hloc
                        obtain ⟨pa, pc, rfl, _⟩ := row_slice hrow
                        have A4 := A3.grown hg (by simp [Value.ownBlock])
                        have Z4 := Z3.grown hg (by simp [Value.ownBlock])
                        have B4 : Below w.heap.size w w1 := B3.grown hg S3 (fun j hj => by simp [Value.ownBlock] at hj)
                        have hnA : ∀ j, (Value.slice pa ds.length pc).ownBlock = some j → j ≠ w.heap.size ∧ j ≠ w.heap.size + 1 := fun j hj => by
                          rcases hloc with hl | hl <;> rw [hl] at hj <;> simp [Value.ownBlock] at hj <;> simp <;> omega
                        have R5 := row_set hrow (A := w.heap.size) (i := 6) (fun j hj => (hnA j hj).1) (.slice pa ds.length pc)
                        have A5 := A4.set 6 (.slice pa ds.length pc)
                        have Z5 := Z4.other (a := ⟨w.heap.size, 6, none⟩) (by simp) (.slice pa ds.length pc)
                        have B5 := B4.setCell (p := ⟨w.heap.size, 6, none⟩) (by simp) (.slice pa ds.length pc)
                        obtain ⟨q1, g1⟩ := A4.rules
                        simp at A5
                        obtain ⟨q2, g2⟩ := A5.rules
                        obtain ⟨q3, g3⟩ := Z5.rules
                        clear A3 Z3 B3 E3 D3 S3 hg hloc A4 Z4))
  refine bodyPost_ret (v := verV k t s val cl ca pa ds.length pc) ?_ rfl ⟨pa, pc, rfl, row_fill7 R5 (fun j hj => (hnA j hj).2), fill7_below B5 (by omega)⟩
  refine Blk.gen (B := w.heap.size + 1) (vs := #[.int .i64 k, .int .i64 t, .int .i64 s, .int .i64 val, .int .i64 cl, .int .i64 ca, .slice pa ds.length pc]) (T := 107) ?_ (P := fun W => (results Tryz.f181 _).run Tryz.prog W = .ok _ W) ?_
  · exact Blk.fill7 Z5
  intro W hW
  obtain ⟨k, f⟩ := hW.rules
  simp [results, Tryz.results181, go_sem, k]

end Go.Proofs.YtpjidogilofppaaGreat

/- Lists of versions are copied; one more is put in its place. -/
namespace Go.Proofs.YtpjidogilofppaaGreat
open Go.ChangeShapes Go.WideShapes Go.ChangeAt Go.RowKit

/-- A version that was laid in a block of its own is appended to versions of the call's own. -/
theorem wpList_append_ver (w : World) {ops : Array Oper} {rest : List Oper} {o : Oper} {a : Act} {Q : Exit → Act → World → Prop} (hgd : o.guard = none) (s x : Operand)
    (ho : o.op = .call { callee := .builtin .append, args := #[s, x], argTypes := #[29, 29] })
    (base : Nat) (v : Value) (ys : List XV) (hs : a.eval s = v) (hO : OwnV w base v ys) (y : XV) (g : Nat) (hx : a.eval x = .slice (some ⟨g, 0, none⟩) 1 1)
    (hB : Blk w g #[.int .i64 y.v.k, .int .i64 y.v.t, .int .i64 y.v.s, .int .i64 y.v.val, .int .i64 y.v.cl, .int .i64 y.v.ca, y.p] 107)
    (hd : w.ownsRow base 116 3 y.p y.v.ds.length (flat3 y.v.ds)) (hl : y.v.ds.length ≤ 1099511627776) (ha : ∀ z ∈ ys, ApartV z.p y.p) (hn : ys.length ≤ 1099511627776) (hb : base ≤ w.heap.size)
    (h : ∀ v' w', OwnV w' base v' (ys ++ [y]) → w.grownBy w' v.ownBlock → wpList Tryz.prog ops Q rest (a.put o.dst v') w') : wpList Tryz.prog ops Q (o :: rest) a w := by
  obtain ⟨i0, hi, hz0, hz1, hz2⟩ := info_parts infoVer
  refine wpList_append_own w hgd s x 29 ho base 107 i0 (.agg #[.int .i64 0, .int .i64 0, .int .i64 0, .int .i64 0, .int .i64 0, .int .i64 0, .slice none 0 0]) 7 72 Tryz.underlying29 hi hz0 hz1 hz2 rfl (by decide) v ys.length (flat7 ys) hs hO.row ⟨g, 0, none⟩ 1 1 (flat7 [y]) hx rfl (cells7 hB) (flat7_one fun z hz => ?_) (by unfold maxLen; omega) (by omega) hb fun v' w' h2 h3 _ => h v' w' (hO.snoc h3 h2 hd hl ha) h3
  simp at hz
  subst hz
  exact (good_of_row hd hl).one

set_option maxHeartbeats 2000000 in
theorem sVers_any (a : Option Addr) (cap : Nat) (vs : List V) (w : World) (hn : vs.length ≤ 1099511627776) (h : Vers w a vs) :
    Calls Tryz.prog 116 #[.slice a vs.length cap] w fun e w' => ∃ v ys, e = .returned v ∧ OwnV w' w.heap.size v ys ∧ ys.map XV.v = vs ∧ Below w.heap.size w w' := by
  have O0 : OwnV (w.alloc (.cells #[] 107)) w.heap.size (.slice (some ⟨w.heap.size, 0, none⟩) 0 0) [] := ⟨World.ownsRow_made w #[] 0 (Nat.le_refl _) (by unfold maxLen; omega) rfl, fun _ h => (by cases h), List.Pairwise.nil⟩
  have B0 : Below w.heap.size w (w.alloc (.cells #[] 107)) := (Below.refl _ _).alloc (Nat.le_refl _) _
  go_enter Tryz.func116, Tryz.ntmps116
  go_wp2
  go_loopw [3, 4] (fun u i wr => ∃ (k : Nat) (ys : List XV), k ≤ vs.length ∧ i = .int .i64 k ∧ Hid (ys.map XV.v = vs.take k) ∧ OwnV wr w.heap.size u ys ∧ Below w.heap.size w wr) (fun _ i _ => vs.length - (intOf i).toNat)
  case atStart => exact ⟨0, [], Nat.zero_le _, rfl, rfl, O0, B0⟩
  case round =>
    obtain ⟨k, ys, hk, rfl, HY, hO, hB⟩ := hrel
    clear O0 B0
    by_cases hlt : k < vs.length
    · obtain ⟨b, o, da, dc, rfl, hbb, hv⟩ := (h.below hB).at hlt
      have HS : Hid (vs.take (k + 1) = vs.take k ++ [vs[k]]) := takeV vs k hlt
      have hyl : ys.length ≤ 1099511627776 := by have := congrArg List.length HY.out; simp at this; omega
      obtain ⟨c0, c1, c2, c3, c4, c5, c6, hd, hdl⟩ := hv
      generalize vs[k] = v at *
      go_wp2_with fail
      refine (sCopy_any v da dc _ hdl hd).mono ?_
      rintro e w2 ⟨pa, pc, rfl, hrow, hb2⟩
      have hO2 := (hO.below hb2 (Nat.le_refl _)).alloc (.cells #[.int .i64 v.k, .int .i64 v.t, .int .i64 v.s, .int .i64 v.val, .int .i64 v.cl, .int .i64 v.ca, .slice pa v.ds.length pc] 107)
      have hB2 : Below w.heap.size w w2 := hB.trans (hb2.mono hB.size)
      have hB3 := hB2.alloc hB2.size (.cells #[.int .i64 v.k, .int .i64 v.t, .int .i64 v.s, .int .i64 v.val, .int .i64 v.cl, .int .i64 v.ca, .slice pa v.ds.length pc] 107)
      have hap : ∀ z ∈ ys, ApartV z.p (.slice pa v.ds.length pc) := fun z hz => apart_new (hO.deps z hz).1 hrow (Nat.le_refl _)
      have hrow3 := row_mono (hrow.alloc (.cells #[.int .i64 v.k, .int .i64 v.t, .int .i64 v.s, .int .i64 v.val, .int .i64 v.cl, .int .i64 v.ca, .slice pa v.ds.length pc] 107)) hB.size
      have hN := Blk.new w2 #[.int .i64 v.k, .int .i64 v.t, .int .i64 v.s, .int .i64 v.val, .int .i64 v.cl, .int .i64 v.ca, .slice pa v.ds.length pc] 107
      have hs3 := hB3.size
      clear hrow hb2 c0 c1 c2 c3 c4 c5 c6 hd hO hB hB2 h
      go_wp2_with (first | (at_builtin
                            refine wpList_append_ver _ rfl _ _ rfl w.heap.size _ ys rfl hO2 ⟨v, .slice pa v.ds.length pc⟩ w2.heap.size rfl hN hrow3 hdl hap hyl hs3 ?_
                            intro v' w3 hO3 hg3
                            have hB4 : Below w.heap.size w w3 := hB3.grown hg3 hs3 (fun j hj => (hO2.row.lt j hj).1)
                            clear hg3 hO2 hap hrow3 hN hB3))
      go_roundw
      case rel => exact ⟨k + 1, _, by omega, by go_num, by show List.map XV.v _ = _; rw [HS.out, List.map_append, HY.out]; rfl, hO3, hB4⟩
      case measure => simp [intOf]; omega
    · have hk2 : k = vs.length := by omega
      subst hk2
      rw [List.take_length] at HY
      go_wp2
      go_ret
      exact ⟨_, ys, rfl, hO, HY.out, hB⟩
end Go.Proofs.YtpjidogilofppaaGreat

/- The program's copies of versions. -/
namespace Go.Proofs.YtpjidogilofppaaGreat
open Go.ChangeShapes Go.WideShapes Go.ChangeAt Go.RowKit

set_option maxHeartbeats 2000000 in
theorem iVers_any (a : Option Addr) (cap : Nat) (vs : List V) (w : World) (hn : vs.length ≤ 1099511627776) (h : Vers w a vs) :
    Calls Tryz.prog 125 #[.slice a vs.length cap] w fun e w' => ∃ v ys, e = .returned v ∧ OwnV w' w.heap.size v ys ∧ ys.map XV.v = vs ∧ Below w.heap.size w w' := by
  go_enter Tryz.func125, Tryz.ntmps125
  go_wp2
  go_loopw [3, 8] (fun u i wr => ∃ (k : Nat) (ys : List XV), k ≤ vs.length ∧ i = .int .i64 k ∧ Hid (ys.map XV.v = vs.take k) ∧ OwnV wr w.heap.size u ys ∧ Below w.heap.size w wr) (fun _ i _ => vs.length - (intOf i).toNat)
  case atStart => exact ⟨0, [], Nat.zero_le _, rfl, rfl, OwnV.nil _ _, Below.refl _ _⟩
  case round =>
    obtain ⟨k, ys, hk, rfl, HY, hO, hB⟩ := hrel
    by_cases hlt : k < vs.length
    · obtain ⟨b, o, da, dc, rfl, hbb, hv⟩ := (h.below hB).at hlt
      have HS : Hid (vs.take (k + 1) = vs.take k ++ [vs[k]]) := takeV vs k hlt
      have hyl : ys.length ≤ 1099511627776 := by have := congrArg List.length HY.out; simp at this; omega
      obtain ⟨c0, c1, c2, c3, c4, c5, c6, hd, hdl⟩ := hv
      generalize vs[k] = v at *
      have hO1 := hO.alloc (.cells #[.int .i64 v.k, .int .i64 v.t, .int .i64 v.s, .int .i64 v.val, .int .i64 v.cl, .int .i64 v.ca, .slice da v.ds.length dc] 107)
      have hB1 := hB.alloc hB.size (.cells #[.int .i64 v.k, .int .i64 v.t, .int .i64 v.s, .int .i64 v.val, .int .i64 v.cl, .int .i64 v.ca, .slice da v.ds.length dc] 107)
      have hd1 := hd.below ((Below.refl _ wr).alloc (Nat.le_refl _) (.cells #[.int .i64 v.k, .int .i64 v.t, .int .i64 v.s, .int .i64 v.val, .int .i64 v.cl, .int .i64 v.ca, .slice da v.ds.length dc] 107))
      go_wp2_with fail
      clear hO hB hd
      refine (iCopy_any v da dc _ hdl hd1).mono ?_
      rintro e w2 ⟨pa, pc, rfl, hrow, hb2⟩
      have hO2 := (hO1.below hb2 (Nat.le_refl _)).alloc (.cells #[.int .i64 v.k, .int .i64 v.t, .int .i64 v.s, .int .i64 v.val, .int .i64 v.cl, .int .i64 v.ca, .slice pa v.ds.length pc] 107)
      have hB2 : Below w.heap.size w w2 := hB1.trans (hb2.mono hB1.size)
      have hB3 := hB2.alloc hB2.size (.cells #[.int .i64 v.k, .int .i64 v.t, .int .i64 v.s, .int .i64 v.val, .int .i64 v.cl, .int .i64 v.ca, .slice pa v.ds.length pc] 107)
      have hap : ∀ z ∈ ys, ApartV z.p (.slice pa v.ds.length pc) := fun z hz => apart_new (hO1.deps z hz).1 hrow (Nat.le_refl _)
      have hrow3 := row_mono (hrow.alloc (.cells #[.int .i64 v.k, .int .i64 v.t, .int .i64 v.s, .int .i64 v.val, .int .i64 v.cl, .int .i64 v.ca, .slice pa v.ds.length pc] 107)) hB1.size
      have hN := Blk.new w2 #[.int .i64 v.k, .int .i64 v.t, .int .i64 v.s, .int .i64 v.val, .int .i64 v.cl, .int .i64 v.ca, .slice pa v.ds.length pc] 107
      have hs3 := hB3.size
      clear hrow hb2 hO1 hB1 hB2 c0 c1 c2 c3 c4 c5 c6 hd1 h
      go_wp2_with (first | (at_builtin
                            refine wpList_append_ver _ rfl _ _ rfl w.heap.size _ ys rfl hO2 ⟨v, .slice pa v.ds.length pc⟩ w2.heap.size rfl hN hrow3 hdl hap hyl hs3 ?_
                            intro v' w3 hO3 hg3
                            have hB4 : Below w.heap.size w w3 := hB3.grown hg3 hs3 (fun j hj => (hO2.row.lt j hj).1)
                            clear hg3 hO2 hap hrow3 hN hB3 hs3))
      go_roundw
      case rel => exact ⟨k + 1, _, by omega, by go_num, by show List.map XV.v _ = _; rw [HS.out, List.map_append, HY.out]; rfl, hO3, hB4⟩
      case measure => simp [intOf]; omega
    · have hk2 : k = vs.length := by omega
      subst hk2
      rw [List.take_length] at HY
      go_wp2
      go_ret
      exact ⟨_, ys, rfl, hO, HY.out, hB⟩
end Go.Proofs.YtpjidogilofppaaGreat

