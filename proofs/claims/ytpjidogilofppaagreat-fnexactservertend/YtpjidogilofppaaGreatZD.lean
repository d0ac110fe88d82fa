/- 13 texts in one: Pick, Bits, Far, Rd, Open, Stamp, SPut, SPut2, DrawDeps, DrawVer, SPutC, DrawC, DrawCT. -/
import Derived.Test.YtpjidogilofppaaGreatZA
import Derived.Laws.Bits64
import Derived.WalkKit
import Derived.Test.YtpjidogilofppaaGreatGAE
import Derived.Test.YtpjidogilofppaaGreatCmp
import Derived.Test.YtpjidogilofppaaGreatGAH
import Derived.Test.YtpjidogilofppaaGreatZV
import Derived.Test.YtpjidogilofppaaGreatSAtV
/- The contract of the reader's 'pick'. -/
namespace Go.Proofs.YtpjidogilofppaaGreat
open Go.ChangeShapes Go.WideShapes Go.ChangeAt Go.RowKit

end Go.Proofs.YtpjidogilofppaaGreat

/- Plain facts on numbers: a mixture of two numbers that are not negative is not negative. -/
namespace Go.Proofs.YtpjidogilofppaaGreat

theorem xor_i64_nat (a b : Nat) (ha : a < 4294967296) (hb : b < 4294967296) : 0 ≤ bits .xor .i64 (a : Int) (b : Int) := by
  have hx : a ^^^ b < 2 ^ 32 := Nat.xor_lt_two_pow (by omega) (by omega)
  have h1 : (BitVec.ofInt 64 (a : Int)).toNat = a := by
    rw [BitVec.ofInt_natCast, BitVec.toNat_ofNat]; exact Nat.mod_eq_of_lt (by omega)
  have h2 : (BitVec.ofInt 64 (b : Int)).toNat = b := by
    rw [BitVec.ofInt_natCast, BitVec.toNat_ofNat]; exact Nat.mod_eq_of_lt (by omega)
  have e : bits .xor .i64 (a : Int) (b : Int) = IntKind.i64.wrap ((BitVec.ofInt 64 (a : Int) ^^^ BitVec.ofInt 64 (b : Int)).toNat : Int) := rfl
  rw [e, BitVec.toNat_xor, h1, h2]
  generalize a ^^^ b = c at hx
  simp [IntKind.wrap, IntKind.bits, IntKind.signed]
  omega

theorem xor_i64 (x y : Int) (hx0 : 0 ≤ x) (hx1 : x < 4294967296) (hy0 : 0 ≤ y) (hy1 : y < 4294967296) : 0 ≤ bits .xor .i64 x y := by
  obtain ⟨a, rfl⟩ := Int.eq_ofNat_of_zero_le hx0
  obtain ⟨b, rfl⟩ := Int.eq_ofNat_of_zero_le hy0
  exact xor_i64_nat a b (by omega) (by omega)

theorem mixed (X n : Int) (h0 : 0 ≤ X) (h1 : X < 4294967296) (hn : 1 ≤ n) :
    0 ≤ (bits .xor .i64 X (X / 64)).tmod n ∧ (bits .xor .i64 X (X / 64)).tmod n < n := by
  have h := xor_i64 X (X / 64) h0 h1 (by omega) (by omega)
  generalize bits .xor .i64 X (X / 64) = Y at h
  rw [Int.tmod_eq_emod_of_nonneg h]
  exact ⟨Int.emod_nonneg _ (by omega), Int.emod_lt_of_pos _ (by omega)⟩
end Go.Proofs.YtpjidogilofppaaGreat

/- The contract of the reader's 'pick', far. -/
namespace Go.Proofs.YtpjidogilofppaaGreat
open Go.ChangeShapes Go.WideShapes Go.ChangeAt Go.RowKit

end Go.Proofs.YtpjidogilofppaaGreat

/- The reader of a code: what is known of it, and how it stays known. -/
namespace Go.Proofs.YtpjidogilofppaaGreat
open Go.ChangeShapes Go.WideShapes Go.ChangeAt Go.RowKit

/-- What is known of the reader that lies in the block B: its place is p, and its code lies ahead of it. -/
def Rd (w : World) (B : Nat) (p : Int) : Prop :=
  B < w.heap.size ∧ 0 ≤ p ∧ w.cell? ⟨B, 1, none⟩ = some (.int .i64 p) ∧ w.frozen? ⟨B, 1, none⟩ = false ∧
  ∃ a len cap, w.cell? ⟨B, 0, none⟩ = some (.slice a len cap) ∧
    (len = 0 ∨ ∃ b off, a = some ⟨b, off, none⟩ ∧ b < B ∧ ∀ i, i < len → ∃ z, w.cell? ⟨b, off + i, none⟩ = some (.int .u8 z) ∧ 0 ≤ z ∧ z ≤ 255)

/-- All blocks but B are as they were; more may have come. -/
structure Stp (B : Nat) (w w' : World) : Prop where
  os : w'.os = w.os
  tape : w'.tape = w.tape
  output : w'.output = w.output
  size : w.heap.size ≤ w'.heap.size
  block : ∀ k, k < w.heap.size → k ≠ B → w'.heap[k]? = w.heap[k]?

theorem Stp.refl (B : Nat) (w : World) : Stp B w w := ⟨rfl, rfl, rfl, Nat.le_refl _, fun _ _ _ => rfl⟩
theorem Stp.trans {B : Nat} {a b c : World} (h : Stp B a b) (k : Stp B b c) : Stp B a c :=
  ⟨k.os.trans h.os, k.tape.trans h.tape, k.output.trans h.output, Nat.le_trans h.size k.size, fun i hi hB => (k.block i (by have := h.size; omega) hB).trans (h.block i hi hB)⟩
theorem Stp.cell {B : Nat} {w w' : World} (h : Stp B w w') {b o : Nat} (hb : b < w.heap.size) (hB : b ≠ B) : w'.cell? ⟨b, o, none⟩ = w.cell? ⟨b, o, none⟩ := World.cell?_of_block (w := w) (h.block b hb hB)
theorem Stp.frozen {B : Nat} {w w' : World} (h : Stp B w w') {b o : Nat} (hb : b < w.heap.size) (hB : b ≠ B) : w'.frozen? ⟨b, o, none⟩ = w.frozen? ⟨b, o, none⟩ := World.frozen?_of_block (w := w) (h.block b hb hB)
theorem Stp.alloc {B : Nat} {a w : World} (h : Stp B a w) (o : Obj) : Stp B a (w.alloc o) :=
  h.trans ⟨rfl, rfl, rfl, by simp, fun k hk _ => Below.heap_alloc _ _ _ hk⟩
theorem Stp.draws {B : Nat} {a w : World} (h : Stp B a w) (m : Nat) : Stp B a (w.drewN m) :=
  h.trans ⟨rfl, rfl, rfl, Nat.le_refl _, fun _ _ _ => rfl⟩
theorem Stp.setB {B : Nat} {a w : World} (h : Stp B a w) (o : Nat) (v : Value) : Stp B a (w.setCell ⟨B, o, none⟩ v) :=
  h.trans ⟨rfl, rfl, rfl, by simp [World.setCell], fun k _ hk => Below.heap_setCell _ _ _ _ hk⟩
/-- A store into a block that came behind. -/
theorem Stp.setNew {B : Nat} {a w : World} (h : Stp B a w) {p : Addr} (hp : a.heap.size ≤ p.block) (v : Value) : Stp B a (w.setCell p v) :=
  ⟨h.os, h.tape, h.output, by have := h.size; simpa [World.setCell] using this, fun k hk hB => (Below.heap_setCell _ _ _ _ (by omega)).trans (h.block k hk hB)⟩
/-- Where the reader itself is new nothing old has turned. -/
theorem Stp.below {B : Nat} {a w w' : World} (h : Below a.heap.size a w) (k : Stp B w w') (hB : a.heap.size ≤ B) : Below a.heap.size a w' :=
  h.trans ⟨k.os, k.tape, k.output, k.size, fun i hi => k.block i (by have := h.size; omega) (by omega)⟩

/-- Known of the reader stays what no store turned. -/
theorem Rd.of_block {w w' : World} {B : Nat} {p : Int} (h : Rd w B p) (hs : w.heap.size ≤ w'.heap.size) (hb : ∀ k, k ≤ B → w'.heap[k]? = w.heap[k]?) : Rd w' B p := by
  obtain ⟨hB, hp, h1, h2, a, len, cap, h3, h4⟩ := h
  have hc : ∀ b o, b ≤ B → w'.cell? ⟨b, o, none⟩ = w.cell? ⟨b, o, none⟩ := fun b o h => World.cell?_of_block (w := w) (hb b h)
  have hf : ∀ b o, b ≤ B → w'.frozen? ⟨b, o, none⟩ = w.frozen? ⟨b, o, none⟩ := fun b o h => World.frozen?_of_block (w := w) (hb b h)
  refine ⟨by omega, hp, (hc _ _ (Nat.le_refl _)).trans h1, (hf _ _ (Nat.le_refl _)).trans h2, a, len, cap, (hc _ _ (Nat.le_refl _)).trans h3, ?_⟩
  rcases h4 with h4 | ⟨b, off, ha, hbB, h5⟩
  · exact .inl h4
  · refine .inr ⟨b, off, ha, hbB, fun i hi => ?_⟩
    obtain ⟨z, hz, r⟩ := h5 i hi
    exact ⟨z, (hc _ _ (by omega)).trans hz, r⟩
theorem Rd.alloc {w : World} {B : Nat} {p : Int} (h : Rd w B p) (o : Obj) : Rd (w.alloc o) B p :=
  h.of_block (by simp) fun k hk => Below.heap_alloc _ _ _ (by have := h.1; omega)
theorem Rd.draws {w : World} {B : Nat} {p : Int} (h : Rd w B p) (m : Nat) : Rd (w.drewN m) B p :=
  h.of_block (Nat.le_refl _) fun _ _ => rfl
theorem Rd.setNew {w : World} {B : Nat} {p : Int} (h : Rd w B p) {a : Addr} (ha : B < a.block) (v : Value) : Rd (w.setCell a v) B p :=
  h.of_block (by simp [World.setCell]) fun k hk => Below.heap_setCell _ _ _ _ (by omega)
theorem Rd.step {w : World} {B : Nat} {p : Int} (h : Rd w B p) (m : Nat) : Rd ((w.setCell ⟨B, 1, none⟩ (.int .i64 (p + 1))).drewN m) B (p + 1) := by
  obtain ⟨hB, hp, h1, h2, a, len, cap, h3, h4⟩ := h
  refine Rd.draws ?_ m
  refine ⟨by simpa [World.setCell] using hB, by omega, ?_, ?_, a, len, cap, ?_, ?_⟩
  · exact World.cell?_setCell_same _ _ _ h1
  · exact (World.frozen?_setCell _ _ _ _).trans h2
  · exact (World.cell?_setCell_other _ _ _ _ (by simp)).trans h3
  · rcases h4 with h4 | ⟨b, off, ha, hbB, h5⟩
    · exact .inl h4
    · refine .inr ⟨b, off, ha, hbB, fun i hi => ?_⟩
      obtain ⟨z, hz, r⟩ := h5 i hi
      refine ⟨z, ?_, r⟩
      have : (w.setCell ⟨B, 1, none⟩ (.int .i64 (p + 1))).heap[b]? = w.heap[b]? := Below.heap_setCell _ _ _ _ (by simp; omega)
      exact (World.cell?_of_block (w := w) this).trans hz

end Go.Proofs.YtpjidogilofppaaGreat

/- A code is opened. -/
namespace Go.Proofs.YtpjidogilofppaaGreat
open Go.ChangeShapes Go.WideShapes Go.ChangeAt Go.RowKit

/-- What is known of a code. -/
def Code (w : World) (a : Option Addr) (len cap : Nat) : Prop :=
  len ≤ cap ∧ cap ≤ maxLen ∧ (cap = 0 ∧ a = none ∨ ∃ x, a = some x ∧ (cap = 0 ∨ ∃ b off, x = ⟨b, off, none⟩ ∧ b < w.heap.size ∧ ∀ i, i < cap → ∃ z, w.cell? ⟨b, off + i, none⟩ = some (.int .u8 z) ∧ 0 ≤ z ∧ z ≤ 255))

theorem rd_new (w : World) (a : Option Addr) (n cap : Nat) (h : n = 0 ∨ ∃ b off, a = some ⟨b, off, none⟩ ∧ b < w.heap.size ∧ ∀ i, i < n → ∃ z, w.cell? ⟨b, off + i, none⟩ = some (.int .u8 z) ∧ 0 ≤ z ∧ z ≤ 255) (t : TypeId) :
    Rd (w.alloc (.cells #[.slice a n cap, .int .i64 0] t)) w.heap.size 0 := by
  refine ⟨by simp, by omega, by simp [go_sem], by simp [go_sem], a, n, cap, by simp [go_sem], ?_⟩
  rcases h with h | ⟨b, off, rfl, hb, h5⟩
  · exact .inl h
  · refine .inr ⟨b, off, rfl, hb, fun i hi => ?_⟩
    obtain ⟨z, hz, r⟩ := h5 i hi
    exact ⟨z, (World.cell?_alloc_lt _ _ _ hb).trans hz, r⟩

theorem Code.below {w w' : World} {a : Option Addr} {len cap : Nat} (h : Code w a len cap) (k : Below w.heap.size w w') : Code w' a len cap := by
  obtain ⟨hl, hm, h | ⟨x, rfl, h | ⟨b, off, rfl, hb, h5⟩⟩⟩ := h
  · exact ⟨hl, hm, .inl h⟩
  · exact ⟨hl, hm, .inr ⟨x, rfl, .inl h⟩⟩
  · refine ⟨hl, hm, .inr ⟨_, rfl, .inr ⟨b, off, rfl, by have := k.size; omega, fun i hi => ?_⟩⟩⟩
    obtain ⟨z, hz, r⟩ := h5 i hi
    exact ⟨z, (k.cell (p := ⟨b, off + i, none⟩) hb).trans hz, r⟩

/-- What a slice of bytes that came in reads as is a code. -/
theorem code_of_row {w : World} {x : Addr} {len cap : Nat} {zs : List Int} (hl : len ≤ cap) (hm : cap ≤ maxLen) (hz : zs.length = cap)
    (hcell : ∀ i, i < zs.length → w.cell? (x.add i) = some (.int .u8 (zs.getD i 0))) (hwz : ∀ n ∈ zs, (Lit.int .u8 n).wf = true) : Code w (some x) len cap := by
  refine ⟨hl, hm, .inr ⟨x, rfl, ?_⟩⟩
  by_cases h0 : cap = 0
  · exact .inl h0
  · obtain ⟨b, off, spot⟩ := x
    have hc := hcell 0 (by omega)
    have hspot : spot = none := by simpa [Addr.add] using World.cell?_spot hc
    subst hspot
    refine .inr ⟨b, off, rfl, by have := World.block_lt_of_cell? _ _ hc; simpa [Addr.add] using this, fun i hi => ?_⟩
    have hi' : i < zs.length := by omega
    have hd := hcell i hi'
    have hg : zs.getD i 0 = zs[i] := by simp [List.getD, hi']
    have hw := bounds_u8 (hwz _ (List.getElem_mem hi'))
    rw [hg] at hd
    have ha : (Addr.mk b off none).add i = ⟨b, off + i, none⟩ := by
      by_cases h : i = 0 <;> simp [Addr.add, h]
    rw [ha] at hd
    exact ⟨zs[i], hd, hw.1, hw.2⟩

/-- What a slice of bytes that came in reads as is a code, nil too. -/
theorem code_of {w : World} {a : Option Addr} {len cap : Nat} {zs : List Int}
    (h : (a = none ∧ len = 0 ∧ cap = 0 ∧ zs = []) ∨ ∃ x, a = some x ∧ len ≤ cap ∧ cap ≤ maxLen ∧ zs.length = cap ∧ (∀ i, i < zs.length → w.cell? (x.add i) = some (.int .u8 (zs.getD i 0))) ∧ ∀ n ∈ zs, (Lit.int .u8 n).wf = true) : Code w a len cap := by
  rcases h with ⟨rfl, rfl, rfl, rfl⟩ | ⟨x, rfl, hl, hm, hz, hcell, hwz⟩
  · exact ⟨Nat.le_refl _, Nat.zero_le _, .inl ⟨rfl, rfl⟩⟩
  · exact code_of_row hl hm hz hcell hwz
end Go.Proofs.YtpjidogilofppaaGreat

/- A stamp is drawn. -/
namespace Go.Proofs.YtpjidogilofppaaGreat
open Go.ChangeShapes Go.WideShapes Go.ChangeAt Go.RowKit

theorem Stp.rules {B : Nat} {w w' : World} (h : Stp B w w') : (∀ b o, b < w.heap.size → b ≠ B → w'.cell? ⟨b, o, none⟩ = w.cell? ⟨b, o, none⟩) ∧ (∀ b o, b < w.heap.size → b ≠ B → w'.frozen? ⟨b, o, none⟩ = w.frozen? ⟨b, o, none⟩) :=
  ⟨fun _ _ => h.cell, fun _ _ => h.frozen⟩

end Go.Proofs.YtpjidogilofppaaGreat

/- The specification's DepsPut. -/
namespace Go.Proofs.YtpjidogilofppaaGreat
open Go.ChangeShapes Go.WideShapes Go.ChangeAt Go.RowKit

theorem depsOk_one (d : D) : depsOk [d] = okD d := by simp [depsOk]
theorem deps_one {w : World} {B : Nat} {d : D} {T : TypeId} (h : Blk w B #[.int .i64 d.k, .int .i64 d.t, .int .i64 d.s] T) : Deps w (some ⟨B, 0, none⟩) [d] := by
  refine .inr ⟨B, 0, rfl, h.lt, fun k hk => ?_⟩
  obtain rfl : k = 0 := by simp at hk; omega
  exact ⟨(h.cell 0).trans rfl, (h.cell 1).trans rfl, (h.cell 2).trans rfl⟩
theorem cells3' {w : World} {B : Nat} {x y z : Value} {T : TypeId} (h : Blk w B #[x, y, z] T) : ∀ (j : Nat) (u : Value), [x, y, z][j]? = some u → w.cell? ((Addr.mk B 0 none).add j) = some u := by
  intro j u hj
  have ha : (Addr.mk B 0 none).add j = ⟨B, j, none⟩ := by by_cases h : j = 0 <;> simp [Addr.add, h]
  rw [ha, h.cell]
  simpa using hj

/-- What is known in a round: a dep of the list, what counts, and what is out. -/
def PutW (w0 : World) (b x : Nat) (y c : D) (v : Value) (o : List D) (W : World) : Prop :=
  Below w0.heap.size w0 W ∧ b < w0.heap.size ∧ (W.cell? ⟨b, x, none⟩ = some (.int .i64 y.k) ∧ W.cell? ⟨b, x + 1, none⟩ = some (.int .i64 y.t) ∧ W.cell? ⟨b, x + 2, none⟩ = some (.int .i64 y.s)) ∧ Blk W w0.heap.size #[.int .i64 c.k, .int .i64 c.t, .int .i64 c.s] 116 ∧ W.ownsRow (w0.heap.size + 1) 116 3 v o.length (flat3 o)
section
variable {w0 w w' : World} {b x : Nat} {y c : D} {v v' : Value} {o o' : List D}
theorem PutW.below (h : PutW w0 b x y c v o w) (d : Below w.heap.size w w') : PutW w0 b x y c v o w' := by
  obtain ⟨h1, h2, ⟨h3, h4, h5⟩, h6, h7⟩ := h
  have hb : b < w.heap.size := by have := h1.size; omega
  exact ⟨h1.trans (d.mono h1.size), h2, ⟨(d.cell (p := ⟨b, _, none⟩) hb).trans h3, (d.cell (p := ⟨b, _, none⟩) hb).trans h4, (d.cell (p := ⟨b, _, none⟩) hb).trans h5⟩, h6.below d h6.lt, row_below h7 d (Nat.le_refl _)⟩
theorem PutW.drew (h : PutW w0 b x y c v o w) : PutW w0 b x y c v o w.drew := h.below (Below.refl _ _).drew
theorem PutW.rules : (∀ n : Wof (PutW w0 b x y c v o), n.W.cell? ⟨b, x, none⟩ = some (.int .i64 y.k)) ∧ (∀ n : Wof (PutW w0 b x y c v o), n.W.cell? ⟨b, x + 1, none⟩ = some (.int .i64 y.t)) ∧ (∀ n : Wof (PutW w0 b x y c v o), n.W.cell? ⟨b, x + 2, none⟩ = some (.int .i64 y.s)) ∧ (∀ (n : Wof (PutW w0 b x y c v o)) (j : Nat), n.W.cell? ⟨w0.heap.size, j, none⟩ = #[.int .i64 c.k, .int .i64 c.t, .int .i64 c.s][j]?) :=
  ⟨fun n => n.h.2.2.1.1, fun n => n.h.2.2.1.2.1, fun n => n.h.2.2.1.2.2, fun n => n.h.2.2.2.1.cell⟩
theorem PutW.appended (h : PutW w0 b x y c v o w) {tmp : Obj} (hown : w'.ownsRow (w0.heap.size + 1) 116 3 v' o'.length (flat3 o')) (hg : (w.alloc tmp).grownBy w' v.ownBlock) : PutW w0 b x y c v' o' w' := by
  obtain ⟨h1, h2, ⟨h3, h4, h5⟩, h6, h7⟩ := h
  have hrow : ∀ j, v.ownBlock = some j → w0.heap.size + 1 ≤ j := fun j hj => (h7.lt j hj).1
  have hb : b < w.heap.size := by have := h1.size; omega
  have keep : ∀ k, k ≤ w0.heap.size → k < w.heap.size → w'.heap[k]? = w.heap[k]? := fun k hk hl => (hg.block k (by simp; omega) (fun e => by have := hrow k e.symm; omega)).trans (Below.heap_alloc _ _ _ hl)
  have kc : ∀ j, w'.cell? ⟨b, j, none⟩ = w.cell? ⟨b, j, none⟩ := fun j => World.cell?_of_block (w := w) (keep b (by omega) hb)
  refine ⟨(h1.alloc h1.size tmp).grown hg (by have := h1.size; simp; omega) (fun j hj => by have := hrow j hj; omega), h2, ⟨(kc _).trans h3, (kc _).trans h4, (kc _).trans h5⟩, (keep _ (Nat.le_refl _) h6.lt).trans h6, hown⟩
theorem PutW.stored (h : PutW w0 b x y c v o w) : PutW w0 b x y y v o (((w.setCell ⟨w0.heap.size, 0, none⟩ (.int .i64 y.k)).setCell ⟨w0.heap.size, 1, none⟩ (.int .i64 y.t)).setCell ⟨w0.heap.size, 2, none⟩ (.int .i64 y.s)) := by
  obtain ⟨h1, h2, ⟨h3, h4, h5⟩, h6, h7⟩ := h
  have keep : ∀ k, k ≠ w0.heap.size → (((w.setCell ⟨w0.heap.size, 0, none⟩ (.int .i64 y.k)).setCell ⟨w0.heap.size, 1, none⟩ (.int .i64 y.t)).setCell ⟨w0.heap.size, 2, none⟩ (.int .i64 y.s)).heap[k]? = w.heap[k]? := fun k hk => ((Below.heap_setCell _ _ _ _ hk).trans (Below.heap_setCell _ _ _ _ hk)).trans (Below.heap_setCell _ _ _ _ hk)
  have kc : ∀ j, (((w.setCell ⟨w0.heap.size, 0, none⟩ (.int .i64 y.k)).setCell ⟨w0.heap.size, 1, none⟩ (.int .i64 y.t)).setCell ⟨w0.heap.size, 2, none⟩ (.int .i64 y.s)).cell? ⟨b, j, none⟩ = w.cell? ⟨b, j, none⟩ := fun j => World.cell?_of_block (w := w) (keep b (by omega))
  refine ⟨((h1.setCell (by simp) _).setCell (by simp) _).setCell (by simp) _, h2, ⟨(kc _).trans h3, (kc _).trans h4, (kc _).trans h5⟩, by have := ((h6.set 0 (.int .i64 y.k)).set 1 (.int .i64 y.t)).set 2 (.int .i64 y.s); simpa using this, h7.1, ?_⟩
  rcases h7.2 with hn | ⟨g, cap, cur, rfl, hb, hg, rest⟩
  · exact .inl hn
  · exact .inr ⟨g, cap, cur, rfl, hb, (keep g (by omega)).trans hg, rest⟩
theorem sLess_is {t s t' s' : Int} {r : Bool} (h : lessB t s t' s' = r) (w : World) : Calls Tryz.prog 169 #[stampV t s, stampV t' s'] w fun e w' => e = .returned (.bool r) ∧ Below w.heap.size w w' := by rw [← h]; exact sLess_any t s t' s' w
end

set_option maxHeartbeats 4000000 in
set_option maxRecDepth 100000 in
theorem sPut_yes (a : Option Addr) (cap : Nat) (xs : List D) (d : D) (w : World) (hn : xs.length ≤ 1099511627776) (h : Deps w a xs) (hok : depsOk xs = true) (hd : okD d = true) :
    Calls Tryz.prog 274 #[.slice a xs.length cap, depV d.k d.t d.s] w fun e w' => ∃ v, e = .returned v ∧ w'.ownsRow w.heap.size 116 3 v (putL xs d).length (flat3 (putL xs d)) ∧ Below w.heap.size w w' := by
  obtain ⟨i0, hi, hz0, hz1, hz2⟩ := info_parts infoDep
  have HP : Hid (putL xs d = lst (withT (tab xs) d)) := putL_yes hok hd
  have hx : Hid (Ok xs) := ok_iff.1 hok
  have B0 : Below w.heap.size w (w.alloc (.cells #[.int .i64 d.k, .int .i64 d.t, .int .i64 d.s] 116)) := (Below.refl _ _).alloc (Nat.le_refl _) _
  have hS := sDepsOk_any a cap xs _ hn (h.below B0)
  rw [hok] at hS
  have hS1 := fun (w : World) h => sDepsOk_any (some ⟨w.heap.size, 0, none⟩) 1 [d] (w.alloc (.cells #[.int .i64 d.k, .int .i64 d.t, .int .i64 d.s] 116)) (by simp) h
  rw [depsOk_one, hd] at hS1
  simp only [List.length_cons, List.length_nil, Nat.zero_add] at hS1
  go_enter Tryz.func274, Tryz.ntmps274
  go_wp2_with fail
  refine hS.mono ?_
  rintro e w1 ⟨rfl, hb1⟩
  have D1 := (Blk.new w _ _).below hb1 (by simp)
  have hB1 : Below w.heap.size w w1 := B0.trans (hb1.mono (by simp))
  obtain ⟨q1, g1⟩ := D1.rules
  clear hb1 hS B0
  go_wp2_with fail
  refine (hS1 _ (deps_one (Blk.new w1 _ _))).mono ?_
  rintro e w2 ⟨rfl, hb2⟩
  have D2 := (D1.alloc _).below hb2 (by have := D1.lt; simp; omega)
  have hB2 : Below w.heap.size w w2 := (hB1.alloc hB1.size _).trans (hb2.mono (by have := hB1.size; simp; omega))
  have hz2' := D2.lt
  have hown0 : (w2.alloc (.cells #[] 116)).ownsRow (w.heap.size + 1) 116 3 (.slice (some ⟨w2.heap.size, 0, none⟩) 0 0) 0 [] := World.ownsRow_made w2 #[] 0 (by omega) (by unfold maxLen; omega) rfl
  clear hb2 q1 g1 D1 hB1 hS1
  go_wp2_with fail
  go_loopw [5, 6, 7] (fun v dn i wr => ∃ (k : Nat) (o : List D) (c : D) (done : Bool), k ≤ xs.length ∧ i = .int .i64 k ∧ dn = .bool done ∧ Hid (PutSt xs d k done o c) ∧ Blk wr w.heap.size #[.int .i64 c.k, .int .i64 c.t, .int .i64 c.s] 116 ∧ wr.ownsRow (w.heap.size + 1) 116 3 v o.length (flat3 o) ∧ Below w.heap.size w wr) (fun _ _ i _ => xs.length - (intOf i).toNat)
  case atStart => exact ⟨0, [], d, false, Nat.zero_le _, rfl, rfl, PutSt.start xs d, D2.alloc _, hown0, hB2.alloc hB2.size _⟩
  case round =>
    obtain ⟨k, o, c, done, hk, rfl, rfl, HS0, hD, hrow, hB⟩ := hrel
    clear hown0 hB2 D2 hz2'
    have hlen : o.length ≤ 6 := HS0.out.len hx.out
    by_cases hlt : k < xs.length
    · obtain ⟨b, f, rfl, hbb, e0, e1, e2⟩ := h.at hlt
      have R : PutW w b (f + k * 3) xs[k] c u5 o wr := ⟨hB, hbb, ⟨(hB.cell (p := ⟨b, _, none⟩) hbb).trans e0, (hB.cell (p := ⟨b, _, none⟩) hbb).trans e1, (hB.cell (p := ⟨b, _, none⟩) hbb).trans e2⟩, hD, hrow⟩
      clear e0 e1 e2 hD hrow hB h
      rcases done with _ | _
      · rcases Int.lt_trichotomy xs[k].k d.k with hl | hl | hl
        · have HS : Hid (PutSt xs d (k + 1) false (o ++ [xs[k]]) c) := PutSt.below hlt HS0.out hl
          have hck : c = d := by rcases HS0.out with ⟨_, h, _⟩ | ⟨h, _⟩; exact h; cases h
          subst hck
          generalize xs[k] = y at *
          have hless : True := trivial
          have hne : (y.k == c.k) = false := by simp; omega
          go_wp2_with fail
          obtain ⟨r0, r1, r2, r3⟩ := PutW.rules (w0 := w) (b := b) (x := f + k * 3) (y := y) (c := c) (v := u5) (o := o)
          have ne : Nonempty (Wof (PutW w b (f + k * 3) y c u5 o)) := ⟨⟨_, R⟩⟩
          refine wp_region_class (S := PutW w b (f + k * 3) y c u5 o) (by kernel_rfl) (by kernel_rfl) R.drew ?_
          repeat (go_big_quiet_step ((rename_i n; first | (go_at_call 169; exact Calls.inClass (sLess_is hless _) PutW.below))))
          refine wpQuiet_nil ?_
          rintro W ⟨n, hnW⟩
          have R' := n.h
          rw [← hnW] at R'
          clear R r0 r1 r2 r3 ne hnW n
          have R := R'
          clear R'
          go_wp2_with fail
          obtain ⟨r0, r1, r2, r3⟩ := PutW.rules (w0 := w) (b := b) (x := f + k * 3) (y := y) (c := c) (v := u5) (o := o)
          have ne : Nonempty (Wof (PutW w b (f + k * 3) y c u5 o)) := ⟨⟨_, R⟩⟩
          refine wp_region_class (S := PutW w b (f + k * 3) y c u5 o) (by kernel_rfl) (by kernel_rfl) R.drew ?_
          repeat (go_big_quiet_step ((rename_i n; first | (go_at_call 169; exact Calls.inClass (sLess_is hless _) PutW.below))))
          refine wpQuiet_nil ?_
          rintro W ⟨n, hnW⟩
          have R' := n.h
          rw [← hnW] at R'
          clear R r0 r1 r2 r3 ne hnW n
          have R := R'
          clear R'
          obtain ⟨q0, q1, q2⟩ := R.2.2.1
          obtain ⟨q3, q4⟩ := R.2.2.2.1.rules
          have zW := R.2.2.2.1.lt
          go_wp2_with (first | (at_builtin; refine wpList_append_own _ rfl _ _ 30 rfl (w.heap.size + 1) 116 i0 (.agg #[.int .i64 0, .int .i64 0, .int .i64 0]) 3 24 Tryz.underlying30 hi hz0 hz1 hz2 rfl (by decide) _ _ _ rfl (R.2.2.2.2.alloc _) ⟨W.heap.size, 0, none⟩ 1 1 [.int .i64 y.k, .int .i64 y.t, .int .i64 y.s] rfl rfl (by intro j u hj; match j, hj with | 0, hj => (simp at hj; subst hj; simp [Addr.add, go_sem]) | 1, hj => (simp at hj; subst hj; simp [Addr.add, go_sem]) | 2, hj => (simp at hj; subst hj; simp [Addr.add, go_sem]) | (j + 3), hj => (simp at hj)) (by intro u hu; simp at hu; rcases hu with rfl | rfl | rfl <;> rfl) (by unfold maxLen; omega) (by omega) (by have := R.1.size; simp; omega) ?_))
          intro v' w4 hown4 hg4 _
          have R4 : PutW w b (f + k * 3) y c v' (o ++ [y]) w4 := R.appended (by rw [flat3_snoc]; simpa using hown4) hg4
          clear hown4 hg4 R q0 q1 q2 q3 q4 zW

          obtain ⟨W, rfl⟩ : ∃ W, w4 = W := ⟨_, rfl⟩
          have R := R4
          clear R4
          go_wp2
          go_roundw
          case rel => exact ⟨k + 1, _, _, _, by omega, by go_num, rfl, HS, R.2.2.2.1, R.2.2.2.2, R.1⟩
          case measure => simp [intOf]; omega
        · rcases hless : lessB d.t d.s xs[k].t xs[k].s with _ | _
          · have HS : Hid (PutSt xs d (k + 1) true (o ++ [d]) d) := PutSt.same hx.out hd hlt HS0.out hl d (by rw [hless]; rfl)
            have hck : c = d := by rcases HS0.out with ⟨_, h, _⟩ | ⟨h, _⟩; exact h; cases h
            subst hck
            generalize xs[k] = y at *
            have hne : (y.k == c.k) = true := by simpa using hl
            have hge : c.k ≤ y.k := by omega
            clear hl
            go_wp2_with fail
            obtain ⟨r0, r1, r2, r3⟩ := PutW.rules (w0 := w) (b := b) (x := f + k * 3) (y := y) (c := c) (v := u5) (o := o)
            have ne : Nonempty (Wof (PutW w b (f + k * 3) y c u5 o)) := ⟨⟨_, R⟩⟩
            refine wp_region_class (S := PutW w b (f + k * 3) y c u5 o) (by kernel_rfl) (by kernel_rfl) R.drew ?_
            repeat (go_big_quiet_step ((rename_i n; first | (go_at_call 169; exact Calls.inClass (sLess_is hless _) PutW.below))))
            refine wpQuiet_nil ?_
            rintro W ⟨n, hnW⟩
            have R' := n.h
            rw [← hnW] at R'
            clear R r0 r1 r2 r3 ne hnW n
            have R := R'
            clear R'
            go_wp2_with fail
            obtain ⟨r0, r1, r2, r3⟩ := PutW.rules (w0 := w) (b := b) (x := f + k * 3) (y := y) (c := c) (v := u5) (o := o)
            have ne : Nonempty (Wof (PutW w b (f + k * 3) y c u5 o)) := ⟨⟨_, R⟩⟩
            refine wp_region_class (S := PutW w b (f + k * 3) y c u5 o) (by kernel_rfl) (by kernel_rfl) R.drew ?_
            repeat (go_big_quiet_step ((rename_i n; first | (go_at_call 169; exact Calls.inClass (sLess_is hless _) PutW.below))))
            refine wpQuiet_nil ?_
            rintro W ⟨n, hnW⟩
            have R' := n.h
            rw [← hnW] at R'
            clear R r0 r1 r2 r3 ne hnW n
            have R := R'
            clear R'
            obtain ⟨q0, q1, q2⟩ := R.2.2.1
            obtain ⟨q3, q4⟩ := R.2.2.2.1.rules
            have zW := R.2.2.2.1.lt
            go_wp2_with (first | (at_builtin; refine wpList_append_own _ rfl _ _ 30 rfl (w.heap.size + 1) 116 i0 (.agg #[.int .i64 0, .int .i64 0, .int .i64 0]) 3 24 Tryz.underlying30 hi hz0 hz1 hz2 rfl (by decide) _ _ _ rfl (R.2.2.2.2.alloc _) ⟨W.heap.size, 0, none⟩ 1 1 [.int .i64 c.k, .int .i64 c.t, .int .i64 c.s] rfl rfl (by intro j u hj; match j, hj with | 0, hj => (simp at hj; subst hj; simp [Addr.add, go_sem]) | 1, hj => (simp at hj; subst hj; simp [Addr.add, go_sem]) | 2, hj => (simp at hj; subst hj; simp [Addr.add, go_sem]) | (j + 3), hj => (simp at hj)) (by intro u hu; simp at hu; rcases hu with rfl | rfl | rfl <;> rfl) (by unfold maxLen; omega) (by omega) (by have := R.1.size; simp; omega) ?_))
            intro v' w4 hown4 hg4 _
            have R4 : PutW w b (f + k * 3) y c v' (o ++ [c]) w4 := R.appended (by rw [flat3_snoc]; simpa using hown4) hg4
            clear hown4 hg4 R q0 q1 q2 q3 q4 zW

            obtain ⟨W, rfl⟩ : ∃ W, w4 = W := ⟨_, rfl⟩
            have R := R4
            clear R4
            go_wp2_with fail
            obtain ⟨r0, r1, r2, r3⟩ := PutW.rules (w0 := w) (b := b) (x := f + k * 3) (y := y) (c := c) (v := v') (o := (o ++ [c]))
            have ne : Nonempty (Wof (PutW w b (f + k * 3) y c v' (o ++ [c]))) := ⟨⟨_, R⟩⟩
            refine wp_region_class (S := PutW w b (f + k * 3) y c v' (o ++ [c])) (by kernel_rfl) (by kernel_rfl) R.drew ?_
            repeat (go_big_quiet_step ((rename_i n; first | (go_at_call 169; exact Calls.inClass (sLess_is hless _) PutW.below))))
            refine wpQuiet_nil ?_
            rintro W ⟨n, hnW⟩
            have R' := n.h
            rw [← hnW] at R'
            clear R r0 r1 r2 r3 ne hnW n
            have R := R'
            clear R'
            go_wp2
            go_roundw
            case rel => exact ⟨k + 1, _, _, _, by omega, by go_num, rfl, HS, R.2.2.2.1, R.2.2.2.2, R.1⟩
            case measure => simp [intOf]; omega
          · have HS : Hid (PutSt xs d (k + 1) true (o ++ [xs[k]]) xs[k]) := PutSt.same hx.out hd hlt HS0.out hl xs[k] (by rw [hless]; rfl)
            have hck : c = d := by rcases HS0.out with ⟨_, h, _⟩ | ⟨h, _⟩; exact h; cases h
            subst hck
            generalize xs[k] = y at *
            have hne : (y.k == c.k) = true := by simpa using hl
            have hge : c.k ≤ y.k := by omega
            clear hl
            go_wp2_with fail
            obtain ⟨r0, r1, r2, r3⟩ := PutW.rules (w0 := w) (b := b) (x := f + k * 3) (y := y) (c := c) (v := u5) (o := o)
            have ne : Nonempty (Wof (PutW w b (f + k * 3) y c u5 o)) := ⟨⟨_, R⟩⟩
            refine wp_region_class (S := PutW w b (f + k * 3) y c u5 o) (by kernel_rfl) (by kernel_rfl) R.drew ?_
            repeat (go_big_quiet_step ((rename_i n; first | (go_at_call 169; exact Calls.inClass (sLess_is hless _) PutW.below))))
            refine wpQuiet_nil ?_
            rintro W ⟨n, hnW⟩
            have R' := n.h
            rw [← hnW] at R'
            clear R r0 r1 r2 r3 ne hnW n
            have R := R'
            clear R'
            go_wp2_with fail
            obtain ⟨r0, r1, r2, r3⟩ := PutW.rules (w0 := w) (b := b) (x := f + k * 3) (y := y) (c := c) (v := u5) (o := o)
            have ne : Nonempty (Wof (PutW w b (f + k * 3) y c u5 o)) := ⟨⟨_, R⟩⟩
            refine wp_region_class (S := PutW w b (f + k * 3) y c u5 o) (by kernel_rfl) (by kernel_rfl) R.drew ?_
            repeat (go_big_quiet_step ((rename_i n; first | (go_at_call 169; exact Calls.inClass (sLess_is hless _) PutW.below))))
            refine wpQuiet_nil ?_
            rintro W ⟨n, hnW⟩
            have R' := n.h
            rw [← hnW] at R'
            clear R r0 r1 r2 r3 ne hnW n
            have R := R'
            clear R'
            obtain ⟨q0, q1, q2⟩ := R.2.2.1
            obtain ⟨q3, q4⟩ := R.2.2.2.1.rules
            have zW := R.2.2.2.1.lt
            have RS := R.stored
            go_wp2_with (first | (at_builtin; refine wpList_append_own _ rfl _ _ 30 rfl (w.heap.size + 1) 116 i0 (.agg #[.int .i64 0, .int .i64 0, .int .i64 0]) 3 24 Tryz.underlying30 hi hz0 hz1 hz2 rfl (by decide) _ _ _ rfl (RS.2.2.2.2.alloc _) ⟨W.heap.size, 0, none⟩ 1 1 [.int .i64 y.k, .int .i64 y.t, .int .i64 y.s] rfl rfl (by intro j u hj; match j, hj with | 0, hj => (simp at hj; subst hj; simp [Addr.add, go_sem]) | 1, hj => (simp at hj; subst hj; simp [Addr.add, go_sem]) | 2, hj => (simp at hj; subst hj; simp [Addr.add, go_sem]) | (j + 3), hj => (simp at hj)) (by intro u hu; simp at hu; rcases hu with rfl | rfl | rfl <;> rfl) (by unfold maxLen; omega) (by omega) (by have := R.1.size; simp; omega) ?_))
            intro v' w4 hown4 hg4 _
            have R4 : PutW w b (f + k * 3) y y v' (o ++ [y]) w4 := RS.appended (by rw [flat3_snoc]; simpa using hown4) hg4
            clear hown4 hg4 R q0 q1 q2 q3 q4 zW
            clear RS

            obtain ⟨W, rfl⟩ : ∃ W, w4 = W := ⟨_, rfl⟩
            have R := R4
            clear R4
            have hne : (y.k == y.k) = true := by simp
            go_wp2_with fail
            obtain ⟨r0, r1, r2, r3⟩ := PutW.rules (w0 := w) (b := b) (x := f + k * 3) (y := y) (c := y) (v := v') (o := (o ++ [y]))
            have ne : Nonempty (Wof (PutW w b (f + k * 3) y y v' (o ++ [y]))) := ⟨⟨_, R⟩⟩
            refine wp_region_class (S := PutW w b (f + k * 3) y y v' (o ++ [y])) (by kernel_rfl) (by kernel_rfl) R.drew ?_
            repeat (go_big_quiet_step ((rename_i n; first | (go_at_call 169; exact Calls.inClass (sLess_is hless _) PutW.below))))
            refine wpQuiet_nil ?_
            rintro W ⟨n, hnW⟩
            have R' := n.h
            rw [← hnW] at R'
            clear R r0 r1 r2 r3 ne hnW n
            have R := R'
            clear R'
            go_wp2
            go_roundw
            case rel => exact ⟨k + 1, _, _, _, by omega, by go_num, rfl, HS, R.2.2.2.1, R.2.2.2.2, R.1⟩
            case measure => simp [intOf]; omega
        · have HS : Hid (PutSt xs d (k + 1) true (o ++ [d] ++ [xs[k]]) c) := PutSt.above hx.out hd hlt HS0.out hl
          have hck : c = d := by rcases HS0.out with ⟨_, h, _⟩ | ⟨h, _⟩; exact h; cases h
          subst hck
          generalize xs[k] = y at *
          have hless : True := trivial
          have hne : (y.k == c.k) = false := by simp; omega
          go_wp2_with fail
          obtain ⟨r0, r1, r2, r3⟩ := PutW.rules (w0 := w) (b := b) (x := f + k * 3) (y := y) (c := c) (v := u5) (o := o)
          have ne : Nonempty (Wof (PutW w b (f + k * 3) y c u5 o)) := ⟨⟨_, R⟩⟩
          refine wp_region_class (S := PutW w b (f + k * 3) y c u5 o) (by kernel_rfl) (by kernel_rfl) R.drew ?_
          repeat (go_big_quiet_step ((rename_i n; first | (go_at_call 169; exact Calls.inClass (sLess_is hless _) PutW.below))))
          refine wpQuiet_nil ?_
          rintro W ⟨n, hnW⟩
          have R' := n.h
          rw [← hnW] at R'
          clear R r0 r1 r2 r3 ne hnW n
          have R := R'
          clear R'
          go_wp2_with fail
          obtain ⟨r0, r1, r2, r3⟩ := PutW.rules (w0 := w) (b := b) (x := f + k * 3) (y := y) (c := c) (v := u5) (o := o)
          have ne : Nonempty (Wof (PutW w b (f + k * 3) y c u5 o)) := ⟨⟨_, R⟩⟩
          refine wp_region_class (S := PutW w b (f + k * 3) y c u5 o) (by kernel_rfl) (by kernel_rfl) R.drew ?_
          repeat (go_big_quiet_step ((rename_i n; first | (go_at_call 169; exact Calls.inClass (sLess_is hless _) PutW.below))))
          refine wpQuiet_nil ?_
          rintro W ⟨n, hnW⟩
          have R' := n.h
          rw [← hnW] at R'
          clear R r0 r1 r2 r3 ne hnW n
          have R := R'
          clear R'
          obtain ⟨q0, q1, q2⟩ := R.2.2.1
          obtain ⟨q3, q4⟩ := R.2.2.2.1.rules
          have zW := R.2.2.2.1.lt
          go_wp2_with (first | (at_builtin; refine wpList_append_own _ rfl _ _ 30 rfl (w.heap.size + 1) 116 i0 (.agg #[.int .i64 0, .int .i64 0, .int .i64 0]) 3 24 Tryz.underlying30 hi hz0 hz1 hz2 rfl (by decide) _ _ _ rfl (R.2.2.2.2.alloc _) ⟨W.heap.size, 0, none⟩ 1 1 [.int .i64 c.k, .int .i64 c.t, .int .i64 c.s] rfl rfl (by intro j u hj; match j, hj with | 0, hj => (simp at hj; subst hj; simp [Addr.add, go_sem]) | 1, hj => (simp at hj; subst hj; simp [Addr.add, go_sem]) | 2, hj => (simp at hj; subst hj; simp [Addr.add, go_sem]) | (j + 3), hj => (simp at hj)) (by intro u hu; simp at hu; rcases hu with rfl | rfl | rfl <;> rfl) (by unfold maxLen; omega) (by omega) (by have := R.1.size; simp; omega) ?_))
          intro v' w4 hown4 hg4 _
          have R4 : PutW w b (f + k * 3) y c v' (o ++ [c]) w4 := R.appended (by rw [flat3_snoc]; simpa using hown4) hg4
          clear hown4 hg4 R q0 q1 q2 q3 q4 zW

          obtain ⟨W, rfl⟩ : ∃ W, w4 = W := ⟨_, rfl⟩
          have R := R4
          clear R4
          go_wp2_with fail
          obtain ⟨r0, r1, r2, r3⟩ := PutW.rules (w0 := w) (b := b) (x := f + k * 3) (y := y) (c := c) (v := v') (o := (o ++ [c]))
          have ne : Nonempty (Wof (PutW w b (f + k * 3) y c v' (o ++ [c]))) := ⟨⟨_, R⟩⟩
          refine wp_region_class (S := PutW w b (f + k * 3) y c v' (o ++ [c])) (by kernel_rfl) (by kernel_rfl) R.drew ?_
          repeat (go_big_quiet_step ((rename_i n; first | (go_at_call 169; exact Calls.inClass (sLess_is hless _) PutW.below))))
          refine wpQuiet_nil ?_
          rintro W ⟨n, hnW⟩
          have R' := n.h
          rw [← hnW] at R'
          clear R r0 r1 r2 r3 ne hnW n
          have R := R'
          clear R'
          have hlen : (o ++ [c]).length ≤ 7 := by simp; omega
          obtain ⟨q0, q1, q2⟩ := R.2.2.1
          obtain ⟨q3, q4⟩ := R.2.2.2.1.rules
          have zW := R.2.2.2.1.lt
          go_wp2_with (first | (at_builtin; refine wpList_append_own _ rfl _ _ 30 rfl (w.heap.size + 1) 116 i0 (.agg #[.int .i64 0, .int .i64 0, .int .i64 0]) 3 24 Tryz.underlying30 hi hz0 hz1 hz2 rfl (by decide) _ _ _ rfl (R.2.2.2.2.alloc _) ⟨W.heap.size, 0, none⟩ 1 1 [.int .i64 y.k, .int .i64 y.t, .int .i64 y.s] rfl rfl (by intro j u hj; match j, hj with | 0, hj => (simp at hj; subst hj; simp [Addr.add, go_sem]) | 1, hj => (simp at hj; subst hj; simp [Addr.add, go_sem]) | 2, hj => (simp at hj; subst hj; simp [Addr.add, go_sem]) | (j + 3), hj => (simp at hj)) (by intro u hu; simp at hu; rcases hu with rfl | rfl | rfl <;> rfl) (by unfold maxLen; omega) (by omega) (by have := R.1.size; simp; omega) ?_))
          intro v2 w4 hown4 hg4 _
          have R4 : PutW w b (f + k * 3) y c v2 (o ++ [c] ++ [y]) w4 := R.appended (by rw [flat3_snoc]; simpa using hown4) hg4
          clear hown4 hg4 R q0 q1 q2 q3 q4 zW

          obtain ⟨W, rfl⟩ : ∃ W, w4 = W := ⟨_, rfl⟩
          have R := R4
          clear R4
          go_wp2
          go_roundw
          case rel => exact ⟨k + 1, _, _, _, by omega, by go_num, rfl, HS, R.2.2.2.1, R.2.2.2.2, R.1⟩
          case measure => simp [intOf]; omega
      · obtain ⟨hcl, HS'⟩ := PutSt.past hx.out hlt HS0.out
        have HS : Hid (PutSt xs d (k + 1) true (o ++ [xs[k]]) c) := HS'
        clear HS'
        generalize xs[k] = y at *
        have hless : True := trivial
        have hne : (y.k == c.k) = false := by simp; omega
        go_wp2_with fail
        obtain ⟨r0, r1, r2, r3⟩ := PutW.rules (w0 := w) (b := b) (x := f + k * 3) (y := y) (c := c) (v := u5) (o := o)
        have ne : Nonempty (Wof (PutW w b (f + k * 3) y c u5 o)) := ⟨⟨_, R⟩⟩
        refine wp_region_class (S := PutW w b (f + k * 3) y c u5 o) (by kernel_rfl) (by kernel_rfl) R.drew ?_
        repeat (go_big_quiet_step ((rename_i n; first | (go_at_call 169; exact Calls.inClass (sLess_is hless _) PutW.below))))
        refine wpQuiet_nil ?_
        rintro W ⟨n, hnW⟩
        have R' := n.h
        rw [← hnW] at R'
        clear R r0 r1 r2 r3 ne hnW n
        have R := R'
        clear R'
        go_wp2_with fail
        obtain ⟨r0, r1, r2, r3⟩ := PutW.rules (w0 := w) (b := b) (x := f + k * 3) (y := y) (c := c) (v := u5) (o := o)
        have ne : Nonempty (Wof (PutW w b (f + k * 3) y c u5 o)) := ⟨⟨_, R⟩⟩
        refine wp_region_class (S := PutW w b (f + k * 3) y c u5 o) (by kernel_rfl) (by kernel_rfl) R.drew ?_
        repeat (go_big_quiet_step ((rename_i n; first | (go_at_call 169; exact Calls.inClass (sLess_is hless _) PutW.below))))
        refine wpQuiet_nil ?_
        rintro W ⟨n, hnW⟩
        have R' := n.h
        rw [← hnW] at R'
        clear R r0 r1 r2 r3 ne hnW n
        have R := R'
        clear R'
        obtain ⟨q0, q1, q2⟩ := R.2.2.1
        obtain ⟨q3, q4⟩ := R.2.2.2.1.rules
        have zW := R.2.2.2.1.lt
        go_wp2_with (first | (at_builtin; refine wpList_append_own _ rfl _ _ 30 rfl (w.heap.size + 1) 116 i0 (.agg #[.int .i64 0, .int .i64 0, .int .i64 0]) 3 24 Tryz.underlying30 hi hz0 hz1 hz2 rfl (by decide) _ _ _ rfl (R.2.2.2.2.alloc _) ⟨W.heap.size, 0, none⟩ 1 1 [.int .i64 y.k, .int .i64 y.t, .int .i64 y.s] rfl rfl (by intro j u hj; match j, hj with | 0, hj => (simp at hj; subst hj; simp [Addr.add, go_sem]) | 1, hj => (simp at hj; subst hj; simp [Addr.add, go_sem]) | 2, hj => (simp at hj; subst hj; simp [Addr.add, go_sem]) | (j + 3), hj => (simp at hj)) (by intro u hu; simp at hu; rcases hu with rfl | rfl | rfl <;> rfl) (by unfold maxLen; omega) (by omega) (by have := R.1.size; simp; omega) ?_))
        intro v' w4 hown4 hg4 _
        have R4 : PutW w b (f + k * 3) y c v' (o ++ [y]) w4 := R.appended (by rw [flat3_snoc]; simpa using hown4) hg4
        clear hown4 hg4 R q0 q1 q2 q3 q4 zW

        obtain ⟨W, rfl⟩ : ∃ W, w4 = W := ⟨_, rfl⟩
        have R := R4
        clear R4
        go_wp2
        go_roundw
        case rel => exact ⟨k + 1, _, _, _, by omega, by go_num, rfl, HS, R.2.2.2.1, R.2.2.2.2, R.1⟩
        case measure => simp [intOf]; omega
    · have hk2 : k = xs.length := by omega
      subst hk2
      rcases done with _ | _
      · obtain ⟨rfl, hl⟩ := PutSt.last hx.out hd HS0.out
        have HL : Hid _ := hl
        clear hl h
        have zW := hD.lt
        obtain ⟨q3, q4⟩ := hD.rules
        go_wp2_with (first | (at_builtin; refine wpList_append_own _ rfl _ _ 30 rfl (w.heap.size + 1) 116 i0 (.agg #[.int .i64 0, .int .i64 0, .int .i64 0]) 3 24 Tryz.underlying30 hi hz0 hz1 hz2 rfl (by decide) _ _ _ rfl (hrow.alloc _) ⟨wr.heap.size, 0, none⟩ 1 1 [.int .i64 c.k, .int .i64 c.t, .int .i64 c.s] rfl rfl (by intro j u hj; match j, hj with | 0, hj => (simp at hj; subst hj; simp [Addr.add, go_sem]) | 1, hj => (simp at hj; subst hj; simp [Addr.add, go_sem]) | 2, hj => (simp at hj; subst hj; simp [Addr.add, go_sem]) | (j + 3), hj => (simp at hj)) (by intro u hu; simp at hu; rcases hu with rfl | rfl | rfl <;> rfl) (by unfold maxLen; omega) (by omega) (by have := hB.size; simp; omega) ?_))
        intro v' w4 hown4 hg4 _
        have hB4 : Below w.heap.size w w4 := (hB.alloc hB.size _).grown hg4 (by have := hB.size; simp; omega) (fun j hj => by have := (hrow.lt j hj).1; omega)
        have hrow4 : w4.ownsRow w.heap.size 116 3 v' (putL xs c).length (flat3 (putL xs c)) := by
          rw [HP.out, ← HL.out, flat3_snoc]
          exact row_mono (by simpa using hown4) (by omega)
        clear hown4 hg4 hrow hB q3 q4
        go_wp2
        go_ret
        exact ⟨_, rfl, hrow4, hB4⟩
      · have HL : Hid _ := PutSt.done HS0.out
        clear h
        have hrow4 : wr.ownsRow w.heap.size 116 3 u5 (putL xs d).length (flat3 (putL xs d)) := by
          rw [HP.out, ← HL.out]
          exact row_mono hrow (by omega)
        clear hrow
        go_wp2
        go_ret
        exact ⟨_, rfl, hrow4, hB⟩
end Go.Proofs.YtpjidogilofppaaGreat

/- The specification's DepsPut, at all deps. -/
namespace Go.Proofs.YtpjidogilofppaaGreat
open Go.ChangeShapes Go.WideShapes Go.ChangeAt Go.RowKit

set_option maxHeartbeats 1000000 in
set_option maxRecDepth 100000 in
theorem sPut_no (a : Option Addr) (cap : Nat) (xs : List D) (d : D) (w : World) (hn : xs.length ≤ 1099511627776) (h : Deps w a xs) (hno : depsOk xs = false ∨ okD d = false) :
    Calls Tryz.prog 274 #[.slice a xs.length cap, depV d.k d.t d.s] w fun e w' => ∃ v, e = .returned v ∧ w'.ownsRow w.heap.size 116 3 v (putL xs d).length (flat3 (putL xs d)) ∧ Below w.heap.size w w' := by
  have HP : Hid (putL xs d = []) := putL_no hno
  have B0 : Below w.heap.size w (w.alloc (.cells #[.int .i64 d.k, .int .i64 d.t, .int .i64 d.s] 116)) := (Below.refl _ _).alloc (Nat.le_refl _) _
  have hS := sDepsOk_any a cap xs _ hn (h.below B0)
  rcases hok : depsOk xs with _ | _
  · rw [hok] at hS
    clear h
    go_enter Tryz.func274, Tryz.ntmps274
    go_wp2_with fail
    refine hS.mono ?_
    rintro e w1 ⟨rfl, hb1⟩
    have hB1 : Below w.heap.size w w1 := B0.trans (hb1.mono (by simp))
    clear hb1 hS B0
    have hown0 : (w1.alloc (.cells #[] 116)).ownsRow w.heap.size 116 3 (.slice (some ⟨w1.heap.size, 0, none⟩) 0 0) 0 [] := World.ownsRow_made w1 #[] 0 hB1.size (by unfold maxLen; omega) rfl
    go_wp2_with fail
    go_ret
    exact ⟨_, rfl, by rw [HP.out]; exact hown0, hB1.alloc hB1.size _⟩
  · have hd : okD d = false := by rcases hno with h | h; rw [hok] at h; cases h; exact h
    rw [hok] at hS
    have hS1 := fun (w : World) h => sDepsOk_any (some ⟨w.heap.size, 0, none⟩) 1 [d] (w.alloc (.cells #[.int .i64 d.k, .int .i64 d.t, .int .i64 d.s] 116)) (by simp) h
    rw [depsOk_one, hd] at hS1
    simp only [List.length_cons, List.length_nil, Nat.zero_add] at hS1
    clear h
    go_enter Tryz.func274, Tryz.ntmps274
    go_wp2_with fail
    refine hS.mono ?_
    rintro e w1 ⟨rfl, hb1⟩
    have D1 := (Blk.new w _ _).below hb1 (by simp)
    have hB1 : Below w.heap.size w w1 := B0.trans (hb1.mono (by simp))
    obtain ⟨q1, g1⟩ := D1.rules
    clear hb1 hS B0
    go_wp2_with fail
    refine (hS1 _ (deps_one (Blk.new w1 _ _))).mono ?_
    rintro e w2 ⟨rfl, hb2⟩
    have hB2 : Below w.heap.size w w2 := (hB1.alloc hB1.size _).trans (hb2.mono (by have := hB1.size; simp; omega))
    have hown0 : (w2.alloc (.cells #[] 116)).ownsRow w.heap.size 116 3 (.slice (some ⟨w2.heap.size, 0, none⟩) 0 0) 0 [] := World.ownsRow_made w2 #[] 0 hB2.size (by unfold maxLen; omega) rfl
    clear hb2 q1 g1 D1 hB1 hS1
    go_wp2_with fail
    go_ret
    exact ⟨_, rfl, by rw [HP.out]; exact hown0, hB2.alloc hB2.size _⟩

theorem sPut_any (a : Option Addr) (cap : Nat) (xs : List D) (d : D) (w : World) (hn : xs.length ≤ 1099511627776) (h : Deps w a xs) :
    Calls Tryz.prog 274 #[.slice a xs.length cap, depV d.k d.t d.s] w fun e w' => ∃ v, e = .returned v ∧ w'.ownsRow w.heap.size 116 3 v (putL xs d).length (flat3 (putL xs d)) ∧ Below w.heap.size w w' := by
  by_cases hb : depsOk xs = true ∧ okD d = true
  · exact sPut_yes a cap xs d w hn h hb.1 hb.2
  · refine sPut_no a cap xs d w hn h ?_
    rcases h1 : depsOk xs with _ | _
    · exact .inl rfl
    · rcases h2 : okD d with _ | _
      · exact .inr rfl
      · exact absurd ⟨h1, h2⟩ hb
end Go.Proofs.YtpjidogilofppaaGreat

/- Deps are drawn. -/
namespace Go.Proofs.YtpjidogilofppaaGreat
open Go.ChangeShapes Go.WideShapes Go.ChangeAt Go.RowKit

theorem Stp.ofBelow {B : Nat} {w w' : World} (h : Below w.heap.size w w') : Stp B w w' := ⟨h.os, h.tape, h.output, h.size, fun k hk _ => h.block k hk⟩
theorem Rd.below {w w' : World} {B : Nat} {p : Int} (h : Rd w B p) (k : Below w.heap.size w w') : Rd w' B p := h.of_block k.size fun j hj => k.block j (by have := h.1; omega)
theorem row_step {B : Nat} {w w' : World} {base : Nat} {e : TypeId} {size : Nat} {v : Value} {n : Nat} {xs : List Value} (h : w.ownsRow base e size v n xs) (k : Stp B w w') (hB : B < base) : w'.ownsRow base e size v n xs := by
  refine ⟨h.1, ?_⟩
  rcases h.2 with hn | ⟨g, cap, cur, rfl, hb, hg, rest⟩
  · exact .inl hn
  · exact .inr ⟨g, cap, cur, rfl, hb, (k.block g (Array.getElem?_eq_some_iff.1 hg).1 (by omega)).trans hg, rest⟩
theorem Blk.stp {B A : Nat} {w w' : World} {vs : Array Value} {T : TypeId} (h : Blk w A vs T) (k : Stp B w w') (hne : A ≠ B) : Blk w' A vs T := (k.block A h.lt hne).trans h
theorem Stp.grown {B : Nat} {a w w' : World} {row : Option Nat} (h : Stp B a w) (g : w.grownBy w' row) (hr : ∀ j, row = some j → a.heap.size ≤ j) : Stp B a w' :=
  ⟨g.os.trans h.os, g.tape.trans h.tape, g.output.trans h.output, Nat.le_trans h.size g.size, fun k hk hB => (g.block k (by have := h.size; omega) (fun e => by have := hr k e.symm; omega)).trans (h.block k hk hB)⟩
theorem Rd.grown {B : Nat} {w w' : World} {p : Int} {row : Option Nat} (h : Rd w B p) (g : w.grownBy w' row) (hr : ∀ k, row = some k → B < k) : Rd w' B p :=
  h.of_block g.size fun k hk => g.block k (by have := h.1; omega) (fun e => by have := hr k e.symm; omega)

theorem flat3_set0 {xs : List D} (h : 0 < xs.length) (t s : Int) : ((flat3 xs).set 1 (.int .i64 t)).set 2 (.int .i64 s) = flat3 (xs.set 0 ⟨xs[0].k, t, s⟩) := by
  cases xs with
  | nil => simp at h
  | cons x xs => simp [flat3]

end Go.Proofs.YtpjidogilofppaaGreat

/- A version is drawn. -/
namespace Go.Proofs.YtpjidogilofppaaGreat
open Go.ChangeShapes Go.WideShapes Go.ChangeAt Go.RowKit

theorem Rd.fill7 {w : World} {B Z : Nat} {p : Int} {v0 v1 v2 v3 v4 v5 v6 : Value} (h : Rd w B p) (hZ : B < Z) : Rd (((((((w.setCell ⟨Z, 0, none⟩ v0).setCell ⟨Z, 1, none⟩ v1).setCell ⟨Z, 2, none⟩ v2).setCell ⟨Z, 3, none⟩ v3).setCell ⟨Z, 4, none⟩ v4).setCell ⟨Z, 5, none⟩ v5).setCell ⟨Z, 6, none⟩ v6) B p :=
  ((((((h.setNew (by simpa using hZ) _).setNew (by simpa using hZ) _).setNew (by simpa using hZ) _).setNew (by simpa using hZ) _).setNew (by simpa using hZ) _).setNew (by simpa using hZ) _).setNew (by simpa using hZ) _
theorem Stp.fill7 {a w : World} {B Z : Nat} {v0 v1 v2 v3 v4 v5 v6 : Value} (h : Stp B a w) (hZ : a.heap.size ≤ Z) : Stp B a (((((((w.setCell ⟨Z, 0, none⟩ v0).setCell ⟨Z, 1, none⟩ v1).setCell ⟨Z, 2, none⟩ v2).setCell ⟨Z, 3, none⟩ v3).setCell ⟨Z, 4, none⟩ v4).setCell ⟨Z, 5, none⟩ v5).setCell ⟨Z, 6, none⟩ v6) :=
  ((((((h.setNew (by simpa using hZ) _).setNew (by simpa using hZ) _).setNew (by simpa using hZ) _).setNew (by simpa using hZ) _).setNew (by simpa using hZ) _).setNew (by simpa using hZ) _).setNew (by simpa using hZ) _

end Go.Proofs.YtpjidogilofppaaGreat

/- The specification's ChainPut. -/
namespace Go.Proofs.YtpjidogilofppaaGreat
open Go.ChangeShapes Go.WideShapes Go.ChangeAt Go.RowKit

theorem put_no {vs : List V} {v : V} (h : chainB vs = false) : cPut vs v = [] ∧ cDid vs v = false := by unfold cPut cDid; rw [h]; exact ⟨rfl, rfl⟩
theorem put_stay {vs : List V} {v : V} (h : chainB vs = true) (hp : putB vs v = false) : cPut vs v = vs ∧ cDid vs v = false := by unfold cPut cDid; rw [h, hp]; exact ⟨rfl, rfl⟩
theorem put_take {vs : List V} {v : V} (h : chainB vs = true) (hp : putB vs v = true) : cPut vs v = insV v vs ∧ cDid vs v = true := by unfold cPut cDid; rw [h, hp]; exact ⟨rfl, rfl⟩
theorem putB_ok {vs : List V} {v : V} (h : okV v = false) : putB vs v = false := by unfold putB; rw [h]; rfl
theorem putB_there {vs : List V} {v : V} (h : (cAt vs v.k v.t v.s).isSome = true) : putB vs v = false := by
  unfold putB
  rcases hc : cAt vs v.k v.t v.s with _ | x
  · rw [hc] at h; cases h
  · simp
theorem putB_full {vs : List V} {v : V} (h : 80 ≤ vs.length) : putB vs v = false := by unfold putB; simp; omega
theorem putB_yes {vs : List V} {v : V} (h : okV v = true) (hn : (cAt vs v.k v.t v.s).isSome = false) (hl : vs.length < 80) : putB vs v = true := by
  unfold putB
  rcases hc : cAt vs v.k v.t v.s with _ | x
  · rw [h]; simpa using hl
  · rw [hc] at hn; cases hn

set_option maxHeartbeats 4000000 in
set_option maxRecDepth 100000 in
theorem sPutV_any (a : Option Addr) (cap : Nat) (vs : List V) (v : V) (va : Option Addr) (vc : Nat) (w : World) (hn : vs.length ≤ 1099511627776) (h : Vers w a vs) (hvl : v.ds.length ≤ 1099511627776) (hvd0 : Deps w va v.ds) :
    Calls Tryz.prog 118 #[.slice a vs.length cap, verV v.k v.t v.s v.val v.cl v.ca va v.ds.length vc] w fun e w' => ∃ u ys, e = .returned (.tuple #[u, .bool (cDid vs v)]) ∧ OwnV w' w.heap.size u ys ∧ ys.map XV.v = cPut vs v ∧ Below w.heap.size w w' := by
  have V1 := Blk.new w #[.int .i64 v.k, .int .i64 v.t, .int .i64 v.s, .int .i64 v.val, .int .i64 v.cl, .int .i64 v.ca, .slice va v.ds.length vc] 107
  have b0 : Below w.heap.size w (w.alloc (.cells #[.int .i64 v.k, .int .i64 v.t, .int .i64 v.s, .int .i64 v.val, .int .i64 v.cl, .int .i64 v.ca, .slice va v.ds.length vc] 107)) := (Below.refl _ w).alloc (Nat.le_refl _) _
  have h1 := h.below b0
  have hvd := hvd0.below b0
  have hC := fun W h => sChainOk_any a cap vs W hn h
  have s1 : (w.alloc (.cells #[.int .i64 v.k, .int .i64 v.t, .int .i64 v.s, .int .i64 v.val, .int .i64 v.cl, .int .i64 v.ca, .slice va v.ds.length vc] 107)).heap.size = w.heap.size + 1 := by simp
  rcases hc : chainB vs with _ | _
  · have HP : Hid _ := put_no (v := v) hc
    rw [hc] at hC
    clear h hc hvd hvd0
    go_enter Tryz.func118, Tryz.ntmps118
    go_wp2_with fail
    generalize (w.alloc (.cells #[.int .i64 v.k, .int .i64 v.t, .int .i64 v.s, .int .i64 v.val, .int .i64 v.cl, .int .i64 v.ca, .slice va v.ds.length vc] 107)) = W1 at *
    refine (hC _ h1).mono ?_
    rintro e w2 ⟨rfl, hb2⟩
    clear hC
    have V2 := V1.below hb2 V1.lt
    obtain ⟨q1, g1⟩ := V2.rules
    have B2 : Below w.heap.size w w2 := b0.trans (hb2.mono b0.size)
    clear q1 g1 V2 V1 hb2
    have hown0 : (w2.alloc (.cells #[] 107)).ownsRow w.heap.size 107 7 (.slice (some ⟨w2.heap.size, 0, none⟩) 0 0) 0 [] := World.ownsRow_made w2 #[] 0 B2.size (by unfold maxLen; omega) rfl
    go_wp2_with fail
    go_ret2
    exact ⟨_, [], by rw [HP.out.2]; rfl, ⟨hown0, fun _ h => (by cases h), List.Pairwise.nil⟩, by rw [HP.out.1]; rfl, B2.alloc B2.size _⟩
  have hl80 := (chainB_iff.1 hc).1
  have HA : (atA vs v.k v.t v.s).isSome = (cAt vs v.k v.t v.s).isSome := by rw [atA_yes hc]
  rcases hv : okV v with _ | _
  · have HP : Hid _ := put_stay hc (putB_ok (vs := vs) hv)
    rw [hc] at hC
    generalize (cAt vs v.k v.t v.s).isSome = there at *
    clear h hc hvd0
    go_enter Tryz.func118, Tryz.ntmps118
    go_wp2_with fail
    generalize (w.alloc (.cells #[.int .i64 v.k, .int .i64 v.t, .int .i64 v.s, .int .i64 v.val, .int .i64 v.cl, .int .i64 v.ca, .slice va v.ds.length vc] 107)) = W1 at *
    refine (hC _ h1).mono ?_
    rintro e w2 ⟨rfl, hb2⟩
    clear hC
    have V2 := V1.below hb2 V1.lt
    obtain ⟨q1, g1⟩ := V2.rules
    go_wp2_with fail
    refine (sAtV_any a cap vs v.k v.t v.s _ hn (h1.below hb2)).mono ?_
    rintro e w3 ⟨u, pa, pc, Hu, rfl, hrow, hb3⟩
    rw [HA]
    clear q1 g1 Hu hrow
    have b3 : Below W1.heap.size W1 w3 := hb2.trans (hb3.mono hb2.size)
    have V3 := (V1.below b3 V1.lt).alloc (.cells #[.int .i64 u.k, .int .i64 u.t, .int .i64 u.s, .int .i64 u.val, .int .i64 u.cl, .int .i64 u.ca, .slice pa u.ds.length pc] 107)
    have b4 := b3.alloc b3.size (.cells #[.int .i64 u.k, .int .i64 u.t, .int .i64 u.s, .int .i64 u.val, .int .i64 u.cl, .int .i64 u.ca, .slice pa u.ds.length pc] 107)
    obtain ⟨q1, g1⟩ := V3.rules
    clear hb2 hb3 b3 V2
    go_wp2_with fail
    generalize w3.alloc (.cells #[.int .i64 u.k, .int .i64 u.t, .int .i64 u.s, .int .i64 u.val, .int .i64 u.cl, .int .i64 u.ca, .slice pa u.ds.length pc] 107) = W4 at *
    refine (sVer_is hv hvl (hvd.below b4)).mono ?_
    rintro e w5 ⟨rfl, hb5⟩
    have b5 : Below W1.heap.size W1 w5 := b4.trans (hb5.mono b4.size)
    have V5 := V1.below b5 V1.lt
    clear q1 g1 V3 hb5 b4
    obtain ⟨q1, g1⟩ := V5.rules
    go_wp2_with fail
    refine (sVers_any a cap vs _ hn (h1.below b5)).mono ?_
    rintro e w6 ⟨u6, ys, rfl, hO, hys, hb6⟩
    go_wp2_with fail
    go_ret2
    exact ⟨_, ys, by rw [HP.out.2]; rfl, hO.mono (by have := b0.size; have := b5.size; omega), by rw [hys, HP.out.1], (b0.trans (b5.mono b0.size)).trans (hb6.mono (by have := b0.size; have := b5.size; omega))⟩
  rcases hth : (cAt vs v.k v.t v.s).isSome with _ | _
  · rw [hth] at HA
    by_cases hl : 80 ≤ (vs.length : Int)
    · have HP : Hid _ := put_stay hc (putB_full (v := v) (by omega : 80 ≤ vs.length))
      rw [hc] at hC
      clear h hc hvd0
      go_enter Tryz.func118, Tryz.ntmps118
      go_wp2_with fail
      generalize (w.alloc (.cells #[.int .i64 v.k, .int .i64 v.t, .int .i64 v.s, .int .i64 v.val, .int .i64 v.cl, .int .i64 v.ca, .slice va v.ds.length vc] 107)) = W1 at *
      refine (hC _ h1).mono ?_
      rintro e w2 ⟨rfl, hb2⟩
      clear hC
      have V2 := V1.below hb2 V1.lt
      obtain ⟨q1, g1⟩ := V2.rules
      go_wp2_with fail
      refine (sAtV_any a cap vs v.k v.t v.s _ hn (h1.below hb2)).mono ?_
      rintro e w3 ⟨u, pa, pc, Hu, rfl, hrow, hb3⟩
      rw [HA]
      clear q1 g1 Hu hrow
      have b3 : Below W1.heap.size W1 w3 := hb2.trans (hb3.mono hb2.size)
      have V3 := (V1.below b3 V1.lt).alloc (.cells #[.int .i64 u.k, .int .i64 u.t, .int .i64 u.s, .int .i64 u.val, .int .i64 u.cl, .int .i64 u.ca, .slice pa u.ds.length pc] 107)
      have b4 := b3.alloc b3.size (.cells #[.int .i64 u.k, .int .i64 u.t, .int .i64 u.s, .int .i64 u.val, .int .i64 u.cl, .int .i64 u.ca, .slice pa u.ds.length pc] 107)
      obtain ⟨q1, g1⟩ := V3.rules
      clear hb2 hb3 b3 V2
      go_wp2_with fail
      generalize w3.alloc (.cells #[.int .i64 u.k, .int .i64 u.t, .int .i64 u.s, .int .i64 u.val, .int .i64 u.cl, .int .i64 u.ca, .slice pa u.ds.length pc] 107) = W4 at *
      refine (sVer_is hv hvl (hvd.below b4)).mono ?_
      rintro e w5 ⟨rfl, hb5⟩
      have b5 : Below W1.heap.size W1 w5 := b4.trans (hb5.mono b4.size)
      have V5 := V1.below b5 V1.lt
      clear q1 g1 V3 hb5 b4
      obtain ⟨q1, g1⟩ := V5.rules
      go_wp2_with fail
      refine (sVers_any a cap vs _ hn (h1.below b5)).mono ?_
      rintro e w6 ⟨u6, ys, rfl, hO, hys, hb6⟩
      go_wp2_with fail
      go_ret2
      exact ⟨_, ys, by rw [HP.out.2]; rfl, hO.mono (by have := b0.size; have := b5.size; omega), by rw [hys, HP.out.1], (b0.trans (b5.mono b0.size)).trans (hb6.mono (by have := b0.size; have := b5.size; omega))⟩
    · have HP : Hid _ := put_take hc (putB_yes (vs := vs) hv hth (by omega))
      rw [hc] at hC
      have hl2 : (vs.length : Int) < 80 := by omega
      clear h hc hvd0 hth hl
      go_enter Tryz.func118, Tryz.ntmps118
      go_wp2_with fail
      generalize (w.alloc (.cells #[.int .i64 v.k, .int .i64 v.t, .int .i64 v.s, .int .i64 v.val, .int .i64 v.cl, .int .i64 v.ca, .slice va v.ds.length vc] 107)) = W1 at *
      refine (hC _ h1).mono ?_
      rintro e w2 ⟨rfl, hb2⟩
      clear hC
      have V2 := V1.below hb2 V1.lt
      obtain ⟨q1, g1⟩ := V2.rules
      go_wp2_with fail
      refine (sAtV_any a cap vs v.k v.t v.s _ hn (h1.below hb2)).mono ?_
      rintro e w3 ⟨u, pa, pc, Hu, rfl, hrow, hb3⟩
      rw [HA]
      clear q1 g1 Hu hrow
      have b3 : Below W1.heap.size W1 w3 := hb2.trans (hb3.mono hb2.size)
      have V3 := (V1.below b3 V1.lt).alloc (.cells #[.int .i64 u.k, .int .i64 u.t, .int .i64 u.s, .int .i64 u.val, .int .i64 u.cl, .int .i64 u.ca, .slice pa u.ds.length pc] 107)
      have b4 := b3.alloc b3.size (.cells #[.int .i64 u.k, .int .i64 u.t, .int .i64 u.s, .int .i64 u.val, .int .i64 u.cl, .int .i64 u.ca, .slice pa u.ds.length pc] 107)
      obtain ⟨q1, g1⟩ := V3.rules
      clear hb2 hb3 b3 V2
      go_wp2_with fail
      generalize w3.alloc (.cells #[.int .i64 u.k, .int .i64 u.t, .int .i64 u.s, .int .i64 u.val, .int .i64 u.cl, .int .i64 u.ca, .slice pa u.ds.length pc] 107) = W4 at *
      refine (sVer_is hv hvl (hvd.below b4)).mono ?_
      rintro e w5 ⟨rfl, hb5⟩
      have b5 : Below W1.heap.size W1 w5 := b4.trans (hb5.mono b4.size)
      have V5 := V1.below b5 V1.lt
      clear q1 g1 V3 hb5 b4
      obtain ⟨q1, g1⟩ := V5.rules
      go_wp2_with fail
      refine (l3Put_any a cap vs v va vc _ (by omega) (h1.below b5) hvl (hvd.below b5)).mono ?_
      rintro e w6 ⟨u6, ys, rfl, hO, hys, hb6⟩
      go_wp2_with fail
      go_ret2
      exact ⟨_, ys, by rw [HP.out.2]; rfl, hO.mono (by have := b0.size; have := b5.size; omega), by rw [hys, HP.out.1], (b0.trans (b5.mono b0.size)).trans (hb6.mono (by have := b0.size; have := b5.size; omega))⟩
  · rw [hth] at HA
    have HP : Hid _ := put_stay hc (putB_there (vs := vs) hth)
    rw [hc] at hC
    clear h hc hvd0 hth
    go_enter Tryz.func118, Tryz.ntmps118
    go_wp2_with fail
    generalize (w.alloc (.cells #[.int .i64 v.k, .int .i64 v.t, .int .i64 v.s, .int .i64 v.val, .int .i64 v.cl, .int .i64 v.ca, .slice va v.ds.length vc] 107)) = W1 at *
    refine (hC _ h1).mono ?_
    rintro e w2 ⟨rfl, hb2⟩
    clear hC
    have V2 := V1.below hb2 V1.lt
    obtain ⟨q1, g1⟩ := V2.rules
    go_wp2_with fail
    refine (sAtV_any a cap vs v.k v.t v.s _ hn (h1.below hb2)).mono ?_
    rintro e w3 ⟨u, pa, pc, Hu, rfl, hrow, hb3⟩
    rw [HA]
    clear q1 g1 Hu hrow
    have b3 : Below W1.heap.size W1 w3 := hb2.trans (hb3.mono hb2.size)
    have V3 := (V1.below b3 V1.lt).alloc (.cells #[.int .i64 u.k, .int .i64 u.t, .int .i64 u.s, .int .i64 u.val, .int .i64 u.cl, .int .i64 u.ca, .slice pa u.ds.length pc] 107)
    have b4 := b3.alloc b3.size (.cells #[.int .i64 u.k, .int .i64 u.t, .int .i64 u.s, .int .i64 u.val, .int .i64 u.cl, .int .i64 u.ca, .slice pa u.ds.length pc] 107)
    obtain ⟨q1, g1⟩ := V3.rules
    clear hb2 hb3 b3 V2
    go_wp2_with fail
    generalize w3.alloc (.cells #[.int .i64 u.k, .int .i64 u.t, .int .i64 u.s, .int .i64 u.val, .int .i64 u.cl, .int .i64 u.ca, .slice pa u.ds.length pc] 107) = W4 at *
    refine (sVer_is hv hvl (hvd.below b4)).mono ?_
    rintro e w5 ⟨rfl, hb5⟩
    have b5 : Below W1.heap.size W1 w5 := b4.trans (hb5.mono b4.size)
    have V5 := V1.below b5 V1.lt
    clear q1 g1 V3 hb5 b4
    obtain ⟨q1, g1⟩ := V5.rules
    go_wp2_with fail
    refine (sVers_any a cap vs _ hn (h1.below b5)).mono ?_
    rintro e w6 ⟨u6, ys, rfl, hO, hys, hb6⟩
    go_wp2_with fail
    go_ret2
    exact ⟨_, ys, by rw [HP.out.2]; rfl, hO.mono (by have := b0.size; have := b5.size; omega), by rw [hys, HP.out.1], (b0.trans (b5.mono b0.size)).trans (hb6.mono (by have := b0.size; have := b5.size; omega))⟩
end Go.Proofs.YtpjidogilofppaaGreat

/- Draws of versions in a list. -/
namespace Go.Proofs.YtpjidogilofppaaGreat
open Go.ChangeShapes Go.WideShapes Go.ChangeAt Go.RowKit

/-- Few versions, of few deps. -/
def Few (n : Nat) (vs : List V) : Prop := vs.length ≤ n ∧ ∀ v ∈ vs, v.ds.length ≤ 6
theorem Few.put {vs : List V} (h : Few 80 vs) {v : V} (hv : v.ds.length ≤ 6) : Few 80 (cPut vs v) := by
  unfold cPut
  split
  · split
    · rename_i hp
      have h80 : vs.length < 80 := by unfold putB at hp; simp at hp; omega
      refine ⟨by rw [insV_len]; omega, fun x hx => ?_⟩
      rcases insV_mem.1 hx with rfl | hx
      · exact hv
      · exact h.2 x hx
    · exact h
  · exact ⟨by simp, fun x hx => (by cases hx)⟩
theorem Few.more {n m : Nat} {vs : List V} (h : Few n vs) (hm : n ≤ m) : Few m vs := ⟨Nat.le_trans h.1 hm, h.2⟩
theorem OwnV.step {B : Nat} {w w' : World} {base : Nat} {v : Value} {ys : List XV} (h : OwnV w base v ys) (k : Stp B w w') (hB : B < base) : OwnV w' base v ys :=
  ⟨row_step h.row k hB, fun y hy => ⟨row_step (h.deps y hy).1 k hB, (h.deps y hy).2⟩, h.apart⟩
theorem OwnV.asD {w : World} {base : Nat} {u : Value} {ys : List XV} {vs : List V} (h : OwnV w base u ys) (hy : ys.map XV.v = vs) : ∃ a cap, u = .slice a vs.length cap ∧ Vers w a vs := by
  obtain ⟨a, cap, h1, h2, h3⟩ := h.vers
  subst hy
  exact ⟨a, cap, by rw [h1, List.length_map], h2⟩

end Go.Proofs.YtpjidogilofppaaGreat

/- Draws for the laws of chains. -/
namespace Go.Proofs.YtpjidogilofppaaGreat
open Go.ChangeShapes Go.WideShapes Go.ChangeAt Go.RowKit

end Go.Proofs.YtpjidogilofppaaGreat

