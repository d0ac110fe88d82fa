/- The reader of a code: what is known of it, and how it stays known. -/
import Derived.Test.YthlmodafadfnfaaFar
namespace Go.Proofs.Ythlmodafadfnfaa
open Go.ChangeShapes Go.WideShapes Go.ChangeAt Go.RowKit

/-- What is known of the reader that lies in the block B: its place is p, and its code lies ahead of it. -/
def Rd (w : World) (B : Nat) (p : Int) : Prop :=
  B < w.heap.size ∧ 0 ≤ p ∧ w.cell? ⟨B, 1, none⟩ = some (.int .i64 p) ∧ w.frozen? ⟨B, 1, none⟩ = false ∧
  ∃ a len cap, w.cell? ⟨B, 0, none⟩ = some (.slice a len cap) ∧
    (len = 0 ∨ ∃ b off, a = some ⟨b, off, none⟩ ∧ b < B ∧ ∀ i, i < len → ∃ z, w.cell? ⟨b, off + i, none⟩ = some (.int .u8 z) ∧ 0 ≤ z ∧ z ≤ 255)

/-- All blocks but B are as they were; more may have come. -/
structure Stp (B : Nat) (w w' : World) : Prop where
  os : w'.os = w.os
  tape : w'.tape = w.tape
  output : w'.output = w.output
  size : w.heap.size ≤ w'.heap.size
  block : ∀ k, k < w.heap.size → k ≠ B → w'.heap[k]? = w.heap[k]?

theorem Stp.refl (B : Nat) (w : World) : Stp B w w := ⟨rfl, rfl, rfl, Nat.le_refl _, fun _ _ _ => rfl⟩
theorem Stp.trans {B : Nat} {a b c : World} (h : Stp B a b) (k : Stp B b c) : Stp B a c :=
  ⟨k.os.trans h.os, k.tape.trans h.tape, k.output.trans h.output, Nat.le_trans h.size k.size, fun i hi hB => (k.block i (by have := h.size; omega) hB).trans (h.block i hi hB)⟩
theorem Stp.cell {B : Nat} {w w' : World} (h : Stp B w w') {b o : Nat} (hb : b < w.heap.size) (hB : b ≠ B) : w'.cell? ⟨b, o, none⟩ = w.cell? ⟨b, o, none⟩ := World.cell?_of_block (w := w) (h.block b hb hB)
theorem Stp.frozen {B : Nat} {w w' : World} (h : Stp B w w') {b o : Nat} (hb : b < w.heap.size) (hB : b ≠ B) : w'.frozen? ⟨b, o, none⟩ = w.frozen? ⟨b, o, none⟩ := World.frozen?_of_block (w := w) (h.block b hb hB)
theorem Stp.alloc {B : Nat} {a w : World} (h : Stp B a w) (o : Obj) : Stp B a (w.alloc o) :=
  h.trans ⟨rfl, rfl, rfl, by simp, fun k hk _ => Below.heap_alloc _ _ _ hk⟩
theorem Stp.draws {B : Nat} {a w : World} (h : Stp B a w) (m : Nat) : Stp B a (w.drewN m) :=
  h.trans ⟨rfl, rfl, rfl, Nat.le_refl _, fun _ _ _ => rfl⟩
theorem Stp.setB {B : Nat} {a w : World} (h : Stp B a w) (o : Nat) (v : Value) : Stp B a (w.setCell ⟨B, o, none⟩ v) :=
  h.trans ⟨rfl, rfl, rfl, by simp [World.setCell], fun k _ hk => Below.heap_setCell _ _ _ _ hk⟩
/-- A store into a block that came behind. -/
theorem Stp.setNew {B : Nat} {a w : World} (h : Stp B a w) {p : Addr} (hp : a.heap.size ≤ p.block) (v : Value) : Stp B a (w.setCell p v) :=
  ⟨h.os, h.tape, h.output, by have := h.size; simpa [World.setCell] using this, fun k hk hB => (Below.heap_setCell _ _ _ _ (by omega)).trans (h.block k hk hB)⟩
/-- Where the reader itself is new nothing old has turned. -/
theorem Stp.below {B : Nat} {a w w' : World} (h : Below a.heap.size a w) (k : Stp B w w') (hB : a.heap.size ≤ B) : Below a.heap.size a w' :=
  h.trans ⟨k.os, k.tape, k.output, k.size, fun i hi => k.block i (by have := h.size; omega) (by omega)⟩

/-- Known of the reader stays what no store turned. -/
theorem Rd.of_block {w w' : World} {B : Nat} {p : Int} (h : Rd w B p) (hs : w.heap.size ≤ w'.heap.size) (hb : ∀ k, k ≤ B → w'.heap[k]? = w.heap[k]?) : Rd w' B p := by
  obtain ⟨hB, hp, h1, h2, a, len, cap, h3, h4⟩ := h
  have hc : ∀ b o, b ≤ B → w'.cell? ⟨b, o, none⟩ = w.cell? ⟨b, o, none⟩ := fun b o h => World.cell?_of_block (w := w) (hb b h)
  have hf : ∀ b o, b ≤ B → w'.frozen? ⟨b, o, none⟩ = w.frozen? ⟨b, o, none⟩ := fun b o h => World.frozen?_of_block (w := w) (hb b h)
  refine ⟨by omega, hp, (hc _ _ (Nat.le_refl _)).trans h1, (hf _ _ (Nat.le_refl _)).trans h2, a, len, cap, (hc _ _ (Nat.le_refl _)).trans h3, ?_⟩
  rcases h4 with h4 | ⟨b, off, ha, hbB, h5⟩
  · exact .inl h4
  · refine .inr ⟨b, off, ha, hbB, fun i hi => ?_⟩
    obtain ⟨z, hz, r⟩ := h5 i hi
    exact ⟨z, (hc _ _ (by omega)).trans hz, r⟩
theorem Rd.alloc {w : World} {B : Nat} {p : Int} (h : Rd w B p) (o : Obj) : Rd (w.alloc o) B p :=
  h.of_block (by simp) fun k hk => Below.heap_alloc _ _ _ (by have := h.1; omega)
theorem Rd.draws {w : World} {B : Nat} {p : Int} (h : Rd w B p) (m : Nat) : Rd (w.drewN m) B p :=
  h.of_block (Nat.le_refl _) fun _ _ => rfl
theorem Rd.setNew {w : World} {B : Nat} {p : Int} (h : Rd w B p) {a : Addr} (ha : B < a.block) (v : Value) : Rd (w.setCell a v) B p :=
  h.of_block (by simp [World.setCell]) fun k hk => Below.heap_setCell _ _ _ _ (by omega)
theorem Rd.step {w : World} {B : Nat} {p : Int} (h : Rd w B p) (m : Nat) : Rd ((w.setCell ⟨B, 1, none⟩ (.int .i64 (p + 1))).drewN m) B (p + 1) := by
  obtain ⟨hB, hp, h1, h2, a, len, cap, h3, h4⟩ := h
  refine Rd.draws ?_ m
  refine ⟨by simpa [World.setCell] using hB, by omega, ?_, ?_, a, len, cap, ?_, ?_⟩
  · exact World.cell?_setCell_same _ _ _ h1
  · exact (World.frozen?_setCell _ _ _ _).trans h2
  · exact (World.cell?_setCell_other _ _ _ _ (by simp)).trans h3
  · rcases h4 with h4 | ⟨b, off, ha, hbB, h5⟩
    · exact .inl h4
    · refine .inr ⟨b, off, ha, hbB, fun i hi => ?_⟩
      obtain ⟨z, hz, r⟩ := h5 i hi
      refine ⟨z, ?_, r⟩
      have : (w.setCell ⟨B, 1, none⟩ (.int .i64 (p + 1))).heap[b]? = w.heap[b]? := Below.heap_setCell _ _ _ _ (by simp; omega)
      exact (World.cell?_of_block (w := w) this).trans hz

/-- A number is picked: the reader goes on by one, and nothing else has turned. -/
theorem pick_any (B : Nat) (p n : Int) (w : World) (h : Rd w B p) (hp : p ≤ 1000000) (hn : 1 ≤ n) :
    Calls Try.prog 61 #[.pointer (some ⟨B, 0, none⟩), .int .i64 n] w fun e w' => ∃ v : Int, e = .returned (.int .i64 v) ∧ 0 ≤ v ∧ v < n ∧ Rd w' B (p + 1) ∧ Stp B w w' ∧ w'.heap.size = w.heap.size := by
  have hR := h
  obtain ⟨hB, hp0, h1, h2, a, len, cap, h3, h4⟩ := h
  by_cases hl0 : len = 0
  · subst hl0
    refine (pick_none B a cap p n w h3 h1 h2 hp0 hp hn).mono ?_
    rintro e w' ⟨rfl, rfl⟩
    exact ⟨0, rfl, by omega, by omega, hR.step 0, (Stp.refl _ _).setB _ _, by simp [World.setCell]⟩
  · rcases h4 with h4 | ⟨b, off, rfl, hbB, h5⟩
    · exact absurd h4 hl0
    · by_cases hl : p < len
      · obtain ⟨z, hz, z0, z1⟩ := h5 p.toNat (by omega)
        refine (pick_near B b off len cap p n z w h3 h1 h2 hp0 hp hn hl (by omega) z0 z1 hz).mono ?_
        rintro e w' ⟨rfl, rfl⟩
        exact ⟨z % n, rfl, Int.emod_nonneg _ (by omega), Int.emod_lt_of_pos _ (by omega), hR.step 0, (Stp.refl _ _).setB _ _, by simp [World.setCell]⟩
      · have m1 : 0 ≤ p % len := Int.emod_nonneg _ (by omega)
        have m2 : p % len < len := Int.emod_lt_of_pos _ (by omega)
        have m3 : 0 ≤ (p * 7 + 3) % len := Int.emod_nonneg _ (by omega)
        have m4 : (p * 7 + 3) % len < len := Int.emod_lt_of_pos _ (by omega)
        obtain ⟨z, hz, z0, z1⟩ := h5 (p % len).toNat (by omega)
        obtain ⟨y, hy, y0, y1⟩ := h5 ((p * 7 + 3) % len).toNat (by omega)
        refine (pick_far B b off len cap p n z y w h3 h1 h2 hp0 hp hn (by omega) (by omega) (by omega) z0 z1 y0 y1 hz hy).mono ?_
        rintro e w' ⟨v, m, rfl, v0, v1, rfl⟩
        exact ⟨v, rfl, v0, v1, hR.step m, ((Stp.refl _ _).setB _ _).draws m, by simp [World.setCell, World.drewN]⟩
end Go.Proofs.Ythlmodafadfnfaa
