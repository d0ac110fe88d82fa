/- 2 texts in one: Rd, Open. -/
import Derived.Test.YtgdkoangpinieaaGAD
/- The reader of a code: what is known of it, and how it stays known. -/
namespace Go.Proofs.Ytgdkoangpinieaa
open Go.ChangeShapes Go.WideShapes Go.ChangeAt Go.RowKit

/-- What is known of the reader that lies in the block B: its place is p, and its code lies ahead of it. -/
def Rd (w : World) (B : Nat) (p : Int) : Prop :=
  B < w.heap.size ∧ 0 ≤ p ∧ w.cell? ⟨B, 1, none⟩ = some (.int .i64 p) ∧ w.frozen? ⟨B, 1, none⟩ = false ∧
  ∃ a len cap, w.cell? ⟨B, 0, none⟩ = some (.slice a len cap) ∧
    (len = 0 ∨ ∃ b off, a = some ⟨b, off, none⟩ ∧ b < B ∧ ∀ i, i < len → ∃ z, w.cell? ⟨b, off + i, none⟩ = some (.int .u8 z) ∧ 0 ≤ z ∧ z ≤ 255)

/-- All blocks but B are as they were; more may have come. -/
structure Stp (B : Nat) (w w' : World) : Prop where
  os : w'.os = w.os
  tape : w'.tape = w.tape
  output : w'.output = w.output
  size : w.heap.size ≤ w'.heap.size
  block : ∀ k, k < w.heap.size → k ≠ B → w'.heap[k]? = w.heap[k]?

theorem Stp.refl (B : Nat) (w : World) : Stp B w w := ⟨rfl, rfl, rfl, Nat.le_refl _, fun _ _ _ => rfl⟩
theorem Stp.trans {B : Nat} {a b c : World} (h : Stp B a b) (k : Stp B b c) : Stp B a c :=
  ⟨k.os.trans h.os, k.tape.trans h.tape, k.output.trans h.output, Nat.le_trans h.size k.size, fun i hi hB => (k.block i (by have := h.size; omega) hB).trans (h.block i hi hB)⟩
theorem Stp.cell {B : Nat} {w w' : World} (h : Stp B w w') {b o : Nat} (hb : b < w.heap.size) (hB : b ≠ B) : w'.cell? ⟨b, o, none⟩ = w.cell? ⟨b, o, none⟩ := World.cell?_of_block (w := w) (h.block b hb hB)
theorem Stp.frozen {B : Nat} {w w' : World} (h : Stp B w w') {b o : Nat} (hb : b < w.heap.size) (hB : b ≠ B) : w'.frozen? ⟨b, o, none⟩ = w.frozen? ⟨b, o, none⟩ := World.frozen?_of_block (w := w) (h.block b hb hB)
theorem Stp.alloc {B : Nat} {a w : World} (h : Stp B a w) (o : Obj) : Stp B a (w.alloc o) :=
  h.trans ⟨rfl, rfl, rfl, by simp, fun k hk _ => Below.heap_alloc _ _ _ hk⟩
theorem Stp.draws {B : Nat} {a w : World} (h : Stp B a w) (m : Nat) : Stp B a (w.drewN m) :=
  h.trans ⟨rfl, rfl, rfl, Nat.le_refl _, fun _ _ _ => rfl⟩
theorem Stp.setB {B : Nat} {a w : World} (h : Stp B a w) (o : Nat) (v : Value) : Stp B a (w.setCell ⟨B, o, none⟩ v) :=
  h.trans ⟨rfl, rfl, rfl, by simp [World.setCell], fun k _ hk => Below.heap_setCell _ _ _ _ hk⟩
/-- A store into a block that came behind. -/
theorem Stp.setNew {B : Nat} {a w : World} (h : Stp B a w) {p : Addr} (hp : a.heap.size ≤ p.block) (v : Value) : Stp B a (w.setCell p v) :=
  ⟨h.os, h.tape, h.output, by have := h.size; simpa [World.setCell] using this, fun k hk hB => (Below.heap_setCell _ _ _ _ (by omega)).trans (h.block k hk hB)⟩
/-- Where the reader itself is new nothing old has turned. -/
theorem Stp.below {B : Nat} {a w w' : World} (h : Below a.heap.size a w) (k : Stp B w w') (hB : a.heap.size ≤ B) : Below a.heap.size a w' :=
  h.trans ⟨k.os, k.tape, k.output, k.size, fun i hi => k.block i (by have := h.size; omega) (by omega)⟩

/-- Known of the reader stays what no store turned. -/
theorem Rd.of_block {w w' : World} {B : Nat} {p : Int} (h : Rd w B p) (hs : w.heap.size ≤ w'.heap.size) (hb : ∀ k, k ≤ B → w'.heap[k]? = w.heap[k]?) : Rd w' B p := by
  obtain ⟨hB, hp, h1, h2, a, len, cap, h3, h4⟩ := h
  have hc : ∀ b o, b ≤ B → w'.cell? ⟨b, o, none⟩ = w.cell? ⟨b, o, none⟩ := fun b o h => World.cell?_of_block (w := w) (hb b h)
  have hf : ∀ b o, b ≤ B → w'.frozen? ⟨b, o, none⟩ = w.frozen? ⟨b, o, none⟩ := fun b o h => World.frozen?_of_block (w := w) (hb b h)
  refine ⟨by omega, hp, (hc _ _ (Nat.le_refl _)).trans h1, (hf _ _ (Nat.le_refl _)).trans h2, a, len, cap, (hc _ _ (Nat.le_refl _)).trans h3, ?_⟩
  rcases h4 with h4 | ⟨b, off, ha, hbB, h5⟩
  · exact .inl h4
  · refine .inr ⟨b, off, ha, hbB, fun i hi => ?_⟩
    obtain ⟨z, hz, r⟩ := h5 i hi
    exact ⟨z, (hc _ _ (by omega)).trans hz, r⟩
theorem Rd.alloc {w : World} {B : Nat} {p : Int} (h : Rd w B p) (o : Obj) : Rd (w.alloc o) B p :=
  h.of_block (by simp) fun k hk => Below.heap_alloc _ _ _ (by have := h.1; omega)
theorem Rd.draws {w : World} {B : Nat} {p : Int} (h : Rd w B p) (m : Nat) : Rd (w.drewN m) B p :=
  h.of_block (Nat.le_refl _) fun _ _ => rfl
theorem Rd.setNew {w : World} {B : Nat} {p : Int} (h : Rd w B p) {a : Addr} (ha : B < a.block) (v : Value) : Rd (w.setCell a v) B p :=
  h.of_block (by simp [World.setCell]) fun k hk => Below.heap_setCell _ _ _ _ (by omega)
theorem Rd.step {w : World} {B : Nat} {p : Int} (h : Rd w B p) (m : Nat) : Rd ((w.setCell ⟨B, 1, none⟩ (.int .i64 (p + 1))).drewN m) B (p + 1) := by
  obtain ⟨hB, hp, h1, h2, a, len, cap, h3, h4⟩ := h
  refine Rd.draws ?_ m
  refine ⟨by simpa [World.setCell] using hB, by omega, ?_, ?_, a, len, cap, ?_, ?_⟩
  · exact World.cell?_setCell_same _ _ _ h1
  · exact (World.frozen?_setCell _ _ _ _).trans h2
  · exact (World.cell?_setCell_other _ _ _ _ (by simp)).trans h3
  · rcases h4 with h4 | ⟨b, off, ha, hbB, h5⟩
    · exact .inl h4
    · refine .inr ⟨b, off, ha, hbB, fun i hi => ?_⟩
      obtain ⟨z, hz, r⟩ := h5 i hi
      refine ⟨z, ?_, r⟩
      have : (w.setCell ⟨B, 1, none⟩ (.int .i64 (p + 1))).heap[b]? = w.heap[b]? := Below.heap_setCell _ _ _ _ (by simp; omega)
      exact (World.cell?_of_block (w := w) this).trans hz

/-- A number is picked: the reader goes on by one, and nothing else has turned. -/
theorem pick_any (B : Nat) (p n : Int) (w : World) (h : Rd w B p) (hp : p ≤ 1000000) (hn : 1 ≤ n) :
    Calls Try.prog 92 #[.pointer (some ⟨B, 0, none⟩), .int .i64 n] w fun e w' => ∃ v : Int, e = .returned (.int .i64 v) ∧ 0 ≤ v ∧ v < n ∧ Rd w' B (p + 1) ∧ Stp B w w' ∧ w'.heap.size = w.heap.size := by
  have hR := h
  obtain ⟨hB, hp0, h1, h2, a, len, cap, h3, h4⟩ := h
  by_cases hl0 : len = 0
  · subst hl0
    refine (pick_none B a cap p n w h3 h1 h2 hp0 hp hn).mono ?_
    rintro e w' ⟨rfl, rfl⟩
    exact ⟨0, rfl, by omega, by omega, hR.step 0, (Stp.refl _ _).setB _ _, by simp [World.setCell]⟩
  · rcases h4 with h4 | ⟨b, off, rfl, hbB, h5⟩
    · exact absurd h4 hl0
    · by_cases hl : p < len
      · obtain ⟨z, hz, z0, z1⟩ := h5 p.toNat (by omega)
        refine (pick_near B b off len cap p n z w h3 h1 h2 hp0 hp hn hl (by omega) z0 z1 hz).mono ?_
        rintro e w' ⟨rfl, rfl⟩
        exact ⟨z % n, rfl, Int.emod_nonneg _ (by omega), Int.emod_lt_of_pos _ (by omega), hR.step 0, (Stp.refl _ _).setB _ _, by simp [World.setCell]⟩
      · have m1 : 0 ≤ p % len := Int.emod_nonneg _ (by omega)
        have m2 : p % len < len := Int.emod_lt_of_pos _ (by omega)
        have m3 : 0 ≤ (p * 7 + 3) % len := Int.emod_nonneg _ (by omega)
        have m4 : (p * 7 + 3) % len < len := Int.emod_lt_of_pos _ (by omega)
        obtain ⟨z, hz, z0, z1⟩ := h5 (p % len).toNat (by omega)
        obtain ⟨y, hy, y0, y1⟩ := h5 ((p * 7 + 3) % len).toNat (by omega)
        refine (pick_far B b off len cap p n z y w h3 h1 h2 hp0 hp hn (by omega) (by omega) (by omega) z0 z1 y0 y1 hz hy).mono ?_
        rintro e w' ⟨v, m, rfl, v0, v1, rfl⟩
        exact ⟨v, rfl, v0, v1, hR.step m, ((Stp.refl _ _).setB _ _).draws m, by simp [World.setCell, World.drewN]⟩
end Go.Proofs.Ytgdkoangpinieaa

/- A code is opened. -/
namespace Go.Proofs.Ytgdkoangpinieaa
open Go.ChangeShapes Go.WideShapes Go.ChangeAt Go.RowKit

/-- What is known of a code. -/
def Code (w : World) (a : Option Addr) (len cap : Nat) : Prop :=
  len ≤ cap ∧ cap ≤ maxLen ∧ (cap = 0 ∧ a = none ∨ ∃ x, a = some x ∧ (cap = 0 ∨ ∃ b off, x = ⟨b, off, none⟩ ∧ b < w.heap.size ∧ ∀ i, i < cap → ∃ z, w.cell? ⟨b, off + i, none⟩ = some (.int .u8 z) ∧ 0 ≤ z ∧ z ≤ 255))

theorem open_none (w : World) :
    Calls Try.prog 90 #[.slice none 0 0] w fun e w' => e = .returned (.pointer (some ⟨w.heap.size, 0, none⟩)) ∧ w' = w.alloc (.cells #[.slice none 0 0, .int .i64 0] 166) := by
  go_enter Try.func90, Try.ntmps90
  go_wp2
  go_ret
  exact ⟨rfl, rfl⟩
theorem open_some (w : World) (x : Addr) (len cap : Nat) (hl : len ≤ cap) (hm : cap ≤ maxLen) :
    Calls Try.prog 90 #[.slice (some x) len cap] w fun e w' => ∃ n, n ≤ len ∧ e = .returned (.pointer (some ⟨w.heap.size, 0, none⟩)) ∧ w' = w.alloc (.cells #[.slice (some x) n cap, .int .i64 0] 166) := by
  unfold maxLen at hm
  by_cases h : 2000 < (len : Int)
  · have h2 : 2000 ≤ len := by omega
    go_enter Try.func90, Try.ntmps90
    go_wp2
    go_ret
    exact ⟨2000, h2, rfl, rfl⟩
  · go_enter Try.func90, Try.ntmps90
    go_wp2
    go_ret
    exact ⟨len, Nat.le_refl _, rfl, rfl⟩

theorem rd_new (w : World) (a : Option Addr) (n cap : Nat) (h : n = 0 ∨ ∃ b off, a = some ⟨b, off, none⟩ ∧ b < w.heap.size ∧ ∀ i, i < n → ∃ z, w.cell? ⟨b, off + i, none⟩ = some (.int .u8 z) ∧ 0 ≤ z ∧ z ≤ 255) (t : TypeId) :
    Rd (w.alloc (.cells #[.slice a n cap, .int .i64 0] t)) w.heap.size 0 := by
  refine ⟨by simp, by omega, by simp [go_sem], by simp [go_sem], a, n, cap, by simp [go_sem], ?_⟩
  rcases h with h | ⟨b, off, rfl, hb, h5⟩
  · exact .inl h
  · refine .inr ⟨b, off, rfl, hb, fun i hi => ?_⟩
    obtain ⟨z, hz, r⟩ := h5 i hi
    exact ⟨z, (World.cell?_alloc_lt _ _ _ hb).trans hz, r⟩

/-- A code is opened: a new reader at its begin. -/
theorem open_any (w : World) (a : Option Addr) (len cap : Nat) (h : Code w a len cap) :
    Calls Try.prog 90 #[.slice a len cap] w fun e w' => e = .returned (.pointer (some ⟨w.heap.size, 0, none⟩)) ∧ Rd w' w.heap.size 0 ∧ Below w.heap.size w w' ∧ w'.heap.size = w.heap.size + 1 := by
  obtain ⟨hl, hm, ⟨hc, rfl⟩ | ⟨x, rfl, h5⟩⟩ := h
  · obtain rfl : cap = 0 := hc
    obtain rfl : len = 0 := by omega
    refine (open_none w).mono ?_
    rintro e w' ⟨rfl, rfl⟩
    exact ⟨rfl, rd_new w none 0 0 (.inl rfl) _, (Below.refl _ _).alloc (Nat.le_refl _) _, by simp⟩
  · refine (open_some w _ len cap hl hm).mono ?_
    rintro e w' ⟨n, hn, rfl, rfl⟩
    refine ⟨rfl, rd_new w _ n cap ?_ _, (Below.refl _ _).alloc (Nat.le_refl _) _, by simp⟩
    rcases h5 with h5 | ⟨b, off, rfl, hb, h5⟩
    · exact .inl (by omega)
    · exact .inr ⟨b, off, rfl, hb, fun i hi => h5 i (by omega)⟩

theorem Code.below {w w' : World} {a : Option Addr} {len cap : Nat} (h : Code w a len cap) (k : Below w.heap.size w w') : Code w' a len cap := by
  obtain ⟨hl, hm, h | ⟨x, rfl, h | ⟨b, off, rfl, hb, h5⟩⟩⟩ := h
  · exact ⟨hl, hm, .inl h⟩
  · exact ⟨hl, hm, .inr ⟨x, rfl, .inl h⟩⟩
  · refine ⟨hl, hm, .inr ⟨_, rfl, .inr ⟨b, off, rfl, by have := k.size; omega, fun i hi => ?_⟩⟩⟩
    obtain ⟨z, hz, r⟩ := h5 i hi
    exact ⟨z, (k.cell (p := ⟨b, off + i, none⟩) hb).trans hz, r⟩

/-- What a slice of bytes that came in reads as is a code. -/
theorem code_of_row {w : World} {x : Addr} {len cap : Nat} {zs : List Int} (hl : len ≤ cap) (hm : cap ≤ maxLen) (hz : zs.length = cap)
    (hcell : ∀ i, i < zs.length → w.cell? (x.add i) = some (.int .u8 (zs.getD i 0))) (hwz : ∀ n ∈ zs, (Lit.int .u8 n).wf = true) : Code w (some x) len cap := by
  refine ⟨hl, hm, .inr ⟨x, rfl, ?_⟩⟩
  by_cases h0 : cap = 0
  · exact .inl h0
  · obtain ⟨b, off, spot⟩ := x
    have hc := hcell 0 (by omega)
    have hspot : spot = none := by simpa [Addr.add] using World.cell?_spot hc
    subst hspot
    refine .inr ⟨b, off, rfl, by have := World.block_lt_of_cell? _ _ hc; simpa [Addr.add] using this, fun i hi => ?_⟩
    have hi' : i < zs.length := by omega
    have hd := hcell i hi'
    have hg : zs.getD i 0 = zs[i] := by simp [List.getD, hi']
    have hw := bounds_u8 (hwz _ (List.getElem_mem hi'))
    rw [hg] at hd
    have ha : (Addr.mk b off none).add i = ⟨b, off + i, none⟩ := by
      by_cases h : i = 0 <;> simp [Addr.add, h]
    rw [ha] at hd
    exact ⟨zs[i], hd, hw.1, hw.2⟩

/-- What a slice of bytes that came in reads as is a code, nil too. -/
theorem code_of {w : World} {a : Option Addr} {len cap : Nat} {zs : List Int}
    (h : (a = none ∧ len = 0 ∧ cap = 0 ∧ zs = []) ∨ ∃ x, a = some x ∧ len ≤ cap ∧ cap ≤ maxLen ∧ zs.length = cap ∧ (∀ i, i < zs.length → w.cell? (x.add i) = some (.int .u8 (zs.getD i 0))) ∧ ∀ n ∈ zs, (Lit.int .u8 n).wf = true) : Code w a len cap := by
  rcases h with ⟨rfl, rfl, rfl, rfl⟩ | ⟨x, rfl, hl, hm, hz, hcell, hwz⟩
  · exact ⟨Nat.le_refl _, Nat.zero_le _, .inl ⟨rfl, rfl⟩⟩
  · exact code_of_row hl hm hz hcell hwz
end Go.Proofs.Ytgdkoangpinieaa

