/- 3 texts in one: OpenDeps, XVerLaw, OpenVers. -/
import Derived.Test.YtpjidogilofppaaGreatGAE
import Derived.Deep.Slices
import Derived.ChangeOld
import Derived.Lib.SmallJoins
import Derived.Test.YtpjidogilofppaaGreatZV
import Derived.Test.YtpjidogilofppaaGreatZR
/- A slice of deps that came in is opened. -/
namespace Go.Proofs.YtpjidogilofppaaGreat
open Go.ChangeShapes Go.WideShapes Go.ChangeAt Go.RowKit Go.Deep

set_option maxRecDepth 100000 in
/-- What a slice of deps that came in reads as. -/
theorem deps_open {H : Type} {enc : TypeId × Value → H} {W : World} {base : Nat} {spare : Nat → Bool} {v : Value} {d : DataW H} {p : List MemPlace} (hv : ∃ a len cap, v = .slice a len cap)
    (h : DataW.Trod enc Tryz.prog W base spare true 24 v d p) : ∃ a cap xs, v = .slice a xs.length cap ∧ xs.length ≤ maxLen ∧ Deps W a xs := by
  obtain ⟨a, len, cap, rfl⟩ := hv
  obtain ⟨fuel, hf⟩ := h
  rcases open_slice Tryz.underlying24 hf with ⟨hcs, _⟩ | ⟨x, l, c, m, n, DD, Pl, hcs, _, hl, hm, hmm, _, hx⟩
  · simp [Value.cells] at hcs
    obtain ⟨rfl, rfl, rfl⟩ := hcs
    exact ⟨none, 0, [], rfl, Nat.zero_le _, .inl rfl⟩
  · simp [Value.cells] at hcs
    obtain ⟨rfl, rfl, rfl⟩ := hcs
    have hlm : len ≤ m := by rw [hmm]; split <;> omega
    have hc3 : Tryz.prog.cellsOf 159 = 3 := by kernel_rfl
    have hc2 : Tryz.prog.cellsOf 47 = 2 := by kernel_rfl
    have hci : Tryz.prog.cellsOf 3 = 1 := by kernel_rfl
    have one : ∀ i, i < len → ∃ y : D, W.cell? (x.add (i * 3)) = some (.int .i64 y.k) ∧ W.cell? (x.add (i * 3 + 1)) = some (.int .i64 y.t) ∧ W.cell? (x.add (i * 3 + 2)) = some (.int .i64 y.s) := by
      intro i hi
      obtain ⟨cs', hc, ht⟩ := hx i (by omega)
      rw [hc3] at hc
      obtain ⟨y0, y1, n', _, hlen, h0, h1⟩ := trod_struct2 Tryz.underlying159 ht
      have hs := World.cells?_some hc
      obtain ⟨k, e0, _, _⟩ := DataW.trod_int Tryz.underlying3 h0
      obtain ⟨y2, y3, n2, _, hlen2, h2, h3⟩ := trod_struct2 Tryz.underlying47 h1
      obtain ⟨t, e1, _, _⟩ := DataW.trod_int Tryz.underlying3 h2
      obtain ⟨s, e2, _, _⟩ := DataW.trod_int Tryz.underlying3 h3
      simp only [hci, hc2] at e0 e1 e2
      obtain ⟨_, hl2, hcell⟩ := hs
      match cs', hl2 with
      | [c0, c1, c2], _ =>
        simp at e0 e1 e2
        subst e0 e1 e2
        refine ⟨⟨k, t, s⟩, ?_, ?_, ?_⟩
        · have := hcell 0 (by omega)
          rw [add_add] at this
          simpa using this
        · have := hcell 1 (by omega)
          rw [add_add] at this
          simpa using this
        · have := hcell 2 (by omega)
          rw [add_add] at this
          simpa using this
    haveI : Inhabited D := ⟨⟨0, 0, 0⟩⟩
    obtain ⟨F, hF⟩ := choose_lt one
    refine ⟨some x, cap, (List.range len).map F, by simp, by simp; omega, ?_⟩
    by_cases h0 : len = 0
    · exact .inl (by simp [h0])
    · obtain ⟨b, o, spot⟩ := x
      have hc0 := (hF 0 (by omega)).1
      have hspot : spot = none := by simpa [Addr.add] using World.cell?_spot hc0
      subst hspot
      have ha : ∀ i, (Addr.mk b o none).add i = ⟨b, o + i, none⟩ := fun i => by by_cases h : i = 0 <;> simp [Addr.add, h]
      refine .inr ⟨b, o, rfl, by have := World.block_lt_of_cell? _ _ hc0; rw [ha] at this; exact this, fun k hk => ?_⟩
      have hk' : k < len := by simpa using hk
      have := hF k hk'
      rw [ha, ha, ha] at this
      simpa [Nat.add_assoc] using this

set_option maxRecDepth 100000 in
/-- A dep that came in. -/
theorem dep_open {H : Type} {enc : TypeId × Value → H} {W : World} {base b0 : Nat} {r : Reach} {spare : Nat → Bool} {v : Value} {d : DataW H} {p : List MemPlace} (hv : Value.okWide Tryz.prog W r b0 159 v)
    (h : DataW.Trod enc Tryz.prog W base spare true 159 v d p) : ∃ k t s : Int, v = depV k t s := by
  obtain ⟨cs, rfl, hsz⟩ := okWide_struct Tryz.underlying159 hv
  obtain ⟨fuel, hf⟩ := h
  have hc3 : Tryz.prog.cellsOf 159 = 3 := by kernel_rfl
  have hc2 : Tryz.prog.cellsOf 47 = 2 := by kernel_rfl
  have hci : Tryz.prog.cellsOf 3 = 1 := by kernel_rfl
  rw [hc3] at hsz
  obtain ⟨c0, c1, c2, rfl⟩ := Go.Joins.array3 hsz
  obtain ⟨y0, y1, n', _, hlen, h0, h1⟩ := trod_struct2 Tryz.underlying159 hf
  obtain ⟨k, e0, _, _⟩ := DataW.trod_int Tryz.underlying3 h0
  obtain ⟨y2, y3, n2, _, hlen2, h2, h3⟩ := trod_struct2 Tryz.underlying47 h1
  obtain ⟨t, e1, _, _⟩ := DataW.trod_int Tryz.underlying3 h2
  obtain ⟨s, e2, _, _⟩ := DataW.trod_int Tryz.underlying3 h3
  simp [hci, hc2, Value.cells] at e0 e1 e2
  exact ⟨k, t, s, by rw [e0, e1, e2]⟩
end Go.Proofs.YtpjidogilofppaaGreat

/- The exact law of VerOk, whole. -/
namespace Go.Proofs.YtpjidogilofppaaGreat
open Go.ChangeShapes Go.WideShapes Go.ChangeAt Go.RowKit Go.Deep

/-- Two blocks lie as they lay, and nothing old has turned. -/
def InV (w0 : World) (E F : Nat) (vs us : Array Value) (W : World) : Prop := Below w0.heap.size w0 W ∧ (E < W.heap.size ∧ ∀ j, W.cell? ⟨E, j, none⟩ = vs[j]?) ∧ (F < W.heap.size ∧ ∀ j, W.cell? ⟨F, j, none⟩ = us[j]?)
theorem InV.below {w0 w w' : World} {E F : Nat} {vs us : Array Value} (h : InV w0 E F vs us w) (k : Below w.heap.size w w') : InV w0 E F vs us w' := by
  obtain ⟨h1, ⟨a1, a2⟩, ⟨b1, b2⟩⟩ := h
  exact ⟨h1.trans (k.mono h1.size), ⟨Nat.lt_of_lt_of_le a1 k.size, fun j => (k.cell (p := ⟨E, j, none⟩) a1).trans (a2 j)⟩, ⟨Nat.lt_of_lt_of_le b1 k.size, fun j => (k.cell (p := ⟨F, j, none⟩) b1).trans (b2 j)⟩⟩
theorem InV.drew {w0 w : World} {E F : Nat} {vs us : Array Value} (h : InV w0 E F vs us w) : InV w0 E F vs us w.drew := h.below (Below.refl _ _).drew

set_option maxRecDepth 100000 in
/-- A version that came in. -/
theorem ver_open {H : Type} {enc : TypeId × Value → H} {W : World} {base b0 : Nat} {r : Reach} {spare : Nat → Bool} {v : Value} {d : DataW H} {p : List MemPlace} (hv : Value.okWide Tryz.prog W r b0 146 v)
    (h : DataW.Trod enc Tryz.prog W base spare true 146 v d p) : ∃ (k t s val cl ca : Int) (a : Option Addr) (cap : Nat) (xs : List D), v = verV k t s val cl ca a xs.length cap ∧ xs.length ≤ maxLen ∧ Deps W a xs := by
  obtain ⟨cs, rfl, hsz⟩ := okWide_struct Tryz.underlying146 hv
  obtain ⟨fuel, hf⟩ := h
  have hc7 : Tryz.prog.cellsOf 146 = 7 := by kernel_rfl
  have hc2 : Tryz.prog.cellsOf 47 = 2 := by kernel_rfl
  have hci : Tryz.prog.cellsOf 3 = 1 := by kernel_rfl
  have hcs : Tryz.prog.cellsOf 24 = 1 := by kernel_rfl
  rw [hc7] at hsz
  obtain ⟨c0, c1, c2, c3, c4, c5, c6, rfl⟩ : ∃ c0 c1 c2 c3 c4 c5 c6, cs = #[c0, c1, c2, c3, c4, c5, c6] := by
    obtain ⟨l⟩ := cs
    match l, hsz with
    | [c0, c1, c2, c3, c4, c5, c6], _ => exact ⟨c0, c1, c2, c3, c4, c5, c6, rfl⟩
  obtain ⟨ys, n, _, _, hl, hlen, hfs⟩ := DataW.trod_struct Tryz.underlying146 hf
  match ys, hlen with
  | [y0, y1, y2, y3, y4, y5], _ =>
    have h0 := hfs 0 _ rfl
    have h1 := hfs 1 _ rfl
    have h2 := hfs 2 _ rfl
    have h3 := hfs 3 _ rfl
    have h4 := hfs 4 _ rfl
    have h5 := hfs 5 _ rfl
    simp [Value.cells, hci, hc2, hcs] at h0 h1 h2 h3 h4 h5
    obtain ⟨k, e0, _, _⟩ := DataW.trod_int Tryz.underlying3 h0
    obtain ⟨z0, z1, n2, _, hlen2, i0, i1⟩ := trod_struct2 Tryz.underlying47 h1
    simp [hci] at i0 i1
    obtain ⟨t, e1, _, _⟩ := DataW.trod_int Tryz.underlying3 i0
    obtain ⟨s, e2, _, _⟩ := DataW.trod_int Tryz.underlying3 i1
    obtain ⟨val, e3, _, _⟩ := DataW.trod_int Tryz.underlying3 h2
    obtain ⟨cl, e4, _, _⟩ := DataW.trod_int Tryz.underlying3 h3
    obtain ⟨ca, e5, _, _⟩ := DataW.trod_int Tryz.underlying3 h4
    simp at e0 e1 e2 e3 e4 e5
    have hsl : ∃ a len cap, c6 = Value.slice a len cap := by
      rcases open_slice Tryz.underlying24 h5 with ⟨hcs, _⟩ | ⟨x, l, c, m, n, DD, Pl, hcs, _⟩
      · simp at hcs; exact ⟨_, _, _, hcs⟩
      · simp at hcs; exact ⟨_, _, _, hcs⟩
    have hT : DataW.Trod enc Tryz.prog W base spare true 24 c6 y5.1 y5.2 := by
      obtain ⟨a, len, cap, rfl⟩ := hsl
      exact ⟨n, by simpa [Value.cells] using h5⟩
    obtain ⟨a, cap, xs, e6, hxl, hD⟩ := deps_open hsl hT
    exact ⟨k, t, s, val, cl, ca, a, cap, xs, by rw [e0, e1, e2, e3, e4, e5, e6], hxl, hD⟩
end Go.Proofs.YtpjidogilofppaaGreat

/- A slice of versions that came in is opened. -/
namespace Go.Proofs.YtpjidogilofppaaGreat
open Go.ChangeShapes Go.WideShapes Go.ChangeAt Go.RowKit Go.Deep

set_option maxHeartbeats 1000000 in
set_option maxRecDepth 100000 in
/-- What a slice of versions that came in reads as. -/
theorem vers_open {H : Type} {enc : TypeId × Value → H} {W : World} {base : Nat} {spare : Nat → Bool} {v : Value} {d : DataW H} {p : List MemPlace} (hv : ∃ a len cap, v = .slice a len cap)
    (h : DataW.Trod enc Tryz.prog W base spare true 23 v d p) : ∃ a cap vs, v = .slice a vs.length cap ∧ vs.length ≤ maxLen ∧ VersI W a vs := by
  obtain ⟨a, len, cap, rfl⟩ := hv
  obtain ⟨fuel, hf⟩ := h
  rcases open_slice Tryz.underlying23 hf with ⟨hcs, _⟩ | ⟨x, l, c, m, n, DD, Pl, hcs, _, hl, hm, hmm, _, hx⟩
  · simp [Value.cells] at hcs
    obtain ⟨rfl, rfl, rfl⟩ := hcs
    exact ⟨none, 0, [], rfl, Nat.zero_le _, .inl rfl⟩
  · simp [Value.cells] at hcs
    obtain ⟨rfl, rfl, rfl⟩ := hcs
    have hlm : len ≤ m := by rw [hmm]; split <;> omega
    have hc7 : Tryz.prog.cellsOf 146 = 7 := by kernel_rfl
    have hc2 : Tryz.prog.cellsOf 47 = 2 := by kernel_rfl
    have hci : Tryz.prog.cellsOf 3 = 1 := by kernel_rfl
    have hcd : Tryz.prog.cellsOf 24 = 1 := by kernel_rfl
    have one : ∀ i, i < len → ∃ y : V × (Option Addr × Nat), W.cell? (x.add (i * 7)) = some (.int .i64 y.1.k) ∧ W.cell? (x.add (i * 7 + 1)) = some (.int .i64 y.1.t) ∧ W.cell? (x.add (i * 7 + 2)) = some (.int .i64 y.1.s) ∧ W.cell? (x.add (i * 7 + 3)) = some (.int .i64 y.1.val) ∧ W.cell? (x.add (i * 7 + 4)) = some (.int .i64 y.1.cl) ∧ W.cell? (x.add (i * 7 + 5)) = some (.int .i64 y.1.ca) ∧ W.cell? (x.add (i * 7 + 6)) = some (.slice y.2.1 y.1.ds.length y.2.2) ∧ Deps W y.2.1 y.1.ds ∧ y.1.ds.length ≤ maxLen := by
      intro i hi
      obtain ⟨cs', hc, ht⟩ := hx i (by omega)
      rw [hc7] at hc
      have hs := World.cells?_some hc
      obtain ⟨_, hl2, hcell⟩ := hs
      match cs', hl2 with
      | [c0, c1, c2, c3, c4, c5, c6], _ =>
        obtain ⟨ys, n, _, _, hl, hlen, hfs⟩ := DataW.trod_struct Tryz.underlying146 ht
        match ys, hlen with
        | [y0, y1, y2, y3, y4, y5], _ =>
          have h0 := hfs 0 _ rfl
          have h1 := hfs 1 _ rfl
          have h2 := hfs 2 _ rfl
          have h3 := hfs 3 _ rfl
          have h4 := hfs 4 _ rfl
          have h5 := hfs 5 _ rfl
          simp [hci, hc2, hcd] at h0 h1 h2 h3 h4 h5
          obtain ⟨k, e0, _, _⟩ := DataW.trod_int Tryz.underlying3 h0
          obtain ⟨z0, z1, n2, _, hlen2, i0, i1⟩ := trod_struct2 Tryz.underlying47 h1
          simp [hci] at i0 i1
          obtain ⟨t, e1, _, _⟩ := DataW.trod_int Tryz.underlying3 i0
          obtain ⟨s, e2, _, _⟩ := DataW.trod_int Tryz.underlying3 i1
          obtain ⟨val, e3, _, _⟩ := DataW.trod_int Tryz.underlying3 h2
          obtain ⟨cl, e4, _, _⟩ := DataW.trod_int Tryz.underlying3 h3
          obtain ⟨ca, e5, _, _⟩ := DataW.trod_int Tryz.underlying3 h4
          simp at e0 e1 e2 e3 e4 e5
          have hsl : ∃ a len cap, c6 = Value.slice a len cap := by
            rcases open_slice Tryz.underlying24 h5 with ⟨hcs, _⟩ | ⟨x, l, c, m, n, DD, Pl, hcs, _⟩
            · simp at hcs; exact ⟨_, _, _, hcs⟩
            · simp at hcs; exact ⟨_, _, _, hcs⟩
          have hT : DataW.Trod enc Tryz.prog W base spare true 24 c6 y5.1 y5.2 := by
            obtain ⟨a, len, cap, rfl⟩ := hsl
            exact ⟨n, by simpa [Value.cells] using h5⟩
          obtain ⟨a, cap, xs, e6, hxl, hD⟩ := deps_open hsl hT
          subst e0 e1 e2 e3 e4 e5 e6
          refine ⟨(⟨k, t, s, val, cl, ca, xs⟩, (a, cap)), ?_, ?_, ?_, ?_, ?_, ?_, ?_, hD, hxl⟩
          · have := hcell 0 (by omega); rw [add_add] at this; simpa using this
          · have := hcell 1 (by omega); rw [add_add] at this; simpa using this
          · have := hcell 2 (by omega); rw [add_add] at this; simpa using this
          · have := hcell 3 (by omega); rw [add_add] at this; simpa using this
          · have := hcell 4 (by omega); rw [add_add] at this; simpa using this
          · have := hcell 5 (by omega); rw [add_add] at this; simpa using this
          · have := hcell 6 (by omega); rw [add_add] at this; simpa using this
    haveI : Inhabited (V × (Option Addr × Nat)) := ⟨(⟨0, 0, 0, 0, 0, 0, []⟩, (none, 0))⟩
    obtain ⟨F, hF⟩ := choose_lt one
    refine ⟨some x, cap, (List.range len).map fun i => (F i).1, by simp, by simp; omega, ?_⟩
    by_cases h0 : len = 0
    · exact .inl (by simp [h0])
    · obtain ⟨b, o, spot⟩ := x
      have hc0 := (hF 0 (by omega)).1
      have hspot : spot = none := by simpa [Addr.add] using World.cell?_spot hc0
      subst hspot
      refine .inr ⟨b, o, rfl, by have := World.block_lt_of_cell? _ _ hc0; rw [addr_add] at this; exact this, fun k hk => ?_⟩
      have hk' : k < len := by simpa using hk
      have := hF k hk'
      rw [addr_add, addr_add, addr_add, addr_add, addr_add, addr_add, addr_add] at this
      refine ⟨(F k).2.1, (F k).2.2, ?_⟩
      simpa [Nat.add_assoc] using this
end Go.Proofs.YtpjidogilofppaaGreat

