/- The exact law of VerOk, whole. -/
import Derived.Test.YthlmodafadfnfaaXVer
import Derived.Test.YthlmodafadfnfaaOpenDeps
namespace Go.Proofs.Ythlmodafadfnfaa
open Go.ChangeShapes Go.WideShapes Go.ChangeAt Go.RowKit Go.Deep

/-- Two blocks lie as they lay, and nothing old has turned. -/
def InV (w0 : World) (E F : Nat) (vs us : Array Value) (W : World) : Prop := Below w0.heap.size w0 W ∧ (E < W.heap.size ∧ ∀ j, W.cell? ⟨E, j, none⟩ = vs[j]?) ∧ (F < W.heap.size ∧ ∀ j, W.cell? ⟨F, j, none⟩ = us[j]?)
theorem InV.below {w0 w w' : World} {E F : Nat} {vs us : Array Value} (h : InV w0 E F vs us w) (k : Below w.heap.size w w') : InV w0 E F vs us w' := by
  obtain ⟨h1, ⟨a1, a2⟩, ⟨b1, b2⟩⟩ := h
  exact ⟨h1.trans (k.mono h1.size), ⟨Nat.lt_of_lt_of_le a1 k.size, fun j => (k.cell (p := ⟨E, j, none⟩) a1).trans (a2 j)⟩, ⟨Nat.lt_of_lt_of_le b1 k.size, fun j => (k.cell (p := ⟨F, j, none⟩) b1).trans (b2 j)⟩⟩
theorem InV.drew {w0 w : World} {E F : Nat} {vs us : Array Value} (h : InV w0 E F vs us w) : InV w0 E F vs us w.drew := h.below (Below.refl _ _).drew

set_option maxRecDepth 100000 in
/-- A version that came in. -/
theorem ver_open {H : Type} {enc : TypeId × Value → H} {W : World} {base b0 : Nat} {r : Reach} {spare : Nat → Bool} {v : Value} {d : DataW H} {p : List MemPlace} (hv : Value.okWide Try.prog W r b0 64 v)
    (h : DataW.Trod enc Try.prog W base spare true 64 v d p) : ∃ (k t s val cl ca : Int) (a : Option Addr) (cap : Nat) (xs : List D), v = verV k t s val cl ca a xs.length cap ∧ xs.length ≤ maxLen ∧ Deps W a xs := by
  obtain ⟨cs, rfl, hsz⟩ := okWide_struct Try.underlying64 hv
  obtain ⟨fuel, hf⟩ := h
  have hc7 : Try.prog.cellsOf 64 = 7 := by kernel_rfl
  have hc2 : Try.prog.cellsOf 61 = 2 := by kernel_rfl
  have hci : Try.prog.cellsOf 3 = 1 := by kernel_rfl
  have hcs : Try.prog.cellsOf 62 = 1 := by kernel_rfl
  rw [hc7] at hsz
  obtain ⟨c0, c1, c2, c3, c4, c5, c6, rfl⟩ : ∃ c0 c1 c2 c3 c4 c5 c6, cs = #[c0, c1, c2, c3, c4, c5, c6] := by
    obtain ⟨l⟩ := cs
    match l, hsz with
    | [c0, c1, c2, c3, c4, c5, c6], _ => exact ⟨c0, c1, c2, c3, c4, c5, c6, rfl⟩
  obtain ⟨ys, n, _, _, hl, hlen, hfs⟩ := DataW.trod_struct Try.underlying64 hf
  match ys, hlen with
  | [y0, y1, y2, y3, y4, y5], _ =>
    have h0 := hfs 0 _ rfl
    have h1 := hfs 1 _ rfl
    have h2 := hfs 2 _ rfl
    have h3 := hfs 3 _ rfl
    have h4 := hfs 4 _ rfl
    have h5 := hfs 5 _ rfl
    simp [Value.cells, hci, hc2, hcs] at h0 h1 h2 h3 h4 h5
    obtain ⟨k, e0, _, _⟩ := DataW.trod_int Try.underlying3 h0
    obtain ⟨z0, z1, n2, _, hlen2, i0, i1⟩ := trod_struct2 Try.underlying61 h1
    simp [hci] at i0 i1
    obtain ⟨t, e1, _, _⟩ := DataW.trod_int Try.underlying3 i0
    obtain ⟨s, e2, _, _⟩ := DataW.trod_int Try.underlying3 i1
    obtain ⟨val, e3, _, _⟩ := DataW.trod_int Try.underlying3 h2
    obtain ⟨cl, e4, _, _⟩ := DataW.trod_int Try.underlying3 h3
    obtain ⟨ca, e5, _, _⟩ := DataW.trod_int Try.underlying3 h4
    simp at e0 e1 e2 e3 e4 e5
    have hsl : ∃ a len cap, c6 = Value.slice a len cap := by
      rcases open_slice Try.underlying62 h5 with ⟨hcs, _⟩ | ⟨x, l, c, m, n, DD, Pl, hcs, _⟩
      · simp at hcs; exact ⟨_, _, _, hcs⟩
      · simp at hcs; exact ⟨_, _, _, hcs⟩
    have hT : DataW.Trod enc Try.prog W base spare true 62 c6 y5.1 y5.2 := by
      obtain ⟨a, len, cap, rfl⟩ := hsl
      exact ⟨n, by simpa [Value.cells] using h5⟩
    obtain ⟨a, cap, xs, e6, hxl, hD⟩ := deps_open hsl hT
    exact ⟨k, t, s, val, cl, ca, a, cap, xs, by rw [e0, e1, e2, e3, e4, e5, e6], hxl, hD⟩
end Go.Proofs.Ythlmodafadfnfaa
