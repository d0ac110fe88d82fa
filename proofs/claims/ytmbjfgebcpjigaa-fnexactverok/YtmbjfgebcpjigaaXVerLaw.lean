/- The exact law of VerOk, whole. -/
import Derived.Test.YtmbjfgebcpjigaaXVer
import Derived.Test.YtmbjfgebcpjigaaOpenDeps
namespace Go.Proofs.Ytmbjfgebcpjigaa
open Go.ChangeShapes Go.WideShapes Go.ChangeAt Go.RowKit Go.Deep

/-- Two blocks lie as they lay, and nothing old has turned. -/
def InV (w0 : World) (E F : Nat) (vs us : Array Value) (W : World) : Prop := Below w0.heap.size w0 W ∧ (E < W.heap.size ∧ ∀ j, W.cell? ⟨E, j, none⟩ = vs[j]?) ∧ (F < W.heap.size ∧ ∀ j, W.cell? ⟨F, j, none⟩ = us[j]?)
theorem InV.below {w0 w w' : World} {E F : Nat} {vs us : Array Value} (h : InV w0 E F vs us w) (k : Below w.heap.size w w') : InV w0 E F vs us w' := by
  obtain ⟨h1, ⟨a1, a2⟩, ⟨b1, b2⟩⟩ := h
  exact ⟨h1.trans (k.mono h1.size), ⟨Nat.lt_of_lt_of_le a1 k.size, fun j => (k.cell (p := ⟨E, j, none⟩) a1).trans (a2 j)⟩, ⟨Nat.lt_of_lt_of_le b1 k.size, fun j => (k.cell (p := ⟨F, j, none⟩) b1).trans (b2 j)⟩⟩
theorem InV.drew {w0 w : World} {E F : Nat} {vs us : Array Value} (h : InV w0 E F vs us w) : InV w0 E F vs us w.drew := h.below (Below.refl _ _).drew

set_option maxHeartbeats 4000000 in
theorem lawExactVer (k t s val cl ca : Int) (a : Option Addr) (cap : Nat) (xs : List D) (w : World) (hn : xs.length ≤ maxLen) (h : Deps w a xs) :
    Calls Try.prog 13 #[verV k t s val cl ca a xs.length cap] w fun e w' => e = .returned (.bool true) ∧ Below w.heap.size w w' := by
  have hz := fun w => szVer_any k t s val cl ca a xs.length cap w hn
  have B0 : Below w.heap.size w (w.alloc (.cells #[.int .i64 k, .int .i64 t, .int .i64 s, .int .i64 val, .int .i64 cl, .int .i64 ca, .slice a xs.length cap] 52)) := (Below.refl _ _).alloc (Nat.le_refl _) _
  by_cases hbig : (1048576 : Int) < (xs.length : Int)
  · rw [if_pos hbig] at hz
    go_enter Try.func13, Try.ntmps13
    go_wp2_with fail
    refine (hz _).mono ?_
    rintro e w1 ⟨rfl, hb1⟩
    have B1 : Below w.heap.size w w1 := B0.trans (hb1.mono B0.size)
    clear hz hb1 B0
    go_wp2
    go_ret
    exact ⟨rfl, B1⟩
  · rw [if_neg hbig] at hz
    have hx : xs.length ≤ 1048576 := by omega
    have hx' : xs.length ≤ 1099511627776 := by omega
    have hsum : 0 ≤ (1048576 : Int) - xs.length := by omega
    have hSV := fun (b : Option Addr) (c : Nat) (W9 : World) h => sVer_any k t s val cl ca b c xs W9 hx' h
    have hIV := fun (b : Option Addr) (c : Nat) (W9 : World) h => iVer_any k t s val cl ca b c xs W9 hx' h
    generalize verB k t s val cl ca xs = r at *
    go_enter Try.func13, Try.ntmps13
    go_wp2_with fail
    refine (hz _).mono ?_
    rintro e w1 ⟨rfl, hb1⟩
    have D1 := (Blk.new w _ _).below hb1 (by simp)
    have B1 : Below w.heap.size w w1 := B0.trans (hb1.mono B0.size)
    clear hz hbig hn hb1 B0
    obtain ⟨q1, g1⟩ := D1.rules
    go_wp2_with fail
    refine (toVer_any k t s val cl ca a cap xs _ hx (h.below B1)).mono ?_
    rintro e w2 ⟨b2, rfl, R2, hb2⟩
    have D2 := D1.below hb2 D1.lt
    have B2 : Below w.heap.size w w2 := B1.trans (hb2.mono B1.size)
    clear q1 g1 hb2 D1 B1
    go_wp2_with fail
    refine (hSV _ _ _ (row_deps R2)).mono ?_
    rintro e w3 ⟨rfl, hb3⟩
    have D3 := D2.below hb3 D2.lt
    have B3 : Below w.heap.size w w3 := B2.trans (hb3.mono B2.size)
    clear hb3 D2 B2 R2
    obtain ⟨q1, g1⟩ := D3.rules
    go_wp2_with fail
    refine (toVer_any k t s val cl ca a cap xs _ hx (h.below B3)).mono ?_
    rintro e w4 ⟨b4, rfl, R4, hb4⟩
    have D4 := (D3.below hb4 D3.lt).alloc (.cells #[.int .i64 k, .int .i64 t, .int .i64 s, .int .i64 val, .int .i64 cl, .int .i64 ca, .slice (some ⟨b4, 0, none⟩) xs.length xs.length] 27)
    have B4 : Below w.heap.size w w4 := B3.trans (hb4.mono B3.size)
    have B4' := B4.alloc B4.size (.cells #[.int .i64 k, .int .i64 t, .int .i64 s, .int .i64 val, .int .i64 cl, .int .i64 ca, .slice (some ⟨b4, 0, none⟩) xs.length xs.length] 27)
    have R4' := R4.alloc (.cells #[.int .i64 k, .int .i64 t, .int .i64 s, .int .i64 val, .int .i64 cl, .int .i64 ca, .slice (some ⟨b4, 0, none⟩) xs.length xs.length] 27)
    have E4 := Blk.new w4 #[.int .i64 k, .int .i64 t, .int .i64 s, .int .i64 val, .int .i64 cl, .int .i64 ca, .slice (some ⟨b4, 0, none⟩) xs.length xs.length] 27
    clear q1 g1 hb4 D3 B3 B4 R4
    go_wp2_with fail
    refine (hIV _ _ _ (row_deps R4')).mono ?_
    rintro e w5 ⟨rfl, hb5⟩
    have D5 := D4.below hb5 D4.lt
    have E5 := E4.below hb5 E4.lt
    have R5 := row_below R4' hb5 (Nat.le_refl _)
    have B5 : Below w.heap.size w w5 := B4'.trans (hb5.mono B4'.size)
    have I5 : InV w w.heap.size w4.heap.size _ _ w5 := ⟨B5, ⟨D5.lt, D5.cell⟩, ⟨E5.lt, E5.cell⟩⟩
    clear hb5 D4 E4 R4' B4' hSV hIV D5 E5 B5
    go_wp2_with fail
    go_region_held3 (fun W => Below w.heap.size w W ∧ (w.heap.size < W.heap.size ∧ ∀ j, W.cell? ⟨w.heap.size, j, none⟩ = #[.int .i64 k, .int .i64 t, .int .i64 s, .int .i64 val, .int .i64 cl, .int .i64 ca, .slice a xs.length cap][j]?) ∧ (w4.heap.size < W.heap.size ∧ ∀ j, W.cell? ⟨w4.heap.size, j, none⟩ = #[.int .i64 k, .int .i64 t, .int .i64 s, .int .i64 val, .int .i64 cl, .int .i64 ca, .slice (some ⟨b4, 0, none⟩) xs.length xs.length][j]?)) (first | exact InV.drew (by assumption) | exact InV.below (by assumption) (by assumption)) (first | (go_at_call 40; refine (toVer_any k t s val cl ca a cap xs _ hx (h.below (InV.drew I5).1)).mono ?_; rintro e w6 ⟨b6, rfl, R6, h6⟩) | (go_at_call 41; refine (eqVer_any k t s val cl ca _ _ _ _ xs _ hx (row_deps (row_below (row_below R5 (Below.refl _ _).drew (Nat.le_refl _)) h6 (Nat.le_refl _))) (row_deps R6)).mono ?_; rintro e w7 ⟨rfl, h7⟩))
    rename_i I7
    have BB : Below w.heap.size w w7 := I7.1
    clear I7 I5 R5 R6 h6 h7
    go_wp2
    go_ret
    exact ⟨rfl, BB⟩

set_option maxRecDepth 100000 in
/-- A version that came in. -/
theorem ver_open {H : Type} {enc : TypeId × Value → H} {W : World} {base b0 : Nat} {r : Reach} {spare : Nat → Bool} {v : Value} {d : DataW H} {p : List MemPlace} (hv : Value.okWide Try.prog W r b0 52 v)
    (h : DataW.Trod enc Try.prog W base spare true 52 v d p) : ∃ (k t s val cl ca : Int) (a : Option Addr) (cap : Nat) (xs : List D), v = verV k t s val cl ca a xs.length cap ∧ xs.length ≤ maxLen ∧ Deps W a xs := by
  obtain ⟨cs, rfl, hsz⟩ := okWide_struct Try.underlying52 hv
  obtain ⟨fuel, hf⟩ := h
  have hc7 : Try.prog.cellsOf 52 = 7 := by kernel_rfl
  have hc2 : Try.prog.cellsOf 49 = 2 := by kernel_rfl
  have hci : Try.prog.cellsOf 3 = 1 := by kernel_rfl
  have hcs : Try.prog.cellsOf 50 = 1 := by kernel_rfl
  rw [hc7] at hsz
  obtain ⟨c0, c1, c2, c3, c4, c5, c6, rfl⟩ : ∃ c0 c1 c2 c3 c4 c5 c6, cs = #[c0, c1, c2, c3, c4, c5, c6] := by
    obtain ⟨l⟩ := cs
    match l, hsz with
    | [c0, c1, c2, c3, c4, c5, c6], _ => exact ⟨c0, c1, c2, c3, c4, c5, c6, rfl⟩
  obtain ⟨ys, n, _, _, hl, hlen, hfs⟩ := DataW.trod_struct Try.underlying52 hf
  match ys, hlen with
  | [y0, y1, y2, y3, y4, y5], _ =>
    have h0 := hfs 0 _ rfl
    have h1 := hfs 1 _ rfl
    have h2 := hfs 2 _ rfl
    have h3 := hfs 3 _ rfl
    have h4 := hfs 4 _ rfl
    have h5 := hfs 5 _ rfl
    simp [Value.cells, hci, hc2, hcs] at h0 h1 h2 h3 h4 h5
    obtain ⟨k, e0, _, _⟩ := DataW.trod_int Try.underlying3 h0
    obtain ⟨z0, z1, n2, _, hlen2, i0, i1⟩ := trod_struct2 Try.underlying49 h1
    simp [hci] at i0 i1
    obtain ⟨t, e1, _, _⟩ := DataW.trod_int Try.underlying3 i0
    obtain ⟨s, e2, _, _⟩ := DataW.trod_int Try.underlying3 i1
    obtain ⟨val, e3, _, _⟩ := DataW.trod_int Try.underlying3 h2
    obtain ⟨cl, e4, _, _⟩ := DataW.trod_int Try.underlying3 h3
    obtain ⟨ca, e5, _, _⟩ := DataW.trod_int Try.underlying3 h4
    simp at e0 e1 e2 e3 e4 e5
    have hsl : ∃ a len cap, c6 = Value.slice a len cap := by
      rcases open_slice Try.underlying50 h5 with ⟨hcs, _⟩ | ⟨x, l, c, m, n, DD, Pl, hcs, _⟩
      · simp at hcs; exact ⟨_, _, _, hcs⟩
      · simp at hcs; exact ⟨_, _, _, hcs⟩
    have hT : DataW.Trod enc Try.prog W base spare true 50 c6 y5.1 y5.2 := by
      obtain ⟨a, len, cap, rfl⟩ := hsl
      exact ⟨n, by simpa [Value.cells] using h5⟩
    obtain ⟨a, cap, xs, e6, hxl, hD⟩ := deps_open hsl hT
    exact ⟨k, t, s, val, cl, ca, a, cap, xs, by rw [e0, e1, e2, e3, e4, e5, e6], hxl, hD⟩
end Go.Proofs.Ytmbjfgebcpjigaa
