/- The place of a stamp in the map. -/
import Derived.Test.YthlmodafadfnfaaPlace
import Derived.Test.YthlmodafadfnfaaSHasC
namespace Go.Proofs.Ythlmodafadfnfaa
open Go.ChangeShapes Go.WideShapes Go.ChangeAt Go.RowKit

/-- What lies at a key. -/
theorem Chm.at {w : World} {base b n : Nat} {f : Int → List XV} {g : Int → Value} (h : Chm w base b n f g) (key : Int) {gs : List V} (hgs : (f key).map XV.v = gs) (hgood : ∀ x ∈ f key, GoodX w x) : ∃ ga gc, g key = .slice ga gs.length gc ∧ Vers w ga gs := by
  obtain ⟨ga, gc, h1, h2, _⟩ := vers_of_row (h.row key) hgood
  subst hgs
  exact ⟨ga, gc, by rw [h1, List.length_map], h2⟩

set_option maxHeartbeats 1000000 in
theorem place_any (W : World) (base b n : Nat) (f : Int → List XV) (g : Int → Value) (key t s : Int) (gs : List V) (hM : Chm W base b n f g) (hwf : (Lit.int .i64 key).wf = true) (hgs : (f key).map XV.v = gs) (ha : gs.Pairwise (fun a b => lessB a.t a.s b.t b.s = true)) (hl : gs.length ≤ 100) (hgood : ∀ x ∈ f key, GoodX W x) :
    Calls Try.prog 80 #[.map (some b), .int .i64 key, stampV t s] W fun e w' => e = .returned (.tuple #[.int .i64 (plc gs t s), .bool (thr gs t s)]) ∧ Below W.heap.size W w' := by
  have b0 : Below W.heap.size W (W.alloc (.cells #[.int .i64 t, .int .i64 s] 25)) := (Below.refl _ W).alloc (Nat.le_refl _) _
  have M1 := hM.below b0
  have hlook := M1.look hwf
  obtain ⟨ga, gc, hg, hV⟩ := M1.at key hgs (fun x hx => (hgood x hx).below b0)
  rw [hg] at hlook
  have hP := placeOf_any ga gc gs t s _ hl ha hV
  clear hg hV M1 hM hgood hgs
  generalize plc gs t s = p at *
  generalize thr gs t s = r at *
  go_enter Try.func80, Try.ntmps80
  go_wp2_with fail
  refine hP.mono ?_
  rintro e w1 ⟨rfl, hb1⟩
  clear hP hlook
  go_wp2_with fail
  go_ret2
  exact ⟨rfl, b0.trans (hb1.mono b0.size)⟩

theorem top_at {vs : List V} {key : Int} {gs : List V} (hg : grp vs key = gs) (h : 0 < gs.length) : cTop vs key = some (gs[gs.length - 1]'(by omega)) := by
  rw [top_grp, hg, List.getLast?_eq_getElem?, List.getElem?_eq_getElem (by omega)]
theorem top_none {vs : List V} {key : Int} (hg : grp vs key = []) : cTop vs key = none := by rw [top_grp, hg]; rfl
end Go.Proofs.Ythlmodafadfnfaa
