/- Plain facts, and what all texts of this seat share. -/
import Derived.Test.YthlmodafadfnfaaRows
import Derived.WalkKit
import Derived.ProofKit
import Derived.OpenShut
import Derived.Below
import Derived.WalkLawsBesides
import Derived.Deep.QuietTactic
import Derived.BigQuiet
import Derived.WalkSpells
import Derived.Deep.RegionWith
import Derived.Deep.RegionHeld3
namespace Go.Proofs.Ythlmodafadfnfaa
open Go.ChangeShapes Go.WideShapes Go.ChangeAt Go.RowKit

/-- The side of a site as a number. -/
def sideOf (n : Int) : Int := if n < 0 ∨ 4 ≤ n then -1 else n / 2

theorem side_out (n : Int) (h : n < 0 ∨ 4 ≤ n) : sideOf n = -1 := by unfold sideOf; rw [if_pos h]
theorem side_in (n : Int) (h0 : 0 ≤ n) (h1 : n < 4) : sideOf n = n / 2 := by unfold sideOf; rw [if_neg (by omega)]

/-- A stamp as a value. -/
abbrev stampV (t s : Int) : Value := .agg #[.int .i64 t, .int .i64 s]

/-- How two numbers stand to each other. -/
def cmpV (x y : Int) : Int := if x < y then -1 else if y < x then 1 else 0
theorem cmp_lt {x y : Int} (h : x < y) : cmpV x y = -1 := by unfold cmpV; rw [if_pos h]
theorem cmp_gt {x y : Int} (h : y < x) : cmpV x y = 1 := by unfold cmpV; rw [if_neg (by omega), if_pos h]
theorem cmp_eq (x : Int) : cmpV x x = 0 := by unfold cmpV; rw [if_neg (by omega), if_neg (by omega)]

/-- Whether a stamp is ahead of another one. -/
def lessB (t s t' s' : Int) : Bool := decide (t < t' ∨ t = t' ∧ s < s')

theorem bcell {W w1 : World} (hb : Below W.heap.size W w1) : (∀ b o, b < W.heap.size → w1.cell? ⟨b, o, none⟩ = W.cell? ⟨b, o, none⟩) ∧ (∀ b o, b < W.heap.size → w1.frozen? ⟨b, o, none⟩ = W.frozen? ⟨b, o, none⟩) :=
  ⟨fun b o h => hb.cell (p := ⟨b, o, none⟩) h, fun b o h => hb.frozen (p := ⟨b, o, none⟩) h⟩

/-- By time, and then by site. -/
def ordV (t s t' s' : Int) : Int := if cmpV t t' = 0 then cmpV s s' else cmpV t t'
theorem ord_less (t s t' s' : Int) : decide (ordV t s t' s' < 0) = lessB t s t' s' := by
  unfold ordV lessB cmpV
  rw [decide_eq_decide]
  by_cases h1 : t < t' <;> by_cases h2 : t' < t <;> by_cases h3 : s < s' <;> by_cases h4 : s' < s <;> simp [*] <;> omega

/-- Whether a stamp is ok. -/
def okB (t s : Int) : Bool := decide (1 ≤ t ∧ t ≤ 9999 ∧ 0 ≤ s ∧ s ≤ 3)

theorem side_ok (s : Int) : decide (0 ≤ sideOf s) = decide (0 ≤ s ∧ s ≤ 3) := by
  rw [decide_eq_decide]; unfold sideOf; split <;> omega

/-- Whether a number is in a range. -/
def inB (n lo hi : Int) : Bool := decide (lo ≤ n ∧ n ≤ hi)
end Go.Proofs.Ythlmodafadfnfaa
