/- Chapter 10: ApartBreads of the model. -/
import Derived.Test.YtgjbbidcpmglbaaApt
import Derived.Test.YtgjbbidcpmglbaaSBread
import Derived.Test.YtgjbbidcpmglbaaIntR
import Derived.Test.YtgjbbidcpmglbaaIn
import Derived.IntWalk
namespace Go.Proofs.Ytgjbbidcpmglbaa
open Go.ChangeShapes Go.WideShapes Go.ChangeAt Go.RowKit
set_option linter.unusedVariables false
set_option linter.unusedSimpArgs false
set_option maxHeartbeats 2000000

def BestP (xs : List BreadR) (h : Int) (k : Nat) (b : Int) : Prop := (b = -1 ∧ ∀ i, i < k → ¬ h < loI xs i) ∨ ∃ j : Nat, b = j ∧ j < k ∧ h < loI xs j ∧ ∀ i, i < k → h < loI xs i → hiI xs j < hiI xs i ∨ (hiI xs j = hiI xs i ∧ j ≤ i)
theorem bp_0 (xs : List BreadR) (h : Int) : BestP xs h 0 (-1) := .inl ⟨rfl, fun i hi => by omega⟩
theorem bp_no {xs : List BreadR} {h : Int} {k : Nat} {b : Int} (hb : BestP xs h k b) (hn : ¬ h < loI xs k) : BestP xs h (k + 1) b := by
  rcases hb with ⟨e, hb⟩ | ⟨j, e, hj, h1, h2⟩
  · exact .inl ⟨e, fun i hi => by
      by_cases c : i = k
      · subst c; exact hn
      · exact hb i (by omega)⟩
  · exact .inr ⟨j, e, by omega, h1, fun i hi hc => by
      by_cases c : i = k
      · subst c; exact absurd hc hn
      · exact h2 i (by omega) hc⟩
theorem bp_new {xs : List BreadR} {h : Int} {k : Nat} (hb : BestP xs h k (-1)) (hn : h < loI xs k) : BestP xs h (k + 1) k := by
  rcases hb with ⟨_, hb⟩ | ⟨j, e, _⟩
  · exact .inr ⟨k, rfl, by omega, hn, fun i hi hc => by
      by_cases c : i = k
      · subst c; exact .inr ⟨rfl, Nat.le_refl _⟩
      · exact absurd hc (hb i (by omega))⟩
  · omega
theorem bp_lt {xs : List BreadR} {h : Int} {k j : Nat} (hb : BestP xs h k j) (hn : h < loI xs k) (hl : hiI xs k < hiI xs j) : BestP xs h (k + 1) k := by
  rcases hb with ⟨e, _⟩ | ⟨j', e, hj, h1, h2⟩
  · omega
  · obtain rfl : j = j' := by omega
    exact .inr ⟨k, rfl, by omega, hn, fun i hi hc => by
      by_cases c : i = k
      · subst c; exact .inr ⟨rfl, Nat.le_refl _⟩
      · have := h2 i (by omega) hc; exact .inl (by omega)⟩
theorem bp_keep {xs : List BreadR} {h : Int} {k j : Nat} (hb : BestP xs h k j) (hl : ¬ hiI xs k < hiI xs j) : BestP xs h (k + 1) j := by
  rcases hb with ⟨e, _⟩ | ⟨j', e, hj, h1, h2⟩
  · omega
  · obtain rfl : j = j' := by omega
    exact .inr ⟨j, rfl, by omega, h1, fun i hi hc => by
      by_cases c : i = k
      · subst c
        rcases Int.lt_or_eq_of_le (show hiI xs j ≤ hiI xs i by omega) with h3 | h3
        · exact .inl h3
        · exact .inr ⟨h3, by omega⟩
      · exact h2 i (by omega) hc⟩
theorem bp_end {xs : List BreadR} {h : Int} {n j : Nat} (hb : BestP xs h n j) : j < n ∧ h < loI xs j ∧ ¬ nxI xs n h < 0 ∧ nxB xs n h = j := by
  rcases hb with ⟨e, _⟩ | ⟨j', e, hj, h1, h2⟩
  · omega
  · obtain rfl : j = j' := by omega
    obtain ⟨_, h3, h4⟩ := nx_best hj h1 h2
    exact ⟨hj, h1, h3, h4⟩
theorem bp_end0 {xs : List BreadR} {h : Int} {n : Nat} (hb : BestP xs h n (-1)) : nxI xs n h < 0 := by
  rcases hb with ⟨_, hb⟩ | ⟨j, e, _⟩
  · rw [nx_best0 hb]; omega
  · omega
theorem bp_nat {xs : List BreadR} {h : Int} {k : Nat} {b : Int} (hb : BestP xs h k b) : b = -1 ∨ ∃ j : Nat, b = j ∧ j < k := by
  rcases hb with ⟨e, _⟩ | ⟨j, e, hj, _⟩
  · exact .inl e
  · exact .inr ⟨j, e, hj⟩
end Go.Proofs.Ytgjbbidcpmglbaa
