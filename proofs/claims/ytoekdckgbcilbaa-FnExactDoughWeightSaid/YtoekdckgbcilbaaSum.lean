/- Sums over the first indices (no dump). -/
import Derived.Test.YtoekdckgbcilbaaVal
namespace Go.Proofs.Ytoekdckgbcilbaa
set_option linter.unusedVariables false
def sumTo (g : Nat → Int) : Nat → Int
  | 0 => 0
  | k + 1 => sumTo g k + g k
theorem sumTo_succ (g : Nat → Int) (k : Nat) : sumTo g (k + 1) = sumTo g k + g k := rfl
theorem sumTo_bd (g : Nat → Int) (M : Int) (k : Nat) (h : ∀ i, i < k → 0 ≤ g i ∧ g i ≤ M) : 0 ≤ sumTo g k ∧ sumTo g k ≤ k * M := by
  induction k with
  | zero => simp [sumTo]
  | succ k ih =>
    have h1 := ih fun i hi => h i (by omega)
    have h2 := h k (by omega)
    rw [sumTo_succ]
    have : ((k + 1 : Nat) : Int) * M = k * M + M := by rw [Int.natCast_add, Int.add_mul]; simp
    omega
theorem sumTo_congr (g g' : Nat → Int) (k : Nat) (h : ∀ i, i < k → g i = g' i) : sumTo g k = sumTo g' k := by
  induction k with
  | zero => rfl
  | succ k ih => rw [sumTo_succ, sumTo_succ, ih fun i hi => h i (by omega), h k (by omega)]
theorem sumTo_mono (g : Nat → Int) (a b : Nat) (hab : a ≤ b) (h : ∀ i, i < b → 0 ≤ g i) : sumTo g a ≤ sumTo g b := by
  induction b with
  | zero =>
    have e : a = 0 := by omega
    subst e
    exact Int.le_refl _
  | succ b ih =>
    by_cases e : a = b + 1
    · subst e; exact Int.le_refl _
    · have := ih (by omega) fun i hi => h i (by omega)
      have := h b (by omega)
      rw [sumTo_succ]; omega
end Go.Proofs.Ytoekdckgbcilbaa
