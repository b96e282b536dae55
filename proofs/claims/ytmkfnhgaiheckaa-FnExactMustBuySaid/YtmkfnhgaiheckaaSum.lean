/- Sums over the first indices (no dump). -/
import Derived.Test.YtmkfnhgaiheckaaVal
namespace Go.Proofs.Ytmkfnhgaiheckaa
set_option linter.unusedVariables false
def sumTo (g : Nat → Int) : Nat → Int
  | 0 => 0
  | k + 1 => sumTo g k + g k
theorem sumTo_succ (g : Nat → Int) (k : Nat) : sumTo g (k + 1) = sumTo g k + g k := rfl
theorem sumTo_bd (g : Nat → Int) (M : Int) (k : Nat) (h : ∀ i, i < k → 0 ≤ g i ∧ g i ≤ M) : 0 ≤ sumTo g k ∧ sumTo g k ≤ k * M := by
  induction k with
  | zero => simp [sumTo]
  | succ k ih =>
    have h1 := ih fun i hi => h i (by omega)
    have h2 := h k (by omega)
    rw [sumTo_succ]
    have : ((k + 1 : Nat) : Int) * M = k * M + M := by rw [Int.natCast_add, Int.add_mul]; simp
    omega
theorem sumTo_congr (g g' : Nat → Int) (k : Nat) (h : ∀ i, i < k → g i = g' i) : sumTo g k = sumTo g' k := by
  induction k with
  | zero => rfl
  | succ k ih => rw [sumTo_succ, sumTo_succ, ih fun i hi => h i (by omega), h k (by omega)]
theorem sumTo_mono (g : Nat → Int) (a b : Nat) (hab : a ≤ b) (h : ∀ i, i < b → 0 ≤ g i) : sumTo g a ≤ sumTo g b := by
  induction b with
  | zero =>
    have e : a = 0 := by omega
    subst e
    exact Int.le_refl _
  | succ b ih =>
    by_cases e : a = b + 1
    · subst e; exact Int.le_refl _
    · have := ih (by omega) fun i hi => h i (by omega)
      have := h b (by omega)
      rw [sumTo_succ]; omega
def allOk (ok : Nat → Bool) : Nat → Bool
  | 0 => true
  | k + 1 => allOk ok k && ok k
theorem allOk_t (ok : Nat → Bool) (n : Nat) (h : ∀ i, i < n → ok i = true) : allOk ok n = true := by
  induction n with
  | zero => rfl
  | succ n ih => rw [allOk, ih fun i hi => h i (by omega), h n (by omega)]; rfl
theorem allOk_at (ok : Nat → Bool) (n : Nat) (h : allOk ok n = true) : ∀ i, i < n → ok i = true := by
  induction n with
  | zero => intro i hi; omega
  | succ n ih =>
    rw [allOk, Bool.and_eq_true] at h
    intro i hi
    by_cases e : i = n
    · subst e; exact h.2
    · exact ih h.1 i (by omega)
theorem allOk_f (ok : Nat → Bool) (n i : Nat) (hi : i < n) (h : ok i = false) : allOk ok n = false := by
  cases e : allOk ok n
  · rfl
  · rw [allOk_at ok n e i hi] at h; cases h
end Go.Proofs.Ytmkfnhgaiheckaa
