/- The indices with a property (no dump). -/
import Derived.Test.YthndjpklfgcpmaaVal
namespace Go.Proofs.Ythndjpklfgcpmaa
set_option linter.unusedVariables false
def idxTo (p : Nat → Bool) : Nat → List Int
  | 0 => []
  | k + 1 => if p k then idxTo p k ++ [(k : Int)] else idxTo p k
theorem idxTo_t {p : Nat → Bool} {k : Nat} (h : p k = true) : idxTo p (k + 1) = idxTo p k ++ [(k : Int)] := if_pos h
theorem idxTo_f {p : Nat → Bool} {k : Nat} (h : p k = false) : idxTo p (k + 1) = idxTo p k := if_neg (by simp [h])
theorem idxTo_len (p : Nat → Bool) (k : Nat) : (idxTo p k).length ≤ k := by
  induction k with
  | zero => exact Nat.le_refl _
  | succ k ih =>
    cases h : p k
    · rw [idxTo_f h]; omega
    · rw [idxTo_t h]; simp; omega
theorem idxTo_mem (p : Nat → Bool) (k : Nat) : ∀ x ∈ idxTo p k, 0 ≤ x ∧ x < k := by
  induction k with
  | zero => intro x hx; cases hx
  | succ k ih =>
    intro x hx
    cases h : p k
    · rw [idxTo_f h] at hx; have := ih x hx; omega
    · rw [idxTo_t h] at hx
      rcases List.mem_append.1 hx with hx | hx
      · have := ih x hx; omega
      · simp at hx; omega
theorem idxTo_congr {p q : Nat → Bool} (k : Nat) (h : ∀ i, i < k → p i = q i) : idxTo p k = idxTo q k := by
  induction k with
  | zero => rfl
  | succ k ih => rw [idxTo, idxTo, h k (by omega), ih fun i hi => h i (by omega)]
end Go.Proofs.Ythndjpklfgcpmaa
