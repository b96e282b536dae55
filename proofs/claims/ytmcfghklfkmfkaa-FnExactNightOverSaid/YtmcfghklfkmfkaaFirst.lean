/- The first number with a property (no dump). -/
import Derived.Test.YtmcfghklfkmfkaaVal
namespace Go.Proofs.Ytmcfghklfkmfkaa
set_option linter.unusedVariables false
def firstG (p : Int → Bool) : Nat → Int → Int
  | 0, g => g
  | k + 1, g => if p g then g else firstG p k (g + 1)
theorem firstG_eq (p : Int → Bool) (m : Int) (hp : p m = true) (k : Nat) : ∀ g : Int, g ≤ m → m - g ≤ k → (∀ x, g ≤ x → x < m → p x = false) → firstG p k g = m := by
  induction k with
  | zero => intro g h1 h2 _; simp only [firstG]; omega
  | succ k ih =>
    intro g h1 h2 h3
    by_cases e : g = m
    · subst e; simp [firstG, hp]
    · rw [firstG, if_neg (by rw [h3 g (by omega) (by omega)]; decide)]
      exact ih (g + 1) (by omega) (by omega) fun x hx hy => h3 x (by omega) hy
theorem firstG_at (p : Int → Bool) (k : Nat) : ∀ g : Int, p (g + k) = true → g ≤ firstG p k g ∧ firstG p k g ≤ g + k ∧ p (firstG p k g) = true := by
  induction k with
  | zero => intro g h; simp only [firstG]; refine ⟨by omega, by omega, ?_⟩; simpa using h
  | succ k ih =>
    intro g h
    by_cases e : p g = true
    · rw [firstG, if_pos e]; exact ⟨by omega, by omega, e⟩
    · rw [firstG, if_neg e]
      have := ih (g + 1) (by rw [show g + 1 + (k : Int) = g + ((k + 1 : Nat) : Int) from by omega]; exact h)
      exact ⟨by omega, by omega, this.2.2⟩
end Go.Proofs.Ytmcfghklfkmfkaa
