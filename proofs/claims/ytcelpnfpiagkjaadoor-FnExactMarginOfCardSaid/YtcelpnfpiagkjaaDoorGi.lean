/- The index of the greatest of a list of ints, the first of equal ones. -/
import Derived.Test.YtcelpnfpiagkjaaDoorIntR
import Derived.Test.YtcelpnfpiagkjaaDoorIn
import Derived.Deep.QuietTactic
import Derived.BigQuiet
import Derived.Deep.RegionHeld3
namespace Go.Proofs.YtcelpnfpiagkjaaDoor
open Go.ChangeShapes Go.WideShapes Go.ChangeAt Go.RowKit
set_option linter.unusedVariables false
set_option linter.unusedSimpArgs false

def amax (f : Nat → Int) : Nat → Nat
  | 0 => 0
  | k + 1 => if f (amax f k) < f k then k else amax f k
theorem amax_succ (f : Nat → Int) (k : Nat) : amax f (k + 1) = if f (amax f k) < f k then k else amax f k := rfl
theorem amax_lt (f : Nat → Int) (k : Nat) (h : 0 < k) : amax f k < k := by
  induction k with
  | zero => omega
  | succ k ih =>
    rw [amax_succ]
    split
    · omega
    · by_cases e : k = 0
      · subst e; simp [amax]
      · have := ih (by omega); omega
theorem amax_le (f : Nat → Int) (k : Nat) : amax f k ≤ k := by
  by_cases e : k = 0
  · subst e; exact Nat.le_refl _
  · have := amax_lt f k (by omega); omega
theorem amax_congr (f g : Nat → Int) (k : Nat) (h : ∀ i, i < k → f i = g i) : amax f k = amax g k := by
  induction k with
  | zero => rfl
  | succ k ih =>
    have h1 := ih fun i hi => h i (by omega)
    by_cases e : k = 0
    · subst e; simp [amax]
    · have h2 := amax_lt g k (by omega)
      rw [amax_succ, amax_succ, h1, h _ (by omega : amax g k < k + 1), h k (by omega)]
theorem amax_max (f : Nat → Int) (k : Nat) : ∀ i, i < k → f i ≤ f (amax f k) := by
  induction k with
  | zero => intro i hi; omega
  | succ k ih =>
    intro i hi
    rw [amax_succ]
    split
    · by_cases e : i = k
      · subst e; exact Int.le_refl _
      · have := ih i (by omega); omega
    · by_cases e : i = k
      · subst e; omega
      · exact ih i (by omega)
theorem amax_first (f : Nat → Int) (k : Nat) : ∀ i, i < amax f k → f i < f (amax f k) := by
  induction k with
  | zero => intro i hi; simp [amax] at hi
  | succ k ih =>
    intro i hi
    rw [amax_succ] at hi ⊢
    split at hi
    · rename_i h
      rw [if_pos h]
      have := amax_max f k i (by omega); omega
    · rename_i h
      rw [if_neg h]
      exact ih i hi
/-- the only index with both is it -/
theorem amax_eq (f : Nat → Int) (n m : Nat) (hm : m < n) (h1 : ∀ i, i < n → f i ≤ f m) (h2 : ∀ i, i < m → f i < f m) : amax f n = m := by
  have h3 := amax_max f n m hm
  have h4 := amax_lt f n (by omega)
  rcases Nat.lt_trichotomy (amax f n) m with h | h | h
  · have := h2 _ h; omega
  · exact h
  · have := amax_first f n m h
    have := h1 _ h4; omega
def gF (xs : List Int) (i : Nat) : Int := xs.getD i 0
def gidx (xs : List Int) (k : Nat) : Int := if k = 0 then -1 else (amax (gF xs) k : Nat)
end Go.Proofs.YtcelpnfpiagkjaaDoor
