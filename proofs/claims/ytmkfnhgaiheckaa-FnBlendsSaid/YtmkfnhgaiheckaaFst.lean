/- The first place. -/
import Derived.Test.YtmkfnhgaiheckaaVal
namespace Go.Proofs.Ytmkfnhgaiheckaa
open Go.ChangeShapes Go.WideShapes Go.ChangeAt Go.RowKit
set_option linter.unusedVariables false
set_option linter.unusedSimpArgs false
set_option maxHeartbeats 2000000

/-- the first place below n at which p holds, or -1 -/
def fstP (p : Nat → Bool) : Nat → Int
  | 0 => -1
  | n + 1 => if 0 ≤ fstP p n then fstP p n else if p n then n else -1
theorem fstP_no {p : Nat → Bool} {n : Nat} (h : ∀ i, i < n → p i = false) : fstP p n = -1 := by
  induction n with
  | zero => rfl
  | succ n ih => rw [fstP, ih fun i hi => h i (by omega), if_neg (by omega), if_neg (by simp [h n (by omega)])]
theorem fstP_at {p : Nat → Bool} {n k : Nat} (hk : k < n) (h : ∀ i, i < k → p i = false) (hp : p k = true) : fstP p n = k := by
  induction n with
  | zero => omega
  | succ n ih =>
    rw [fstP]
    rcases Nat.lt_or_ge k n with h1 | h1
    · rw [ih h1, if_pos (by omega)]
    · obtain rfl : k = n := by omega
      rw [fstP_no h, if_neg (by omega), if_pos hp]
theorem fstP_in (p : Nat → Bool) (n : Nat) : -1 ≤ fstP p n ∧ fstP p n < n := by
  induction n with
  | zero => simp [fstP]
  | succ n ih => rw [fstP]; split; · omega
                 · split <;> omega
theorem fstP_nn {p : Nat → Bool} {n : Nat} (i : Nat) (hi : i < n) (hp : p i = true) : 0 ≤ fstP p n := by
  induction n with
  | zero => omega
  | succ n ih =>
    rw [fstP]
    split
    · assumption
    · rename_i h
      rcases Nat.lt_or_ge i n with h1 | h1
      · exact absurd (ih h1) h
      · obtain rfl : i = n := by omega
        rw [if_pos hp]; omega
theorem fstP_neg {p : Nat → Bool} {n : Nat} : fstP p n < 0 ↔ ∀ i, i < n → p i = false := by
  constructor
  · intro h i hi
    cases hp : p i
    · rfl
    · have := fstP_nn i hi hp; omega
  · intro h; rw [fstP_no h]; omega
theorem fstP_congr {p q : Nat → Bool} {n : Nat} (h : ∀ i, i < n → p i = q i) : fstP p n = fstP q n := by
  induction n with
  | zero => rfl
  | succ n ih => rw [fstP, fstP, ih fun i hi => h i (by omega), h n (by omega)]
end Go.Proofs.Ytmkfnhgaiheckaa
