/- The list of a function's values (no dump). -/
import Derived.Test.YtjcmdmiafeaeoacVal
namespace Go.Proofs.Ytjcmdmiafeaeoac
set_option linter.unusedVariables false
def mapTo (f : Nat → Int) : Nat → List Int
  | 0 => []
  | k + 1 => mapTo f k ++ [f k]
theorem mapTo_succ (f : Nat → Int) (k : Nat) : mapTo f (k + 1) = mapTo f k ++ [f k] := rfl
theorem mapTo_len (f : Nat → Int) (k : Nat) : (mapTo f k).length = k := by
  induction k with
  | zero => rfl
  | succ k ih => rw [mapTo_succ, List.length_append, ih]; rfl
theorem mapTo_at (f : Nat → Int) (k i : Nat) (h : i < k) : (mapTo f k).getD i 0 = f i := by
  induction k with
  | zero => omega
  | succ k ih =>
    rw [mapTo_succ, List.getD_eq_getElem?_getD, List.getElem?_append]
    split
    · rename_i h1
      rw [mapTo_len] at h1
      rw [← List.getD_eq_getElem?_getD]; exact ih h1
    · rename_i h1
      rw [mapTo_len] at h1 ⊢
      obtain rfl : i = k := by omega
      simp
end Go.Proofs.Ytjcmdmiafeaeoac
