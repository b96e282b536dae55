/- An order that is sorted while it grows: the words. -/
import Derived.Test.YthadanmiomeehabSrt
import Derived.Test.YthadanmiomeehabIntR
namespace Go.Proofs.Ythadanmiomeehab
open Go.ChangeShapes Go.WideShapes Go.ChangeAt Go.RowKit
set_option linter.unusedVariables false
set_option linter.unusedSimpArgs false
set_option maxHeartbeats 2000000

def holF (S : Nat → Int) (n j u : Nat) : Int := if u ≤ j then (if u < n then S u else (n : Int)) else S (u - 1)
def hL (S : Nat → Int) (n j : Nat) : List Int := (List.range (n + 1)).map (holF S n j)
theorem hL_len (S : Nat → Int) (n j : Nat) : (hL S n j).length = n + 1 := by simp [hL]
theorem hL_at (S : Nat → Int) (n j t : Nat) (h : t < j) (hj : j ≤ n) : (iv (hL S n j))[t]? = some (.int .i64 (S t)) := by
  simp [hL, iv, show t < n + 1 by omega, holF, show t ≤ j by omega, show t < n by omega]
theorem hL_any (S : Nat → Int) (n j t : Nat) (h : t ≤ n) : ∃ y : Int, (iv (hL S n j))[t]? = some (.int .i64 y) := ⟨holF S n j t, by simp [hL, iv, show t < n + 1 by omega]⟩
theorem hL_set (S : Nat → Int) (n t : Nat) (h : t + 1 ≤ n) : (hL S n (t + 1)).set (t + 1) (S t) = hL S n t := by
  apply List.ext_getElem
  · simp [hL]
  · intro i h1 h2
    rw [List.getElem_set]
    simp only [hL, List.getElem_map, List.getElem_range]
    by_cases e : t + 1 = i
    · subst e; rw [if_pos rfl]; unfold holF; rw [if_neg (by omega)]; rfl
    · rw [if_neg e]
      unfold holF
      by_cases hi : i ≤ t
      · rw [if_pos (by omega), if_pos hi]
      · rw [if_neg (by omega), if_neg hi]
theorem hL_fin (S : Nat → Int) (n j : Nat) (h : j ≤ n) : (hL S n j).set j n = (List.range (n + 1)).map (insAt S n j) := by
  apply List.ext_getElem
  · simp [hL]
  · intro i h1 h2
    rw [List.getElem_set]
    simp only [hL, List.getElem_map, List.getElem_range]
    by_cases e : j = i
    · subst e; simp [insAt_at]
    · rw [if_neg e]
      unfold holF
      by_cases hi : i ≤ j
      · rw [if_pos hi, if_pos (by omega), insAt_lo (by omega)]
      · rw [if_neg hi, insAt_hi (by omega)]
theorem hL_start (lt : Int → Int → Bool) (n : Nat) : srtL lt n ++ [(n : Int)] = hL (srtF lt n) n n := by
  apply List.ext_getElem
  · simp [hL, srtL]
  · intro i h1 h2
    by_cases e : i < n
    · rw [List.getElem_append_left (by simp [srtL]; exact e)]
      simp [hL, srtL, holF, show i ≤ n by omega, e]
    · obtain rfl : i = n := by simp [srtL] at h1; omega
      rw [List.getElem_append_right (by simp [srtL])]
      simp [hL, srtL, holF]
theorem srtL_succ (lt : Int → Int → Bool) (n j : Nat) (h : psn lt n (srtF lt n) n = j) (hj : j ≤ n) : (hL (srtF lt n) n j).set j n = srtL lt (n + 1) := by
  rw [hL_fin _ _ _ hj]; subst h; rfl
end Go.Proofs.Ythadanmiomeehab
