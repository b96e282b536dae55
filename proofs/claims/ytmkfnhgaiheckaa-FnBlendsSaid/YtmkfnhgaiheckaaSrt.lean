/- The order of a stable sort by insertion. -/
import Derived.Test.YtmkfnhgaiheckaaVal
namespace Go.Proofs.Ytmkfnhgaiheckaa
open Go.ChangeShapes Go.WideShapes Go.ChangeAt Go.RowKit
set_option linter.unusedVariables false
set_option linter.unusedSimpArgs false
set_option maxHeartbeats 2000000

/-- how far an element comes ahead -/
def psn (lt : Int → Int → Bool) (x : Int) (S : Nat → Int) : Nat → Nat
  | 0 => 0
  | j + 1 => if lt x (S j) then psn lt x S j else j + 1
def insAt (S : Nat → Int) (x : Int) (p u : Nat) : Int := if u < p then S u else if u = p then x else S (u - 1)
def srtF (lt : Int → Int → Bool) : Nat → Nat → Int
  | 0 => fun _ => 0
  | n + 1 => insAt (srtF lt n) n (psn lt n (srtF lt n) n)
def srtL (lt : Int → Int → Bool) (n : Nat) : List Int := (List.range n).map (srtF lt n)
theorem srtL_len (lt : Int → Int → Bool) (n : Nat) : (srtL lt n).length = n := by simp [srtL]
theorem psn_le (lt : Int → Int → Bool) (x : Int) (S : Nat → Int) (j : Nat) : psn lt x S j ≤ j := by
  induction j with
  | zero => exact Nat.le_refl _
  | succ j ih => rw [psn]; split <;> omega
theorem insAt_lo {S : Nat → Int} {x : Int} {p u : Nat} (h : u < p) : insAt S x p u = S u := by rw [insAt, if_pos h]
theorem insAt_at {S : Nat → Int} {x : Int} {p : Nat} : insAt S x p p = x := by rw [insAt, if_neg (by omega), if_pos rfl]
theorem insAt_hi {S : Nat → Int} {x : Int} {p u : Nat} (h : p < u) : insAt S x p u = S (u - 1) := by rw [insAt, if_neg (by omega), if_neg (by omega)]
theorem insAt_ne {S : Nat → Int} {x : Int} {j u : Nat} (h1 : u ≠ j) (h2 : u ≠ j + 1) : insAt S x j u = insAt S x (j + 1) u := by
  unfold insAt
  by_cases h : u < j
  · rw [if_pos h, if_pos (by omega)]
  · rw [if_neg h, if_neg (by omega), if_neg (by omega), if_neg h2]
theorem srtF_in (lt : Int → Int → Bool) (n u : Nat) (h : u < n) : 0 ≤ srtF lt n u ∧ srtF lt n u < n := by
  induction n generalizing u with
  | zero => omega
  | succ n ih =>
    have hp := psn_le lt n (srtF lt n) n
    rw [srtF]
    generalize psn lt n (srtF lt n) n = p at *
    rcases Nat.lt_trichotomy u p with h1 | h1 | h1
    · rw [insAt_lo h1]; have := ih u (by omega); omega
    · subst h1; rw [insAt_at]; omega
    · rw [insAt_hi h1]; have := ih (u - 1) (by omega); omega
/-- the row while n comes ahead: at j; behind n the rest -/
def midF (S : Nat → Int) (n j u : Nat) : Int := if u ≤ n then insAt S n j u else u
theorem midF_at {S : Nat → Int} {n j : Nat} (h : j ≤ n) : midF S n j j = n := by rw [midF, if_pos h, insAt_at]
theorem midF_lo {S : Nat → Int} {n j u : Nat} (h : j ≤ n) (hu : u < j) : midF S n j u = S u := by rw [midF, if_pos (by omega), insAt_lo hu]
theorem midF_sw {S : Nat → Int} {n j : Nat} (h : j + 1 ≤ n) : midF S n j (j + 1) = S j := by rw [midF, if_pos h, insAt_hi (by omega)]; rfl
theorem midF_ne {S : Nat → Int} {n j u : Nat} (h1 : u ≠ j) (h2 : u ≠ j + 1) : midF S n j u = midF S n (j + 1) u := by
  unfold midF
  split
  · exact insAt_ne h1 h2
  · rfl
theorem mid_srt (lt : Int → Int → Bool) (n m : Nat) (hn : n < m) (u : Nat) (hu : u < m) : (if u < n + 1 then srtF lt (n + 1) u else u) = midF (srtF lt n) n (psn lt n (srtF lt n) n) u := by
  unfold midF
  by_cases h : u ≤ n
  · rw [if_pos (by omega), if_pos h, srtF]
  · rw [if_neg (by omega), if_neg h]
theorem srt_mid (lt : Int → Int → Bool) (n m : Nat) (u : Nat) (hu : u < m) : (if u < n then srtF lt n u else u) = midF (srtF lt n) n n u := by
  unfold midF
  rcases Nat.lt_trichotomy u n with h | h | h
  · rw [if_pos h, if_pos (by omega), insAt_lo h]
  · subst h; rw [if_neg (by omega), if_pos (Nat.le_refl _), insAt_at]
  · rw [if_neg (by omega), if_neg (by omega)]
theorem srt_ix (lt : Int → Int → Bool) (u : Nat) : (if u < 1 then srtF lt 1 u else (u : Int)) = u := by
  split
  · obtain rfl : u = 0 := by omega
    rfl
  · rfl
end Go.Proofs.Ytmkfnhgaiheckaa
