/- Chapter 31: CakeOk, HalfCut, Chooser. -/
import Derived.Test.YthndjpklfgcpmaaAll
import Derived.Test.YthndjpklfgcpmaaSums
import Derived.Test.YthndjpklfgcpmaaSl
import Derived.Deep.QuietTactic
import Derived.BigQuiet
namespace Go.Proofs.Ythndjpklfgcpmaa
open Go.ChangeShapes Go.WideShapes Go.ChangeAt Go.RowKit
set_option linter.unusedVariables false
set_option linter.unusedSimpArgs false
set_option maxHeartbeats 2000000

def cakeB (n : Nat) (xs : List Int) : Bool := allIn xs 0 1000 n && inB (n : Int) 1 40
theorem cake_at {n : Nat} {xs : List Int} (h : cakeB n xs = true) : 1 ≤ n ∧ n ≤ 40 ∧ ∀ i, i < n → 0 ≤ xs.getD i 0 ∧ xs.getD i 0 ≤ 1000 := by
  simp only [cakeB, Bool.and_eq_true] at h
  have := inB_tt h.2
  exact ⟨by omega, by omega, allIn_at h.1⟩
theorem lsum_take (xs : List Int) (k : Nat) : lsum (xs.take k) k = lsum xs k := sumTo_congr _ _ k fun i hi => by simp [gI, List.getD_eq_getElem?_getD, hi]
theorem lsum_drop (xs : List Int) (k m : Nat) : lsum xs (k + m) = lsum xs k + lsum (xs.drop k) m := by
  induction m with
  | zero => simp [lsum, sumTo]
  | succ m ih =>
    have e : (xs.drop k).getD m 0 = xs.getD (k + m) 0 := by simp [List.getD_eq_getElem?_getD]
    rw [lsum_succ, ← Int.add_assoc, ← ih, e]
    rfl
theorem lsum_rest {xs : List Int} {k n : Nat} (h : k ≤ n) : lsum (xs.drop k) (n - k) = lsum xs n - lsum xs k := by
  have := lsum_drop xs k (n - k)
  rw [show k + (n - k) = n by omega] at this
  omega
def lessV (xs : List Int) (n k : Nat) : Int := min (lsum xs k) (lsum xs n - lsum xs k)
/-- the least cut with the best lesser side among the first k, and what it is worth -/
def hb (xs : List Int) (n : Nat) : Nat → Int × Int
  | 0 => (0, 0)
  | k + 1 => if (hb xs n k).2 < lessV xs n k then ((k : Int), lessV xs n k) else hb xs n k
theorem hb_in (xs : List Int) (n k : Nat) : 0 ≤ (hb xs n k).1 ∧ ((hb xs n k).1 < k ∨ (hb xs n k).1 = 0) ∧ 0 ≤ (hb xs n k).2 := by
  induction k with
  | zero => simp [hb]
  | succ k ih =>
    rw [hb]
    split
    · simp only; omega
    · omega
theorem hb_last {xs : List Int} {n : Nat} (h : 0 ≤ lsum xs n) : hb xs n (n + 1) = hb xs n n := by
  have := hb_in xs n n
  rw [hb, if_neg (by unfold lessV; omega)]
def halfV (n : Nat) (xs : List Int) : Value := if cakeB n xs then .tuple #[.int .i64 (hb xs n n).1, .int .i64 (hb xs n n).2] else .tuple #[.int .i64 (-1), .int .i64 (-1)]
def chooB (n : Nat) (xs : List Int) (m : Nat) (ys : List Int) : Bool := cakeB n xs && cakeB m ys && decide (n = m)
def chooV (n : Nat) (xs : List Int) (m : Nat) (ys : List Int) : Value := if chooB n xs m ys then
    (if lsum ys m - lsum ys (hb xs n n).1.toNat ≤ lsum ys (hb xs n n).1.toNat then .tuple #[.int .i64 (lsum xs n - lsum xs (hb xs n n).1.toNat), .int .i64 (lsum ys (hb xs n n).1.toNat)]
      else .tuple #[.int .i64 (lsum xs (hb xs n n).1.toNat), .int .i64 (lsum ys m - lsum ys (hb xs n n).1.toNat)])
  else .tuple #[.int .i64 (-1), .int .i64 (-1)]
theorem reads_in {w w' : World} {A : Option Addr} {n : Nat} {xs : List Int} (h : ReadsI w A n xs) (hi : In w.heap.size w w') : ReadsI w' A n xs := h.below hi.below (Nat.le_refl _)
end Go.Proofs.Ythndjpklfgcpmaa
