/- Rows of numbers from 0 to 9 as bits. -/
import Derived.Test.YtmkfnhgaiheckaaBits
import Derived.Test.YtmkfnhgaiheckaaIntR
import Derived.Test.YtmkfnhgaiheckaaSum
import Derived.Test.YtmkfnhgaiheckaaIn
namespace Go.Proofs.Ytmkfnhgaiheckaa
open Go.ChangeShapes Go.WideShapes Go.ChangeAt Go.RowKit
set_option linter.unusedVariables false
set_option linter.unusedSimpArgs false
set_option maxHeartbeats 2000000

def setN (xs : List Int) : Nat → Nat
  | 0 => 0
  | k + 1 => setN xs k ||| 2 ^ (xs.getD k 0).toNat
theorem setN_lt {xs : List Int} {k : Nat} (h : ∀ i, i < k → 0 ≤ xs.getD i 0 ∧ xs.getD i 0 ≤ 9) : setN xs k < 1024 := by
  induction k with
  | zero => simp [setN]
  | succ k ih =>
    have h1 := ih fun i hi => h i (by omega)
    have h2 := h k (by omega)
    rw [setN]
    refine Nat.or_lt_two_pow (n := 10) h1 ?_
    exact Nat.pow_lt_pow_right (by decide) (by omega)
theorem setN_bit {xs : List Int} {k j : Nat} : (setN xs k).testBit j = true ↔ ∃ i, i < k ∧ (xs.getD i 0).toNat = j := by
  induction k with
  | zero => simp [setN]
  | succ k ih =>
    rw [setN, Nat.testBit_or, Bool.or_eq_true, ih, Nat.testBit_two_pow, decide_eq_true_eq]
    constructor
    · rintro (⟨i, hi, he⟩ | he)
      · exact ⟨i, by omega, he⟩
      · exact ⟨k, by omega, he⟩
    · rintro ⟨i, hi, he⟩
      by_cases e : i = k
      · subst e; exact .inr he
      · exact .inl ⟨i, by omega, he⟩
theorem and_eq_iff (a s : Nat) : a &&& s = s ↔ ∀ j, s.testBit j = true → a.testBit j = true := by
  constructor
  · intro h j hj
    rw [← h, Nat.testBit_and, Bool.and_eq_true] at hj
    exact hj.1
  · intro h
    apply Nat.eq_of_testBit_eq
    intro j
    rw [Nat.testBit_and]
    cases hs : s.testBit j
    · simp
    · simp [h j hs]
theorem bv_ofN (a : Nat) (ha : a < 1024) : (BitVec.ofInt 64 (a : Int)) = BitVec.ofNat 64 a := BitVec.ofInt_natCast 64 a
theorem bits_orN {a b : Nat} (ha : a < 1024) (hb : b < 1024) : bits .or .i64 (a : Int) (b : Int) = ((a ||| b : Nat) : Int) := by
  have e1 : bits .or .i64 (a : Int) (b : Int) = (BitVec.ofInt 64 (a : Int) ||| BitVec.ofInt 64 (b : Int)).toInt := wrap_bv _
  have h := Nat.or_lt_two_pow (n := 10) ha hb
  rw [e1, bv_ofN a ha, bv_ofN b hb, BitVec.toInt_eq_toNat_of_lt]
  · simp [Nat.mod_eq_of_lt (show a < 2 ^ 64 by omega), Nat.mod_eq_of_lt (show b < 2 ^ 64 by omega)]
  · simp [Nat.mod_eq_of_lt (show a < 2 ^ 64 by omega), Nat.mod_eq_of_lt (show b < 2 ^ 64 by omega)]
    omega
theorem bits_andN {a b : Nat} (ha : a < 1024) (hb : b < 1024) : bits .and .i64 (a : Int) (b : Int) = ((a &&& b : Nat) : Int) := by
  have e1 : bits .and .i64 (a : Int) (b : Int) = (BitVec.ofInt 64 (a : Int) &&& BitVec.ofInt 64 (b : Int)).toInt := wrap_bv _
  have h : a &&& b ≤ b := Nat.and_le_right
  rw [e1, bv_ofN a ha, bv_ofN b hb, BitVec.toInt_eq_toNat_of_lt]
  · simp [Nat.mod_eq_of_lt (show a < 2 ^ 64 by omega), Nat.mod_eq_of_lt (show b < 2 ^ 64 by omega)]
  · simp [Nat.mod_eq_of_lt (show a < 2 ^ 64 by omega), Nat.mod_eq_of_lt (show b < 2 ^ 64 by omega)]
    omega
end Go.Proofs.Ytmkfnhgaiheckaa
