/- Bits of numbers: which one is in which. -/
import Derived.Test.YtmkfnhgaiheckaaVal
import Derived.Test.YtmkfnhgaiheckaaChecked
import Derived.IntWalk
namespace Go.Proofs.Ytmkfnhgaiheckaa
open Go.ChangeShapes Go.WideShapes Go.ChangeAt Go.RowKit
set_option linter.unusedVariables false
set_option linter.unusedSimpArgs false
theorem wrap_bv (v : BitVec 64) : IntKind.i64.wrap (v.toNat : Int) = v.toInt := by
  have := v.isLt
  rw [IntWalk.i64_left, RowKit.wrap64, BitVec.toInt_eq_toNat_cond]
  split <;> omega
theorem bv_back {a : Int} (ha : -9223372036854775808 ≤ a ∧ a ≤ 9223372036854775807) : (BitVec.ofInt 64 a).toInt = a := by
  rw [BitVec.toInt_ofInt, Int.bmod_def]
  simp only [show ((2 : Nat) ^ 64) = 18446744073709551616 by decide]
  omega
theorem bits_or_self {a b : Int} (ha : -9223372036854775808 ≤ a ∧ a ≤ 9223372036854775807) : bits .or .i64 a b = a ↔ bits .andNot .i64 b a = 0 := by
  have e1 : bits .or .i64 a b = (BitVec.ofInt 64 a ||| BitVec.ofInt 64 b).toInt := wrap_bv _
  have e2 : bits .andNot .i64 b a = (BitVec.ofInt 64 b &&& ~~~ BitVec.ofInt 64 a).toInt := wrap_bv _
  have e3 := bv_back ha
  rw [e1, e2]
  generalize BitVec.ofInt 64 b = B
  constructor
  · intro h
    have h1 : BitVec.ofInt 64 a ||| B = BitVec.ofInt 64 a := BitVec.toInt_inj.1 (h.trans e3.symm)
    generalize BitVec.ofInt 64 a = A at h1
    have : B &&& ~~~ A = 0 := by
      ext i hi
      have := congrArg (fun v : BitVec 64 => v[i]) h1
      simp at this ⊢
      cases h2 : A[i] <;> cases h3 : B[i] <;> simp_all
    rw [this]; rfl
  · intro h
    have h1 : B &&& ~~~ BitVec.ofInt 64 a = 0 := BitVec.toInt_inj.1 h
    rw [show BitVec.ofInt 64 a ||| B = BitVec.ofInt 64 a from ?_]
    · exact e3
    generalize BitVec.ofInt 64 a = A at h1 ⊢
    ext i hi
    have := congrArg (fun v : BitVec 64 => v[i]) h1
    simp at this ⊢
    exact this
theorem bits_or_comm (a b : Int) : bits .or .i64 a b = bits .or .i64 b a := by
  simp only [bits]
  rw [BitVec.or_comm]
/-- all bits of b are in a -/
def hasB (a b : Int) : Bool := decide (bits .andNot .i64 b a = 0)
theorem hasB_or {a b : Int} (ha : -9223372036854775808 ≤ a ∧ a ≤ 9223372036854775807) : hasB a b = decide (bits .or .i64 a b = a) := by
  simp only [hasB, bits_or_self ha]
theorem hasB_or' {a b : Int} (ha : -9223372036854775808 ≤ a ∧ a ≤ 9223372036854775807) : hasB a b = decide (bits .or .i64 b a = a) := by
  rw [hasB_or ha, bits_or_comm]
end Go.Proofs.Ytmkfnhgaiheckaa
