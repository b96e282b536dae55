/- Chapter 22: MostShifts: the specification. -/
import Derived.Test.YthndjpklfgcpmaaP22
import Derived.Test.YthndjpklfgcpmaaMks
import Derived.Test.YthndjpklfgcpmaaK31
import Derived.Test.YthndjpklfgcpmaaQuietL
namespace Go.Proofs.Ythndjpklfgcpmaa
open Go.ChangeShapes Go.WideShapes Go.ChangeAt Go.RowKit
set_option linter.unusedVariables false
set_option linter.unusedSimpArgs false
set_option maxHeartbeats 2000000

theorem most_f1 {n : Nat} {xs : List ShiftR} {rest : Int} (h : ¬ n ≤ 20) : MostL n xs rest = [] := by unfold MostL mostB; rw [decide_eq_false h]; rfl
theorem most_f2 {n : Nat} {xs : List ShiftR} {rest : Int} (h : inB rest 0 24 = false) : MostL n xs rest = [] := by unfold MostL mostB; rw [h]; simp
theorem most_f3 {n : Nat} {xs : List ShiftR} {rest : Int} (k : Nat) (hk : k < n) (h : shiftB (xs.getD k z22).f0 (xs.getD k z22).f1 = false) : MostL n xs rest = [] := by
  unfold MostL mostB
  rw [allOk_f _ _ k hk h]; simp
theorem most_t {n : Nat} {xs : List ShiftR} {rest : Int} (h1 : n ≤ 20) (h2 : inB rest 0 24 = true) (h3 : ∀ i, i < n → shiftB (xs.getD i z22).f0 (xs.getD i z22).f1 = true) : MostL n xs rest = (pk xs n rest n).1 := by
  unfold MostL mostB
  rw [allOk_t _ _ h3, decide_eq_true h1, h2]; rfl
theorem bs_t {xs : List ShiftR} {free : Int} {k : Nat} (h : free ≤ (xs.getD k z22).f0) (h2 : bs xs free k < 0 ∨ (xs.getD k z22).f1 < (xs.getD (bs xs free k).toNat z22).f1) : bs xs free (k + 1) = (k : Int) := by rw [bs, if_pos ⟨h, h2⟩]
theorem bs_f1 {xs : List ShiftR} {free : Int} {k : Nat} (h : (xs.getD k z22).f0 < free) : bs xs free (k + 1) = bs xs free k := by rw [bs, if_neg (by omega)]
theorem bs_f2 {xs : List ShiftR} {free : Int} {k : Nat} (h : 0 ≤ bs xs free k) (h2 : (xs.getD (bs xs free k).toNat z22).f1 ≤ (xs.getD k z22).f1) : bs xs free (k + 1) = bs xs free k := by rw [bs, if_neg (by omega)]
end Go.Proofs.Ythndjpklfgcpmaa
