/- Chapter 8: FallingOrder of the program. -/
import Derived.Test.YtgjbbidcpmglbaaSortI
import Derived.Test.YtgjbbidcpmglbaaAll
import Derived.Test.YtgjbbidcpmglbaaQuiet
import Derived.Test.YtgjbbidcpmglbaaIntT
import Derived.Test.YtgjbbidcpmglbaaO08
namespace Go.Proofs.Ytgjbbidcpmglbaa
open Go.ChangeShapes Go.WideShapes Go.ChangeAt Go.RowKit
set_option linter.unusedVariables false
set_option linter.unusedSimpArgs false
set_option maxHeartbeats 2000000

def fallV (xs : List Int) : Int → Int → Int := fun x y => cmpV (xs.getD y.toNat 0) (xs.getD x.toNat 0)
def ltI (p q : Int) : Bool := decide (p < q)
theorem fall_lt (xs : List Int) (x y : Int) : ltOf (fallV xs) x y = ltI (xs.getD y.toNat 0) (xs.getD x.toNat 0) := by
  unfold ltOf fallV cmpV ltI
  generalize xs.getD y.toNat 0 = p
  generalize xs.getD x.toNat 0 = q
  by_cases h : p < q
  · simp [h]
  · by_cases k : q < p
    · simp only [h, k, if_true, if_false]; rfl
    · simp only [h, k, if_false]; rfl
def fallL (xs : List Int) (n : Nat) : List Int := srtL (ltOf (fallV xs)) n
def FallingOrderL (n : Nat) (xs : List Int) : List Int := if heatsB n xs then fallL xs n else []
theorem FallingOrderL_len (n : Nat) (xs : List Int) : (FallingOrderL n xs).length ≤ 8 := by
  unfold FallingOrderL
  split
  · rename_i h
    simp only [heatsB, Bool.and_eq_true, decide_eq_true_eq] at h
    rw [fallL, srtL_len]; exact h.1
  · simp
end Go.Proofs.Ytgjbbidcpmglbaa
