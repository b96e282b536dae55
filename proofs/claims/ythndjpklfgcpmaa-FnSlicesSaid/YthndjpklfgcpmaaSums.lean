/- Sums of rows of numbers, the model's and the program's; a part of a row. -/
import Derived.Test.YthndjpklfgcpmaaIn
import Derived.Test.YthndjpklfgcpmaaIntR
import Derived.Test.YthndjpklfgcpmaaSum
import Derived.Deep.Fields
namespace Go.Proofs.Ythndjpklfgcpmaa
open Go.ChangeShapes Go.WideShapes Go.ChangeAt Go.RowKit
set_option linter.unusedVariables false
set_option linter.unusedSimpArgs false
set_option maxHeartbeats 2000000

def gI (xs : List Int) (i : Nat) : Int := xs.getD i 0
def lsum (xs : List Int) (n : Nat) : Int := sumTo (gI xs) n
theorem reads_seg {w : World} {a : Addr} {n : Nat} {xs : List Int} (h : ReadsI w (some a) n xs) (off m : Nat) (ho : off + m ≤ n) : ReadsI w (some (a.add off)) m ((xs.drop off).take m) := by
  refine ⟨by rw [List.length_take, List.length_drop, h.1]; omega, fun i hi => ?_⟩
  obtain ⟨a', ha, hc⟩ := h.2 (off + i) (by omega)
  obtain rfl := Option.some.inj ha
  refine ⟨_, rfl, ?_⟩
  rw [Deep.add_add, hc]
  simp [List.getD_eq_getElem?_getD, hi]
theorem lsum_in {xs : List Int} {n : Nat} (M : Int) (h : ∀ i, i < n → 0 ≤ xs.getD i 0 ∧ xs.getD i 0 ≤ M) : 0 ≤ lsum xs n ∧ lsum xs n ≤ n * M := sumTo_bd (gI xs) M n h
theorem lsum_succ (xs : List Int) (k : Nat) : lsum xs (k + 1) = lsum xs k + xs.getD k 0 := rfl
end Go.Proofs.Ythndjpklfgcpmaa
