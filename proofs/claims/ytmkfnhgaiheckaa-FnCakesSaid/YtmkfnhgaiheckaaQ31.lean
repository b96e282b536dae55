/- Chapter 31: BestShares: the specification. -/
import Derived.Test.YtmkfnhgaiheckaaP31
namespace Go.Proofs.Ytmkfnhgaiheckaa
open Go.ChangeShapes Go.WideShapes Go.ChangeAt Go.RowKit
set_option linter.unusedVariables false
set_option linter.unusedSimpArgs false
set_option maxHeartbeats 2000000

theorem noP_of {n : Nat} {xs : List Int} {N v : Int} {m : Nat} (h : (cutL n xs v).length = m) : noP n xs N v = !decide (N ≤ (m : Int)) := by rw [← h]; rfl
end Go.Proofs.Ytmkfnhgaiheckaa
