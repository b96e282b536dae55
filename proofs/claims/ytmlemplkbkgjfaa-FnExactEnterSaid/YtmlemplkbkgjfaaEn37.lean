/- Chapter 37: the length of what Enter answers. -/
import Derived.Test.YtmlemplkbkgjfaaEi37
namespace Go.Proofs.Ytmlemplkbkgjfaa
open Go.ChangeShapes Go.WideShapes Go.ChangeAt Go.RowKit
set_option linter.unusedVariables false
set_option linter.unusedSimpArgs false
set_option maxHeartbeats 2000000

theorem enL_le {n : Nat} {xs : List EventR} {y0 y1 y2 y3 y4 y5 x0 x1 : Int} (h : xs.length = n) (hn : n ≤ 1048576) : (enL n xs y0 y1 y2 y3 y4 y5 x0 x1).length ≤ 1048576 := by
  unfold enL
  split
  · rename_i h1
    have := enB_40 h1
    rw [List.length_append]; simp; omega
  · omega
end Go.Proofs.Ytmlemplkbkgjfaa
