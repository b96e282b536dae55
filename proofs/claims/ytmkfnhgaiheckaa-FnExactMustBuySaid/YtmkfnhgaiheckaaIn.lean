/- The range tests of the model and of the program. -/
import Derived.Test.YtmkfnhgaiheckaaVal
import Derived.Test.YtmkfnhgaiheckaaChecked
namespace Go.Proofs.Ytmkfnhgaiheckaa
open Go.ChangeShapes Go.WideShapes Go.ChangeAt Go.RowKit
set_option linter.unusedVariables false
set_option linter.unusedSimpArgs false
def inB (n a b : Int) : Bool := decide (a ≤ n ∧ n ≤ b)
theorem inB_t {n a b : Int} (h : a ≤ n ∧ n ≤ b) : inB n a b = true := by simp [inB, h]
theorem inB_f {n a b : Int} (h : n < a ∨ b < n) : inB n a b = false := by simp [inB]; omega
theorem inB_tt {n a b : Int} (h : inB n a b = true) : a ≤ n ∧ n ≤ b := by simpa [inB] using h
theorem inB_ff {n a b : Int} (h : inB n a b = false) : n < a ∨ b < n := by simp [inB] at h; omega
theorem sIn (n a b : Int) (w : World) : Calls Try.prog 95 #[.int .i64 n, .int .i64 a, .int .i64 b] w (Same (.bool (inB n a b)) w) := by
  by_cases h1 : a ≤ n <;> by_cases h2 : n ≤ b
  all_goals
    go_enter Try.func95, Try.ntmps95
    go_wp2
    go_ret
    refine ⟨ret_bool ?_, rfl⟩
    simp [inB, h1, h2]
theorem iIn (n a b : Int) (w : World) : Calls Try.prog 105 #[.int .i64 n, .int .i64 a, .int .i64 b] w (Same (.bool (inB n a b)) w) := by
  by_cases h1 : a ≤ n <;> by_cases h2 : n ≤ b
  all_goals
    go_enter Try.func105, Try.ntmps105
    go_wp2
    go_ret
    refine ⟨ret_bool ?_, rfl⟩
    simp [inB, h1, h2]
theorem sInE {n a b : Int} {v : Bool} (h : inB n a b = v) (w : World) : Calls Try.prog 95 #[.int .i64 n, .int .i64 a, .int .i64 b] w (Same (.bool v) w) := h ▸ sIn n a b w
theorem iInE {n a b : Int} {v : Bool} (h : inB n a b = v) (w : World) : Calls Try.prog 105 #[.int .i64 n, .int .i64 a, .int .i64 b] w (Same (.bool v) w) := h ▸ iIn n a b w
theorem Same.q {v : Value} {w w' : World} {e : Ending} (h : Same v w e w') : e = .returned v ∧ w' = w := ⟨h.1, h.2.symm⟩
end Go.Proofs.Ytmkfnhgaiheckaa
