import Derived.Test.YtmcfghklfkmfkaaVal
import Derived.Test.YtmcfghklfkmfkaaChecked
import Derived.Deep.QuietTactic
import Derived.BigQuiet
import Derived.Deep.RegionHeld3
import Derived.Test.YtmcfghklfkmfkaaIntR
import Derived.Test.YtmcfghklfkmfkaaIn
import Derived.Outline
/- Chapter 2: what its functions answer, the model's and the program's. -/
namespace Go.Proofs.Ytmcfghklfkmfkaa
open Go.ChangeShapes Go.WideShapes Go.ChangeAt Go.RowKit
set_option linter.unusedVariables false
set_option linter.unusedSimpArgs false

def dOk (a b c : Int) : Bool := decide (300 ≤ a ∧ a ≤ 1200 ∧ 0 ≤ b ∧ b ≤ 50 ∧ 0 ≤ c ∧ c ≤ 500)
theorem sDoughOk (a b c : Int) (w : World) : Calls Try.prog 80 #[.agg #[.int .i64 a, .int .i64 b, .int .i64 c]] w (Val (.bool (dOk a b c)) w) := by
  go_enter Try.func80, Try.ntmps80
  go_wp2
  all_goals (try (exfalso; simp only [Bool.not_eq_true', Bool.not_eq_false', decide_eq_true_eq, decide_eq_false_iff_not] at *; omega))
  all_goals go_ret
  all_goals first | refine Val.mk' (v_int ?_) (by (repeat (first | exact In.refl _ | assumption | apply In.alloc | apply In.drewN | apply In.drew | (refine In.step ?_ (by assumption))))) | refine Val.mk' (v_bool ?_) (by (repeat (first | exact In.refl _ | assumption | apply In.alloc | apply In.drewN | apply In.drew | (refine In.step ?_ (by assumption)))))
  all_goals try simp_all [dOk]
  all_goals try simp (disch := omega) only [w64]
  all_goals try omega
theorem iDoughOk (a b c : Int) (w : World) : Calls Try.prog 85 #[.agg #[.int .i64 a, .int .i64 b, .int .i64 c]] w (Val (.bool (dOk a b c)) w) := by
  go_enter Try.func85, Try.ntmps85
  go_wp2
  all_goals (try (exfalso; simp only [Bool.not_eq_true', Bool.not_eq_false', decide_eq_true_eq, decide_eq_false_iff_not] at *; omega))
  all_goals go_ret
  all_goals first | refine Val.mk' (v_int ?_) (by (repeat (first | exact In.refl _ | assumption | apply In.alloc | apply In.drewN | apply In.drew | (refine In.step ?_ (by assumption))))) | refine Val.mk' (v_bool ?_) (by (repeat (first | exact In.refl _ | assumption | apply In.alloc | apply In.drewN | apply In.drew | (refine In.step ?_ (by assumption)))))
  all_goals try simp_all [dOk]
  all_goals try simp (disch := omega) only [w64]
  all_goals try omega
end Go.Proofs.Ytmcfghklfkmfkaa
/- Chapter 2: Amounts and DoughWeight. -/
namespace Go.Proofs.Ytmcfghklfkmfkaa
open Go.ChangeShapes Go.WideShapes Go.ChangeAt Go.RowKit
set_option linter.unusedVariables false
set_option linter.unusedSimpArgs false

end Go.Proofs.Ytmcfghklfkmfkaa
