import Derived.Test.YtmcfghklfkmfkaaOpen
import Derived.Test.YtmcfghklfkmfkaaChecked
import Derived.Deep.QuietTactic
import Derived.BigQuiet
import Derived.Deep.RegionHeld3
/- Slices of Dough: the laws' helpers by contract. -/
namespace Go.Proofs.Ytmcfghklfkmfkaa
open Go.ChangeShapes Go.WideShapes Go.ChangeAt Go.RowKit
set_option linter.unusedVariables false
set_option linter.unusedSimpArgs false
structure DoughR where
  f0 : Int
  f1 : Int
  f2 : Int

theorem toDough_c (a0 : Int) (a1 : Int) (a2 : Int) (w : World) : Calls Try.prog 21 #[.agg #[.int .i64 a0, .int .i64 a1, .int .i64 a2]] w (Val (.agg #[.int .i64 a0, .int .i64 a1, .int .i64 a2]) w) := by
  go_enter Try.func21, Try.ntmps21
  go_wp2
  exact bodyPost_ret (v := .agg #[.int .i64 a0, .int .i64 a1, .int .i64 a2]) (by simp [results, Try.results21, go_sem]) rfl (Val.mk' rfl (by (repeat (first | exact In.refl _ | assumption | apply In.alloc | apply In.drewN | apply In.drew | (refine In.step ?_ (by assumption))))))
theorem eqDough_c (a0 : Int) (a1 : Int) (a2 : Int) (w : World) : Calls Try.prog 43 #[.agg #[.int .i64 a0, .int .i64 a1, .int .i64 a2], .agg #[.int .i64 a0, .int .i64 a1, .int .i64 a2]] w (Val (.bool true) w) := by
  go_enter Try.func43, Try.ntmps43
  go_wp2
  all_goals go_ret
  all_goals exact Val.mk' rfl (by (repeat (first | exact In.refl _ | assumption | apply In.alloc | apply In.drewN | apply In.drew | (refine In.step ?_ (by assumption)))))
end Go.Proofs.Ytmcfghklfkmfkaa
/- Slices of Loaf: the laws' helpers by contract. -/
namespace Go.Proofs.Ytmcfghklfkmfkaa
open Go.ChangeShapes Go.WideShapes Go.ChangeAt Go.RowKit
set_option linter.unusedVariables false
set_option linter.unusedSimpArgs false
structure LoafR where
  f0 : Int
  f1 : Int

theorem toLoaf_c (a0 : Int) (a1 : Int) (w : World) : Calls Try.prog 22 #[.agg #[.int .i64 a0, .int .i64 a1]] w (Val (.agg #[.int .i64 a0, .int .i64 a1]) w) := by
  go_enter Try.func22, Try.ntmps22
  go_wp2
  exact bodyPost_ret (v := .agg #[.int .i64 a0, .int .i64 a1]) (by simp [results, Try.results22, go_sem]) rfl (Val.mk' rfl (by (repeat (first | exact In.refl _ | assumption | apply In.alloc | apply In.drewN | apply In.drew | (refine In.step ?_ (by assumption))))))
theorem eqLoaf_c (a0 : Int) (a1 : Int) (w : World) : Calls Try.prog 44 #[.agg #[.int .i64 a0, .int .i64 a1], .agg #[.int .i64 a0, .int .i64 a1]] w (Val (.bool true) w) := by
  go_enter Try.func44, Try.ntmps44
  go_wp2
  all_goals go_ret
  all_goals exact Val.mk' rfl (by (repeat (first | exact In.refl _ | assumption | apply In.alloc | apply In.drewN | apply In.drew | (refine In.step ?_ (by assumption)))))
end Go.Proofs.Ytmcfghklfkmfkaa
