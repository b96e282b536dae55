/- Chapter 11: the walk of the law of CountFoldings. -/
import Derived.Test.YtjcmdmiafeaeoacD12
namespace Go.Proofs.Ytjcmdmiafeaeoac
open Go.ChangeShapes Go.WideShapes Go.ChangeAt Go.RowKit
set_option linter.unusedVariables false
set_option linter.unusedSimpArgs false

theorem walk_FnExactCountFoldings (a0 : Int) (u0 : (Lit.int .i64 a0).wf = true) (w : World) :
    Calls Try.prog 3 #[.int .i64 a0] w fun e w' => e = .returned (.bool true) ∧ Below w.heap.size w w' := by
  clear u0
  go_enter Try.func3, Try.ntmps3
  go_wp2_with fail
  refine (sCountFoldings a0 _).mono ?_
  rintro _ w_1 ⟨rfl, hb_1⟩
  have i_1 : In w.heap.size w w_1 := In.step (by (repeat (first | exact In.refl _ | assumption | apply In.alloc | apply In.drewN | apply In.drew | (refine In.step ?_ (by assumption))))) hb_1
  go_wp2_with fail
  refine (iCountFoldings a0 _).mono ?_
  rintro _ w_2 ⟨rfl, hb_2⟩
  have i_2 : In w.heap.size w w_2 := In.step (by (repeat (first | exact In.refl _ | assumption | apply In.alloc | apply In.drewN | apply In.drew | (refine In.step ?_ (by assumption))))) hb_2
  clear hb_1 i_1
  go_wp2
  go_ret
  exact (show Val _ _ _ _ from Val.mk' rfl (by (repeat (first | exact In.refl _ | assumption | apply In.alloc | apply In.drewN | apply In.drew | (refine In.step ?_ (by assumption))))))

end Go.Proofs.Ytjcmdmiafeaeoac
