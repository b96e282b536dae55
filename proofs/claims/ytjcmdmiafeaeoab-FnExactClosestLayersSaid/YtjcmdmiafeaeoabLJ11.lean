/- Chapter 11: the walk of the law of ClosestLayers. -/
import Derived.Test.YtjcmdmiafeaeoabJ11
namespace Go.Proofs.Ytjcmdmiafeaeoab
open Go.ChangeShapes Go.WideShapes Go.ChangeAt Go.RowKit
set_option linter.unusedVariables false
set_option linter.unusedSimpArgs false

theorem walk_FnExactClosestLayers (a0 : Int) (u0 : (Lit.int .i64 a0).wf = true) (a1 : Int) (u1 : (Lit.int .i64 a1).wf = true) (w : World) :
    Calls Try.prog 7 #[.int .i64 a0, .int .i64 a1] w fun e w' => e = .returned (.bool true) ∧ Below w.heap.size w w' := by
  clear u0 u1
  go_enter Try.func7, Try.ntmps7
  go_wp2_with fail
  refine (sClosestLayers a0 a1 _).mono ?_
  rintro _ w_1 ⟨rfl, hb_1⟩
  have i_1 : In w.heap.size w w_1 := In.step (by (repeat (first | exact In.refl _ | assumption | apply In.alloc | apply In.drewN | apply In.drew | (refine In.step ?_ (by assumption))))) hb_1
  go_wp2_with fail
  refine (iClosestLayers a0 a1 _).mono ?_
  rintro _ w_2 ⟨rfl, hb_2⟩
  have i_2 : In w.heap.size w w_2 := In.step (by (repeat (first | exact In.refl _ | assumption | apply In.alloc | apply In.drewN | apply In.drew | (refine In.step ?_ (by assumption))))) hb_2
  clear hb_1 i_1
  go_wp2
  go_ret
  exact (show Val _ _ _ _ from Val.mk' rfl (by (repeat (first | exact In.refl _ | assumption | apply In.alloc | apply In.drewN | apply In.drew | (refine In.step ?_ (by assumption))))))

end Go.Proofs.Ytjcmdmiafeaeoab
