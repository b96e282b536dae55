/- Chapter 9: the walks of its exact laws with a number as the answer. -/
import Derived.Test.YtkchjkhcpenpfagC09
namespace Go.Proofs.Ytkchjkhcpenpfag
open Go.ChangeShapes Go.WideShapes Go.ChangeAt Go.RowKit
set_option linter.unusedVariables false
set_option linter.unusedSimpArgs false

theorem walk_FnExactRowsFor (a0 : Int) (u0 : (Lit.int .i64 a0).wf = true) (a1 : Int) (u1 : (Lit.int .i64 a1).wf = true) (a2 : Int) (u2 : (Lit.int .i64 a2).wf = true) (w : World) :
    Calls Try.prog 4 #[.int .i64 a0, .int .i64 a1, .int .i64 a2] w fun e w' => e = .returned (.bool true) ∧ Below w.heap.size w w' := by
  clear u0 u1 u2
  go_enter Try.func4, Try.ntmps4
  go_wp2_with fail
  refine (sRowsFor a0 a1 a2 _).mono ?_
  rintro _ w_1 ⟨rfl, hb_1⟩
  replace hb_1 := same_below hb_1
  have i_1 : In w.heap.size w w_1 := In.step (by (repeat (first | exact In.refl _ | assumption | apply In.alloc | apply In.drewN | apply In.drew | (refine In.step ?_ (by assumption))))) hb_1
  go_wp2_with fail
  refine (iRowsFor a0 a1 a2 _).mono ?_
  rintro _ w_2 ⟨rfl, hb_2⟩
  replace hb_2 := same_below hb_2
  have i_2 : In w.heap.size w w_2 := In.step (by (repeat (first | exact In.refl _ | assumption | apply In.alloc | apply In.drewN | apply In.drew | (refine In.step ?_ (by assumption))))) hb_2
  clear hb_1 i_1
  go_wp2
  go_ret
  exact (show Val _ _ _ _ from Val.mk' rfl (by (repeat (first | exact In.refl _ | assumption | apply In.alloc | apply In.drewN | apply In.drew | (refine In.step ?_ (by assumption))))))

theorem walk_FnExactOnTray (a0 : Int) (u0 : (Lit.int .i64 a0).wf = true) (a1 : Int) (u1 : (Lit.int .i64 a1).wf = true) (a2 : Int) (u2 : (Lit.int .i64 a2).wf = true) (a3 : Int) (u3 : (Lit.int .i64 a3).wf = true) (a4 : Int) (u4 : (Lit.int .i64 a4).wf = true) (w : World) :
    Calls Try.prog 5 #[.int .i64 a0, .int .i64 a1, .int .i64 a2, .int .i64 a3, .int .i64 a4] w fun e w' => e = .returned (.bool true) ∧ Below w.heap.size w w' := by
  clear u0 u1 u2 u3 u4
  go_enter Try.func5, Try.ntmps5
  go_wp2_with fail
  refine (sOnTray a0 a1 a2 a3 a4 _).mono ?_
  rintro _ w_1 ⟨rfl, hb_1⟩
  replace hb_1 := same_below hb_1
  have i_1 : In w.heap.size w w_1 := In.step (by (repeat (first | exact In.refl _ | assumption | apply In.alloc | apply In.drewN | apply In.drew | (refine In.step ?_ (by assumption))))) hb_1
  go_wp2_with fail
  refine (iOnTray a0 a1 a2 a3 a4 _).mono ?_
  rintro _ w_2 ⟨rfl, hb_2⟩
  replace hb_2 := same_below hb_2
  have i_2 : In w.heap.size w w_2 := In.step (by (repeat (first | exact In.refl _ | assumption | apply In.alloc | apply In.drewN | apply In.drew | (refine In.step ?_ (by assumption))))) hb_2
  clear hb_1 i_1
  go_wp2
  go_ret
  exact (show Val _ _ _ _ from Val.mk' rfl (by (repeat (first | exact In.refl _ | assumption | apply In.alloc | apply In.drewN | apply In.drew | (refine In.step ?_ (by assumption))))))

theorem walk_FnExactTraysFor (a0 : Int) (u0 : (Lit.int .i64 a0).wf = true) (a1 : Int) (u1 : (Lit.int .i64 a1).wf = true) (a2 : Int) (u2 : (Lit.int .i64 a2).wf = true) (a3 : Int) (u3 : (Lit.int .i64 a3).wf = true) (a4 : Int) (u4 : (Lit.int .i64 a4).wf = true) (a5 : Int) (u5 : (Lit.int .i64 a5).wf = true) (w : World) :
    Calls Try.prog 6 #[.int .i64 a0, .int .i64 a1, .int .i64 a2, .int .i64 a3, .int .i64 a4, .int .i64 a5] w fun e w' => e = .returned (.bool true) ∧ Below w.heap.size w w' := by
  clear u0 u1 u2 u3 u4 u5
  go_enter Try.func6, Try.ntmps6
  go_wp2_with fail
  refine (sTraysFor a0 a1 a2 a3 a4 a5 _).mono ?_
  rintro _ w_1 ⟨rfl, hb_1⟩
  replace hb_1 := same_below hb_1
  have i_1 : In w.heap.size w w_1 := In.step (by (repeat (first | exact In.refl _ | assumption | apply In.alloc | apply In.drewN | apply In.drew | (refine In.step ?_ (by assumption))))) hb_1
  go_wp2_with fail
  refine (iTraysFor a0 a1 a2 a3 a4 a5 _).mono ?_
  rintro _ w_2 ⟨rfl, hb_2⟩
  replace hb_2 := same_below hb_2
  have i_2 : In w.heap.size w w_2 := In.step (by (repeat (first | exact In.refl _ | assumption | apply In.alloc | apply In.drewN | apply In.drew | (refine In.step ?_ (by assumption))))) hb_2
  clear hb_1 i_1
  go_wp2
  go_ret
  exact (show Val _ _ _ _ from Val.mk' rfl (by (repeat (first | exact In.refl _ | assumption | apply In.alloc | apply In.drewN | apply In.drew | (refine In.step ?_ (by assumption))))))

theorem walk_FnExactWidestGap (a0 : Int) (u0 : (Lit.int .i64 a0).wf = true) (a1 : Int) (u1 : (Lit.int .i64 a1).wf = true) (a2 : Int) (u2 : (Lit.int .i64 a2).wf = true) (w : World) :
    Calls Try.prog 7 #[.int .i64 a0, .int .i64 a1, .int .i64 a2] w fun e w' => e = .returned (.bool true) ∧ Below w.heap.size w w' := by
  clear u0 u1 u2
  go_enter Try.func7, Try.ntmps7
  go_wp2_with fail
  refine (sWidestGap a0 a1 a2 _).mono ?_
  rintro _ w_1 ⟨rfl, hb_1⟩
  replace hb_1 := same_below hb_1
  have i_1 : In w.heap.size w w_1 := In.step (by (repeat (first | exact In.refl _ | assumption | apply In.alloc | apply In.drewN | apply In.drew | (refine In.step ?_ (by assumption))))) hb_1
  go_wp2_with fail
  refine (iWidestGap a0 a1 a2 _).mono ?_
  rintro _ w_2 ⟨rfl, hb_2⟩
  replace hb_2 := same_below hb_2
  have i_2 : In w.heap.size w w_2 := In.step (by (repeat (first | exact In.refl _ | assumption | apply In.alloc | apply In.drewN | apply In.drew | (refine In.step ?_ (by assumption))))) hb_2
  clear hb_1 i_1
  go_wp2
  go_ret
  exact (show Val _ _ _ _ from Val.mk' rfl (by (repeat (first | exact In.refl _ | assumption | apply In.alloc | apply In.drewN | apply In.drew | (refine In.step ?_ (by assumption))))))

end Go.Proofs.Ytkchjkhcpenpfag
