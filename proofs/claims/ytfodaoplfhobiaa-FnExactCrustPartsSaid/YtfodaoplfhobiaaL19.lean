/- Chapter 19: the walks of the laws of SlicesOf, LastSlice, ThickestFor, CrustParts. -/
import Derived.Test.YtfodaoplfhobiaaC19
namespace Go.Proofs.Ytfodaoplfhobiaa
open Go.ChangeShapes Go.WideShapes Go.ChangeAt Go.RowKit
set_option linter.unusedVariables false
set_option linter.unusedSimpArgs false

theorem walk_FnExactSlicesOf (a0 : Int) (u0 : (Lit.int .i64 a0).wf = true) (a1 : Int) (u1 : (Lit.int .i64 a1).wf = true) (w : World) :
    Calls Try.prog 4 #[.int .i64 a0, .int .i64 a1] w fun e w' => e = .returned (.bool true) ∧ Below w.heap.size w w' := by
  clear u0 u1
  go_enter Try.func4, Try.ntmps4
  go_wp2_with fail
  refine (sSlicesOf a0 a1 _).mono ?_
  rintro _ w_1 ⟨rfl, hb_1⟩
  replace hb_1 := same_below hb_1
  have i_1 : In w.heap.size w w_1 := In.step (by (repeat (first | exact In.refl _ | assumption | apply In.alloc | apply In.drewN | apply In.drew | (refine In.step ?_ (by assumption))))) hb_1
  go_wp2_with fail
  refine (iSlicesOf a0 a1 _).mono ?_
  rintro _ w_2 ⟨rfl, hb_2⟩
  replace hb_2 := same_below hb_2
  have i_2 : In w.heap.size w w_2 := In.step (by (repeat (first | exact In.refl _ | assumption | apply In.alloc | apply In.drewN | apply In.drew | (refine In.step ?_ (by assumption))))) hb_2
  clear hb_1 i_1
  go_wp2
  go_ret
  exact (show Val _ _ _ _ from Val.mk' rfl (by (repeat (first | exact In.refl _ | assumption | apply In.alloc | apply In.drewN | apply In.drew | (refine In.step ?_ (by assumption))))))

theorem walk_FnExactLastSlice (a0 : Int) (u0 : (Lit.int .i64 a0).wf = true) (a1 : Int) (u1 : (Lit.int .i64 a1).wf = true) (w : World) :
    Calls Try.prog 5 #[.int .i64 a0, .int .i64 a1] w fun e w' => e = .returned (.bool true) ∧ Below w.heap.size w w' := by
  clear u0 u1
  go_enter Try.func5, Try.ntmps5
  go_wp2_with fail
  refine (sLastSlice a0 a1 _).mono ?_
  rintro _ w_1 ⟨rfl, hb_1⟩
  replace hb_1 := same_below hb_1
  have i_1 : In w.heap.size w w_1 := In.step (by (repeat (first | exact In.refl _ | assumption | apply In.alloc | apply In.drewN | apply In.drew | (refine In.step ?_ (by assumption))))) hb_1
  go_wp2_with fail
  refine (iLastSlice a0 a1 _).mono ?_
  rintro _ w_2 ⟨rfl, hb_2⟩
  replace hb_2 := same_below hb_2
  have i_2 : In w.heap.size w w_2 := In.step (by (repeat (first | exact In.refl _ | assumption | apply In.alloc | apply In.drewN | apply In.drew | (refine In.step ?_ (by assumption))))) hb_2
  clear hb_1 i_1
  go_wp2
  go_ret
  exact (show Val _ _ _ _ from Val.mk' rfl (by (repeat (first | exact In.refl _ | assumption | apply In.alloc | apply In.drewN | apply In.drew | (refine In.step ?_ (by assumption))))))

theorem walk_FnExactThickestFor (a0 : Int) (u0 : (Lit.int .i64 a0).wf = true) (a1 : Int) (u1 : (Lit.int .i64 a1).wf = true) (w : World) :
    Calls Try.prog 7 #[.int .i64 a0, .int .i64 a1] w fun e w' => e = .returned (.bool true) ∧ Below w.heap.size w w' := by
  clear u0 u1
  go_enter Try.func7, Try.ntmps7
  go_wp2_with fail
  refine (sThickestFor a0 a1 _).mono ?_
  rintro _ w_1 ⟨rfl, hb_1⟩
  replace hb_1 := same_below hb_1
  have i_1 : In w.heap.size w w_1 := In.step (by (repeat (first | exact In.refl _ | assumption | apply In.alloc | apply In.drewN | apply In.drew | (refine In.step ?_ (by assumption))))) hb_1
  go_wp2_with fail
  refine (iThickestFor a0 a1 _).mono ?_
  rintro _ w_2 ⟨rfl, hb_2⟩
  replace hb_2 := same_below hb_2
  have i_2 : In w.heap.size w w_2 := In.step (by (repeat (first | exact In.refl _ | assumption | apply In.alloc | apply In.drewN | apply In.drew | (refine In.step ?_ (by assumption))))) hb_2
  clear hb_1 i_1
  go_wp2
  go_ret
  exact (show Val _ _ _ _ from Val.mk' rfl (by (repeat (first | exact In.refl _ | assumption | apply In.alloc | apply In.drewN | apply In.drew | (refine In.step ?_ (by assumption))))))

theorem walk_FnExactCrustParts (a0 : Int) (u0 : (Lit.int .i64 a0).wf = true) (a1 : Int) (u1 : (Lit.int .i64 a1).wf = true) (a2 : Int) (u2 : (Lit.int .i64 a2).wf = true) (w : World) :
    Calls Try.prog 9 #[.int .i64 a0, .int .i64 a1, .int .i64 a2] w fun e w' => e = .returned (.bool true) ∧ Below w.heap.size w w' := by
  clear u0 u1 u2
  go_enter Try.func9, Try.ntmps9
  go_wp2_with fail
  refine (sCrustParts a0 a1 a2 _).mono ?_
  rintro _ w_1 ⟨rfl, hb_1⟩
  replace hb_1 := same_below hb_1
  have i_1 : In w.heap.size w w_1 := In.step (by (repeat (first | exact In.refl _ | assumption | apply In.alloc | apply In.drewN | apply In.drew | (refine In.step ?_ (by assumption))))) hb_1
  go_wp2_with fail
  refine (iCrustParts a0 a1 a2 _).mono ?_
  rintro _ w_2 ⟨rfl, hb_2⟩
  have i_2 : In w.heap.size w w_2 := In.step (by (repeat (first | exact In.refl _ | assumption | apply In.alloc | apply In.drewN | apply In.drew | (refine In.step ?_ (by assumption))))) hb_2
  clear hb_1 i_1
  go_wp2
  go_ret
  exact (show Val _ _ _ _ from Val.mk' rfl (by (repeat (first | exact In.refl _ | assumption | apply In.alloc | apply In.drewN | apply In.drew | (refine In.step ?_ (by assumption))))))

end Go.Proofs.Ytfodaoplfhobiaa
