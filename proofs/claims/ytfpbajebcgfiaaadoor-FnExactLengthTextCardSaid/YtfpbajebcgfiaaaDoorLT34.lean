/- Chapter 34: the laws of TimeText and LengthText. -/
import Derived.Test.YtfpbajebcgfiaaaDoorT34
namespace Go.Proofs.YtfpbajebcgfiaaaDoor
open Go.ChangeShapes Go.WideShapes Go.ChangeAt Go.RowKit
set_option linter.unusedVariables false
set_option linter.unusedSimpArgs false
set_option maxHeartbeats 2000000

theorem walk_FnExactTimeText (n : Int) (hn : (Lit.int .i64 n).wf = true) (w : World) (hL : laidMetH Tryd.prog Rows.fnExactTimeTextRow.laid w) :
    Calls Tryd.prog 3 #[.int .i64 n] w fun e w' => e = .returned (.bool true) ∧ Below w.heap.size w w' := by
  have HT := Lib.hid (show Tab w from table hL (by kernel_rfl))
  clear hL hn
  go_enter Tryd.func3, Tryd.ntmps3
  go_wp2_with fail
  refine (sTimeText n _).mono ?_
  rintro _ w1 ⟨rfl, hb1⟩
  have i1 : In w.heap.size w w1 := In.step (In.refl _) hb1
  go_wp2_with fail
  refine (iTimeText n _ (HT.out.in_ (by (repeat (first | exact In.refl _ | assumption | apply In.alloc | apply In.drewN | apply In.drew | (refine In.step ?_ (by assumption))))))).mono ?_
  rintro _ w2 ⟨rfl, hb2⟩
  have i2 : In w.heap.size w w2 := In.step i1 hb2
  clear hb1 i1
  generalize timeB n = s at *
  go_wp2
  go_ret
  exact (show Val _ _ _ _ from Val.mk' rfl (by (repeat (first | exact In.refl _ | assumption | apply In.alloc | apply In.drewN | apply In.drew | (refine In.step ?_ (by assumption))))))
theorem walk_FnExactLengthText (n : Int) (hn : (Lit.int .i64 n).wf = true) (w : World) (hL : laidMetH Tryd.prog Rows.fnExactLengthTextRow.laid w) :
    Calls Tryd.prog 4 #[.int .i64 n] w fun e w' => e = .returned (.bool true) ∧ Below w.heap.size w w' := by
  have HT := Lib.hid (show Tab w from table hL (by kernel_rfl))
  clear hL hn
  go_enter Tryd.func4, Tryd.ntmps4
  go_wp2_with fail
  refine (sLengthText n _).mono ?_
  rintro _ w1 ⟨rfl, hb1⟩
  have i1 : In w.heap.size w w1 := In.step (In.refl _) hb1
  go_wp2_with fail
  refine (iLengthText n _ (HT.out.in_ (by (repeat (first | exact In.refl _ | assumption | apply In.alloc | apply In.drewN | apply In.drew | (refine In.step ?_ (by assumption))))))).mono ?_
  rintro _ w2 ⟨rfl, hb2⟩
  have i2 : In w.heap.size w w2 := In.step i1 hb2
  clear hb1 i1
  generalize lenB n = s at *
  go_wp2
  go_ret
  exact (show Val _ _ _ _ from Val.mk' rfl (by (repeat (first | exact In.refl _ | assumption | apply In.alloc | apply In.drewN | apply In.drew | (refine In.step ?_ (by assumption))))))
end Go.Proofs.YtfpbajebcgfiaaaDoor
