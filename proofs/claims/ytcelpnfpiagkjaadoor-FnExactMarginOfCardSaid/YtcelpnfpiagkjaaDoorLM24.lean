/- Chapter 24: the walks of the laws of PriceFor and MarginOf. -/
import Derived.Test.YtcelpnfpiagkjaaDoorP24
import Derived.Test.YtcelpnfpiagkjaaDoorOpen
import Derived.Test.YtcelpnfpiagkjaaDoorSCost
namespace Go.Proofs.YtcelpnfpiagkjaaDoor
open Go.ChangeShapes Go.WideShapes Go.ChangeAt Go.RowKit
set_option linter.unusedVariables false
set_option linter.unusedSimpArgs false

theorem walk_FnExactPriceFor (a0_0 : Int) (u0_0 : (Lit.int .i64 a0_0).wf = true) (a0_1 : Int) (u0_1 : (Lit.int .i64 a0_1).wf = true) (a0_2 : Int) (u0_2 : (Lit.int .i64 a0_2).wf = true) (a1 : Int) (u1 : (Lit.int .i64 a1).wf = true) (w : World) (hL : laidMetH Tryd.prog Rows.fnExactPriceForRow.laid w) :
    Calls Tryd.prog 3 #[.agg #[.int .i64 a0_0, .int .i64 a0_1, .int .i64 a0_2], .int .i64 a1] w fun e w' => e = .returned (.bool true) ∧ Below w.heap.size w w' := by
  obtain ⟨ea, hE⟩ := err_of hL
  have HBN := Lib.hid hE
  clear hE
  clear hL
  clear u0_0 u0_1 u0_2 u1
  have q_0 : Blk (w.alloc (.cells #[.int .i64 a0_0, .int .i64 a0_1, .int .i64 a0_2] 23)) (w.heap.size) 23 #[.int .i64 a0_0, .int .i64 a0_1, .int .i64 a0_2] := (Blk.new w 23 #[.int .i64 a0_0, .int .i64 a0_1, .int .i64 a0_2])
  go_enter Tryd.func3, Tryd.ntmps3
  go_wp2_with fail
  refine (toCost_c a0_0 a0_1 a0_2 _).mono ?_
  rintro _ w_1 ⟨rfl, hb_1⟩
  have i_1 : In w.heap.size w w_1 := In.step (by (repeat (first | exact In.refl _ | assumption | apply In.alloc | apply In.drewN | apply In.drew | (refine In.step ?_ (by assumption))))) hb_1
  have k_1_0 : Blk w_1 (w.heap.size) 23 #[.int .i64 a0_0, .int .i64 a0_1, .int .i64 a0_2] := Blk.step (by (with_reducible (repeat (first | assumption | apply Blk.drewN | apply Blk.drew | apply Blk.alloc)))) hb_1
  have c_1_0_0 : w_1.cell? ⟨w.heap.size, 0, none⟩ = some (.int .i64 a0_0) := k_1_0.cell 0
  have c_1_0_1 : w_1.cell? ⟨w.heap.size, 1, none⟩ = some (.int .i64 a0_1) := k_1_0.cell 1
  have c_1_0_2 : w_1.cell? ⟨w.heap.size, 2, none⟩ = some (.int .i64 a0_2) := k_1_0.cell 2
  clear q_0
  go_wp2_with fail
  refine (sPriceFor a0_0 a0_1 a0_2 a1 _).mono ?_
  rintro _ w_2 ⟨rfl, hb_2⟩
  have i_2 : In w.heap.size w w_2 := In.step (by (repeat (first | exact In.refl _ | assumption | apply In.alloc | apply In.drewN | apply In.drew | (refine In.step ?_ (by assumption))))) hb_2
  have k_2_0 : Blk w_2 (w.heap.size) 23 #[.int .i64 a0_0, .int .i64 a0_1, .int .i64 a0_2] := Blk.step (by (with_reducible (repeat (first | assumption | apply Blk.drewN | apply Blk.drew | apply Blk.alloc)))) hb_2
  have c_2_0_0 : w_2.cell? ⟨w.heap.size, 0, none⟩ = some (.int .i64 a0_0) := k_2_0.cell 0
  have c_2_0_1 : w_2.cell? ⟨w.heap.size, 1, none⟩ = some (.int .i64 a0_1) := k_2_0.cell 1
  have c_2_0_2 : w_2.cell? ⟨w.heap.size, 2, none⟩ = some (.int .i64 a0_2) := k_2_0.cell 2
  clear hb_1 i_1 k_1_0 c_1_0_0 c_1_0_1 c_1_0_2
  go_wp2_with fail
  refine (toCost_c a0_0 a0_1 a0_2 _).mono ?_
  rintro _ w_3 ⟨rfl, hb_3⟩
  have i_3 : In w.heap.size w w_3 := In.step (by (repeat (first | exact In.refl _ | assumption | apply In.alloc | apply In.drewN | apply In.drew | (refine In.step ?_ (by assumption))))) hb_3
  have k_3_0 : Blk w_3 (w.heap.size) 23 #[.int .i64 a0_0, .int .i64 a0_1, .int .i64 a0_2] := Blk.step (by (with_reducible (repeat (first | assumption | apply Blk.drewN | apply Blk.drew | apply Blk.alloc)))) hb_3
  have c_3_0_0 : w_3.cell? ⟨w.heap.size, 0, none⟩ = some (.int .i64 a0_0) := k_3_0.cell 0
  have c_3_0_1 : w_3.cell? ⟨w.heap.size, 1, none⟩ = some (.int .i64 a0_1) := k_3_0.cell 1
  have c_3_0_2 : w_3.cell? ⟨w.heap.size, 2, none⟩ = some (.int .i64 a0_2) := k_3_0.cell 2
  clear hb_2 i_2 k_2_0 c_2_0_0 c_2_0_1 c_2_0_2
  go_wp2_with fail
  refine (iPriceFor ea a0_0 a0_1 a0_2 a1 _ (by exact HBN.out.in_ (by (repeat (first | exact In.refl _ | assumption | apply In.alloc | apply In.drewN | apply In.drew | (refine In.step ?_ (by assumption))))))).mono ?_
  rintro _ w_4 ⟨rfl, hb_4⟩
  have i_4 : In w.heap.size w w_4 := In.step (by (repeat (first | exact In.refl _ | assumption | apply In.alloc | apply In.drewN | apply In.drew | (refine In.step ?_ (by assumption))))) hb_4
  have k_4_0 : Blk w_4 (w.heap.size) 23 #[.int .i64 a0_0, .int .i64 a0_1, .int .i64 a0_2] := Blk.step (by (with_reducible (repeat (first | assumption | apply Blk.drewN | apply Blk.drew | apply Blk.alloc)))) hb_4
  have c_4_0_0 : w_4.cell? ⟨w.heap.size, 0, none⟩ = some (.int .i64 a0_0) := k_4_0.cell 0
  have c_4_0_1 : w_4.cell? ⟨w.heap.size, 1, none⟩ = some (.int .i64 a0_1) := k_4_0.cell 1
  have c_4_0_2 : w_4.cell? ⟨w.heap.size, 2, none⟩ = some (.int .i64 a0_2) := k_4_0.cell 2
  clear hb_3 i_3 k_3_0 c_3_0_0 c_3_0_1 c_3_0_2
  go_wp2
  go_ret
  exact (show Val _ _ _ _ from Val.mk' rfl (by (repeat (first | exact In.refl _ | assumption | apply In.alloc | apply In.drewN | apply In.drew | (refine In.step ?_ (by assumption))))))

theorem walk_FnExactMarginOf (a0_0 : Int) (u0_0 : (Lit.int .i64 a0_0).wf = true) (a0_1 : Int) (u0_1 : (Lit.int .i64 a0_1).wf = true) (a0_2 : Int) (u0_2 : (Lit.int .i64 a0_2).wf = true) (a1 : Int) (u1 : (Lit.int .i64 a1).wf = true) (w : World) (hL : laidMetH Tryd.prog Rows.fnExactMarginOfRow.laid w) :
    Calls Tryd.prog 4 #[.agg #[.int .i64 a0_0, .int .i64 a0_1, .int .i64 a0_2], .int .i64 a1] w fun e w' => e = .returned (.bool true) ∧ Below w.heap.size w w' := by
  obtain ⟨ea, hE⟩ := err_of hL
  have HBN := Lib.hid hE
  clear hE
  clear hL
  clear u0_0 u0_1 u0_2 u1
  have q_0 : Blk (w.alloc (.cells #[.int .i64 a0_0, .int .i64 a0_1, .int .i64 a0_2] 23)) (w.heap.size) 23 #[.int .i64 a0_0, .int .i64 a0_1, .int .i64 a0_2] := (Blk.new w 23 #[.int .i64 a0_0, .int .i64 a0_1, .int .i64 a0_2])
  go_enter Tryd.func4, Tryd.ntmps4
  go_wp2_with fail
  refine (toCost_c a0_0 a0_1 a0_2 _).mono ?_
  rintro _ w_1 ⟨rfl, hb_1⟩
  have i_1 : In w.heap.size w w_1 := In.step (by (repeat (first | exact In.refl _ | assumption | apply In.alloc | apply In.drewN | apply In.drew | (refine In.step ?_ (by assumption))))) hb_1
  have k_1_0 : Blk w_1 (w.heap.size) 23 #[.int .i64 a0_0, .int .i64 a0_1, .int .i64 a0_2] := Blk.step (by (with_reducible (repeat (first | assumption | apply Blk.drewN | apply Blk.drew | apply Blk.alloc)))) hb_1
  have c_1_0_0 : w_1.cell? ⟨w.heap.size, 0, none⟩ = some (.int .i64 a0_0) := k_1_0.cell 0
  have c_1_0_1 : w_1.cell? ⟨w.heap.size, 1, none⟩ = some (.int .i64 a0_1) := k_1_0.cell 1
  have c_1_0_2 : w_1.cell? ⟨w.heap.size, 2, none⟩ = some (.int .i64 a0_2) := k_1_0.cell 2
  clear q_0
  go_wp2_with fail
  refine (sMarginOf a0_0 a0_1 a0_2 a1 _).mono ?_
  rintro _ w_2 ⟨rfl, hb_2⟩
  have i_2 : In w.heap.size w w_2 := In.step (by (repeat (first | exact In.refl _ | assumption | apply In.alloc | apply In.drewN | apply In.drew | (refine In.step ?_ (by assumption))))) hb_2
  have k_2_0 : Blk w_2 (w.heap.size) 23 #[.int .i64 a0_0, .int .i64 a0_1, .int .i64 a0_2] := Blk.step (by (with_reducible (repeat (first | assumption | apply Blk.drewN | apply Blk.drew | apply Blk.alloc)))) hb_2
  have c_2_0_0 : w_2.cell? ⟨w.heap.size, 0, none⟩ = some (.int .i64 a0_0) := k_2_0.cell 0
  have c_2_0_1 : w_2.cell? ⟨w.heap.size, 1, none⟩ = some (.int .i64 a0_1) := k_2_0.cell 1
  have c_2_0_2 : w_2.cell? ⟨w.heap.size, 2, none⟩ = some (.int .i64 a0_2) := k_2_0.cell 2
  clear hb_1 i_1 k_1_0 c_1_0_0 c_1_0_1 c_1_0_2
  go_wp2_with fail
  refine (toCost_c a0_0 a0_1 a0_2 _).mono ?_
  rintro _ w_3 ⟨rfl, hb_3⟩
  have i_3 : In w.heap.size w w_3 := In.step (by (repeat (first | exact In.refl _ | assumption | apply In.alloc | apply In.drewN | apply In.drew | (refine In.step ?_ (by assumption))))) hb_3
  have k_3_0 : Blk w_3 (w.heap.size) 23 #[.int .i64 a0_0, .int .i64 a0_1, .int .i64 a0_2] := Blk.step (by (with_reducible (repeat (first | assumption | apply Blk.drewN | apply Blk.drew | apply Blk.alloc)))) hb_3
  have c_3_0_0 : w_3.cell? ⟨w.heap.size, 0, none⟩ = some (.int .i64 a0_0) := k_3_0.cell 0
  have c_3_0_1 : w_3.cell? ⟨w.heap.size, 1, none⟩ = some (.int .i64 a0_1) := k_3_0.cell 1
  have c_3_0_2 : w_3.cell? ⟨w.heap.size, 2, none⟩ = some (.int .i64 a0_2) := k_3_0.cell 2
  clear hb_2 i_2 k_2_0 c_2_0_0 c_2_0_1 c_2_0_2
  go_wp2_with fail
  refine (iMarginOf ea a0_0 a0_1 a0_2 a1 _ (by exact HBN.out.in_ (by (repeat (first | exact In.refl _ | assumption | apply In.alloc | apply In.drewN | apply In.drew | (refine In.step ?_ (by assumption))))))).mono ?_
  rintro _ w_4 ⟨rfl, hb_4⟩
  have i_4 : In w.heap.size w w_4 := In.step (by (repeat (first | exact In.refl _ | assumption | apply In.alloc | apply In.drewN | apply In.drew | (refine In.step ?_ (by assumption))))) hb_4
  have k_4_0 : Blk w_4 (w.heap.size) 23 #[.int .i64 a0_0, .int .i64 a0_1, .int .i64 a0_2] := Blk.step (by (with_reducible (repeat (first | assumption | apply Blk.drewN | apply Blk.drew | apply Blk.alloc)))) hb_4
  have c_4_0_0 : w_4.cell? ⟨w.heap.size, 0, none⟩ = some (.int .i64 a0_0) := k_4_0.cell 0
  have c_4_0_1 : w_4.cell? ⟨w.heap.size, 1, none⟩ = some (.int .i64 a0_1) := k_4_0.cell 1
  have c_4_0_2 : w_4.cell? ⟨w.heap.size, 2, none⟩ = some (.int .i64 a0_2) := k_4_0.cell 2
  clear hb_3 i_3 k_3_0 c_3_0_0 c_3_0_1 c_3_0_2
  go_wp2
  go_ret
  exact (show Val _ _ _ _ from Val.mk' rfl (by (repeat (first | exact In.refl _ | assumption | apply In.alloc | apply In.drewN | apply In.drew | (refine In.step ?_ (by assumption))))))

end Go.Proofs.YtcelpnfpiagkjaaDoor
