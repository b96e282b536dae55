/- Law of chapter 39: ActOk. -/
import Derived.Test.YtmiopfhlkgkiaacC39
import Derived.Test.YtmiopfhlkgkiaacSAct
namespace Go.Proofs.Ytmiopfhlkgkiaac
open Go.ChangeShapes Go.WideShapes Go.ChangeAt Go.RowKit
set_option linter.unusedVariables false
set_option linter.unusedSimpArgs false

theorem walk_FnExactActOk (a0_0 : Int) (u0_0 : (Lit.int .i64 a0_0).wf = true) (a0_1 : Int) (u0_1 : (Lit.int .i64 a0_1).wf = true) (a0_2 : Int) (u0_2 : (Lit.int .i64 a0_2).wf = true) (w : World) :
    Calls Try.prog 4 #[.agg #[.int .i64 a0_0, .int .i64 a0_1, .int .i64 a0_2]] w fun e w' => e = .returned (.bool true) ∧ Below w.heap.size w w' := by
  clear u0_0 u0_1 u0_2
  have q_0 : Blk (w.alloc (.cells #[.int .i64 a0_0, .int .i64 a0_1, .int .i64 a0_2] 41)) (w.heap.size) 41 #[.int .i64 a0_0, .int .i64 a0_1, .int .i64 a0_2] := (Blk.new w 41 #[.int .i64 a0_0, .int .i64 a0_1, .int .i64 a0_2])
  go_enter Try.func4, Try.ntmps4
  go_wp2_with fail
  refine (toAct_c a0_0 a0_1 a0_2 _).mono ?_
  rintro _ w_1 ⟨rfl, hb_1⟩
  have i_1 : In w.heap.size w w_1 := In.step (by (repeat (first | exact In.refl _ | assumption | apply In.alloc | apply In.drewN | apply In.drew | (refine In.step ?_ (by assumption))))) hb_1
  have k_1_0 : Blk w_1 (w.heap.size) 41 #[.int .i64 a0_0, .int .i64 a0_1, .int .i64 a0_2] := Blk.step (by (with_reducible (repeat (first | assumption | apply Blk.drewN | apply Blk.drew | apply Blk.alloc)))) hb_1
  have c_1_0_0 : w_1.cell? ⟨w.heap.size, 0, none⟩ = some (.int .i64 a0_0) := k_1_0.cell 0
  have c_1_0_1 : w_1.cell? ⟨w.heap.size, 1, none⟩ = some (.int .i64 a0_1) := k_1_0.cell 1
  have c_1_0_2 : w_1.cell? ⟨w.heap.size, 2, none⟩ = some (.int .i64 a0_2) := k_1_0.cell 2
  clear q_0
  go_wp2_with fail
  refine (sActOk a0_0 a0_1 a0_2 _).mono ?_
  rintro _ w_2 ⟨rfl, hb_2⟩
  have i_2 : In w.heap.size w w_2 := In.step (by (repeat (first | exact In.refl _ | assumption | apply In.alloc | apply In.drewN | apply In.drew | (refine In.step ?_ (by assumption))))) hb_2
  have k_2_0 : Blk w_2 (w.heap.size) 41 #[.int .i64 a0_0, .int .i64 a0_1, .int .i64 a0_2] := Blk.step (by (with_reducible (repeat (first | assumption | apply Blk.drewN | apply Blk.drew | apply Blk.alloc)))) hb_2
  have c_2_0_0 : w_2.cell? ⟨w.heap.size, 0, none⟩ = some (.int .i64 a0_0) := k_2_0.cell 0
  have c_2_0_1 : w_2.cell? ⟨w.heap.size, 1, none⟩ = some (.int .i64 a0_1) := k_2_0.cell 1
  have c_2_0_2 : w_2.cell? ⟨w.heap.size, 2, none⟩ = some (.int .i64 a0_2) := k_2_0.cell 2
  clear hb_1 i_1 k_1_0 c_1_0_0 c_1_0_1 c_1_0_2
  go_wp2_with fail
  refine (toAct_c a0_0 a0_1 a0_2 _).mono ?_
  rintro _ w_3 ⟨rfl, hb_3⟩
  have i_3 : In w.heap.size w w_3 := In.step (by (repeat (first | exact In.refl _ | assumption | apply In.alloc | apply In.drewN | apply In.drew | (refine In.step ?_ (by assumption))))) hb_3
  have k_3_0 : Blk w_3 (w.heap.size) 41 #[.int .i64 a0_0, .int .i64 a0_1, .int .i64 a0_2] := Blk.step (by (with_reducible (repeat (first | assumption | apply Blk.drewN | apply Blk.drew | apply Blk.alloc)))) hb_3
  have c_3_0_0 : w_3.cell? ⟨w.heap.size, 0, none⟩ = some (.int .i64 a0_0) := k_3_0.cell 0
  have c_3_0_1 : w_3.cell? ⟨w.heap.size, 1, none⟩ = some (.int .i64 a0_1) := k_3_0.cell 1
  have c_3_0_2 : w_3.cell? ⟨w.heap.size, 2, none⟩ = some (.int .i64 a0_2) := k_3_0.cell 2
  clear hb_2 i_2 k_2_0 c_2_0_0 c_2_0_1 c_2_0_2
  go_wp2_with fail
  refine (iActOk a0_0 a0_1 a0_2 _).mono ?_
  rintro _ w_4 ⟨rfl, hb_4⟩
  have i_4 : In w.heap.size w w_4 := In.step (by (repeat (first | exact In.refl _ | assumption | apply In.alloc | apply In.drewN | apply In.drew | (refine In.step ?_ (by assumption))))) hb_4
  have k_4_0 : Blk w_4 (w.heap.size) 41 #[.int .i64 a0_0, .int .i64 a0_1, .int .i64 a0_2] := Blk.step (by (with_reducible (repeat (first | assumption | apply Blk.drewN | apply Blk.drew | apply Blk.alloc)))) hb_4
  have c_4_0_0 : w_4.cell? ⟨w.heap.size, 0, none⟩ = some (.int .i64 a0_0) := k_4_0.cell 0
  have c_4_0_1 : w_4.cell? ⟨w.heap.size, 1, none⟩ = some (.int .i64 a0_1) := k_4_0.cell 1
  have c_4_0_2 : w_4.cell? ⟨w.heap.size, 2, none⟩ = some (.int .i64 a0_2) := k_4_0.cell 2
  clear hb_3 i_3 k_3_0 c_3_0_0 c_3_0_1 c_3_0_2
  go_wp2
  go_ret
  exact (show Val _ _ _ _ from Val.mk' rfl (by (repeat (first | exact In.refl _ | assumption | apply In.alloc | apply In.drewN | apply In.drew | (refine In.step ?_ (by assumption))))))

end Go.Proofs.Ytmiopfhlkgkiaac
