/- Laws of chapter 25: BuyLoaves, UseFree. -/
import Derived.Test.YtbbinndegcnedaaL25
namespace Go.Proofs.Ytbbinndegcnedaa
open Go.ChangeShapes Go.WideShapes Go.ChangeAt Go.RowKit
set_option linter.unusedVariables false
set_option linter.unusedSimpArgs false

set_option maxHeartbeats 1000000 in
theorem walk_FnExactBuyLoaves (a0_0 : Int) (u0_0 : (Lit.int .i64 a0_0).wf = true) (a0_1 : Int) (u0_1 : (Lit.int .i64 a0_1).wf = true) (a1 : Int) (u1 : (Lit.int .i64 a1).wf = true) (w : World) :
    Calls Try.prog 5 #[.agg #[.int .i64 a0_0, .int .i64 a0_1], .int .i64 a1] w fun e w' => e = .returned (.bool true) ∧ Below w.heap.size w w' := by
  clear u0_0 u0_1 u1
  obtain ⟨r0, r1, e1, hv⟩ : ∃ r0 r1 e1, buyV a0_0 a0_1 a1 = .tuple #[.agg #[.int .i64 r0, .int .i64 r1], .bool e1] := by
    unfold buyV
    (repeat' split) <;> exact ⟨_, _, _, rfl⟩
  have HV := Lib.hid hv
  clear hv
  have q_0 : Blk (w.alloc (.cells #[.int .i64 a0_0, .int .i64 a0_1] 35)) w.heap.size 35 #[.int .i64 a0_0, .int .i64 a0_1] := Blk.new w 35 #[.int .i64 a0_0, .int .i64 a0_1]
  go_enter Try.func5, Try.ntmps5
  go_wp2_with fail
  refine (toCard_c a0_0 a0_1 _).mono ?_
  rintro _ w_1 ⟨rfl, hb_1⟩
  have i_1 : In w.heap.size w w_1 := In.step (by (repeat (first | exact In.refl _ | assumption | apply In.alloc | apply In.drewN | apply In.drew | (refine In.step ?_ (by assumption))))) hb_1
  have k_1_0 : Blk w_1 w.heap.size 35 #[.int .i64 a0_0, .int .i64 a0_1] := Blk.step (by (with_reducible (repeat (first | assumption | apply Blk.drewN | apply Blk.drew | apply Blk.alloc)))) hb_1
  have l_1_0 := k_1_0.lt
  have c_1_0_0 : w_1.cell? ⟨w.heap.size, 0, none⟩ = some (.int .i64 a0_0) := k_1_0.cell 0
  have c_1_0_1 : w_1.cell? ⟨w.heap.size, 1, none⟩ = some (.int .i64 a0_1) := k_1_0.cell 1
  clear q_0
  go_wp2_with fail
  refine (sBuyLoaves a0_0 a0_1 a1 _).mono ?_
  rintro _ w_2 ⟨rfl, hb_2⟩
  rw [HV.out]
  have i_2 : In w.heap.size w w_2 := In.step (by (repeat (first | exact In.refl _ | assumption | apply In.alloc | apply In.drewN | apply In.drew | (refine In.step ?_ (by assumption))))) hb_2
  have k_2_0 : Blk w_2 w.heap.size 35 #[.int .i64 a0_0, .int .i64 a0_1] := Blk.step (by (with_reducible (repeat (first | assumption | apply Blk.drewN | apply Blk.drew | apply Blk.alloc)))) hb_2
  have l_2_0 := k_2_0.lt
  have c_2_0_0 : w_2.cell? ⟨w.heap.size, 0, none⟩ = some (.int .i64 a0_0) := k_2_0.cell 0
  have c_2_0_1 : w_2.cell? ⟨w.heap.size, 1, none⟩ = some (.int .i64 a0_1) := k_2_0.cell 1
  clear hb_1 i_1 k_1_0 l_1_0 c_1_0_0 c_1_0_1
  go_wp2_with fail
  refine (toCard_c a0_0 a0_1 _).mono ?_
  rintro _ w_3 ⟨rfl, hb_3⟩
  have i_3 : In w.heap.size w w_3 := In.step (by (repeat (first | exact In.refl _ | assumption | apply In.alloc | apply In.drewN | apply In.drew | (refine In.step ?_ (by assumption))))) hb_3
  have k_3_0 : Blk w_3 w.heap.size 35 #[.int .i64 a0_0, .int .i64 a0_1] := Blk.step (by (with_reducible (repeat (first | assumption | apply Blk.drewN | apply Blk.drew | apply Blk.alloc)))) hb_3
  have l_3_0 := k_3_0.lt
  have c_3_0_0 : w_3.cell? ⟨w.heap.size, 0, none⟩ = some (.int .i64 a0_0) := k_3_0.cell 0
  have c_3_0_1 : w_3.cell? ⟨w.heap.size, 1, none⟩ = some (.int .i64 a0_1) := k_3_0.cell 1
  have kw_3 : Blk w_3 w_2.heap.size 25 #[.int .i64 r0, .int .i64 r1] := Blk.step (by first | exact Blk.new _ _ _ | exact (Blk.new _ _ _).drew) hb_3
  have lw_3 := kw_3.lt
  have d_3_0 : w_3.cell? ⟨w_2.heap.size, 0, none⟩ = some (.int .i64 r0) := kw_3.cell 0
  have d_3_1 : w_3.cell? ⟨w_2.heap.size, 1, none⟩ = some (.int .i64 r1) := kw_3.cell 1
  clear hb_2 i_2 k_2_0 l_2_0 c_2_0_0 c_2_0_1
  go_wp2_with fail
  refine (iBuyLoaves a0_0 a0_1 a1 _).mono ?_
  rintro _ w_4 ⟨rfl, hb_4⟩
  rw [HV.out]
  have i_4 : In w.heap.size w w_4 := In.step (by (repeat (first | exact In.refl _ | assumption | apply In.alloc | apply In.drewN | apply In.drew | (refine In.step ?_ (by assumption))))) hb_4
  have k_4_0 : Blk w_4 w.heap.size 35 #[.int .i64 a0_0, .int .i64 a0_1] := Blk.step (by (with_reducible (repeat (first | assumption | apply Blk.drewN | apply Blk.drew | apply Blk.alloc)))) hb_4
  have l_4_0 := k_4_0.lt
  have c_4_0_0 : w_4.cell? ⟨w.heap.size, 0, none⟩ = some (.int .i64 a0_0) := k_4_0.cell 0
  have c_4_0_1 : w_4.cell? ⟨w.heap.size, 1, none⟩ = some (.int .i64 a0_1) := k_4_0.cell 1
  have kw_4 : Blk w_4 w_2.heap.size 25 #[.int .i64 r0, .int .i64 r1] := Blk.step (by (with_reducible (repeat (first | assumption | apply Blk.drewN | apply Blk.drew | apply Blk.alloc)))) hb_4
  have lw_4 := kw_4.lt
  have d_4_0 : w_4.cell? ⟨w_2.heap.size, 0, none⟩ = some (.int .i64 r0) := kw_4.cell 0
  have d_4_1 : w_4.cell? ⟨w_2.heap.size, 1, none⟩ = some (.int .i64 r1) := kw_4.cell 1
  clear hb_3 i_3 k_3_0 l_3_0 c_3_0_0 c_3_0_1 kw_3 lw_3 d_3_0 d_3_1
  go_wp2_with fail
  refine (eqCard_c r0 r1 _).mono ?_
  rintro _ w_5 ⟨rfl, hb_5⟩
  have i_5 : In w.heap.size w w_5 := In.step (by (repeat (first | exact In.refl _ | assumption | apply In.alloc | apply In.drewN | apply In.drew | (refine In.step ?_ (by assumption))))) hb_5
  have k_5_0 : Blk w_5 w.heap.size 35 #[.int .i64 a0_0, .int .i64 a0_1] := Blk.step (by (with_reducible (repeat (first | assumption | apply Blk.drewN | apply Blk.drew | apply Blk.alloc)))) hb_5
  have l_5_0 := k_5_0.lt
  have c_5_0_0 : w_5.cell? ⟨w.heap.size, 0, none⟩ = some (.int .i64 a0_0) := k_5_0.cell 0
  have c_5_0_1 : w_5.cell? ⟨w.heap.size, 1, none⟩ = some (.int .i64 a0_1) := k_5_0.cell 1
  have kw_5 : Blk w_5 w_2.heap.size 25 #[.int .i64 r0, .int .i64 r1] := Blk.step (by (with_reducible (repeat (first | assumption | apply Blk.drewN | apply Blk.drew | apply Blk.alloc)))) hb_5
  have lw_5 := kw_5.lt
  have d_5_0 : w_5.cell? ⟨w_2.heap.size, 0, none⟩ = some (.int .i64 r0) := kw_5.cell 0
  have d_5_1 : w_5.cell? ⟨w_2.heap.size, 1, none⟩ = some (.int .i64 r1) := kw_5.cell 1
  clear hb_4 i_4 k_4_0 l_4_0 c_4_0_0 c_4_0_1 kw_4 lw_4 d_4_0 d_4_1
  go_wp2
  go_ret
  exact (show Val _ _ _ _ from Val.mk' rfl (by (repeat (first | exact In.refl _ | assumption | apply In.alloc | apply In.drewN | apply In.drew | (refine In.step ?_ (by assumption))))))

set_option maxHeartbeats 1000000 in
theorem walk_FnExactUseFree (a0_0 : Int) (u0_0 : (Lit.int .i64 a0_0).wf = true) (a0_1 : Int) (u0_1 : (Lit.int .i64 a0_1).wf = true) (w : World) :
    Calls Try.prog 6 #[.agg #[.int .i64 a0_0, .int .i64 a0_1]] w fun e w' => e = .returned (.bool true) ∧ Below w.heap.size w w' := by
  clear u0_0 u0_1
  obtain ⟨r0, r1, e1, hv⟩ : ∃ r0 r1 e1, useV a0_0 a0_1 = .tuple #[.agg #[.int .i64 r0, .int .i64 r1], .bool e1] := by
    unfold useV
    (repeat' split) <;> exact ⟨_, _, _, rfl⟩
  have HV := Lib.hid hv
  clear hv
  have q_0 : Blk (w.alloc (.cells #[.int .i64 a0_0, .int .i64 a0_1] 35)) w.heap.size 35 #[.int .i64 a0_0, .int .i64 a0_1] := Blk.new w 35 #[.int .i64 a0_0, .int .i64 a0_1]
  go_enter Try.func6, Try.ntmps6
  go_wp2_with fail
  refine (toCard_c a0_0 a0_1 _).mono ?_
  rintro _ w_1 ⟨rfl, hb_1⟩
  have i_1 : In w.heap.size w w_1 := In.step (by (repeat (first | exact In.refl _ | assumption | apply In.alloc | apply In.drewN | apply In.drew | (refine In.step ?_ (by assumption))))) hb_1
  have k_1_0 : Blk w_1 w.heap.size 35 #[.int .i64 a0_0, .int .i64 a0_1] := Blk.step (by (with_reducible (repeat (first | assumption | apply Blk.drewN | apply Blk.drew | apply Blk.alloc)))) hb_1
  have l_1_0 := k_1_0.lt
  have c_1_0_0 : w_1.cell? ⟨w.heap.size, 0, none⟩ = some (.int .i64 a0_0) := k_1_0.cell 0
  have c_1_0_1 : w_1.cell? ⟨w.heap.size, 1, none⟩ = some (.int .i64 a0_1) := k_1_0.cell 1
  clear q_0
  go_wp2_with fail
  refine (sUseFree a0_0 a0_1 _).mono ?_
  rintro _ w_2 ⟨rfl, hb_2⟩
  rw [HV.out]
  have i_2 : In w.heap.size w w_2 := In.step (by (repeat (first | exact In.refl _ | assumption | apply In.alloc | apply In.drewN | apply In.drew | (refine In.step ?_ (by assumption))))) hb_2
  have k_2_0 : Blk w_2 w.heap.size 35 #[.int .i64 a0_0, .int .i64 a0_1] := Blk.step (by (with_reducible (repeat (first | assumption | apply Blk.drewN | apply Blk.drew | apply Blk.alloc)))) hb_2
  have l_2_0 := k_2_0.lt
  have c_2_0_0 : w_2.cell? ⟨w.heap.size, 0, none⟩ = some (.int .i64 a0_0) := k_2_0.cell 0
  have c_2_0_1 : w_2.cell? ⟨w.heap.size, 1, none⟩ = some (.int .i64 a0_1) := k_2_0.cell 1
  clear hb_1 i_1 k_1_0 l_1_0 c_1_0_0 c_1_0_1
  go_wp2_with fail
  refine (toCard_c a0_0 a0_1 _).mono ?_
  rintro _ w_3 ⟨rfl, hb_3⟩
  have i_3 : In w.heap.size w w_3 := In.step (by (repeat (first | exact In.refl _ | assumption | apply In.alloc | apply In.drewN | apply In.drew | (refine In.step ?_ (by assumption))))) hb_3
  have k_3_0 : Blk w_3 w.heap.size 35 #[.int .i64 a0_0, .int .i64 a0_1] := Blk.step (by (with_reducible (repeat (first | assumption | apply Blk.drewN | apply Blk.drew | apply Blk.alloc)))) hb_3
  have l_3_0 := k_3_0.lt
  have c_3_0_0 : w_3.cell? ⟨w.heap.size, 0, none⟩ = some (.int .i64 a0_0) := k_3_0.cell 0
  have c_3_0_1 : w_3.cell? ⟨w.heap.size, 1, none⟩ = some (.int .i64 a0_1) := k_3_0.cell 1
  have kw_3 : Blk w_3 w_2.heap.size 25 #[.int .i64 r0, .int .i64 r1] := Blk.step (by first | exact Blk.new _ _ _ | exact (Blk.new _ _ _).drew) hb_3
  have lw_3 := kw_3.lt
  have d_3_0 : w_3.cell? ⟨w_2.heap.size, 0, none⟩ = some (.int .i64 r0) := kw_3.cell 0
  have d_3_1 : w_3.cell? ⟨w_2.heap.size, 1, none⟩ = some (.int .i64 r1) := kw_3.cell 1
  clear hb_2 i_2 k_2_0 l_2_0 c_2_0_0 c_2_0_1
  go_wp2_with fail
  refine (iUseFree a0_0 a0_1 _).mono ?_
  rintro _ w_4 ⟨rfl, hb_4⟩
  rw [HV.out]
  have i_4 : In w.heap.size w w_4 := In.step (by (repeat (first | exact In.refl _ | assumption | apply In.alloc | apply In.drewN | apply In.drew | (refine In.step ?_ (by assumption))))) hb_4
  have k_4_0 : Blk w_4 w.heap.size 35 #[.int .i64 a0_0, .int .i64 a0_1] := Blk.step (by (with_reducible (repeat (first | assumption | apply Blk.drewN | apply Blk.drew | apply Blk.alloc)))) hb_4
  have l_4_0 := k_4_0.lt
  have c_4_0_0 : w_4.cell? ⟨w.heap.size, 0, none⟩ = some (.int .i64 a0_0) := k_4_0.cell 0
  have c_4_0_1 : w_4.cell? ⟨w.heap.size, 1, none⟩ = some (.int .i64 a0_1) := k_4_0.cell 1
  have kw_4 : Blk w_4 w_2.heap.size 25 #[.int .i64 r0, .int .i64 r1] := Blk.step (by (with_reducible (repeat (first | assumption | apply Blk.drewN | apply Blk.drew | apply Blk.alloc)))) hb_4
  have lw_4 := kw_4.lt
  have d_4_0 : w_4.cell? ⟨w_2.heap.size, 0, none⟩ = some (.int .i64 r0) := kw_4.cell 0
  have d_4_1 : w_4.cell? ⟨w_2.heap.size, 1, none⟩ = some (.int .i64 r1) := kw_4.cell 1
  clear hb_3 i_3 k_3_0 l_3_0 c_3_0_0 c_3_0_1 kw_3 lw_3 d_3_0 d_3_1
  go_wp2_with fail
  refine (eqCard_c r0 r1 _).mono ?_
  rintro _ w_5 ⟨rfl, hb_5⟩
  have i_5 : In w.heap.size w w_5 := In.step (by (repeat (first | exact In.refl _ | assumption | apply In.alloc | apply In.drewN | apply In.drew | (refine In.step ?_ (by assumption))))) hb_5
  have k_5_0 : Blk w_5 w.heap.size 35 #[.int .i64 a0_0, .int .i64 a0_1] := Blk.step (by (with_reducible (repeat (first | assumption | apply Blk.drewN | apply Blk.drew | apply Blk.alloc)))) hb_5
  have l_5_0 := k_5_0.lt
  have c_5_0_0 : w_5.cell? ⟨w.heap.size, 0, none⟩ = some (.int .i64 a0_0) := k_5_0.cell 0
  have c_5_0_1 : w_5.cell? ⟨w.heap.size, 1, none⟩ = some (.int .i64 a0_1) := k_5_0.cell 1
  have kw_5 : Blk w_5 w_2.heap.size 25 #[.int .i64 r0, .int .i64 r1] := Blk.step (by (with_reducible (repeat (first | assumption | apply Blk.drewN | apply Blk.drew | apply Blk.alloc)))) hb_5
  have lw_5 := kw_5.lt
  have d_5_0 : w_5.cell? ⟨w_2.heap.size, 0, none⟩ = some (.int .i64 r0) := kw_5.cell 0
  have d_5_1 : w_5.cell? ⟨w_2.heap.size, 1, none⟩ = some (.int .i64 r1) := kw_5.cell 1
  clear hb_4 i_4 k_4_0 l_4_0 c_4_0_0 c_4_0_1 kw_4 lw_4 d_4_0 d_4_1
  go_wp2
  go_ret
  exact (show Val _ _ _ _ from Val.mk' rfl (by (repeat (first | exact In.refl _ | assumption | apply In.alloc | apply In.drewN | apply In.drew | (refine In.step ?_ (by assumption))))))

end Go.Proofs.Ytbbinndegcnedaa
