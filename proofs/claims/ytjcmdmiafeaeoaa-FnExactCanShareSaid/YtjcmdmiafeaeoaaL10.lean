/- Chapter 10: the walks of the laws of BreadOk and CanShare. -/
import Derived.Test.YtjcmdmiafeaeoaaD10
namespace Go.Proofs.Ytjcmdmiafeaeoaa
open Go.ChangeShapes Go.WideShapes Go.ChangeAt Go.RowKit
set_option linter.unusedVariables false
set_option linter.unusedSimpArgs false

theorem walk_FnExactBreadOk (a0_0 : Int) (u0_0 : (Lit.int .i64 a0_0).wf = true) (a0_1 : Int) (u0_1 : (Lit.int .i64 a0_1).wf = true) (a0_2 : Int) (u0_2 : (Lit.int .i64 a0_2).wf = true) (w : World) :
    Calls Try.prog 4 #[.agg #[.int .i64 a0_0, .int .i64 a0_1, .int .i64 a0_2]] w fun e w' => e = .returned (.bool true) ∧ Below w.heap.size w w' := by
  clear u0_0 u0_1 u0_2
  have q_0 : Blk (w.alloc (.cells #[.int .i64 a0_0, .int .i64 a0_1, .int .i64 a0_2] 35)) (w.heap.size) 35 #[.int .i64 a0_0, .int .i64 a0_1, .int .i64 a0_2] := (Blk.new w 35 #[.int .i64 a0_0, .int .i64 a0_1, .int .i64 a0_2])
  go_enter Try.func4, Try.ntmps4
  go_wp2_with fail
  refine (toBread_c a0_0 a0_1 a0_2 _).mono ?_
  rintro _ w_1 ⟨rfl, hb_1⟩
  have i_1 : In w.heap.size w w_1 := In.step (by (repeat (first | exact In.refl _ | assumption | apply In.alloc | apply In.drewN | apply In.drew | (refine In.step ?_ (by assumption))))) hb_1
  have k_1_0 : Blk w_1 (w.heap.size) 35 #[.int .i64 a0_0, .int .i64 a0_1, .int .i64 a0_2] := Blk.step (by (with_reducible (repeat (first | assumption | apply Blk.drewN | apply Blk.drew | apply Blk.alloc)))) hb_1
  have c_1_0_0 : w_1.cell? ⟨w.heap.size, 0, none⟩ = some (.int .i64 a0_0) := k_1_0.cell 0
  have c_1_0_1 : w_1.cell? ⟨w.heap.size, 1, none⟩ = some (.int .i64 a0_1) := k_1_0.cell 1
  have c_1_0_2 : w_1.cell? ⟨w.heap.size, 2, none⟩ = some (.int .i64 a0_2) := k_1_0.cell 2
  clear q_0
  go_wp2_with fail
  refine (sBreadOk a0_0 a0_1 a0_2 _).mono ?_
  rintro _ w_2 ⟨rfl, hb_2⟩
  have i_2 : In w.heap.size w w_2 := In.step (by (repeat (first | exact In.refl _ | assumption | apply In.alloc | apply In.drewN | apply In.drew | (refine In.step ?_ (by assumption))))) hb_2
  have k_2_0 : Blk w_2 (w.heap.size) 35 #[.int .i64 a0_0, .int .i64 a0_1, .int .i64 a0_2] := Blk.step (by (with_reducible (repeat (first | assumption | apply Blk.drewN | apply Blk.drew | apply Blk.alloc)))) hb_2
  have c_2_0_0 : w_2.cell? ⟨w.heap.size, 0, none⟩ = some (.int .i64 a0_0) := k_2_0.cell 0
  have c_2_0_1 : w_2.cell? ⟨w.heap.size, 1, none⟩ = some (.int .i64 a0_1) := k_2_0.cell 1
  have c_2_0_2 : w_2.cell? ⟨w.heap.size, 2, none⟩ = some (.int .i64 a0_2) := k_2_0.cell 2
  clear hb_1 i_1 k_1_0 c_1_0_0 c_1_0_1 c_1_0_2
  go_wp2_with fail
  refine (toBread_c a0_0 a0_1 a0_2 _).mono ?_
  rintro _ w_3 ⟨rfl, hb_3⟩
  have i_3 : In w.heap.size w w_3 := In.step (by (repeat (first | exact In.refl _ | assumption | apply In.alloc | apply In.drewN | apply In.drew | (refine In.step ?_ (by assumption))))) hb_3
  have k_3_0 : Blk w_3 (w.heap.size) 35 #[.int .i64 a0_0, .int .i64 a0_1, .int .i64 a0_2] := Blk.step (by (with_reducible (repeat (first | assumption | apply Blk.drewN | apply Blk.drew | apply Blk.alloc)))) hb_3
  have c_3_0_0 : w_3.cell? ⟨w.heap.size, 0, none⟩ = some (.int .i64 a0_0) := k_3_0.cell 0
  have c_3_0_1 : w_3.cell? ⟨w.heap.size, 1, none⟩ = some (.int .i64 a0_1) := k_3_0.cell 1
  have c_3_0_2 : w_3.cell? ⟨w.heap.size, 2, none⟩ = some (.int .i64 a0_2) := k_3_0.cell 2
  clear hb_2 i_2 k_2_0 c_2_0_0 c_2_0_1 c_2_0_2
  go_wp2_with fail
  refine (iBreadOk a0_0 a0_1 a0_2 _).mono ?_
  rintro _ w_4 ⟨rfl, hb_4⟩
  have i_4 : In w.heap.size w w_4 := In.step (by (repeat (first | exact In.refl _ | assumption | apply In.alloc | apply In.drewN | apply In.drew | (refine In.step ?_ (by assumption))))) hb_4
  have k_4_0 : Blk w_4 (w.heap.size) 35 #[.int .i64 a0_0, .int .i64 a0_1, .int .i64 a0_2] := Blk.step (by (with_reducible (repeat (first | assumption | apply Blk.drewN | apply Blk.drew | apply Blk.alloc)))) hb_4
  have c_4_0_0 : w_4.cell? ⟨w.heap.size, 0, none⟩ = some (.int .i64 a0_0) := k_4_0.cell 0
  have c_4_0_1 : w_4.cell? ⟨w.heap.size, 1, none⟩ = some (.int .i64 a0_1) := k_4_0.cell 1
  have c_4_0_2 : w_4.cell? ⟨w.heap.size, 2, none⟩ = some (.int .i64 a0_2) := k_4_0.cell 2
  clear hb_3 i_3 k_3_0 c_3_0_0 c_3_0_1 c_3_0_2
  go_wp2
  go_ret
  exact (show Val _ _ _ _ from Val.mk' rfl (by (repeat (first | exact In.refl _ | assumption | apply In.alloc | apply In.drewN | apply In.drew | (refine In.step ?_ (by assumption))))))

theorem held_FnExactCanShare {w w' : World} {a0_0 : Int} {a0_1 : Int} {a0_2 : Int} {a1_0 : Int} {a1_1 : Int} {a1_2 : Int} (h : In w.heap.size w w') (k0 : Blk w' (w.heap.size) 35 #[.int .i64 a0_0, .int .i64 a0_1, .int .i64 a0_2]) (k1 : Blk w' (w.heap.size + 1) 35 #[.int .i64 a1_0, .int .i64 a1_1, .int .i64 a1_2]) :
    In w.heap.size w w' ∧ Blk w' (w.heap.size) 35 #[.int .i64 a0_0, .int .i64 a0_1, .int .i64 a0_2] ∧ Blk w' (w.heap.size + 1) 35 #[.int .i64 a1_0, .int .i64 a1_1, .int .i64 a1_2] ∧ w'.cell? ⟨w.heap.size, 0, none⟩ = some (.int .i64 a0_0) ∧ w'.cell? ⟨w.heap.size, 1, none⟩ = some (.int .i64 a0_1) ∧ w'.cell? ⟨w.heap.size, 2, none⟩ = some (.int .i64 a0_2) ∧ w'.cell? ⟨w.heap.size + 1, 0, none⟩ = some (.int .i64 a1_0) ∧ w'.cell? ⟨w.heap.size + 1, 1, none⟩ = some (.int .i64 a1_1) ∧ w'.cell? ⟨w.heap.size + 1, 2, none⟩ = some (.int .i64 a1_2) :=
  ⟨h, k0, k1, k0.cell 0, k0.cell 1, k0.cell 2, k1.cell 0, k1.cell 1, k1.cell 2⟩
theorem held_FnExactCanShare_step {w w0 w' : World} {a0_0 : Int} {a0_1 : Int} {a0_2 : Int} {a1_0 : Int} {a1_1 : Int} {a1_2 : Int} (hb : Below w0.heap.size w0 w') (h : In w.heap.size w w0 ∧ Blk w0 (w.heap.size) 35 #[.int .i64 a0_0, .int .i64 a0_1, .int .i64 a0_2] ∧ Blk w0 (w.heap.size + 1) 35 #[.int .i64 a1_0, .int .i64 a1_1, .int .i64 a1_2] ∧ w0.cell? ⟨w.heap.size, 0, none⟩ = some (.int .i64 a0_0) ∧ w0.cell? ⟨w.heap.size, 1, none⟩ = some (.int .i64 a0_1) ∧ w0.cell? ⟨w.heap.size, 2, none⟩ = some (.int .i64 a0_2) ∧ w0.cell? ⟨w.heap.size + 1, 0, none⟩ = some (.int .i64 a1_0) ∧ w0.cell? ⟨w.heap.size + 1, 1, none⟩ = some (.int .i64 a1_1) ∧ w0.cell? ⟨w.heap.size + 1, 2, none⟩ = some (.int .i64 a1_2)) :
    In w.heap.size w w' ∧ Blk w' (w.heap.size) 35 #[.int .i64 a0_0, .int .i64 a0_1, .int .i64 a0_2] ∧ Blk w' (w.heap.size + 1) 35 #[.int .i64 a1_0, .int .i64 a1_1, .int .i64 a1_2] ∧ w'.cell? ⟨w.heap.size, 0, none⟩ = some (.int .i64 a0_0) ∧ w'.cell? ⟨w.heap.size, 1, none⟩ = some (.int .i64 a0_1) ∧ w'.cell? ⟨w.heap.size, 2, none⟩ = some (.int .i64 a0_2) ∧ w'.cell? ⟨w.heap.size + 1, 0, none⟩ = some (.int .i64 a1_0) ∧ w'.cell? ⟨w.heap.size + 1, 1, none⟩ = some (.int .i64 a1_1) ∧ w'.cell? ⟨w.heap.size + 1, 2, none⟩ = some (.int .i64 a1_2) :=
  held_FnExactCanShare (h.1.step hb) (Blk.step h.2.1 hb) (Blk.step h.2.2.1 hb)
theorem walk_FnExactCanShare (a0_0 : Int) (u0_0 : (Lit.int .i64 a0_0).wf = true) (a0_1 : Int) (u0_1 : (Lit.int .i64 a0_1).wf = true) (a0_2 : Int) (u0_2 : (Lit.int .i64 a0_2).wf = true) (a1_0 : Int) (u1_0 : (Lit.int .i64 a1_0).wf = true) (a1_1 : Int) (u1_1 : (Lit.int .i64 a1_1).wf = true) (a1_2 : Int) (u1_2 : (Lit.int .i64 a1_2).wf = true) (w : World) :
    Calls Try.prog 6 #[.agg #[.int .i64 a0_0, .int .i64 a0_1, .int .i64 a0_2], .agg #[.int .i64 a1_0, .int .i64 a1_1, .int .i64 a1_2]] w fun e w' => e = .returned (.bool true) ∧ Below w.heap.size w w' := by
  clear u0_0 u0_1 u0_2 u1_0 u1_1 u1_2
  have q_0 : Blk ((w.alloc (.cells #[.int .i64 a0_0, .int .i64 a0_1, .int .i64 a0_2] 35)).alloc (.cells #[.int .i64 a1_0, .int .i64 a1_1, .int .i64 a1_2] 35)) (w.heap.size) 35 #[.int .i64 a0_0, .int .i64 a0_1, .int .i64 a0_2] := ((Blk.new w 35 #[.int .i64 a0_0, .int .i64 a0_1, .int .i64 a0_2])).alloc _
  have q_1 : Blk ((w.alloc (.cells #[.int .i64 a0_0, .int .i64 a0_1, .int .i64 a0_2] 35)).alloc (.cells #[.int .i64 a1_0, .int .i64 a1_1, .int .i64 a1_2] 35)) (w.heap.size + 1) 35 #[.int .i64 a1_0, .int .i64 a1_1, .int .i64 a1_2] := (show Blk _ (w.heap.size + 1) _ _ by have h := Blk.new (w.alloc (.cells #[.int .i64 a0_0, .int .i64 a0_1, .int .i64 a0_2] 35)) 35 #[.int .i64 a1_0, .int .i64 a1_1, .int .i64 a1_2]; simpa using h)
  go_enter Try.func6, Try.ntmps6
  go_wp2_with fail
  go_region_held3 (fun w' => In w.heap.size w w' ∧ Blk w' (w.heap.size) 35 #[.int .i64 a0_0, .int .i64 a0_1, .int .i64 a0_2] ∧ Blk w' (w.heap.size + 1) 35 #[.int .i64 a1_0, .int .i64 a1_1, .int .i64 a1_2] ∧ w'.cell? ⟨w.heap.size, 0, none⟩ = some (.int .i64 a0_0) ∧ w'.cell? ⟨w.heap.size, 1, none⟩ = some (.int .i64 a0_1) ∧ w'.cell? ⟨w.heap.size, 2, none⟩ = some (.int .i64 a0_2) ∧ w'.cell? ⟨w.heap.size + 1, 0, none⟩ = some (.int .i64 a1_0) ∧ w'.cell? ⟨w.heap.size + 1, 1, none⟩ = some (.int .i64 a1_1) ∧ w'.cell? ⟨w.heap.size + 1, 2, none⟩ = some (.int .i64 a1_2))
    (first | assumption | exact held_FnExactCanShare_step hb1 (by assumption) | exact held_FnExactCanShare (by (repeat (first | exact In.refl _ | assumption | apply In.alloc | apply In.drewN | apply In.drew | (refine In.step ?_ (by assumption))))) (by (with_reducible (repeat (first | assumption | apply Blk.drewN | apply Blk.drew | apply Blk.alloc)))) (by (with_reducible (repeat (first | assumption | apply Blk.drewN | apply Blk.drew | apply Blk.alloc)))))
    (first | (go_at_call 18; ((with_reducible refine (toBread_c a0_0 a0_1 a0_2 _).mono ?_); rintro e w1 ⟨rfl, hb1⟩)) | (go_at_call 18; ((with_reducible refine (toBread_c a1_0 a1_1 a1_2 _).mono ?_); rintro e w1 ⟨rfl, hb1⟩)) | (go_at_call 23; ((with_reducible refine (sCanShare a0_0 a0_1 a0_2 a1_0 a1_1 a1_2 _).mono ?_); rintro e w1 ⟨rfl, hb1⟩)))
  obtain ⟨i_1, k_1_0, k_1_1, c_1_0_0, c_1_0_1, c_1_0_2, c_1_1_0, c_1_1_1, c_1_1_2⟩ := ‹In w.heap.size w _ ∧ _›
  clear q_0 q_1
  go_wp2
  go_region_held3 (fun w' => In w.heap.size w w' ∧ Blk w' (w.heap.size) 35 #[.int .i64 a0_0, .int .i64 a0_1, .int .i64 a0_2] ∧ Blk w' (w.heap.size + 1) 35 #[.int .i64 a1_0, .int .i64 a1_1, .int .i64 a1_2] ∧ w'.cell? ⟨w.heap.size, 0, none⟩ = some (.int .i64 a0_0) ∧ w'.cell? ⟨w.heap.size, 1, none⟩ = some (.int .i64 a0_1) ∧ w'.cell? ⟨w.heap.size, 2, none⟩ = some (.int .i64 a0_2) ∧ w'.cell? ⟨w.heap.size + 1, 0, none⟩ = some (.int .i64 a1_0) ∧ w'.cell? ⟨w.heap.size + 1, 1, none⟩ = some (.int .i64 a1_1) ∧ w'.cell? ⟨w.heap.size + 1, 2, none⟩ = some (.int .i64 a1_2))
    (first | assumption | exact held_FnExactCanShare_step hb1 (by assumption) | exact held_FnExactCanShare (by (repeat (first | exact In.refl _ | assumption | apply In.alloc | apply In.drewN | apply In.drew | (refine In.step ?_ (by assumption))))) (by (with_reducible (repeat (first | assumption | apply Blk.drewN | apply Blk.drew | apply Blk.alloc)))) (by (with_reducible (repeat (first | assumption | apply Blk.drewN | apply Blk.drew | apply Blk.alloc)))))
    (first | (go_at_call 18; ((with_reducible refine (toBread_c a0_0 a0_1 a0_2 _).mono ?_); rintro e w1 ⟨rfl, hb1⟩)) | (go_at_call 18; ((with_reducible refine (toBread_c a1_0 a1_1 a1_2 _).mono ?_); rintro e w1 ⟨rfl, hb1⟩)) | (go_at_call 14; ((with_reducible refine (iCanShare a0_0 a0_1 a0_2 a1_0 a1_1 a1_2 _).mono ?_); rintro e w1 ⟨rfl, hb1⟩)))
  obtain ⟨i_2, k_2_0, k_2_1, c_2_0_0, c_2_0_1, c_2_0_2, c_2_1_0, c_2_1_1, c_2_1_2⟩ := ‹In w.heap.size w _ ∧ _›
  clear i_1 k_1_0 k_1_1 c_1_0_0 c_1_0_1 c_1_0_2 c_1_1_0 c_1_1_1 c_1_1_2
  go_wp2
  go_ret
  exact (show Val _ _ _ _ from Val.mk' rfl (by (repeat (first | exact In.refl _ | assumption | apply In.alloc | apply In.drewN | apply In.drew | (refine In.step ?_ (by assumption))))))

end Go.Proofs.Ytjcmdmiafeaeoaa
