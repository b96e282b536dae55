/- The law of chapter 19: EvenSlices -/
import Derived.Test.YthndjpklfgcpmaaIntS
import Derived.Test.YthndjpklfgcpmaaIntI
import Derived.Test.YthndjpklfgcpmaaIntE
import Derived.Test.YthndjpklfgcpmaaOwnI
import Derived.Test.YthndjpklfgcpmaaOwnM
import Derived.Test.YthndjpklfgcpmaaG19
namespace Go.Proofs.Ythndjpklfgcpmaa
open Go.ChangeShapes Go.WideShapes Go.ChangeAt Go.RowKit
set_option linter.unusedVariables false
set_option linter.unusedSimpArgs false

set_option maxHeartbeats 2000000 in
set_option maxRecDepth 20000 in
theorem walk_FnExactEvenSlices (a0 : Int) (u0 : (Lit.int .i64 a0).wf = true) (a1 : Int) (u1 : (Lit.int .i64 a1).wf = true) (w : World)  :
    Calls Try.prog 3 #[.int .i64 a0, .int .i64 a1] w fun e w' => e = .returned (.bool true) ∧ Below w.heap.size w w' := by
  clear u0 u1
  have hzl : (EvenL a0 a1).length ≤ 100000 := Nat.le_trans (EvenL_len a0 a1) (by decide)
  go_enter Try.func3, Try.ntmps3
  go_wp2_with fail
  refine (sEvenSlices a0 a1 _ ).mono ?_
  rintro _ w_1 ⟨A_W, c_W, rfl, ho_1, hb_1⟩
  have i_1 : In w.heap.size w w_1 := In.step (by (repeat (first | exact In.refl _ | assumption | apply In.alloc | apply In.drewN | apply In.drew | (refine In.step ?_ (by assumption))))) hb_1
  have HW := Lib.hid (reads_own_i ho_1)
  have IC := Lib.hid i_1
  clear ho_1
  have j_1 : In w_1.heap.size w_1 w_1 := In.refl _
  have CB : Hid (w_1.heap.size ≤ w_1.heap.size) := Lib.hid (Nat.le_refl _)
  go_wp2_with fail
  refine (iEvenSlices a0 a1 _ ).mono ?_
  rintro _ w_2 ⟨A_G, c_G, rfl, ho_2, hb_2⟩
  have og_2 : w_2.ownsRow w_1.heap.size 3 1 (.slice A_G (EvenL a0 a1).length c_G) (EvenL a0 a1).length (iv (EvenL a0 a1)) := own_base ho_2 (In.size (B := w_1.heap.size) (a := w_1) (by (repeat (first | exact In.refl _ | assumption | apply In.alloc | apply In.drewN | apply In.drew | (refine In.step ?_ (by assumption))))))
  clear ho_2
  have j_2 : In w_1.heap.size w_1 w_2 := In.step (by (repeat (first | exact In.refl _ | assumption | apply In.alloc | apply In.drewN | apply In.drew | (refine In.step ?_ (by assumption))))) hb_2
  have sz_2 : w_1.heap.size ≤ w_2.heap.size := by
    have h := hb_2.size
    (try simp at h)
    omega
  clear hb_1 i_1 j_1
  go_wp2_with fail
  refine (eqI_c A_G A_W (EvenL a0 a1).length c_G c_W (EvenL a0 a1) _ (by unfold maxLen; omega) (by exact reads_own_i (by (with_reducible (repeat (first | assumption | apply World.ownsRow.drew | apply World.ownsRow.alloc))))) (by exact HW.out.below (In.below (by (repeat (first | exact In.refl _ | assumption | apply In.alloc | apply In.drewN | apply In.drew | (refine In.step ?_ (by assumption)))))) (Nat.le_refl _))).mono ?_
  rintro _ w_3 ⟨rfl, hb_3⟩
  have j_3 : In w_1.heap.size w_1 w_3 := In.step (by (repeat (first | exact In.refl _ | assumption | apply In.alloc | apply In.drewN | apply In.drew | (refine In.step ?_ (by assumption))))) hb_3
  have sz_3 : w_1.heap.size ≤ w_3.heap.size := by
    have h := hb_3.size
    (try simp at h)
    omega
  have og_3 : w_3.ownsRow w_1.heap.size 3 1 (.slice A_G (EvenL a0 a1).length c_G) (EvenL a0 a1).length (iv (EvenL a0 a1)) := own_step (by (with_reducible (repeat (first | assumption | apply World.ownsRow.drew | apply World.ownsRow.alloc)))) hb_3
  clear hb_2 j_2 sz_2 og_2
  go_wp2_with fail
  refine (markI_c A_G (EvenL a0 a1).length c_G 1 w_1.heap.size (EvenL a0 a1) _ (by omega) (by omega) (by first | assumption | (simp; omega)) (by (with_reducible (repeat (first | assumption | apply World.ownsRow.drew | apply World.ownsRow.alloc))))).mono ?_
  rintro _ w_4 ⟨rfl, og_4, hb_4⟩
  have j_4 : In w_1.heap.size w_1 w_4 := In.wide (by (repeat (first | exact In.refl _ | assumption | apply In.alloc | apply In.drewN | apply In.drew | (refine In.step ?_ (by assumption))))) (hb_4.mono CB.out)
  have sz_4 : w_1.heap.size ≤ w_4.heap.size := by
    have h := hb_4.size
    (try simp at h)
    omega
  clear hb_3 j_3 sz_3 og_3
  go_wp2_with fail
  refine (heldI_c A_G (EvenL a0 a1).length c_G 1 _ (by omega) (by omega) (by exact reads_own_i (by (with_reducible (repeat (first | assumption | apply World.ownsRow.drew | apply World.ownsRow.alloc)))))).mono ?_
  rintro _ w_5 ⟨rfl, hb_5⟩
  have j_5 : In w_1.heap.size w_1 w_5 := In.step (by (repeat (first | exact In.refl _ | assumption | apply In.alloc | apply In.drewN | apply In.drew | (refine In.step ?_ (by assumption))))) hb_5
  have sz_5 : w_1.heap.size ≤ w_5.heap.size := by
    have h := hb_5.size
    (try simp at h)
    omega
  have og_5 : w_5.ownsRow w_1.heap.size 3 1 (.slice A_G (EvenL a0 a1).length c_G) (EvenL a0 a1).length (iv (marksI 1 (EvenL a0 a1).length)) := own_step (by (with_reducible (repeat (first | assumption | apply World.ownsRow.drew | apply World.ownsRow.alloc)))) hb_5
  clear hb_4 j_4 sz_4 og_4
  go_wp2_with fail
  refine (iEvenSlices a0 a1 _ ).mono ?_
  rintro _ w_6 ⟨A_H, c_H, rfl, ho_6, hb_6⟩
  have xh : ReadsI w_6 A_H (EvenL a0 a1).length (EvenL a0 a1) := reads_own_i ho_6
  clear ho_6
  have j_6 : In w_1.heap.size w_1 w_6 := In.step (by (repeat (first | exact In.refl _ | assumption | apply In.alloc | apply In.drewN | apply In.drew | (refine In.step ?_ (by assumption))))) hb_6
  have sz_6 : w_1.heap.size ≤ w_6.heap.size := by
    have h := hb_6.size
    (try simp at h)
    omega
  have og_6 : w_6.ownsRow w_1.heap.size 3 1 (.slice A_G (EvenL a0 a1).length c_G) (EvenL a0 a1).length (iv (marksI 1 (EvenL a0 a1).length)) := own_step (by (with_reducible (repeat (first | assumption | apply World.ownsRow.drew | apply World.ownsRow.alloc)))) hb_6
  clear hb_5 j_5 sz_5 og_5
  go_wp2_with fail
  refine (eqI_c A_H A_W (EvenL a0 a1).length c_H c_W (EvenL a0 a1) _ (by unfold maxLen; omega) (by exact (by (with_reducible (repeat (first | assumption | apply ReadsI.drewN | apply ReadsI.drew | apply ReadsI.alloc))))) (by exact HW.out.below (In.below (by (repeat (first | exact In.refl _ | assumption | apply In.alloc | apply In.drewN | apply In.drew | (refine In.step ?_ (by assumption)))))) (Nat.le_refl _))).mono ?_
  rintro _ w_7 ⟨rfl, hb_7⟩
  have j_7 : In w_1.heap.size w_1 w_7 := In.step (by (repeat (first | exact In.refl _ | assumption | apply In.alloc | apply In.drewN | apply In.drew | (refine In.step ?_ (by assumption))))) hb_7
  have sz_7 : w_1.heap.size ≤ w_7.heap.size := by
    have h := hb_7.size
    (try simp at h)
    omega
  have og_7 : w_7.ownsRow w_1.heap.size 3 1 (.slice A_G (EvenL a0 a1).length c_G) (EvenL a0 a1).length (iv (marksI 1 (EvenL a0 a1).length)) := own_step (by (with_reducible (repeat (first | assumption | apply World.ownsRow.drew | apply World.ownsRow.alloc)))) hb_7
  clear hb_6 j_6 sz_6 og_6
  clear xh
  go_wp2_with fail
  refine (heldI_c A_G (EvenL a0 a1).length c_G 1 _ (by omega) (by omega) (by exact reads_own_i (by (with_reducible (repeat (first | assumption | apply World.ownsRow.drew | apply World.ownsRow.alloc)))))).mono ?_
  rintro _ w_8 ⟨rfl, hb_8⟩
  have j_8 : In w_1.heap.size w_1 w_8 := In.step (by (repeat (first | exact In.refl _ | assumption | apply In.alloc | apply In.drewN | apply In.drew | (refine In.step ?_ (by assumption))))) hb_8
  have sz_8 : w_1.heap.size ≤ w_8.heap.size := by
    have h := hb_8.size
    (try simp at h)
    omega
  have og_8 : w_8.ownsRow w_1.heap.size 3 1 (.slice A_G (EvenL a0 a1).length c_G) (EvenL a0 a1).length (iv (marksI 1 (EvenL a0 a1).length)) := own_step (by (with_reducible (repeat (first | assumption | apply World.ownsRow.drew | apply World.ownsRow.alloc)))) hb_8
  clear hb_7 j_7 sz_7 og_7
  go_wp2
  go_ret
  exact (show Val _ _ _ _ from Val.mk' rfl (IC.out.trans (by (repeat (first | exact In.refl _ | assumption | apply In.alloc | apply In.drewN | apply In.drew | (refine In.step ?_ (by assumption)))))))

end Go.Proofs.Ythndjpklfgcpmaa
