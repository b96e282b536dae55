/- Chapter 9: the walk of PlacesOf's exact law. -/
import Derived.Test.YtkchjkhcpenpfagP09
import Derived.Test.YtkchjkhcpenpfagIntE
import Derived.Test.YtkchjkhcpenpfagIntS
namespace Go.Proofs.Ytkchjkhcpenpfag
open Go.ChangeShapes Go.WideShapes Go.ChangeAt Go.RowKit
set_option linter.unusedVariables false
set_option linter.unusedSimpArgs false

set_option maxHeartbeats 1000000 in
theorem walk_FnExactPlacesOf (a0 : Int) (u0 : (Lit.int .i64 a0).wf = true) (a1 : Int) (u1 : (Lit.int .i64 a1).wf = true) (a2 : Int) (u2 : (Lit.int .i64 a2).wf = true) (w : World) :
    Calls Try.prog 8 #[.int .i64 a0, .int .i64 a1, .int .i64 a2] w fun e w' => e = .returned (.bool true) ∧ Below w.heap.size w w' := by
  clear u0 u1 u2
  obtain ⟨zs, HS, HI, hn⟩ : ∃ zs, Hid (∀ W, Calls Try.prog 20 #[.int .i64 a0, .int .i64 a1, .int .i64 a2] W (RowB zs W)) ∧ Hid (∀ W, Calls Try.prog 12 #[.int .i64 a0, .int .i64 a1, .int .i64 a2] W (RowB zs W)) ∧ zs.length ≤ 100000 := ⟨PlacesOfL a0 a1 a2, fun W => sPlacesOfR a0 a1 a2 W, fun W => iPlacesOfR a0 a1 a2 W, PlacesOfL_len a0 a1 a2⟩
  go_enter Try.func8, Try.ntmps8
  go_wp2_with fail
  refine (HS.out _).mono ?_
  rintro _ w_1 ⟨A_W, c_W, rfl, ho_1, hb_1⟩
  have i_1 : In w.heap.size w w_1 := In.step (by (repeat (first | exact In.refl _ | assumption | apply In.alloc | apply In.drewN | apply In.drew | (refine In.step ?_ (by assumption))))) hb_1
  have xw_1 : ReadsI w_1 A_W zs.length zs := reads_own_i ho_1
  clear ho_1
  have HB := Lib.hid xw_1
  have ib := i_1
  go_wp2_with fail
  refine (HI.out _).mono ?_
  rintro _ w_2 ⟨A_G, c_G, rfl, ho_2, hb_2⟩
  have og_2 : w_2.ownsRow w_1.heap.size 3 1 (.slice A_G zs.length c_G) zs.length (iv zs) := own_base ho_2 (In.size (B := w_1.heap.size) (a := w_1) (by (repeat (first | exact In.refl _ | assumption | apply In.alloc | apply In.drewN | apply In.drew | (refine In.step ?_ (by assumption))))))
  clear ho_2
  have j_2 : In w_1.heap.size w_1 w_2 := In.step (by (repeat (first | exact In.refl _ | assumption | apply In.alloc | apply In.drewN | apply In.drew | (refine In.step ?_ (by assumption))))) hb_2
  clear hb_1 i_1 xw_1
  go_wp2_with fail
  refine (eqI_c A_G A_W zs.length c_G c_W zs _ (by unfold maxLen; omega) (by exact reads_own_i (by (with_reducible (repeat (first | assumption | apply World.ownsRow.drew | apply World.ownsRow.alloc))))) (by exact HB.out.below (In.below (by (repeat (first | exact In.refl _ | assumption | apply In.alloc | apply In.drewN | apply In.drew | (refine In.step ?_ (by assumption)))))) (Nat.le_refl _))).mono ?_
  rintro _ w_3 ⟨rfl, hb_3⟩
  have j_3 : In w_1.heap.size w_1 w_3 := In.step (by (repeat (first | exact In.refl _ | assumption | apply In.alloc | apply In.drewN | apply In.drew | (refine In.step ?_ (by assumption))))) hb_3
  have og_3 : w_3.ownsRow w_1.heap.size 3 1 (.slice A_G zs.length c_G) zs.length (iv zs) := own_step (by (with_reducible (repeat (first | assumption | apply World.ownsRow.drew | apply World.ownsRow.alloc)))) hb_3
  clear hb_2 j_2 og_2
  go_wp2_with fail
  refine (markI_c A_G zs.length c_G 1 w_1.heap.size zs _ (by omega) (by omega) (by exact In.size (B := w_1.heap.size) (a := w_1) (by (repeat (first | exact In.refl _ | assumption | apply In.alloc | apply In.drewN | apply In.drew | (refine In.step ?_ (by assumption)))))) (by (with_reducible (repeat (first | assumption | apply World.ownsRow.drew | apply World.ownsRow.alloc))))).mono ?_
  rintro _ w_4 ⟨rfl, og_4, hb_4⟩
  have j_4 : In w_1.heap.size w_1 w_4 := In.wide (by (repeat (first | exact In.refl _ | assumption | apply In.alloc | apply In.drewN | apply In.drew | (refine In.step ?_ (by assumption))))) hb_4
  clear hb_3 j_3 og_3
  go_wp2_with fail
  refine (heldI_c A_G zs.length c_G 1 _ (by omega) (by omega) (by exact reads_own_i (by (with_reducible (repeat (first | assumption | apply World.ownsRow.drew | apply World.ownsRow.alloc)))))).mono ?_
  rintro _ w_5 ⟨rfl, hb_5⟩
  have j_5 : In w_1.heap.size w_1 w_5 := In.step (by (repeat (first | exact In.refl _ | assumption | apply In.alloc | apply In.drewN | apply In.drew | (refine In.step ?_ (by assumption))))) hb_5
  have og_5 : w_5.ownsRow w_1.heap.size 3 1 (.slice A_G zs.length c_G) zs.length (iv (marksI 1 zs.length)) := own_step (by (with_reducible (repeat (first | assumption | apply World.ownsRow.drew | apply World.ownsRow.alloc)))) hb_5
  clear hb_4 j_4 og_4
  go_wp2_with fail
  refine (HI.out _).mono ?_
  rintro _ w_6 ⟨A_H, c_H, rfl, ho_6, hb_6⟩
  have xh : ReadsI w_6 A_H zs.length zs := reads_own_i ho_6
  clear ho_6
  have j_6 : In w_1.heap.size w_1 w_6 := In.step (by (repeat (first | exact In.refl _ | assumption | apply In.alloc | apply In.drewN | apply In.drew | (refine In.step ?_ (by assumption))))) hb_6
  have og_6 : w_6.ownsRow w_1.heap.size 3 1 (.slice A_G zs.length c_G) zs.length (iv (marksI 1 zs.length)) := own_step (by (with_reducible (repeat (first | assumption | apply World.ownsRow.drew | apply World.ownsRow.alloc)))) hb_6
  clear hb_5 j_5 og_5
  go_wp2_with fail
  refine (eqI_c A_H A_W zs.length c_H c_W zs _ (by unfold maxLen; omega) (by exact (by (with_reducible (repeat (first | assumption | apply ReadsI.drewN | apply ReadsI.drew | apply ReadsI.alloc))))) (by exact HB.out.below (In.below (by (repeat (first | exact In.refl _ | assumption | apply In.alloc | apply In.drewN | apply In.drew | (refine In.step ?_ (by assumption)))))) (Nat.le_refl _))).mono ?_
  rintro _ w_7 ⟨rfl, hb_7⟩
  have j_7 : In w_1.heap.size w_1 w_7 := In.step (by (repeat (first | exact In.refl _ | assumption | apply In.alloc | apply In.drewN | apply In.drew | (refine In.step ?_ (by assumption))))) hb_7
  have og_7 : w_7.ownsRow w_1.heap.size 3 1 (.slice A_G zs.length c_G) zs.length (iv (marksI 1 zs.length)) := own_step (by (with_reducible (repeat (first | assumption | apply World.ownsRow.drew | apply World.ownsRow.alloc)))) hb_7
  clear hb_6 j_6 og_6
  clear xh
  go_wp2_with fail
  refine (heldI_c A_G zs.length c_G 1 _ (by omega) (by omega) (by exact reads_own_i (by (with_reducible (repeat (first | assumption | apply World.ownsRow.drew | apply World.ownsRow.alloc)))))).mono ?_
  rintro _ w_8 ⟨rfl, hb_8⟩
  have j_8 : In w_1.heap.size w_1 w_8 := In.step (by (repeat (first | exact In.refl _ | assumption | apply In.alloc | apply In.drewN | apply In.drew | (refine In.step ?_ (by assumption))))) hb_8
  have og_8 : w_8.ownsRow w_1.heap.size 3 1 (.slice A_G zs.length c_G) zs.length (iv (marksI 1 zs.length)) := own_step (by (with_reducible (repeat (first | assumption | apply World.ownsRow.drew | apply World.ownsRow.alloc)))) hb_8
  clear hb_7 j_7 og_7
  go_wp2
  go_ret
  exact (show Val _ _ _ _ from Val.mk' rfl (ib.trans (by (repeat (first | exact In.refl _ | assumption | apply In.alloc | apply In.drewN | apply In.drew | (refine In.step ?_ (by assumption)))))))

end Go.Proofs.Ytkchjkhcpenpfag
