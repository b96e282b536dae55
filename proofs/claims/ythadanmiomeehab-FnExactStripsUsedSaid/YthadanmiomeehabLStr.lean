/- The law of StripsUsed. -/
import Derived.Test.YthadanmiomeehabStrS
import Derived.Test.YthadanmiomeehabStrI
import Derived.Test.YthadanmiomeehabOwnI
import Derived.Test.YthadanmiomeehabIntE
import Derived.Test.YthadanmiomeehabIntT
namespace Go.Proofs.Ythadanmiomeehab
open Go.ChangeShapes Go.WideShapes Go.ChangeAt Go.RowKit
set_option linter.unusedVariables false
set_option linter.unusedSimpArgs false

set_option maxHeartbeats 1000000 in
theorem walk_FnExactStripsUsed (a0 : Option Addr) (len0 cap0 : Nat) (z0 : List Int) (a1 : Int) (u1 : (Lit.int .i64 a1).wf = true) (a2 : Option Addr) (len2 cap2 : Nat) (z2 : List Int) (w : World) (w0 : IsRow .i64 w a0 len0 cap0 z0) (w2 : IsRow .i64 w a2 len2 cap2 z2) :
    Calls Try.prog 7 #[.slice a0 len0 cap0, .int .i64 a1, .slice a2 len2 cap2] w fun e w' => e = .returned (.bool true) ∧ Below w.heap.size w w' := by
  clear u1
  have r0 := reads_row w0
  have m0 := row_le w0
  clear w0
  have R0 := Lib.hid r0
  clear r0
  have r2 := reads_row w2
  have m2 := row_le w2
  clear w2
  have R2 := Lib.hid r2
  clear r2
  by_cases g0 : (1048576 : Int) < (len0 : Int)
  · have g0' := g0
    unfold maxLen at m0
    go_enter Try.func7, Try.ntmps7
    go_wp2
    go_ret
    exact (show Val _ _ _ _ from Val.mk' rfl (by (repeat (first | exact In.refl _ | assumption | apply In.alloc | apply In.drewN | apply In.drew | (refine In.step ?_ (by assumption))))))
  have g0' : (len0 : Int) ≤ 1048576 := by omega
  clear g0
  by_cases g2 : (1048576 : Int) < (len2 : Int)
  · have g2' := g2
    unfold maxLen at m2
    go_enter Try.func7, Try.ntmps7
    go_wp2
    go_ret
    exact (show Val _ _ _ _ from Val.mk' rfl (by (repeat (first | exact In.refl _ | assumption | apply In.alloc | apply In.drewN | apply In.drew | (refine In.step ?_ (by assumption))))))
  have g2' : (len2 : Int) ≤ 1048576 := by omega
  clear g2
  have hm0 : len0 ≤ 1048576 := by omega
  have hm2 : len2 ≤ 1048576 := by omega
  go_enter Try.func7, Try.ntmps7
  go_wp2_with fail
  refine (toIntS_c a0 len0 cap0 (z0.take len0) _ (by omega) (by exact R0.out.below (In.below (by (repeat (first | exact In.refl _ | assumption | apply In.alloc | apply In.drewN | apply In.drew | (refine In.step ?_ (by assumption)))))) (Nat.le_refl _))).mono ?_
  rintro _ w_1 ⟨g_1, rfl, ho_1, hg_1, hb_1⟩
  have x_1_t1 := OwnInt.reads ho_1
  clear ho_1 hg_1
  have hl_1 : ((z0.take len0)).length = len0 := R0.out.1
  rw [hl_1] at x_1_t1
  rw [hl_1]
  clear hl_1
  have i_1 : In w.heap.size w w_1 := In.step (by (repeat (first | exact In.refl _ | assumption | apply In.alloc | apply In.drewN | apply In.drew | (refine In.step ?_ (by assumption))))) hb_1
  go_wp2_with fail
  refine (toIntS_c a2 len2 cap2 (z2.take len2) _ (by omega) (by exact R2.out.below (In.below (by (repeat (first | exact In.refl _ | assumption | apply In.alloc | apply In.drewN | apply In.drew | (refine In.step ?_ (by assumption)))))) (Nat.le_refl _))).mono ?_
  rintro _ w_2 ⟨g_2, rfl, ho_2, hg_2, hb_2⟩
  have x_2_t2 := OwnInt.reads ho_2
  clear ho_2 hg_2
  have hl_2 : ((z2.take len2)).length = len2 := R2.out.1
  rw [hl_2] at x_2_t2
  rw [hl_2]
  clear hl_2
  have i_2 : In w.heap.size w w_2 := In.step (by (repeat (first | exact In.refl _ | assumption | apply In.alloc | apply In.drewN | apply In.drew | (refine In.step ?_ (by assumption))))) hb_2
  have x_2_t1 : ReadsI w_2 ((some ⟨g_1, 0, none⟩)) len0 (z0.take len0) := ReadsI.step (by (with_reducible (repeat (first | assumption | apply ReadsI.drewN | apply ReadsI.drew | apply ReadsI.alloc)))) hb_2
  clear hb_1 i_1 x_1_t1
  go_wp2_with fail
  refine (sStripsUsed ((some ⟨g_1, 0, none⟩)) len0 len0 (z0.take len0) a1 ((some ⟨g_2, 0, none⟩)) len2 len2 (z2.take len2) _ (by (try unfold maxLen); omega) (by exact (show ReadsI _ _ _ _ from by (with_reducible (repeat (first | assumption | apply ReadsI.drewN | apply ReadsI.drew | apply ReadsI.alloc))))) (by (try unfold maxLen); omega) (by exact (show ReadsI _ _ _ _ from by (with_reducible (repeat (first | assumption | apply ReadsI.drewN | apply ReadsI.drew | apply ReadsI.alloc)))))).mono ?_
  rintro _ w_3 ⟨rfl, hb_3⟩
  have i_3 : In w.heap.size w w_3 := In.step (by (repeat (first | exact In.refl _ | assumption | apply In.alloc | apply In.drewN | apply In.drew | (refine In.step ?_ (by assumption))))) hb_3
  clear hb_2 i_2 x_2_t1 x_2_t2
  go_wp2_with fail
  refine (toIntS_c a0 len0 cap0 (z0.take len0) _ (by omega) (by exact R0.out.below (In.below (by (repeat (first | exact In.refl _ | assumption | apply In.alloc | apply In.drewN | apply In.drew | (refine In.step ?_ (by assumption)))))) (Nat.le_refl _))).mono ?_
  rintro _ w_4 ⟨g_4, rfl, ho_4, hg_4, hb_4⟩
  have x_4_t3 := OwnInt.reads ho_4
  clear ho_4 hg_4
  have hl_4 : ((z0.take len0)).length = len0 := R0.out.1
  rw [hl_4] at x_4_t3
  rw [hl_4]
  clear hl_4
  have i_4 : In w.heap.size w w_4 := In.step (by (repeat (first | exact In.refl _ | assumption | apply In.alloc | apply In.drewN | apply In.drew | (refine In.step ?_ (by assumption))))) hb_4
  clear hb_3 i_3
  go_wp2_with fail
  refine (toIntS_c a2 len2 cap2 (z2.take len2) _ (by omega) (by exact R2.out.below (In.below (by (repeat (first | exact In.refl _ | assumption | apply In.alloc | apply In.drewN | apply In.drew | (refine In.step ?_ (by assumption)))))) (Nat.le_refl _))).mono ?_
  rintro _ w_5 ⟨g_5, rfl, ho_5, hg_5, hb_5⟩
  have x_5_t4 := OwnInt.reads ho_5
  clear ho_5 hg_5
  have hl_5 : ((z2.take len2)).length = len2 := R2.out.1
  rw [hl_5] at x_5_t4
  rw [hl_5]
  clear hl_5
  have i_5 : In w.heap.size w w_5 := In.step (by (repeat (first | exact In.refl _ | assumption | apply In.alloc | apply In.drewN | apply In.drew | (refine In.step ?_ (by assumption))))) hb_5
  have x_5_t3 : ReadsI w_5 ((some ⟨g_4, 0, none⟩)) len0 (z0.take len0) := ReadsI.step (by (with_reducible (repeat (first | assumption | apply ReadsI.drewN | apply ReadsI.drew | apply ReadsI.alloc)))) hb_5
  clear hb_4 i_4 x_4_t3
  go_wp2_with fail
  refine (iStripsUsed ((some ⟨g_4, 0, none⟩)) len0 len0 (z0.take len0) a1 ((some ⟨g_5, 0, none⟩)) len2 len2 (z2.take len2) _ (by (try unfold maxLen); omega) (by exact (show ReadsI _ _ _ _ from by (with_reducible (repeat (first | assumption | apply ReadsI.drewN | apply ReadsI.drew | apply ReadsI.alloc))))) (by (try unfold maxLen); omega) (by exact (show ReadsI _ _ _ _ from by (with_reducible (repeat (first | assumption | apply ReadsI.drewN | apply ReadsI.drew | apply ReadsI.alloc)))))).mono ?_
  rintro _ w_6 ⟨rfl, hb_6⟩
  have i_6 : In w.heap.size w w_6 := In.step (by (repeat (first | exact In.refl _ | assumption | apply In.alloc | apply In.drewN | apply In.drew | (refine In.step ?_ (by assumption))))) hb_6
  have x_6_t3 : ReadsI w_6 ((some ⟨g_4, 0, none⟩)) len0 (z0.take len0) := ReadsI.step (by (with_reducible (repeat (first | assumption | apply ReadsI.drewN | apply ReadsI.drew | apply ReadsI.alloc)))) hb_6
  have x_6_t4 : ReadsI w_6 ((some ⟨g_5, 0, none⟩)) len2 (z2.take len2) := ReadsI.step (by (with_reducible (repeat (first | assumption | apply ReadsI.drewN | apply ReadsI.drew | apply ReadsI.alloc)))) hb_6
  clear hb_5 i_5 x_5_t3 x_5_t4
  go_wp2_with fail
  refine (toIntS_c a0 len0 cap0 (z0.take len0) _ (by omega) (by exact R0.out.below (In.below (by (repeat (first | exact In.refl _ | assumption | apply In.alloc | apply In.drewN | apply In.drew | (refine In.step ?_ (by assumption)))))) (Nat.le_refl _))).mono ?_
  rintro _ w_7 ⟨g_7, rfl, ho_7, hg_7, hb_7⟩
  have x_7_t5 := OwnInt.reads ho_7
  clear ho_7 hg_7
  have hl_7 : ((z0.take len0)).length = len0 := R0.out.1
  rw [hl_7] at x_7_t5
  rw [hl_7]
  clear hl_7
  have i_7 : In w.heap.size w w_7 := In.step (by (repeat (first | exact In.refl _ | assumption | apply In.alloc | apply In.drewN | apply In.drew | (refine In.step ?_ (by assumption))))) hb_7
  have x_7_t3 : ReadsI w_7 ((some ⟨g_4, 0, none⟩)) len0 (z0.take len0) := ReadsI.step (by (with_reducible (repeat (first | assumption | apply ReadsI.drewN | apply ReadsI.drew | apply ReadsI.alloc)))) hb_7
  have x_7_t4 : ReadsI w_7 ((some ⟨g_5, 0, none⟩)) len2 (z2.take len2) := ReadsI.step (by (with_reducible (repeat (first | assumption | apply ReadsI.drewN | apply ReadsI.drew | apply ReadsI.alloc)))) hb_7
  clear hb_6 i_6 x_6_t3 x_6_t4
  go_wp2_with fail
  refine (eqI_c ((some ⟨g_4, 0, none⟩)) ((some ⟨g_7, 0, none⟩)) len0 (len0) (len0) (z0.take len0) _ (by (try unfold maxLen); omega) (by (with_reducible (repeat (first | assumption | apply ReadsI.drewN | apply ReadsI.drew | apply ReadsI.alloc)))) (by (with_reducible (repeat (first | assumption | apply ReadsI.drewN | apply ReadsI.drew | apply ReadsI.alloc))))).mono ?_
  rintro _ w_8 ⟨rfl, hb_8⟩
  have i_8 : In w.heap.size w w_8 := In.step (by (repeat (first | exact In.refl _ | assumption | apply In.alloc | apply In.drewN | apply In.drew | (refine In.step ?_ (by assumption))))) hb_8
  have x_8_t3 : ReadsI w_8 ((some ⟨g_4, 0, none⟩)) len0 (z0.take len0) := ReadsI.step (by (with_reducible (repeat (first | assumption | apply ReadsI.drewN | apply ReadsI.drew | apply ReadsI.alloc)))) hb_8
  have x_8_t4 : ReadsI w_8 ((some ⟨g_5, 0, none⟩)) len2 (z2.take len2) := ReadsI.step (by (with_reducible (repeat (first | assumption | apply ReadsI.drewN | apply ReadsI.drew | apply ReadsI.alloc)))) hb_8
  clear hb_7 i_7 x_7_t3 x_7_t4 x_7_t5
  go_wp2_with fail
  refine (toIntS_c a2 len2 cap2 (z2.take len2) _ (by omega) (by exact R2.out.below (In.below (by (repeat (first | exact In.refl _ | assumption | apply In.alloc | apply In.drewN | apply In.drew | (refine In.step ?_ (by assumption)))))) (Nat.le_refl _))).mono ?_
  rintro _ w_9 ⟨g_9, rfl, ho_9, hg_9, hb_9⟩
  have x_9_t6 := OwnInt.reads ho_9
  clear ho_9 hg_9
  have hl_9 : ((z2.take len2)).length = len2 := R2.out.1
  rw [hl_9] at x_9_t6
  rw [hl_9]
  clear hl_9
  have i_9 : In w.heap.size w w_9 := In.step (by (repeat (first | exact In.refl _ | assumption | apply In.alloc | apply In.drewN | apply In.drew | (refine In.step ?_ (by assumption))))) hb_9
  have x_9_t3 : ReadsI w_9 ((some ⟨g_4, 0, none⟩)) len0 (z0.take len0) := ReadsI.step (by (with_reducible (repeat (first | assumption | apply ReadsI.drewN | apply ReadsI.drew | apply ReadsI.alloc)))) hb_9
  have x_9_t4 : ReadsI w_9 ((some ⟨g_5, 0, none⟩)) len2 (z2.take len2) := ReadsI.step (by (with_reducible (repeat (first | assumption | apply ReadsI.drewN | apply ReadsI.drew | apply ReadsI.alloc)))) hb_9
  clear hb_8 i_8 x_8_t3 x_8_t4
  go_wp2_with fail
  refine (eqI_c ((some ⟨g_5, 0, none⟩)) ((some ⟨g_9, 0, none⟩)) len2 (len2) (len2) (z2.take len2) _ (by (try unfold maxLen); omega) (by (with_reducible (repeat (first | assumption | apply ReadsI.drewN | apply ReadsI.drew | apply ReadsI.alloc)))) (by (with_reducible (repeat (first | assumption | apply ReadsI.drewN | apply ReadsI.drew | apply ReadsI.alloc))))).mono ?_
  rintro _ w_10 ⟨rfl, hb_10⟩
  have i_10 : In w.heap.size w w_10 := In.step (by (repeat (first | exact In.refl _ | assumption | apply In.alloc | apply In.drewN | apply In.drew | (refine In.step ?_ (by assumption))))) hb_10
  have x_10_t3 : ReadsI w_10 ((some ⟨g_4, 0, none⟩)) len0 (z0.take len0) := ReadsI.step (by (with_reducible (repeat (first | assumption | apply ReadsI.drewN | apply ReadsI.drew | apply ReadsI.alloc)))) hb_10
  have x_10_t4 : ReadsI w_10 ((some ⟨g_5, 0, none⟩)) len2 (z2.take len2) := ReadsI.step (by (with_reducible (repeat (first | assumption | apply ReadsI.drewN | apply ReadsI.drew | apply ReadsI.alloc)))) hb_10
  clear hb_9 i_9 x_9_t3 x_9_t4 x_9_t6
  go_wp2
  go_ret
  exact (show Val _ _ _ _ from Val.mk' rfl (by (repeat (first | exact In.refl _ | assumption | apply In.alloc | apply In.drewN | apply In.drew | (refine In.step ?_ (by assumption))))))

end Go.Proofs.Ythadanmiomeehab
