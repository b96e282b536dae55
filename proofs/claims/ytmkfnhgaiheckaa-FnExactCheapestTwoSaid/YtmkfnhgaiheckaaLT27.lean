/- Chapter 27: CheapestTwo. -/
import Derived.Test.YtmkfnhgaiheckaaSFlour
import Derived.Test.YtmkfnhgaiheckaaIntE
import Derived.Test.YtmkfnhgaiheckaaW27
import Derived.Test.YtmkfnhgaiheckaaY27
namespace Go.Proofs.Ytmkfnhgaiheckaa
open Go.ChangeShapes Go.WideShapes Go.ChangeAt Go.RowKit
set_option linter.unusedVariables false
set_option linter.unusedSimpArgs false

set_option maxHeartbeats 1000000 in
theorem walk_FnExactCheapestTwo (a0 : Option Addr) (len0 cap0 : Nat) (z0 : List FlourR) (a1 : Int) (u1 : (Lit.int .i64 a1).wf = true) (a2 : Int) (u2 : (Lit.int .i64 a2).wf = true) (w : World) (m0 : len0 ≤ maxLen) (w0 : ReadsFlour w a0 len0 z0) :
    Calls Try.prog 4 #[.slice a0 len0 cap0, .int .i64 a1, .int .i64 a2] w fun e w' => e = .returned (.bool true) ∧ Below w.heap.size w w' := by
  clear u1 u2
  have r0 := w0
  clear w0
  have R0 := Lib.hid r0
  clear r0
  by_cases g0 : 1048576 < (len0 : Int)
  · have m0' := m0
    go_enter Try.func4, Try.ntmps4
    go_wp2_with fail
    refine (szFlourS_c a0 len0 cap0 (1048576) _ m0 (by omega) (by omega)).mono ?_
    rintro _ _ ⟨rfl, rfl⟩
    rw [if_pos (by omega)]
    go_wp2
    go_ret
    exact (show Val _ _ _ _ from Val.mk' rfl (by (repeat (first | exact In.refl _ | assumption | apply In.alloc | apply In.drewN | apply In.drew | (refine In.step ?_ (by assumption))))))
  have g0' : (len0 : Int) ≤ 1048576 := by omega
  clear g0
  have hm0 : len0 ≤ 1048576 := by omega
  obtain ⟨r0, r1, r2, r3, hv⟩ : ∃ r0 r1 r2 r3, twoT len0 z0 a1 a2 = .tuple #[.int .i64 r0, .int .i64 r1, .int .i64 r2, .bool r3] := by
    unfold twoT
    (repeat' split) <;> exact ⟨_, _, _, _, rfl⟩
  have HV := Lib.hid hv
  clear hv
  go_enter Try.func4, Try.ntmps4
  go_wp2_with fail
  refine (szFlourS_c a0 len0 cap0 (1048576) _ m0 (by omega) (by omega)).mono ?_
  rintro _ _ ⟨rfl, rfl⟩
  rw [if_neg (by omega)]
  go_wp2_with fail
  refine (toFlourS_c a0 len0 cap0 z0 _ (by omega) (by exact R0.out.in_ (by (repeat (first | exact In.refl _ | assumption | apply In.alloc | apply In.drewN | apply In.drew | (refine In.step ?_ (by assumption))))))).mono ?_
  rintro _ w_1 ⟨g_1, rfl, ho_1, hg_1, hb_1⟩
  have x_1_t1 := ho_1.reads
  clear ho_1 hg_1
  have hl_1 : (z0).length = len0 := R0.out.1
  rw [hl_1] at x_1_t1
  rw [hl_1]
  clear hl_1
  have i_1 : In w.heap.size w w_1 := In.step (by (repeat (first | exact In.refl _ | assumption | apply In.alloc | apply In.drewN | apply In.drew | (refine In.step ?_ (by assumption))))) hb_1
  go_wp2_with fail
  refine (sCheapestTwo ((some ⟨g_1, 0, none⟩)) len0 len0 z0 a1 a2 _ (by (try unfold maxLen); omega) (by exact (show ReadsFlour _ _ _ _ from by (with_reducible (repeat (first | assumption | apply ReadsI.drewN | apply ReadsI.drew | apply ReadsI.alloc | apply ReadsFlour.drew | apply ReadsFlour.alloc)))))).mono ?_
  rintro _ w_2 ⟨rfl, hb_2⟩
  rw [HV.out]
  have i_2 : In w.heap.size w w_2 := In.step (by (repeat (first | exact In.refl _ | assumption | apply In.alloc | apply In.drewN | apply In.drew | (refine In.step ?_ (by assumption))))) hb_2
  clear hb_1 i_1 x_1_t1
  go_wp2_with fail
  refine (toFlourS_c a0 len0 cap0 z0 _ (by omega) (by exact R0.out.in_ (by (repeat (first | exact In.refl _ | assumption | apply In.alloc | apply In.drewN | apply In.drew | (refine In.step ?_ (by assumption))))))).mono ?_
  rintro _ w_3 ⟨g_3, rfl, ho_3, hg_3, hb_3⟩
  have x_3_t2 := ho_3.reads
  clear ho_3 hg_3
  have hl_3 : (z0).length = len0 := R0.out.1
  rw [hl_3] at x_3_t2
  rw [hl_3]
  clear hl_3
  have i_3 : In w.heap.size w w_3 := In.step (by (repeat (first | exact In.refl _ | assumption | apply In.alloc | apply In.drewN | apply In.drew | (refine In.step ?_ (by assumption))))) hb_3
  clear hb_2 i_2
  go_wp2_with fail
  refine (iCheapestTwo ((some ⟨g_3, 0, none⟩)) len0 len0 z0 a1 a2 _ (by (try unfold maxLen); omega) (by exact (show ReadsFlour _ _ _ _ from by (with_reducible (repeat (first | assumption | apply ReadsI.drewN | apply ReadsI.drew | apply ReadsI.alloc | apply ReadsFlour.drew | apply ReadsFlour.alloc)))))).mono ?_
  rintro _ w_4 ⟨rfl, hb_4⟩
  rw [HV.out]
  have i_4 : In w.heap.size w w_4 := In.step (by (repeat (first | exact In.refl _ | assumption | apply In.alloc | apply In.drewN | apply In.drew | (refine In.step ?_ (by assumption))))) hb_4
  have x_4_t2 : ReadsFlour w_4 ((some ⟨g_3, 0, none⟩)) len0 z0 := ReadsFlour.step (by (with_reducible (repeat (first | assumption | apply ReadsI.drewN | apply ReadsI.drew | apply ReadsI.alloc | apply ReadsFlour.drew | apply ReadsFlour.alloc)))) hb_4
  clear hb_3 i_3 x_3_t2
  go_wp2_with fail
  refine (toFlourS_c a0 len0 cap0 z0 _ (by omega) (by exact R0.out.in_ (by (repeat (first | exact In.refl _ | assumption | apply In.alloc | apply In.drewN | apply In.drew | (refine In.step ?_ (by assumption))))))).mono ?_
  rintro _ w_5 ⟨g_5, rfl, ho_5, hg_5, hb_5⟩
  have x_5_t3 := ho_5.reads
  clear ho_5 hg_5
  have hl_5 : (z0).length = len0 := R0.out.1
  rw [hl_5] at x_5_t3
  rw [hl_5]
  clear hl_5
  have i_5 : In w.heap.size w w_5 := In.step (by (repeat (first | exact In.refl _ | assumption | apply In.alloc | apply In.drewN | apply In.drew | (refine In.step ?_ (by assumption))))) hb_5
  have x_5_t2 : ReadsFlour w_5 ((some ⟨g_3, 0, none⟩)) len0 z0 := ReadsFlour.step (by (with_reducible (repeat (first | assumption | apply ReadsI.drewN | apply ReadsI.drew | apply ReadsI.alloc | apply ReadsFlour.drew | apply ReadsFlour.alloc)))) hb_5
  clear hb_4 i_4 x_4_t2
  go_wp2_with fail
  refine (eqFlourS_c ((some ⟨g_3, 0, none⟩)) ((some ⟨g_5, 0, none⟩)) len0 (len0) (len0) z0 _ (by (try unfold maxLen); omega) (by (with_reducible (repeat (first | assumption | apply ReadsI.drewN | apply ReadsI.drew | apply ReadsI.alloc | apply ReadsFlour.drew | apply ReadsFlour.alloc)))) (by (with_reducible (repeat (first | assumption | apply ReadsI.drewN | apply ReadsI.drew | apply ReadsI.alloc | apply ReadsFlour.drew | apply ReadsFlour.alloc))))).mono ?_
  rintro _ w_6 ⟨rfl, hb_6⟩
  have i_6 : In w.heap.size w w_6 := In.step (by (repeat (first | exact In.refl _ | assumption | apply In.alloc | apply In.drewN | apply In.drew | (refine In.step ?_ (by assumption))))) hb_6
  have x_6_t2 : ReadsFlour w_6 ((some ⟨g_3, 0, none⟩)) len0 z0 := ReadsFlour.step (by (with_reducible (repeat (first | assumption | apply ReadsI.drewN | apply ReadsI.drew | apply ReadsI.alloc | apply ReadsFlour.drew | apply ReadsFlour.alloc)))) hb_6
  clear hb_5 i_5 x_5_t2 x_5_t3
  go_wp2
  go_ret
  exact (show Val _ _ _ _ from Val.mk' rfl (by (repeat (first | exact In.refl _ | assumption | apply In.alloc | apply In.drewN | apply In.drew | (refine In.step ?_ (by assumption))))))

end Go.Proofs.Ytmkfnhgaiheckaa
