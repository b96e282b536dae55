/- The laws of chapter 21: TripsOk, WayOf -/
import Derived.Test.YtkibabajalajeaaIntS
import Derived.Test.YtkibabajalajeaaIntE
import Derived.Test.YtkibabajalajeaaOwnI
import Derived.Test.YtkibabajalajeaaSShop
import Derived.Test.YtkibabajalajeaaSS2
import Derived.Test.YtkibabajalajeaaE21
namespace Go.Proofs.Ytkibabajalajeaa
open Go.ChangeShapes Go.WideShapes Go.ChangeAt Go.RowKit
set_option linter.unusedVariables false
set_option linter.unusedSimpArgs false

set_option maxHeartbeats 1000000 in
theorem walk_FnExactTripsOk (a0 : Option Addr) (len0 cap0 : Nat) (z0 : List ShopR) (a1 : Option Addr) (len1 cap1 : Nat) (z1 : List IntSR) (a2 : Int) (u2 : (Lit.int .i64 a2).wf = true) (w : World) (m0 : len0 ≤ maxLen) (w0 : ReadsShop w a0 len0 z0) (m1 : len1 ≤ maxLen) (w1 : ReadsIntS w a1 len1 z1) :
    Calls Try.prog 3 #[.slice a0 len0 cap0, .slice a1 len1 cap1, .int .i64 a2] w fun e w' => e = .returned (.bool true) ∧ Below w.heap.size w w' := by
  clear u2
  have r0 := w0
  clear w0
  have R0 := Lib.hid r0
  clear r0
  have r1 := w1
  clear w1
  have R1 := Lib.hid r1
  clear r1
  by_cases g0 : 1048576 < (len0 : Int)
  · have m0' := m0
    go_enter Try.func3, Try.ntmps3
    go_wp2_with fail
    refine (szShopS_c a0 len0 cap0 (1048576) _ m0 (by omega) (by omega)).mono ?_
    rintro _ _ ⟨rfl, rfl⟩
    rw [if_pos (by omega)]
    go_wp2
    go_ret
    exact (show Val _ _ _ _ from Val.mk' rfl (by (repeat (first | exact In.refl _ | assumption | apply In.alloc | apply In.drewN | apply In.drew | (refine In.step ?_ (by assumption))))))
  have g0' : (len0 : Int) ≤ 1048576 := by omega
  clear g0
  have tn1 := totTo_nn z1 len1 len1 (Nat.le_refl _)
  have td1 : totSS len1 z1 = (len1 : Int) + totTo z1 len1 := rfl
  by_cases g1 : 1048576 - (len0 : Int) < totSS len1 z1
  · have m1' := m1
    go_enter Try.func3, Try.ntmps3
    go_wp2_with fail
    refine (szShopS_c a0 len0 cap0 (1048576) _ m0 (by omega) (by omega)).mono ?_
    rintro _ _ ⟨rfl, rfl⟩
    rw [if_neg (by omega)]
    go_wp2_with fail
    refine (szIntSS_c a1 len1 cap1 z1 (1048576 - (len0 : Int)) _ m1 (by omega) (by omega) R1.out).mono ?_
    rintro _ _ ⟨rfl, rfl⟩
    rw [szV, if_pos (by omega)]
    go_wp2
    go_ret
    exact (show Val _ _ _ _ from Val.mk' rfl (by (repeat (first | exact In.refl _ | assumption | apply In.alloc | apply In.drewN | apply In.drew | (refine In.step ?_ (by assumption))))))
  have g1' : totSS len1 z1 ≤ 1048576 - (len0 : Int) := by omega
  clear g1
  have HLL1 : Hid (∀ k, k < len1 → (((z1).getD k []).length : Int) ≤ 10000000) := Lib.hid fun k hk => by have := totTo_at z1 len1 k hk; omega
  have hm0 : len0 ≤ 1048576 := by omega
  have hm1 : len1 ≤ 1048576 := by omega
  go_enter Try.func3, Try.ntmps3
  go_wp2_with fail
  refine (szShopS_c a0 len0 cap0 (1048576) _ m0 (by omega) (by omega)).mono ?_
  rintro _ _ ⟨rfl, rfl⟩
  rw [if_neg (by omega)]
  go_wp2_with fail
  refine (szIntSS_c a1 len1 cap1 z1 (1048576 - (len0 : Int)) _ m1 (by omega) (by omega) R1.out).mono ?_
  rintro _ _ ⟨rfl, rfl⟩
  rw [szV, if_neg (by omega)]
  have hd1 : decide (1048576 - (len0 : Int) - totSS len1 z1 < 0) = false := by simp; omega
  go_wp2_with fail
  refine (toShopS_c a0 len0 cap0 z0 _ (by omega) (by exact R0.out.in_ (by (repeat (first | exact In.refl _ | assumption | apply In.alloc | apply In.drewN | apply In.drew | (refine In.step ?_ (by assumption))))))).mono ?_
  rintro _ w_1 ⟨g_1, rfl, ho_1, hg_1, hb_1⟩
  have x_1_t1 := ho_1.reads
  clear ho_1 hg_1
  have hl_1 : (z0).length = len0 := R0.out.1
  rw [hl_1] at x_1_t1
  rw [hl_1]
  clear hl_1
  have i_1 : In w.heap.size w w_1 := In.step (by (repeat (first | exact In.refl _ | assumption | apply In.alloc | apply In.drewN | apply In.drew | (refine In.step ?_ (by assumption))))) hb_1
  go_wp2_with fail
  refine (toIntSS_c a1 len1 cap1 z1 _ (by omega) HLL1.out (by exact R1.out.in_ (by (repeat (first | exact In.refl _ | assumption | apply In.alloc | apply In.drewN | apply In.drew | (refine In.step ?_ (by assumption))))))).mono ?_
  rintro _ w_2 ⟨g_2, rfl, ho_2, hg_2, hb_2⟩
  have x_2_t2 := ho_2.reads
  clear ho_2 hg_2
  have hl_2 : (z1).length = len1 := R1.out.1
  rw [hl_2] at x_2_t2
  rw [hl_2]
  clear hl_2
  have i_2 : In w.heap.size w w_2 := In.step (by (repeat (first | exact In.refl _ | assumption | apply In.alloc | apply In.drewN | apply In.drew | (refine In.step ?_ (by assumption))))) hb_2
  have x_2_t1 : ReadsShop w_2 ((some ⟨g_1, 0, none⟩)) len0 z0 := ReadsShop.step (by (with_reducible (repeat (first | assumption | apply ReadsI.drewN | apply ReadsI.drew | apply ReadsI.alloc | apply ReadsShop.drew | apply ReadsShop.alloc)))) hb_2
  clear hb_1 i_1 x_1_t1
  go_wp2_with fail
  refine (sTripsOk ((some ⟨g_1, 0, none⟩)) len0 len0 z0 ((some ⟨g_2, 0, none⟩)) len1 len1 z1 a2 _ (by (try unfold maxLen); omega) (by exact (show ReadsShop _ _ _ _ from by (with_reducible (repeat (first | assumption | apply ReadsI.drewN | apply ReadsI.drew | apply ReadsI.alloc | apply ReadsShop.drew | apply ReadsShop.alloc))))) (by (try unfold maxLen); omega) (by omega) (by exact (show ReadsIntS _ _ _ _ from by (with_reducible (repeat (first | assumption | apply ReadsI.drewN | apply ReadsI.drew | apply ReadsI.alloc | apply ReadsShop.drew | apply ReadsShop.alloc)))))).mono ?_
  rintro _ w_3 ⟨rfl, hb_3⟩
  have i_3 : In w.heap.size w w_3 := In.step (by (repeat (first | exact In.refl _ | assumption | apply In.alloc | apply In.drewN | apply In.drew | (refine In.step ?_ (by assumption))))) hb_3
  clear hb_2 i_2 x_2_t1 x_2_t2
  go_wp2_with fail
  refine (toShopS_c a0 len0 cap0 z0 _ (by omega) (by exact R0.out.in_ (by (repeat (first | exact In.refl _ | assumption | apply In.alloc | apply In.drewN | apply In.drew | (refine In.step ?_ (by assumption))))))).mono ?_
  rintro _ w_4 ⟨g_4, rfl, ho_4, hg_4, hb_4⟩
  have x_4_t3 := ho_4.reads
  clear ho_4 hg_4
  have hl_4 : (z0).length = len0 := R0.out.1
  rw [hl_4] at x_4_t3
  rw [hl_4]
  clear hl_4
  have i_4 : In w.heap.size w w_4 := In.step (by (repeat (first | exact In.refl _ | assumption | apply In.alloc | apply In.drewN | apply In.drew | (refine In.step ?_ (by assumption))))) hb_4
  clear hb_3 i_3
  go_wp2_with fail
  refine (toIntSS_c a1 len1 cap1 z1 _ (by omega) HLL1.out (by exact R1.out.in_ (by (repeat (first | exact In.refl _ | assumption | apply In.alloc | apply In.drewN | apply In.drew | (refine In.step ?_ (by assumption))))))).mono ?_
  rintro _ w_5 ⟨g_5, rfl, ho_5, hg_5, hb_5⟩
  have x_5_t4 := ho_5.reads
  clear ho_5 hg_5
  have hl_5 : (z1).length = len1 := R1.out.1
  rw [hl_5] at x_5_t4
  rw [hl_5]
  clear hl_5
  have i_5 : In w.heap.size w w_5 := In.step (by (repeat (first | exact In.refl _ | assumption | apply In.alloc | apply In.drewN | apply In.drew | (refine In.step ?_ (by assumption))))) hb_5
  have x_5_t3 : ReadsShop w_5 ((some ⟨g_4, 0, none⟩)) len0 z0 := ReadsShop.step (by (with_reducible (repeat (first | assumption | apply ReadsI.drewN | apply ReadsI.drew | apply ReadsI.alloc | apply ReadsShop.drew | apply ReadsShop.alloc)))) hb_5
  clear hb_4 i_4 x_4_t3
  go_wp2_with fail
  refine (iTripsOk ((some ⟨g_4, 0, none⟩)) len0 len0 z0 ((some ⟨g_5, 0, none⟩)) len1 len1 z1 a2 _ (by (try unfold maxLen); omega) (by exact (show ReadsShop _ _ _ _ from by (with_reducible (repeat (first | assumption | apply ReadsI.drewN | apply ReadsI.drew | apply ReadsI.alloc | apply ReadsShop.drew | apply ReadsShop.alloc))))) (by (try unfold maxLen); omega) (by omega) (by exact (show ReadsIntS _ _ _ _ from by (with_reducible (repeat (first | assumption | apply ReadsI.drewN | apply ReadsI.drew | apply ReadsI.alloc | apply ReadsShop.drew | apply ReadsShop.alloc)))))).mono ?_
  rintro _ w_6 ⟨rfl, hb_6⟩
  have i_6 : In w.heap.size w w_6 := In.step (by (repeat (first | exact In.refl _ | assumption | apply In.alloc | apply In.drewN | apply In.drew | (refine In.step ?_ (by assumption))))) hb_6
  have x_6_t3 : ReadsShop w_6 ((some ⟨g_4, 0, none⟩)) len0 z0 := ReadsShop.step (by (with_reducible (repeat (first | assumption | apply ReadsI.drewN | apply ReadsI.drew | apply ReadsI.alloc | apply ReadsShop.drew | apply ReadsShop.alloc)))) hb_6
  have x_6_t4 : ReadsIntS w_6 ((some ⟨g_5, 0, none⟩)) len1 z1 := ReadsIntS.step (by (with_reducible (repeat (first | assumption | apply ReadsI.drewN | apply ReadsI.drew | apply ReadsI.alloc | apply ReadsShop.drew | apply ReadsShop.alloc)))) hb_6
  clear hb_5 i_5 x_5_t3 x_5_t4
  go_wp2_with fail
  refine (toShopS_c a0 len0 cap0 z0 _ (by omega) (by exact R0.out.in_ (by (repeat (first | exact In.refl _ | assumption | apply In.alloc | apply In.drewN | apply In.drew | (refine In.step ?_ (by assumption))))))).mono ?_
  rintro _ w_7 ⟨g_7, rfl, ho_7, hg_7, hb_7⟩
  have x_7_t5 := ho_7.reads
  clear ho_7 hg_7
  have hl_7 : (z0).length = len0 := R0.out.1
  rw [hl_7] at x_7_t5
  rw [hl_7]
  clear hl_7
  have i_7 : In w.heap.size w w_7 := In.step (by (repeat (first | exact In.refl _ | assumption | apply In.alloc | apply In.drewN | apply In.drew | (refine In.step ?_ (by assumption))))) hb_7
  have x_7_t3 : ReadsShop w_7 ((some ⟨g_4, 0, none⟩)) len0 z0 := ReadsShop.step (by (with_reducible (repeat (first | assumption | apply ReadsI.drewN | apply ReadsI.drew | apply ReadsI.alloc | apply ReadsShop.drew | apply ReadsShop.alloc)))) hb_7
  have x_7_t4 : ReadsIntS w_7 ((some ⟨g_5, 0, none⟩)) len1 z1 := ReadsIntS.step (by (with_reducible (repeat (first | assumption | apply ReadsI.drewN | apply ReadsI.drew | apply ReadsI.alloc | apply ReadsShop.drew | apply ReadsShop.alloc)))) hb_7
  clear hb_6 i_6 x_6_t3 x_6_t4
  go_wp2_with fail
  refine (eqShopS_c ((some ⟨g_4, 0, none⟩)) ((some ⟨g_7, 0, none⟩)) len0 (len0) (len0) z0 _ (by (try unfold maxLen); omega) (by (with_reducible (repeat (first | assumption | apply ReadsI.drewN | apply ReadsI.drew | apply ReadsI.alloc | apply ReadsShop.drew | apply ReadsShop.alloc)))) (by (with_reducible (repeat (first | assumption | apply ReadsI.drewN | apply ReadsI.drew | apply ReadsI.alloc | apply ReadsShop.drew | apply ReadsShop.alloc))))).mono ?_
  rintro _ w_8 ⟨rfl, hb_8⟩
  have i_8 : In w.heap.size w w_8 := In.step (by (repeat (first | exact In.refl _ | assumption | apply In.alloc | apply In.drewN | apply In.drew | (refine In.step ?_ (by assumption))))) hb_8
  have x_8_t3 : ReadsShop w_8 ((some ⟨g_4, 0, none⟩)) len0 z0 := ReadsShop.step (by (with_reducible (repeat (first | assumption | apply ReadsI.drewN | apply ReadsI.drew | apply ReadsI.alloc | apply ReadsShop.drew | apply ReadsShop.alloc)))) hb_8
  have x_8_t4 : ReadsIntS w_8 ((some ⟨g_5, 0, none⟩)) len1 z1 := ReadsIntS.step (by (with_reducible (repeat (first | assumption | apply ReadsI.drewN | apply ReadsI.drew | apply ReadsI.alloc | apply ReadsShop.drew | apply ReadsShop.alloc)))) hb_8
  clear hb_7 i_7 x_7_t3 x_7_t4 x_7_t5
  go_wp2_with fail
  refine (toIntSS_c a1 len1 cap1 z1 _ (by omega) HLL1.out (by exact R1.out.in_ (by (repeat (first | exact In.refl _ | assumption | apply In.alloc | apply In.drewN | apply In.drew | (refine In.step ?_ (by assumption))))))).mono ?_
  rintro _ w_9 ⟨g_9, rfl, ho_9, hg_9, hb_9⟩
  have x_9_t6 := ho_9.reads
  clear ho_9 hg_9
  have hl_9 : (z1).length = len1 := R1.out.1
  rw [hl_9] at x_9_t6
  rw [hl_9]
  clear hl_9
  have i_9 : In w.heap.size w w_9 := In.step (by (repeat (first | exact In.refl _ | assumption | apply In.alloc | apply In.drewN | apply In.drew | (refine In.step ?_ (by assumption))))) hb_9
  have x_9_t3 : ReadsShop w_9 ((some ⟨g_4, 0, none⟩)) len0 z0 := ReadsShop.step (by (with_reducible (repeat (first | assumption | apply ReadsI.drewN | apply ReadsI.drew | apply ReadsI.alloc | apply ReadsShop.drew | apply ReadsShop.alloc)))) hb_9
  have x_9_t4 : ReadsIntS w_9 ((some ⟨g_5, 0, none⟩)) len1 z1 := ReadsIntS.step (by (with_reducible (repeat (first | assumption | apply ReadsI.drewN | apply ReadsI.drew | apply ReadsI.alloc | apply ReadsShop.drew | apply ReadsShop.alloc)))) hb_9
  clear hb_8 i_8 x_8_t3 x_8_t4
  go_wp2_with fail
  refine (eqIntSS_c ((some ⟨g_5, 0, none⟩)) ((some ⟨g_9, 0, none⟩)) len1 (len1) (len1) z1 _ (by (try unfold maxLen); omega) (by (with_reducible (repeat (first | assumption | apply ReadsI.drewN | apply ReadsI.drew | apply ReadsI.alloc | apply ReadsShop.drew | apply ReadsShop.alloc)))) (by (with_reducible (repeat (first | assumption | apply ReadsI.drewN | apply ReadsI.drew | apply ReadsI.alloc | apply ReadsShop.drew | apply ReadsShop.alloc))))).mono ?_
  rintro _ w_10 ⟨rfl, hb_10⟩
  have i_10 : In w.heap.size w w_10 := In.step (by (repeat (first | exact In.refl _ | assumption | apply In.alloc | apply In.drewN | apply In.drew | (refine In.step ?_ (by assumption))))) hb_10
  have x_10_t3 : ReadsShop w_10 ((some ⟨g_4, 0, none⟩)) len0 z0 := ReadsShop.step (by (with_reducible (repeat (first | assumption | apply ReadsI.drewN | apply ReadsI.drew | apply ReadsI.alloc | apply ReadsShop.drew | apply ReadsShop.alloc)))) hb_10
  have x_10_t4 : ReadsIntS w_10 ((some ⟨g_5, 0, none⟩)) len1 z1 := ReadsIntS.step (by (with_reducible (repeat (first | assumption | apply ReadsI.drewN | apply ReadsI.drew | apply ReadsI.alloc | apply ReadsShop.drew | apply ReadsShop.alloc)))) hb_10
  clear hb_9 i_9 x_9_t3 x_9_t4 x_9_t6
  go_wp2
  go_ret
  exact (show Val _ _ _ _ from Val.mk' rfl (by (repeat (first | exact In.refl _ | assumption | apply In.alloc | apply In.drewN | apply In.drew | (refine In.step ?_ (by assumption))))))

set_option maxHeartbeats 1000000 in
theorem walk_FnExactWayOf (a0 : Option Addr) (len0 cap0 : Nat) (z0 : List ShopR) (a1 : Option Addr) (len1 cap1 : Nat) (z1 : List IntSR) (w : World) (m0 : len0 ≤ maxLen) (w0 : ReadsShop w a0 len0 z0) (m1 : len1 ≤ maxLen) (w1 : ReadsIntS w a1 len1 z1) :
    Calls Try.prog 4 #[.slice a0 len0 cap0, .slice a1 len1 cap1] w fun e w' => e = .returned (.bool true) ∧ Below w.heap.size w w' := by
  have r0 := w0
  clear w0
  have R0 := Lib.hid r0
  clear r0
  have r1 := w1
  clear w1
  have R1 := Lib.hid r1
  clear r1
  by_cases g0 : 1048576 < (len0 : Int)
  · have m0' := m0
    go_enter Try.func4, Try.ntmps4
    go_wp2_with fail
    refine (szShopS_c a0 len0 cap0 (1048576) _ m0 (by omega) (by omega)).mono ?_
    rintro _ _ ⟨rfl, rfl⟩
    rw [if_pos (by omega)]
    go_wp2
    go_ret
    exact (show Val _ _ _ _ from Val.mk' rfl (by (repeat (first | exact In.refl _ | assumption | apply In.alloc | apply In.drewN | apply In.drew | (refine In.step ?_ (by assumption))))))
  have g0' : (len0 : Int) ≤ 1048576 := by omega
  clear g0
  have tn1 := totTo_nn z1 len1 len1 (Nat.le_refl _)
  have td1 : totSS len1 z1 = (len1 : Int) + totTo z1 len1 := rfl
  by_cases g1 : 1048576 - (len0 : Int) < totSS len1 z1
  · have m1' := m1
    go_enter Try.func4, Try.ntmps4
    go_wp2_with fail
    refine (szShopS_c a0 len0 cap0 (1048576) _ m0 (by omega) (by omega)).mono ?_
    rintro _ _ ⟨rfl, rfl⟩
    rw [if_neg (by omega)]
    go_wp2_with fail
    refine (szIntSS_c a1 len1 cap1 z1 (1048576 - (len0 : Int)) _ m1 (by omega) (by omega) R1.out).mono ?_
    rintro _ _ ⟨rfl, rfl⟩
    rw [szV, if_pos (by omega)]
    go_wp2
    go_ret
    exact (show Val _ _ _ _ from Val.mk' rfl (by (repeat (first | exact In.refl _ | assumption | apply In.alloc | apply In.drewN | apply In.drew | (refine In.step ?_ (by assumption))))))
  have g1' : totSS len1 z1 ≤ 1048576 - (len0 : Int) := by omega
  clear g1
  have HLL1 : Hid (∀ k, k < len1 → (((z1).getD k []).length : Int) ≤ 10000000) := Lib.hid fun k hk => by have := totTo_at z1 len1 k hk; omega
  have hm0 : len0 ≤ 1048576 := by omega
  have hm1 : len1 ≤ 1048576 := by omega
  go_enter Try.func4, Try.ntmps4
  go_wp2_with fail
  refine (szShopS_c a0 len0 cap0 (1048576) _ m0 (by omega) (by omega)).mono ?_
  rintro _ _ ⟨rfl, rfl⟩
  rw [if_neg (by omega)]
  go_wp2_with fail
  refine (szIntSS_c a1 len1 cap1 z1 (1048576 - (len0 : Int)) _ m1 (by omega) (by omega) R1.out).mono ?_
  rintro _ _ ⟨rfl, rfl⟩
  rw [szV, if_neg (by omega)]
  have hd1 : decide (1048576 - (len0 : Int) - totSS len1 z1 < 0) = false := by simp; omega
  go_wp2_with fail
  refine (toShopS_c a0 len0 cap0 z0 _ (by omega) (by exact R0.out.in_ (by (repeat (first | exact In.refl _ | assumption | apply In.alloc | apply In.drewN | apply In.drew | (refine In.step ?_ (by assumption))))))).mono ?_
  rintro _ w_1 ⟨g_1, rfl, ho_1, hg_1, hb_1⟩
  have x_1_t1 := ho_1.reads
  clear ho_1 hg_1
  have hl_1 : (z0).length = len0 := R0.out.1
  rw [hl_1] at x_1_t1
  rw [hl_1]
  clear hl_1
  have i_1 : In w.heap.size w w_1 := In.step (by (repeat (first | exact In.refl _ | assumption | apply In.alloc | apply In.drewN | apply In.drew | (refine In.step ?_ (by assumption))))) hb_1
  go_wp2_with fail
  refine (toIntSS_c a1 len1 cap1 z1 _ (by omega) HLL1.out (by exact R1.out.in_ (by (repeat (first | exact In.refl _ | assumption | apply In.alloc | apply In.drewN | apply In.drew | (refine In.step ?_ (by assumption))))))).mono ?_
  rintro _ w_2 ⟨g_2, rfl, ho_2, hg_2, hb_2⟩
  have x_2_t2 := ho_2.reads
  clear ho_2 hg_2
  have hl_2 : (z1).length = len1 := R1.out.1
  rw [hl_2] at x_2_t2
  rw [hl_2]
  clear hl_2
  have i_2 : In w.heap.size w w_2 := In.step (by (repeat (first | exact In.refl _ | assumption | apply In.alloc | apply In.drewN | apply In.drew | (refine In.step ?_ (by assumption))))) hb_2
  have x_2_t1 : ReadsShop w_2 ((some ⟨g_1, 0, none⟩)) len0 z0 := ReadsShop.step (by (with_reducible (repeat (first | assumption | apply ReadsI.drewN | apply ReadsI.drew | apply ReadsI.alloc | apply ReadsShop.drew | apply ReadsShop.alloc)))) hb_2
  clear hb_1 i_1 x_1_t1
  go_wp2_with fail
  refine (sWayOf ((some ⟨g_1, 0, none⟩)) len0 len0 z0 ((some ⟨g_2, 0, none⟩)) len1 len1 z1 _ (by (try unfold maxLen); omega) (by exact (show ReadsShop _ _ _ _ from by (with_reducible (repeat (first | assumption | apply ReadsI.drewN | apply ReadsI.drew | apply ReadsI.alloc | apply ReadsShop.drew | apply ReadsShop.alloc))))) (by (try unfold maxLen); omega) (by omega) (by exact (show ReadsIntS _ _ _ _ from by (with_reducible (repeat (first | assumption | apply ReadsI.drewN | apply ReadsI.drew | apply ReadsI.alloc | apply ReadsShop.drew | apply ReadsShop.alloc)))))).mono ?_
  rintro _ w_3 ⟨rfl, hb_3⟩
  have i_3 : In w.heap.size w w_3 := In.step (by (repeat (first | exact In.refl _ | assumption | apply In.alloc | apply In.drewN | apply In.drew | (refine In.step ?_ (by assumption))))) hb_3
  clear hb_2 i_2 x_2_t1 x_2_t2
  go_wp2_with fail
  refine (toShopS_c a0 len0 cap0 z0 _ (by omega) (by exact R0.out.in_ (by (repeat (first | exact In.refl _ | assumption | apply In.alloc | apply In.drewN | apply In.drew | (refine In.step ?_ (by assumption))))))).mono ?_
  rintro _ w_4 ⟨g_4, rfl, ho_4, hg_4, hb_4⟩
  have x_4_t3 := ho_4.reads
  clear ho_4 hg_4
  have hl_4 : (z0).length = len0 := R0.out.1
  rw [hl_4] at x_4_t3
  rw [hl_4]
  clear hl_4
  have i_4 : In w.heap.size w w_4 := In.step (by (repeat (first | exact In.refl _ | assumption | apply In.alloc | apply In.drewN | apply In.drew | (refine In.step ?_ (by assumption))))) hb_4
  clear hb_3 i_3
  go_wp2_with fail
  refine (toIntSS_c a1 len1 cap1 z1 _ (by omega) HLL1.out (by exact R1.out.in_ (by (repeat (first | exact In.refl _ | assumption | apply In.alloc | apply In.drewN | apply In.drew | (refine In.step ?_ (by assumption))))))).mono ?_
  rintro _ w_5 ⟨g_5, rfl, ho_5, hg_5, hb_5⟩
  have x_5_t4 := ho_5.reads
  clear ho_5 hg_5
  have hl_5 : (z1).length = len1 := R1.out.1
  rw [hl_5] at x_5_t4
  rw [hl_5]
  clear hl_5
  have i_5 : In w.heap.size w w_5 := In.step (by (repeat (first | exact In.refl _ | assumption | apply In.alloc | apply In.drewN | apply In.drew | (refine In.step ?_ (by assumption))))) hb_5
  have x_5_t3 : ReadsShop w_5 ((some ⟨g_4, 0, none⟩)) len0 z0 := ReadsShop.step (by (with_reducible (repeat (first | assumption | apply ReadsI.drewN | apply ReadsI.drew | apply ReadsI.alloc | apply ReadsShop.drew | apply ReadsShop.alloc)))) hb_5
  clear hb_4 i_4 x_4_t3
  go_wp2_with fail
  refine (iWayOf ((some ⟨g_4, 0, none⟩)) len0 len0 z0 ((some ⟨g_5, 0, none⟩)) len1 len1 z1 _ (by (try unfold maxLen); omega) (by exact (show ReadsShop _ _ _ _ from by (with_reducible (repeat (first | assumption | apply ReadsI.drewN | apply ReadsI.drew | apply ReadsI.alloc | apply ReadsShop.drew | apply ReadsShop.alloc))))) (by (try unfold maxLen); omega) (by omega) (by exact (show ReadsIntS _ _ _ _ from by (with_reducible (repeat (first | assumption | apply ReadsI.drewN | apply ReadsI.drew | apply ReadsI.alloc | apply ReadsShop.drew | apply ReadsShop.alloc)))))).mono ?_
  rintro _ w_6 ⟨rfl, hb_6⟩
  have i_6 : In w.heap.size w w_6 := In.step (by (repeat (first | exact In.refl _ | assumption | apply In.alloc | apply In.drewN | apply In.drew | (refine In.step ?_ (by assumption))))) hb_6
  have x_6_t3 : ReadsShop w_6 ((some ⟨g_4, 0, none⟩)) len0 z0 := ReadsShop.step (by (with_reducible (repeat (first | assumption | apply ReadsI.drewN | apply ReadsI.drew | apply ReadsI.alloc | apply ReadsShop.drew | apply ReadsShop.alloc)))) hb_6
  have x_6_t4 : ReadsIntS w_6 ((some ⟨g_5, 0, none⟩)) len1 z1 := ReadsIntS.step (by (with_reducible (repeat (first | assumption | apply ReadsI.drewN | apply ReadsI.drew | apply ReadsI.alloc | apply ReadsShop.drew | apply ReadsShop.alloc)))) hb_6
  clear hb_5 i_5 x_5_t3 x_5_t4
  go_wp2_with fail
  refine (toShopS_c a0 len0 cap0 z0 _ (by omega) (by exact R0.out.in_ (by (repeat (first | exact In.refl _ | assumption | apply In.alloc | apply In.drewN | apply In.drew | (refine In.step ?_ (by assumption))))))).mono ?_
  rintro _ w_7 ⟨g_7, rfl, ho_7, hg_7, hb_7⟩
  have x_7_t5 := ho_7.reads
  clear ho_7 hg_7
  have hl_7 : (z0).length = len0 := R0.out.1
  rw [hl_7] at x_7_t5
  rw [hl_7]
  clear hl_7
  have i_7 : In w.heap.size w w_7 := In.step (by (repeat (first | exact In.refl _ | assumption | apply In.alloc | apply In.drewN | apply In.drew | (refine In.step ?_ (by assumption))))) hb_7
  have x_7_t3 : ReadsShop w_7 ((some ⟨g_4, 0, none⟩)) len0 z0 := ReadsShop.step (by (with_reducible (repeat (first | assumption | apply ReadsI.drewN | apply ReadsI.drew | apply ReadsI.alloc | apply ReadsShop.drew | apply ReadsShop.alloc)))) hb_7
  have x_7_t4 : ReadsIntS w_7 ((some ⟨g_5, 0, none⟩)) len1 z1 := ReadsIntS.step (by (with_reducible (repeat (first | assumption | apply ReadsI.drewN | apply ReadsI.drew | apply ReadsI.alloc | apply ReadsShop.drew | apply ReadsShop.alloc)))) hb_7
  clear hb_6 i_6 x_6_t3 x_6_t4
  go_wp2_with fail
  refine (eqShopS_c ((some ⟨g_4, 0, none⟩)) ((some ⟨g_7, 0, none⟩)) len0 (len0) (len0) z0 _ (by (try unfold maxLen); omega) (by (with_reducible (repeat (first | assumption | apply ReadsI.drewN | apply ReadsI.drew | apply ReadsI.alloc | apply ReadsShop.drew | apply ReadsShop.alloc)))) (by (with_reducible (repeat (first | assumption | apply ReadsI.drewN | apply ReadsI.drew | apply ReadsI.alloc | apply ReadsShop.drew | apply ReadsShop.alloc))))).mono ?_
  rintro _ w_8 ⟨rfl, hb_8⟩
  have i_8 : In w.heap.size w w_8 := In.step (by (repeat (first | exact In.refl _ | assumption | apply In.alloc | apply In.drewN | apply In.drew | (refine In.step ?_ (by assumption))))) hb_8
  have x_8_t3 : ReadsShop w_8 ((some ⟨g_4, 0, none⟩)) len0 z0 := ReadsShop.step (by (with_reducible (repeat (first | assumption | apply ReadsI.drewN | apply ReadsI.drew | apply ReadsI.alloc | apply ReadsShop.drew | apply ReadsShop.alloc)))) hb_8
  have x_8_t4 : ReadsIntS w_8 ((some ⟨g_5, 0, none⟩)) len1 z1 := ReadsIntS.step (by (with_reducible (repeat (first | assumption | apply ReadsI.drewN | apply ReadsI.drew | apply ReadsI.alloc | apply ReadsShop.drew | apply ReadsShop.alloc)))) hb_8
  clear hb_7 i_7 x_7_t3 x_7_t4 x_7_t5
  go_wp2_with fail
  refine (toIntSS_c a1 len1 cap1 z1 _ (by omega) HLL1.out (by exact R1.out.in_ (by (repeat (first | exact In.refl _ | assumption | apply In.alloc | apply In.drewN | apply In.drew | (refine In.step ?_ (by assumption))))))).mono ?_
  rintro _ w_9 ⟨g_9, rfl, ho_9, hg_9, hb_9⟩
  have x_9_t6 := ho_9.reads
  clear ho_9 hg_9
  have hl_9 : (z1).length = len1 := R1.out.1
  rw [hl_9] at x_9_t6
  rw [hl_9]
  clear hl_9
  have i_9 : In w.heap.size w w_9 := In.step (by (repeat (first | exact In.refl _ | assumption | apply In.alloc | apply In.drewN | apply In.drew | (refine In.step ?_ (by assumption))))) hb_9
  have x_9_t3 : ReadsShop w_9 ((some ⟨g_4, 0, none⟩)) len0 z0 := ReadsShop.step (by (with_reducible (repeat (first | assumption | apply ReadsI.drewN | apply ReadsI.drew | apply ReadsI.alloc | apply ReadsShop.drew | apply ReadsShop.alloc)))) hb_9
  have x_9_t4 : ReadsIntS w_9 ((some ⟨g_5, 0, none⟩)) len1 z1 := ReadsIntS.step (by (with_reducible (repeat (first | assumption | apply ReadsI.drewN | apply ReadsI.drew | apply ReadsI.alloc | apply ReadsShop.drew | apply ReadsShop.alloc)))) hb_9
  clear hb_8 i_8 x_8_t3 x_8_t4
  go_wp2_with fail
  refine (eqIntSS_c ((some ⟨g_5, 0, none⟩)) ((some ⟨g_9, 0, none⟩)) len1 (len1) (len1) z1 _ (by (try unfold maxLen); omega) (by (with_reducible (repeat (first | assumption | apply ReadsI.drewN | apply ReadsI.drew | apply ReadsI.alloc | apply ReadsShop.drew | apply ReadsShop.alloc)))) (by (with_reducible (repeat (first | assumption | apply ReadsI.drewN | apply ReadsI.drew | apply ReadsI.alloc | apply ReadsShop.drew | apply ReadsShop.alloc))))).mono ?_
  rintro _ w_10 ⟨rfl, hb_10⟩
  have i_10 : In w.heap.size w w_10 := In.step (by (repeat (first | exact In.refl _ | assumption | apply In.alloc | apply In.drewN | apply In.drew | (refine In.step ?_ (by assumption))))) hb_10
  have x_10_t3 : ReadsShop w_10 ((some ⟨g_4, 0, none⟩)) len0 z0 := ReadsShop.step (by (with_reducible (repeat (first | assumption | apply ReadsI.drewN | apply ReadsI.drew | apply ReadsI.alloc | apply ReadsShop.drew | apply ReadsShop.alloc)))) hb_10
  have x_10_t4 : ReadsIntS w_10 ((some ⟨g_5, 0, none⟩)) len1 z1 := ReadsIntS.step (by (with_reducible (repeat (first | assumption | apply ReadsI.drewN | apply ReadsI.drew | apply ReadsI.alloc | apply ReadsShop.drew | apply ReadsShop.alloc)))) hb_10
  clear hb_9 i_9 x_9_t3 x_9_t4 x_9_t6
  go_wp2
  go_ret
  exact (show Val _ _ _ _ from Val.mk' rfl (by (repeat (first | exact In.refl _ | assumption | apply In.alloc | apply In.drewN | apply In.drew | (refine In.step ?_ (by assumption))))))

end Go.Proofs.Ytkibabajalajeaa
