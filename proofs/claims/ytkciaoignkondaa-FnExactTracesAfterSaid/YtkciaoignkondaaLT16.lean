/- The law of chapter 16: TracesAfter -/
import Derived.Test.YtkciaoignkondaaIntS
import Derived.Test.YtkciaoignkondaaIntI
import Derived.Test.YtkciaoignkondaaIntE
import Derived.Test.YtkciaoignkondaaOwnI
import Derived.Test.YtkciaoignkondaaOwnM
import Derived.Test.YtkciaoignkondaaBool
import Derived.Test.YtkciaoignkondaaT16
namespace Go.Proofs.Ytkciaoignkondaa
open Go.ChangeShapes Go.WideShapes Go.ChangeAt Go.RowKit
set_option linter.unusedVariables false
set_option linter.unusedSimpArgs false

set_option maxHeartbeats 4000000 in
set_option maxRecDepth 20000 in
theorem walk_FnExactTracesAfter (a0 : Option Addr) (len0 cap0 : Nat) (z0 : List Int) (a1 : Option Addr) (len1 cap1 : Nat) (z1 : List Bool) (w : World) (w0 : IsRow .i64 w a0 len0 cap0 z0) (m1 : len1 ≤ maxLen) (w1 : ReadsBool w a1 len1 z1) :
    Calls Try.prog 3 #[.slice a0 len0 cap0, .slice a1 len1 cap1] w fun e w' => e = .returned (.bool true) ∧ Below w.heap.size w w' := by
  have R0 := Lib.hid (reads_row w0)
  have m0 := row_le w0
  clear w0
  have R1 := Lib.hid w1
  clear w1
  have hzl : (TracesAfterL len0 (z0.take len0) len1 z1).length ≤ 100000 := Nat.le_trans (TracesAfterL_len len0 (z0.take len0) len1 z1) (by decide)
  by_cases g0 : (1048576 : Int) < (len0 : Int)
  · unfold maxLen at m0
    go_enter Try.func3, Try.ntmps3
    go_wp2
    go_ret
    exact (show Val _ _ _ _ from Val.mk' rfl (by (repeat (first | exact In.refl _ | assumption | apply In.alloc | apply In.drewN | apply In.drew | (refine In.step ?_ (by assumption))))))
  have g0' : (len0 : Int) ≤ 1048576 := by omega
  clear g0
  by_cases g1 : (1048576 : Int) < (len1 : Int)
  · unfold maxLen at m1
    go_enter Try.func3, Try.ntmps3
    go_wp2
    go_ret
    exact (show Val _ _ _ _ from Val.mk' rfl (by (repeat (first | exact In.refl _ | assumption | apply In.alloc | apply In.drewN | apply In.drew | (refine In.step ?_ (by assumption))))))
  have g1' : (len1 : Int) ≤ 1048576 := by omega
  clear g1
  have hm0 : len0 ≤ 1048576 := by omega
  have hm1 : len1 ≤ 1048576 := by omega
  go_enter Try.func3, Try.ntmps3
  go_wp2_with fail
  refine (toIntS_c a0 len0 cap0 (z0.take len0) _ (by omega) (by exact R0.out.below (In.below (by (repeat (first | exact In.refl _ | assumption | apply In.alloc | apply In.drewN | apply In.drew | (refine In.step ?_ (by assumption)))))) (Nat.le_refl _))).mono ?_
  rintro _ w_1 ⟨g_1, rfl, ho_1, hg_1, hb_1⟩
  have hl_1 : (z0.take len0).length = len0 := R0.out.1
  rw [hl_1] at ho_1
  rw [hl_1]
  clear hl_1
  have ox_1_t1 : OwnInt w_1 g_1 len0 (z0.take len0) := ho_1
  clear ho_1 hg_1
  have i_1 : In w.heap.size w w_1 := In.step (by (repeat (first | exact In.refl _ | assumption | apply In.alloc | apply In.drewN | apply In.drew | (refine In.step ?_ (by assumption))))) hb_1
  go_wp2_with fail
  refine (toBoolS_c a1 len1 cap1 z1 _ (by omega) (by exact R1.out.in_ (by (repeat (first | exact In.refl _ | assumption | apply In.alloc | apply In.drewN | apply In.drew | (refine In.step ?_ (by assumption))))))).mono ?_
  rintro _ w_2 ⟨g_2, rfl, ho_2, hg_2, hb_2⟩
  have hl_2 : z1.length = len1 := R1.out.1
  rw [hl_2] at ho_2
  rw [hl_2]
  clear hl_2
  have NE_t2_t1 : Hid (g_2 ≠ g_1) := Lib.hid (by have h := hg_2; have h2 := ox_1_t1.lt; (try simp at h); omega)
  have ox_2_t2 : OwnBool w_2 g_2 len1 z1 := ho_2
  clear ho_2 hg_2
  have i_2 : In w.heap.size w w_2 := In.step (by (repeat (first | exact In.refl _ | assumption | apply In.alloc | apply In.drewN | apply In.drew | (refine In.step ?_ (by assumption))))) hb_2
  have ox_2_t1 : OwnInt w_2 g_1 len0 (z0.take len0) := OwnInt.step (by (with_reducible (repeat (first | assumption | apply OwnInt.drew | apply OwnInt.alloc | apply OwnBool.drew | apply OwnBool.alloc)))) hb_2
  clear hb_1 i_1 ox_1_t1
  go_wp2_with fail
  refine (sTracesAfter (some ⟨g_1, 0, none⟩) len0 len0 (z0.take len0) (some ⟨g_2, 0, none⟩) len1 len1 z1 _ (by (try unfold maxLen); omega) (by exact OwnInt.reads (by (with_reducible (repeat (first | assumption | apply OwnInt.drew | apply OwnInt.alloc | apply OwnBool.drew | apply OwnBool.alloc))))) (by (try unfold maxLen); omega) (by exact OwnBool.reads (by (with_reducible (repeat (first | assumption | apply OwnInt.drew | apply OwnInt.alloc | apply OwnBool.drew | apply OwnBool.alloc)))))).mono ?_
  rintro _ w_3 ⟨A_W, c_W, rfl, ho_3, hb_3⟩
  have i_3 : In w.heap.size w w_3 := In.step (by (repeat (first | exact In.refl _ | assumption | apply In.alloc | apply In.drewN | apply In.drew | (refine In.step ?_ (by assumption))))) hb_3
  clear hb_2 i_2 ox_2_t1 ox_2_t2
  have HW := Lib.hid (reads_own_i ho_3)
  have IC := Lib.hid i_3
  clear ho_3
  have j_3 : In w_3.heap.size w_3 w_3 := In.refl _
  go_wp2_with fail
  refine (toIntS_c a0 len0 cap0 (z0.take len0) _ (by omega) (by exact R0.out.below (In.below (IC.out.trans (by (repeat (first | exact In.refl _ | assumption | apply In.alloc | apply In.drewN | apply In.drew | (refine In.step ?_ (by assumption))))))) (Nat.le_refl _))).mono ?_
  rintro _ w_4 ⟨g_4, rfl, ho_4, hg_4, hb_4⟩
  have hl_4 : (z0.take len0).length = len0 := R0.out.1
  rw [hl_4] at ho_4
  rw [hl_4]
  clear hl_4
  have ox_4_t3 : OwnInt w_4 g_4 len0 (z0.take len0) := ho_4
  have GX_t3 : Hid (w_3.heap.size ≤ g_4) := Lib.hid (Nat.le_trans (In.size (B := w_3.heap.size) (a := w_3) (by (repeat (first | exact In.refl _ | assumption | apply In.alloc | apply In.drewN | apply In.drew | (refine In.step ?_ (by assumption)))))) hg_4)
  clear ho_4 hg_4
  have j_4 : In w_3.heap.size w_3 w_4 := In.step (by (repeat (first | exact In.refl _ | assumption | apply In.alloc | apply In.drewN | apply In.drew | (refine In.step ?_ (by assumption))))) hb_4
  clear hb_3 i_3 j_3
  go_wp2_with fail
  refine (toBoolS_c a1 len1 cap1 z1 _ (by omega) (by exact R1.out.in_ (IC.out.trans (by (repeat (first | exact In.refl _ | assumption | apply In.alloc | apply In.drewN | apply In.drew | (refine In.step ?_ (by assumption)))))))).mono ?_
  rintro _ w_5 ⟨g_5, rfl, ho_5, hg_5, hb_5⟩
  have hl_5 : z1.length = len1 := R1.out.1
  rw [hl_5] at ho_5
  rw [hl_5]
  clear hl_5
  have NE_t4_t3 : Hid (g_5 ≠ g_4) := Lib.hid (by have h := hg_5; have h2 := ox_4_t3.lt; (try simp at h); omega)
  have ox_5_t4 : OwnBool w_5 g_5 len1 z1 := ho_5
  have GX_t4 : Hid (w_3.heap.size ≤ g_5) := Lib.hid (Nat.le_trans (In.size (B := w_3.heap.size) (a := w_3) (by (repeat (first | exact In.refl _ | assumption | apply In.alloc | apply In.drewN | apply In.drew | (refine In.step ?_ (by assumption)))))) hg_5)
  clear ho_5 hg_5
  have j_5 : In w_3.heap.size w_3 w_5 := In.step (by (repeat (first | exact In.refl _ | assumption | apply In.alloc | apply In.drewN | apply In.drew | (refine In.step ?_ (by assumption))))) hb_5
  have ox_5_t3 : OwnInt w_5 g_4 len0 (z0.take len0) := OwnInt.step (by (with_reducible (repeat (first | assumption | apply OwnInt.drew | apply OwnInt.alloc | apply OwnBool.drew | apply OwnBool.alloc)))) hb_5
  clear hb_4 j_4 ox_4_t3
  have CB : Hid (w_3.heap.size ≤ w_5.heap.size) := Lib.hid j_5.size
  have GB_t3 : Hid (g_4 < w_5.heap.size) := Lib.hid ox_5_t3.lt
  have GB_t4 : Hid (g_5 < w_5.heap.size) := Lib.hid ox_5_t4.lt
  go_wp2_with fail
  refine (iTracesAfter (some ⟨g_4, 0, none⟩) len0 len0 (z0.take len0) (some ⟨g_5, 0, none⟩) len1 len1 z1 _ (by (try unfold maxLen); omega) (by exact OwnInt.reads (by (with_reducible (repeat (first | assumption | apply OwnInt.drew | apply OwnInt.alloc | apply OwnBool.drew | apply OwnBool.alloc))))) (by (try unfold maxLen); omega) (by exact OwnBool.reads (by (with_reducible (repeat (first | assumption | apply OwnInt.drew | apply OwnInt.alloc | apply OwnBool.drew | apply OwnBool.alloc)))))).mono ?_
  rintro _ w_6 ⟨A_G, c_G, rfl, ho_6, hb_6⟩
  have og_6 : w_6.ownsRow w_5.heap.size 3 1 (.slice A_G (TracesAfterL len0 (z0.take len0) len1 z1).length c_G) (TracesAfterL len0 (z0.take len0) len1 z1).length (iv (TracesAfterL len0 (z0.take len0) len1 z1)) := own_base ho_6 (In.size (B := w_5.heap.size) (a := w_5) (by (repeat (first | exact In.refl _ | assumption | apply In.alloc | apply In.drewN | apply In.drew | (refine In.step ?_ (by assumption))))))
  clear ho_6
  have j_6 : In w_3.heap.size w_3 w_6 := In.step (by (repeat (first | exact In.refl _ | assumption | apply In.alloc | apply In.drewN | apply In.drew | (refine In.step ?_ (by assumption))))) hb_6
  have sz_6 : w_5.heap.size ≤ w_6.heap.size := by
    have h := hb_6.size
    (try simp at h)
    omega
  have ox_6_t3 : OwnInt w_6 g_4 len0 (z0.take len0) := OwnInt.step (by (with_reducible (repeat (first | assumption | apply OwnInt.drew | apply OwnInt.alloc | apply OwnBool.drew | apply OwnBool.alloc)))) hb_6
  have ox_6_t4 : OwnBool w_6 g_5 len1 z1 := OwnBool.step (by (with_reducible (repeat (first | assumption | apply OwnInt.drew | apply OwnInt.alloc | apply OwnBool.drew | apply OwnBool.alloc)))) hb_6
  clear hb_5 j_5 ox_5_t3 ox_5_t4
  go_wp2_with fail
  refine (eqI_c A_G A_W (TracesAfterL len0 (z0.take len0) len1 z1).length c_G c_W (TracesAfterL len0 (z0.take len0) len1 z1) _ (by unfold maxLen; omega) (by exact reads_own_i (by (with_reducible (repeat (first | assumption | apply World.ownsRow.drew | apply World.ownsRow.alloc))))) (by exact HW.out.below (In.below (by (repeat (first | exact In.refl _ | assumption | apply In.alloc | apply In.drewN | apply In.drew | (refine In.step ?_ (by assumption)))))) (Nat.le_refl _))).mono ?_
  rintro _ w_7 ⟨rfl, hb_7⟩
  have j_7 : In w_3.heap.size w_3 w_7 := In.step (by (repeat (first | exact In.refl _ | assumption | apply In.alloc | apply In.drewN | apply In.drew | (refine In.step ?_ (by assumption))))) hb_7
  have sz_7 : w_5.heap.size ≤ w_7.heap.size := by
    have h := hb_7.size
    (try simp at h)
    omega
  have ox_7_t3 : OwnInt w_7 g_4 len0 (z0.take len0) := OwnInt.step (by (with_reducible (repeat (first | assumption | apply OwnInt.drew | apply OwnInt.alloc | apply OwnBool.drew | apply OwnBool.alloc)))) hb_7
  have ox_7_t4 : OwnBool w_7 g_5 len1 z1 := OwnBool.step (by (with_reducible (repeat (first | assumption | apply OwnInt.drew | apply OwnInt.alloc | apply OwnBool.drew | apply OwnBool.alloc)))) hb_7
  have og_7 : w_7.ownsRow w_5.heap.size 3 1 (.slice A_G (TracesAfterL len0 (z0.take len0) len1 z1).length c_G) (TracesAfterL len0 (z0.take len0) len1 z1).length (iv (TracesAfterL len0 (z0.take len0) len1 z1)) := own_step (by (with_reducible (repeat (first | assumption | apply World.ownsRow.drew | apply World.ownsRow.alloc)))) hb_7
  clear hb_6 j_6 sz_6 ox_6_t3 ox_6_t4 og_6
  go_wp2_with fail
  refine (toIntS_c a0 len0 cap0 (z0.take len0) _ (by omega) (by exact R0.out.below (In.below (IC.out.trans (by (repeat (first | exact In.refl _ | assumption | apply In.alloc | apply In.drewN | apply In.drew | (refine In.step ?_ (by assumption))))))) (Nat.le_refl _))).mono ?_
  rintro _ w_8 ⟨g_8, rfl, ho_8, hg_8, hb_8⟩
  have hl_8 : (z0.take len0).length = len0 := R0.out.1
  rw [hl_8] at ho_8
  rw [hl_8]
  clear hl_8
  have NE_t5_t3 : Hid (g_8 ≠ g_4) := Lib.hid (by have h := hg_8; have h2 := ox_7_t3.lt; (try simp at h); omega)
  have NE_t5_t4 : Hid (g_8 ≠ g_5) := Lib.hid (by have h := hg_8; have h2 := ox_7_t4.lt; (try simp at h); omega)
  have ox_8_t5 : OwnInt w_8 g_8 len0 (z0.take len0) := ho_8
  have GX_t5 : Hid (w_3.heap.size ≤ g_8) := Lib.hid (Nat.le_trans (In.size (B := w_3.heap.size) (a := w_3) (by (repeat (first | exact In.refl _ | assumption | apply In.alloc | apply In.drewN | apply In.drew | (refine In.step ?_ (by assumption)))))) hg_8)
  clear ho_8 hg_8
  have j_8 : In w_3.heap.size w_3 w_8 := In.step (by (repeat (first | exact In.refl _ | assumption | apply In.alloc | apply In.drewN | apply In.drew | (refine In.step ?_ (by assumption))))) hb_8
  have sz_8 : w_5.heap.size ≤ w_8.heap.size := by
    have h := hb_8.size
    (try simp at h)
    omega
  have ox_8_t3 : OwnInt w_8 g_4 len0 (z0.take len0) := OwnInt.step (by (with_reducible (repeat (first | assumption | apply OwnInt.drew | apply OwnInt.alloc | apply OwnBool.drew | apply OwnBool.alloc)))) hb_8
  have ox_8_t4 : OwnBool w_8 g_5 len1 z1 := OwnBool.step (by (with_reducible (repeat (first | assumption | apply OwnInt.drew | apply OwnInt.alloc | apply OwnBool.drew | apply OwnBool.alloc)))) hb_8
  have og_8 : w_8.ownsRow w_5.heap.size 3 1 (.slice A_G (TracesAfterL len0 (z0.take len0) len1 z1).length c_G) (TracesAfterL len0 (z0.take len0) len1 z1).length (iv (TracesAfterL len0 (z0.take len0) len1 z1)) := own_step (by (with_reducible (repeat (first | assumption | apply World.ownsRow.drew | apply World.ownsRow.alloc)))) hb_8
  clear hb_7 j_7 sz_7 ox_7_t3 ox_7_t4 og_7
  go_wp2_with fail
  refine (eqIntS_c (some ⟨g_4, 0, none⟩) (some ⟨g_8, 0, none⟩) len0 len0 len0 (z0.take len0) _ (by unfold maxLen; omega) (by exact OwnInt.reads (by (with_reducible (repeat (first | assumption | apply OwnInt.drew | apply OwnInt.alloc | apply OwnBool.drew | apply OwnBool.alloc))))) (by exact OwnInt.reads (by (with_reducible (repeat (first | assumption | apply OwnInt.drew | apply OwnInt.alloc | apply OwnBool.drew | apply OwnBool.alloc)))))).mono ?_
  rintro _ w_9 ⟨rfl, hb_9⟩
  have j_9 : In w_3.heap.size w_3 w_9 := In.step (by (repeat (first | exact In.refl _ | assumption | apply In.alloc | apply In.drewN | apply In.drew | (refine In.step ?_ (by assumption))))) hb_9
  have sz_9 : w_5.heap.size ≤ w_9.heap.size := by
    have h := hb_9.size
    (try simp at h)
    omega
  have ox_9_t3 : OwnInt w_9 g_4 len0 (z0.take len0) := OwnInt.step (by (with_reducible (repeat (first | assumption | apply OwnInt.drew | apply OwnInt.alloc | apply OwnBool.drew | apply OwnBool.alloc)))) hb_9
  have ox_9_t4 : OwnBool w_9 g_5 len1 z1 := OwnBool.step (by (with_reducible (repeat (first | assumption | apply OwnInt.drew | apply OwnInt.alloc | apply OwnBool.drew | apply OwnBool.alloc)))) hb_9
  have og_9 : w_9.ownsRow w_5.heap.size 3 1 (.slice A_G (TracesAfterL len0 (z0.take len0) len1 z1).length c_G) (TracesAfterL len0 (z0.take len0) len1 z1).length (iv (TracesAfterL len0 (z0.take len0) len1 z1)) := own_step (by (with_reducible (repeat (first | assumption | apply World.ownsRow.drew | apply World.ownsRow.alloc)))) hb_9
  clear hb_8 j_8 sz_8 ox_8_t3 ox_8_t4 ox_8_t5 og_8
  go_wp2_with fail
  refine (toBoolS_c a1 len1 cap1 z1 _ (by omega) (by exact R1.out.in_ (IC.out.trans (by (repeat (first | exact In.refl _ | assumption | apply In.alloc | apply In.drewN | apply In.drew | (refine In.step ?_ (by assumption)))))))).mono ?_
  rintro _ w_10 ⟨g_10, rfl, ho_10, hg_10, hb_10⟩
  have hl_10 : z1.length = len1 := R1.out.1
  rw [hl_10] at ho_10
  rw [hl_10]
  clear hl_10
  have NE_t6_t3 : Hid (g_10 ≠ g_4) := Lib.hid (by have h := hg_10; have h2 := ox_9_t3.lt; (try simp at h); omega)
  have NE_t6_t4 : Hid (g_10 ≠ g_5) := Lib.hid (by have h := hg_10; have h2 := ox_9_t4.lt; (try simp at h); omega)
  have ox_10_t6 : OwnBool w_10 g_10 len1 z1 := ho_10
  have GX_t6 : Hid (w_3.heap.size ≤ g_10) := Lib.hid (Nat.le_trans (In.size (B := w_3.heap.size) (a := w_3) (by (repeat (first | exact In.refl _ | assumption | apply In.alloc | apply In.drewN | apply In.drew | (refine In.step ?_ (by assumption)))))) hg_10)
  clear ho_10 hg_10
  have j_10 : In w_3.heap.size w_3 w_10 := In.step (by (repeat (first | exact In.refl _ | assumption | apply In.alloc | apply In.drewN | apply In.drew | (refine In.step ?_ (by assumption))))) hb_10
  have sz_10 : w_5.heap.size ≤ w_10.heap.size := by
    have h := hb_10.size
    (try simp at h)
    omega
  have ox_10_t3 : OwnInt w_10 g_4 len0 (z0.take len0) := OwnInt.step (by (with_reducible (repeat (first | assumption | apply OwnInt.drew | apply OwnInt.alloc | apply OwnBool.drew | apply OwnBool.alloc)))) hb_10
  have ox_10_t4 : OwnBool w_10 g_5 len1 z1 := OwnBool.step (by (with_reducible (repeat (first | assumption | apply OwnInt.drew | apply OwnInt.alloc | apply OwnBool.drew | apply OwnBool.alloc)))) hb_10
  have og_10 : w_10.ownsRow w_5.heap.size 3 1 (.slice A_G (TracesAfterL len0 (z0.take len0) len1 z1).length c_G) (TracesAfterL len0 (z0.take len0) len1 z1).length (iv (TracesAfterL len0 (z0.take len0) len1 z1)) := own_step (by (with_reducible (repeat (first | assumption | apply World.ownsRow.drew | apply World.ownsRow.alloc)))) hb_10
  clear hb_9 j_9 sz_9 ox_9_t3 ox_9_t4 og_9
  go_wp2_with fail
  refine (eqBoolS_c (some ⟨g_5, 0, none⟩) (some ⟨g_10, 0, none⟩) len1 len1 len1 z1 _ (by unfold maxLen; omega) (by exact OwnBool.reads (by (with_reducible (repeat (first | assumption | apply OwnInt.drew | apply OwnInt.alloc | apply OwnBool.drew | apply OwnBool.alloc))))) (by exact OwnBool.reads (by (with_reducible (repeat (first | assumption | apply OwnInt.drew | apply OwnInt.alloc | apply OwnBool.drew | apply OwnBool.alloc)))))).mono ?_
  rintro _ w_11 ⟨rfl, hb_11⟩
  have j_11 : In w_3.heap.size w_3 w_11 := In.step (by (repeat (first | exact In.refl _ | assumption | apply In.alloc | apply In.drewN | apply In.drew | (refine In.step ?_ (by assumption))))) hb_11
  have sz_11 : w_5.heap.size ≤ w_11.heap.size := by
    have h := hb_11.size
    (try simp at h)
    omega
  have ox_11_t3 : OwnInt w_11 g_4 len0 (z0.take len0) := OwnInt.step (by (with_reducible (repeat (first | assumption | apply OwnInt.drew | apply OwnInt.alloc | apply OwnBool.drew | apply OwnBool.alloc)))) hb_11
  have ox_11_t4 : OwnBool w_11 g_5 len1 z1 := OwnBool.step (by (with_reducible (repeat (first | assumption | apply OwnInt.drew | apply OwnInt.alloc | apply OwnBool.drew | apply OwnBool.alloc)))) hb_11
  have og_11 : w_11.ownsRow w_5.heap.size 3 1 (.slice A_G (TracesAfterL len0 (z0.take len0) len1 z1).length c_G) (TracesAfterL len0 (z0.take len0) len1 z1).length (iv (TracesAfterL len0 (z0.take len0) len1 z1)) := own_step (by (with_reducible (repeat (first | assumption | apply World.ownsRow.drew | apply World.ownsRow.alloc)))) hb_11
  clear hb_10 j_10 sz_10 ox_10_t3 ox_10_t4 ox_10_t6 og_10
  go_wp2_with fail
  refine (markIntS_c g_4 len0 (1) (z0.take len0) _ (by omega) (by omega) (by (with_reducible (repeat (first | assumption | apply OwnInt.drew | apply OwnInt.alloc | apply OwnBool.drew | apply OwnBool.alloc))))).mono ?_
  rintro _ w_12 ⟨rfl, hb_12⟩
  have j_12 : In w_3.heap.size w_3 w_12 := In.wide (by (repeat (first | exact In.refl _ | assumption | apply In.alloc | apply In.drewN | apply In.drew | (refine In.step ?_ (by assumption))))) (below_of_only hb_12 GX_t3.out (In.size (B := w_3.heap.size) (a := w_3) (by (repeat (first | exact In.refl _ | assumption | apply In.alloc | apply In.drewN | apply In.drew | (refine In.step ?_ (by assumption)))))))
  have sz_12 : w_5.heap.size ≤ w_12.heap.size := by
    have h := hb_12.size
    (try simp at h)
    omega
  have ox_12_t4 : OwnBool w_12 g_5 len1 z1 := OwnBool.only (by (with_reducible (repeat (first | assumption | apply OwnInt.drew | apply OwnInt.alloc | apply OwnBool.drew | apply OwnBool.alloc)))) hb_12 (by first | exact NE_t4_t3.out | exact NE_t3_t4.out.symm)
  have og_12 : w_12.ownsRow w_5.heap.size 3 1 (.slice A_G (TracesAfterL len0 (z0.take len0) len1 z1).length c_G) (TracesAfterL len0 (z0.take len0) len1 z1).length (iv (TracesAfterL len0 (z0.take len0) len1 z1)) := own_only (by (with_reducible (repeat (first | assumption | apply World.ownsRow.drew | apply World.ownsRow.alloc)))) hb_12 GB_t3.out
  clear hb_11 j_11 sz_11 ox_11_t3 ox_11_t4 og_11
  go_wp2_with fail
  refine (markBoolS_c g_5 len1 (1 + len0) z1 _ (by omega) (by omega) (by (with_reducible (repeat (first | assumption | apply OwnInt.drew | apply OwnInt.alloc | apply OwnBool.drew | apply OwnBool.alloc))))).mono ?_
  rintro _ w_13 ⟨rfl, hb_13⟩
  have j_13 : In w_3.heap.size w_3 w_13 := In.wide (by (repeat (first | exact In.refl _ | assumption | apply In.alloc | apply In.drewN | apply In.drew | (refine In.step ?_ (by assumption))))) (below_of_only hb_13 GX_t4.out (In.size (B := w_3.heap.size) (a := w_3) (by (repeat (first | exact In.refl _ | assumption | apply In.alloc | apply In.drewN | apply In.drew | (refine In.step ?_ (by assumption)))))))
  have sz_13 : w_5.heap.size ≤ w_13.heap.size := by
    have h := hb_13.size
    (try simp at h)
    omega
  have og_13 : w_13.ownsRow w_5.heap.size 3 1 (.slice A_G (TracesAfterL len0 (z0.take len0) len1 z1).length c_G) (TracesAfterL len0 (z0.take len0) len1 z1).length (iv (TracesAfterL len0 (z0.take len0) len1 z1)) := own_only (by (with_reducible (repeat (first | assumption | apply World.ownsRow.drew | apply World.ownsRow.alloc)))) hb_13 GB_t4.out
  clear hb_12 j_12 sz_12 ox_12_t4 og_12
  go_wp2_with fail
  refine (eqI_c A_G A_W (TracesAfterL len0 (z0.take len0) len1 z1).length c_G c_W (TracesAfterL len0 (z0.take len0) len1 z1) _ (by unfold maxLen; omega) (by exact reads_own_i (by (with_reducible (repeat (first | assumption | apply World.ownsRow.drew | apply World.ownsRow.alloc))))) (by exact HW.out.below (In.below (by (repeat (first | exact In.refl _ | assumption | apply In.alloc | apply In.drewN | apply In.drew | (refine In.step ?_ (by assumption)))))) (Nat.le_refl _))).mono ?_
  rintro _ w_14 ⟨rfl, hb_14⟩
  have j_14 : In w_3.heap.size w_3 w_14 := In.step (by (repeat (first | exact In.refl _ | assumption | apply In.alloc | apply In.drewN | apply In.drew | (refine In.step ?_ (by assumption))))) hb_14
  have sz_14 : w_5.heap.size ≤ w_14.heap.size := by
    have h := hb_14.size
    (try simp at h)
    omega
  have og_14 : w_14.ownsRow w_5.heap.size 3 1 (.slice A_G (TracesAfterL len0 (z0.take len0) len1 z1).length c_G) (TracesAfterL len0 (z0.take len0) len1 z1).length (iv (TracesAfterL len0 (z0.take len0) len1 z1)) := own_step (by (with_reducible (repeat (first | assumption | apply World.ownsRow.drew | apply World.ownsRow.alloc)))) hb_14
  clear hb_13 j_13 sz_13 og_13
  go_wp2_with fail
  refine (markI_c A_G (TracesAfterL len0 (z0.take len0) len1 z1).length c_G 1 w_5.heap.size (TracesAfterL len0 (z0.take len0) len1 z1) _ (by omega) (by omega) (by first | assumption | (simp; omega)) (by (with_reducible (repeat (first | assumption | apply World.ownsRow.drew | apply World.ownsRow.alloc))))).mono ?_
  rintro _ w_15 ⟨rfl, og_15, hb_15⟩
  have j_15 : In w_3.heap.size w_3 w_15 := In.wide (by (repeat (first | exact In.refl _ | assumption | apply In.alloc | apply In.drewN | apply In.drew | (refine In.step ?_ (by assumption))))) (hb_15.mono CB.out)
  have sz_15 : w_5.heap.size ≤ w_15.heap.size := by
    have h := hb_15.size
    (try simp at h)
    omega
  clear hb_14 j_14 sz_14 og_14
  go_wp2_with fail
  refine (heldI_c A_G (TracesAfterL len0 (z0.take len0) len1 z1).length c_G 1 _ (by omega) (by omega) (by exact reads_own_i (by (with_reducible (repeat (first | assumption | apply World.ownsRow.drew | apply World.ownsRow.alloc)))))).mono ?_
  rintro _ w_16 ⟨rfl, hb_16⟩
  have j_16 : In w_3.heap.size w_3 w_16 := In.step (by (repeat (first | exact In.refl _ | assumption | apply In.alloc | apply In.drewN | apply In.drew | (refine In.step ?_ (by assumption))))) hb_16
  have sz_16 : w_5.heap.size ≤ w_16.heap.size := by
    have h := hb_16.size
    (try simp at h)
    omega
  have og_16 : w_16.ownsRow w_5.heap.size 3 1 (.slice A_G (TracesAfterL len0 (z0.take len0) len1 z1).length c_G) (TracesAfterL len0 (z0.take len0) len1 z1).length (iv (marksI 1 (TracesAfterL len0 (z0.take len0) len1 z1).length)) := own_step (by (with_reducible (repeat (first | assumption | apply World.ownsRow.drew | apply World.ownsRow.alloc)))) hb_16
  clear hb_15 j_15 sz_15 og_15
  go_wp2_with fail
  refine (toIntS_c a0 len0 cap0 (z0.take len0) _ (by omega) (by exact R0.out.below (In.below (IC.out.trans (by (repeat (first | exact In.refl _ | assumption | apply In.alloc | apply In.drewN | apply In.drew | (refine In.step ?_ (by assumption))))))) (Nat.le_refl _))).mono ?_
  rintro _ w_17 ⟨g_17, rfl, ho_17, hg_17, hb_17⟩
  have hl_17 : (z0.take len0).length = len0 := R0.out.1
  rw [hl_17] at ho_17
  rw [hl_17]
  clear hl_17
  have ox_17_t7 : OwnInt w_17 g_17 len0 (z0.take len0) := ho_17
  have GX_t7 : Hid (w_3.heap.size ≤ g_17) := Lib.hid (Nat.le_trans (In.size (B := w_3.heap.size) (a := w_3) (by (repeat (first | exact In.refl _ | assumption | apply In.alloc | apply In.drewN | apply In.drew | (refine In.step ?_ (by assumption)))))) hg_17)
  clear ho_17 hg_17
  have j_17 : In w_3.heap.size w_3 w_17 := In.step (by (repeat (first | exact In.refl _ | assumption | apply In.alloc | apply In.drewN | apply In.drew | (refine In.step ?_ (by assumption))))) hb_17
  have sz_17 : w_5.heap.size ≤ w_17.heap.size := by
    have h := hb_17.size
    (try simp at h)
    omega
  have og_17 : w_17.ownsRow w_5.heap.size 3 1 (.slice A_G (TracesAfterL len0 (z0.take len0) len1 z1).length c_G) (TracesAfterL len0 (z0.take len0) len1 z1).length (iv (marksI 1 (TracesAfterL len0 (z0.take len0) len1 z1).length)) := own_step (by (with_reducible (repeat (first | assumption | apply World.ownsRow.drew | apply World.ownsRow.alloc)))) hb_17
  clear hb_16 j_16 sz_16 og_16
  go_wp2_with fail
  refine (toBoolS_c a1 len1 cap1 z1 _ (by omega) (by exact R1.out.in_ (IC.out.trans (by (repeat (first | exact In.refl _ | assumption | apply In.alloc | apply In.drewN | apply In.drew | (refine In.step ?_ (by assumption)))))))).mono ?_
  rintro _ w_18 ⟨g_18, rfl, ho_18, hg_18, hb_18⟩
  have hl_18 : z1.length = len1 := R1.out.1
  rw [hl_18] at ho_18
  rw [hl_18]
  clear hl_18
  have NE_t8_t7 : Hid (g_18 ≠ g_17) := Lib.hid (by have h := hg_18; have h2 := ox_17_t7.lt; (try simp at h); omega)
  have ox_18_t8 : OwnBool w_18 g_18 len1 z1 := ho_18
  have GX_t8 : Hid (w_3.heap.size ≤ g_18) := Lib.hid (Nat.le_trans (In.size (B := w_3.heap.size) (a := w_3) (by (repeat (first | exact In.refl _ | assumption | apply In.alloc | apply In.drewN | apply In.drew | (refine In.step ?_ (by assumption)))))) hg_18)
  clear ho_18 hg_18
  have j_18 : In w_3.heap.size w_3 w_18 := In.step (by (repeat (first | exact In.refl _ | assumption | apply In.alloc | apply In.drewN | apply In.drew | (refine In.step ?_ (by assumption))))) hb_18
  have sz_18 : w_5.heap.size ≤ w_18.heap.size := by
    have h := hb_18.size
    (try simp at h)
    omega
  have ox_18_t7 : OwnInt w_18 g_17 len0 (z0.take len0) := OwnInt.step (by (with_reducible (repeat (first | assumption | apply OwnInt.drew | apply OwnInt.alloc | apply OwnBool.drew | apply OwnBool.alloc)))) hb_18
  have og_18 : w_18.ownsRow w_5.heap.size 3 1 (.slice A_G (TracesAfterL len0 (z0.take len0) len1 z1).length c_G) (TracesAfterL len0 (z0.take len0) len1 z1).length (iv (marksI 1 (TracesAfterL len0 (z0.take len0) len1 z1).length)) := own_step (by (with_reducible (repeat (first | assumption | apply World.ownsRow.drew | apply World.ownsRow.alloc)))) hb_18
  clear hb_17 j_17 sz_17 ox_17_t7 og_17
  go_wp2_with fail
  refine (iTracesAfter (some ⟨g_17, 0, none⟩) len0 len0 (z0.take len0) (some ⟨g_18, 0, none⟩) len1 len1 z1 _ (by (try unfold maxLen); omega) (by exact OwnInt.reads (by (with_reducible (repeat (first | assumption | apply OwnInt.drew | apply OwnInt.alloc | apply OwnBool.drew | apply OwnBool.alloc))))) (by (try unfold maxLen); omega) (by exact OwnBool.reads (by (with_reducible (repeat (first | assumption | apply OwnInt.drew | apply OwnInt.alloc | apply OwnBool.drew | apply OwnBool.alloc)))))).mono ?_
  rintro _ w_19 ⟨A_H, c_H, rfl, ho_19, hb_19⟩
  have xh : ReadsI w_19 A_H (TracesAfterL len0 (z0.take len0) len1 z1).length (TracesAfterL len0 (z0.take len0) len1 z1) := reads_own_i ho_19
  clear ho_19
  have j_19 : In w_3.heap.size w_3 w_19 := In.step (by (repeat (first | exact In.refl _ | assumption | apply In.alloc | apply In.drewN | apply In.drew | (refine In.step ?_ (by assumption))))) hb_19
  have sz_19 : w_5.heap.size ≤ w_19.heap.size := by
    have h := hb_19.size
    (try simp at h)
    omega
  have og_19 : w_19.ownsRow w_5.heap.size 3 1 (.slice A_G (TracesAfterL len0 (z0.take len0) len1 z1).length c_G) (TracesAfterL len0 (z0.take len0) len1 z1).length (iv (marksI 1 (TracesAfterL len0 (z0.take len0) len1 z1).length)) := own_step (by (with_reducible (repeat (first | assumption | apply World.ownsRow.drew | apply World.ownsRow.alloc)))) hb_19
  clear hb_18 j_18 sz_18 ox_18_t7 ox_18_t8 og_18
  go_wp2_with fail
  refine (eqI_c A_H A_W (TracesAfterL len0 (z0.take len0) len1 z1).length c_H c_W (TracesAfterL len0 (z0.take len0) len1 z1) _ (by unfold maxLen; omega) (by exact (by (with_reducible (repeat (first | assumption | apply ReadsI.drewN | apply ReadsI.drew | apply ReadsI.alloc))))) (by exact HW.out.below (In.below (by (repeat (first | exact In.refl _ | assumption | apply In.alloc | apply In.drewN | apply In.drew | (refine In.step ?_ (by assumption)))))) (Nat.le_refl _))).mono ?_
  rintro _ w_20 ⟨rfl, hb_20⟩
  have j_20 : In w_3.heap.size w_3 w_20 := In.step (by (repeat (first | exact In.refl _ | assumption | apply In.alloc | apply In.drewN | apply In.drew | (refine In.step ?_ (by assumption))))) hb_20
  have sz_20 : w_5.heap.size ≤ w_20.heap.size := by
    have h := hb_20.size
    (try simp at h)
    omega
  have og_20 : w_20.ownsRow w_5.heap.size 3 1 (.slice A_G (TracesAfterL len0 (z0.take len0) len1 z1).length c_G) (TracesAfterL len0 (z0.take len0) len1 z1).length (iv (marksI 1 (TracesAfterL len0 (z0.take len0) len1 z1).length)) := own_step (by (with_reducible (repeat (first | assumption | apply World.ownsRow.drew | apply World.ownsRow.alloc)))) hb_20
  clear hb_19 j_19 sz_19 og_19
  clear xh
  go_wp2_with fail
  refine (heldI_c A_G (TracesAfterL len0 (z0.take len0) len1 z1).length c_G 1 _ (by omega) (by omega) (by exact reads_own_i (by (with_reducible (repeat (first | assumption | apply World.ownsRow.drew | apply World.ownsRow.alloc)))))).mono ?_
  rintro _ w_21 ⟨rfl, hb_21⟩
  have j_21 : In w_3.heap.size w_3 w_21 := In.step (by (repeat (first | exact In.refl _ | assumption | apply In.alloc | apply In.drewN | apply In.drew | (refine In.step ?_ (by assumption))))) hb_21
  have sz_21 : w_5.heap.size ≤ w_21.heap.size := by
    have h := hb_21.size
    (try simp at h)
    omega
  have og_21 : w_21.ownsRow w_5.heap.size 3 1 (.slice A_G (TracesAfterL len0 (z0.take len0) len1 z1).length c_G) (TracesAfterL len0 (z0.take len0) len1 z1).length (iv (marksI 1 (TracesAfterL len0 (z0.take len0) len1 z1).length)) := own_step (by (with_reducible (repeat (first | assumption | apply World.ownsRow.drew | apply World.ownsRow.alloc)))) hb_21
  clear hb_20 j_20 sz_20 og_20
  go_wp2
  go_ret
  exact (show Val _ _ _ _ from Val.mk' rfl (IC.out.trans (by (repeat (first | exact In.refl _ | assumption | apply In.alloc | apply In.drewN | apply In.drew | (refine In.step ?_ (by assumption)))))))

end Go.Proofs.Ytkciaoignkondaa
