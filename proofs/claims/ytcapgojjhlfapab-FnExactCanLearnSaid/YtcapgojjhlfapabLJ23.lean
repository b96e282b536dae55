/- The law of chapter 23: CanLearn -/
import Derived.Test.YtcapgojjhlfapabIntS
import Derived.Test.YtcapgojjhlfapabIntE
import Derived.Test.YtcapgojjhlfapabOwnI
import Derived.Test.YtcapgojjhlfapabOwnM
import Derived.Test.YtcapgojjhlfapabMSkill
import Derived.Test.YtcapgojjhlfapabJ23
namespace Go.Proofs.Ytcapgojjhlfapab
open Go.ChangeShapes Go.WideShapes Go.ChangeAt Go.RowKit
set_option linter.unusedVariables false
set_option linter.unusedSimpArgs false

set_option maxHeartbeats 2000000 in
theorem walk_FnExactCanLearn (a0 : Option Addr) (len0 cap0 : Nat) (z0 : List SkillR) (a1 : Option Addr) (len1 cap1 : Nat) (z1 : List Int) (w : World) (m0 : len0 ≤ maxLen) (w0 : ReadsSkill w a0 len0 z0) (w1 : IsRow .i64 w a1 len1 cap1 z1) :
    Calls Try.prog 4 #[.slice a0 len0 cap0, .slice a1 len1 cap1] w fun e w' => e = .returned (.bool true) ∧ Below w.heap.size w w' := by
  have r0 := w0
  clear w0
  have R0 := Lib.hid r0
  clear r0
  have r1 := reads_row w1
  have m1 := row_le w1
  clear w1
  have R1 := Lib.hid r1
  clear r1
  by_cases g1 : (1048576 : Int) < (len1 : Int)
  · have g1' := g1
    unfold maxLen at m1
    go_enter Try.func4, Try.ntmps4
    go_wp2
    go_ret
    exact (show Val _ _ _ _ from Val.mk' rfl (by (repeat (first | exact In.refl _ | assumption | apply In.alloc | apply In.drewN | apply In.drew | (refine In.step ?_ (by assumption))))))
  have g1' : (len1 : Int) ≤ 1048576 := by omega
  clear g1
  have tn0 := totSkill_nn z0 len0 len0 (Nat.le_refl _)
  obtain ⟨tS0, hts0⟩ : ∃ t, (len0 : Int) + totSkill z0 len0 = t := ⟨_, rfl⟩
  have HTS0 := Lib.hid hts0
  by_cases g0 : 1048576 < tS0
  · have m0' := m0
    clear hts0 tn0
    go_enter Try.func4, Try.ntmps4
    go_wp2_with fail
    refine (szSkillS_c a0 len0 cap0 z0 (1048576) _ m0 (by omega) (by omega) R0.out).mono ?_
    rintro _ ws0 ⟨rfl, hbs0⟩
    rw [HTS0.out, szVSkill, if_pos (by omega)]
    go_wp2
    go_ret
    exact (show Val _ _ _ _ from Val.mk' rfl (by (repeat (first | exact In.refl _ | assumption | apply In.alloc | apply In.drewN | apply In.drew | (refine In.step ?_ (by assumption))))))
  have g0' : tS0 ≤ 1048576 := by omega
  clear g0
  have HLL0 : Hid (∀ k, k < len0 → ((((z0).getD k ⟨[], 0⟩).f0.length : Int) ≤ 10000000)) := Lib.hid fun k hk => by have := totSkill_at z0 len0 k hk; omega
  have hlt0 : (len0 : Int) ≤ 1048576 := by omega
  clear hts0 tn0
  have hm0 : len0 ≤ 1048576 := by omega
  have hm1 : len1 ≤ 1048576 := by omega
  have hz : (CanLearnL len0 z0 len1 (z1.take len1)).length ≤ 100000 := CanLearnL_len len0 z0 len1 (z1.take len1)
  have hL1 : (z1.take len1).length = len1 := R1.out.1
  have HS := Lib.hid (fun g (g2 : Nat) W h h2 => sCanLearn (some ⟨g, 0, none⟩) len0 len0 z0 (some ⟨g2, 0, none⟩) len1 len1 (z1.take len1) W m0 h m1 h2)
  have HI := Lib.hid (fun g (g2 : Nat) W h h2 => iCanLearn (some ⟨g, 0, none⟩) len0 len0 z0 (some ⟨g2, 0, none⟩) len1 len1 (z1.take len1) W m0 h m1 h2)
  have HLT := Lib.hid (lenTo_tot z0 len0)
  have hlt9 : lenTo z0 len0 ≤ 1048576 := by have := HLT.out; have := HTS0.out; omega
  have hL : z0.length = len0 := R0.out.1
  generalize hzs : (CanLearnL len0 z0 len1 (z1.take len1)) = zs at *
  clear hzs
  generalize (z1.take len1) = y1 at *
  go_enter Try.func4, Try.ntmps4
  go_wp2_with fail
  refine (szSkillS_c a0 len0 cap0 z0 (1048576) _ m0 (by omega) (by omega) R0.out).mono ?_
  rintro _ ws0 ⟨rfl, hbs0⟩
  rw [HTS0.out, szVSkill, if_neg (by omega)]
  have hd0 : decide (1048576 - tS0 < 0) = false := by simp; omega
  go_wp2_with fail
  refine (toSkillS_c a0 len0 cap0 z0 _ (by omega) HLL0.out (by exact R0.out.in_ (by (repeat (first | exact In.refl _ | assumption | apply In.alloc | apply In.drewN | apply In.drew | (refine In.step ?_ (by assumption))))))).mono ?_
  rintro _ w_1 ⟨g_1, rfl, ho_1, hg_1, hb_1⟩
  rw [hL] at ho_1
  rw [hL]
  have x1 := ho_1.reads
  have i_1 : In w.heap.size w w_1 := In.step (by (repeat (first | exact In.refl _ | assumption | apply In.alloc | apply In.drewN | apply In.drew | (refine In.step ?_ (by assumption))))) hb_1
  clear ho_1 hg_1
  go_wp2_with fail
  refine (toIntS_c a1 len1 cap1 y1 _ (by omega) (by exact R1.out.below (In.below (by (repeat (first | exact In.refl _ | assumption | apply In.alloc | apply In.drewN | apply In.drew | (refine In.step ?_ (by assumption)))))) (Nat.le_refl _))).mono ?_
  rintro _ w_2 ⟨g_2, rfl, ho_2, hg_2, hb_2⟩
  rw [hL1] at ho_2
  rw [hL1]
  have y2 := ho_2.reads
  have i_2 : In w.heap.size w w_2 := In.step (by (repeat (first | exact In.refl _ | assumption | apply In.alloc | apply In.drewN | apply In.drew | (refine In.step ?_ (by assumption))))) hb_2
  have x2 := x1.below hb_2
  clear ho_2 hg_2 x1
  go_wp2_with fail
  refine (HS.out g_1 g_2 _ (by exact (show ReadsSkill _ _ _ _ from by (with_reducible (repeat (first | assumption | apply ReadsI.drewN | apply ReadsI.drew | apply ReadsI.alloc | apply ReadsSkill.drew | apply ReadsSkill.alloc))))) (by (with_reducible (repeat (first | assumption | apply ReadsI.drewN | apply ReadsI.drew | apply ReadsI.alloc | apply ReadsSkill.drew | apply ReadsSkill.alloc))))).mono ?_
  rintro _ w_3 ⟨A_W, c_W, rfl, ho_3, hb_3⟩
  have i_3 : In w.heap.size w w_3 := In.step (by (repeat (first | exact In.refl _ | assumption | apply In.alloc | apply In.drewN | apply In.drew | (refine In.step ?_ (by assumption))))) hb_3
  have HW := Lib.hid (reads_own_i ho_3)
  have IC := Lib.hid i_3
  have j_3 : In w_3.heap.size w_3 w_3 := In.refl _
  clear ho_3 hb_3 i_3 hb_1 i_1 hb_2 i_2 x2 y2
  go_wp2_with fail
  refine (toSkillS_c a0 len0 cap0 z0 _ (by omega) HLL0.out (by exact R0.out.in_ (IC.out.trans (by (repeat (first | exact In.refl _ | assumption | apply In.alloc | apply In.drewN | apply In.drew | (refine In.step ?_ (by assumption)))))))).mono ?_
  rintro _ w_4 ⟨g_4, rfl, ho_4, hg_4, hb_4⟩
  rw [hL] at ho_4
  rw [hL]
  have j_4 : In w_3.heap.size w_3 w_4 := In.step (by (repeat (first | exact In.refl _ | assumption | apply In.alloc | apply In.drewN | apply In.drew | (refine In.step ?_ (by assumption))))) hb_4
  have GX : Hid (w_3.heap.size ≤ g_4) := Lib.hid (Nat.le_trans (In.size (B := w_3.heap.size) (a := w_3) (by (repeat (first | exact In.refl _ | assumption | apply In.alloc | apply In.drewN | apply In.drew | (refine In.step ?_ (by assumption)))))) hg_4)
  have GXL : Hid (g_4 < w_4.heap.size) := Lib.hid (by obtain ⟨_, _, hk, _⟩ := ho_4; exact hk.lt)
  have ox_4 := ho_4.bound
  clear ho_4 hg_4 hb_4 j_3
  go_wp2_with fail
  refine (toIntS_c a1 len1 cap1 y1 _ (by omega) (by exact R1.out.below (In.below (IC.out.trans (by (repeat (first | exact In.refl _ | assumption | apply In.alloc | apply In.drewN | apply In.drew | (refine In.step ?_ (by assumption))))))) (Nat.le_refl _))).mono ?_
  rintro _ w_5 ⟨g_5, rfl, ho_5, hg_5, hb_5⟩
  rw [hL1] at ho_5
  rw [hL1]
  have j_5 : In w_3.heap.size w_3 w_5 := In.step (by (repeat (first | exact In.refl _ | assumption | apply In.alloc | apply In.drewN | apply In.drew | (refine In.step ?_ (by assumption))))) hb_5
  have ox_5 := ox_4.step hb_5
  have GYG : Hid (w_4.heap.size ≤ g_5) := Lib.hid (by have h := hg_5; (try simp at h); omega)
  have oy_5 : w_5.ownsRow w_4.heap.size 3 1 (.slice (some ⟨g_5, 0, none⟩) len1 len1) len1 (iv y1) := own_base (show w_5.ownsRow g_5 3 1 (.slice (some ⟨g_5, 0, none⟩) len1 len1) len1 (iv y1) from ho_5) GYG.out
  have GY : Hid (g_5 < w_5.heap.size) := Lib.hid ho_5.lt
  have WXB : Hid (w_4.heap.size ≤ w_5.heap.size) := Lib.hid (by have h := hb_5.size; (try simp at h); omega)
  clear ho_5 hg_5 hb_5 j_4 ox_4
  have CB : Hid (w_3.heap.size ≤ w_5.heap.size) := Lib.hid j_5.size
  have sz_5 : w_5.heap.size ≤ w_5.heap.size := Nat.le_refl _
  have xr := ox_5.own.reads
  have yr := reads_own_i oy_5
  go_wp2_with fail
  refine (HI.out g_4 g_5 _ (by exact (show ReadsSkill _ _ _ _ from by (with_reducible (repeat (first | assumption | apply ReadsI.drewN | apply ReadsI.drew | apply ReadsI.alloc | apply ReadsSkill.drew | apply ReadsSkill.alloc))))) (by (with_reducible (repeat (first | assumption | apply ReadsI.drewN | apply ReadsI.drew | apply ReadsI.alloc | apply ReadsSkill.drew | apply ReadsSkill.alloc))))).mono ?_
  rintro _ w_6 ⟨A_G, c_G, rfl, ho_6, hb_6⟩
  have j_6 : In w_3.heap.size w_3 w_6 := In.step (by (repeat (first | exact In.refl _ | assumption | apply In.alloc | apply In.drewN | apply In.drew | (refine In.step ?_ (by assumption))))) hb_6
  have ox_6 := ox_5.step hb_6
  have oy_6 := own_step oy_5 hb_6
  have sz_6 : w_5.heap.size ≤ w_6.heap.size := hb_6.size
  have og_6 : w_6.ownsRow w_5.heap.size 3 1 (.slice A_G zs.length c_G) zs.length (iv zs) := own_base ho_6 (In.size (B := w_5.heap.size) (a := w_5) (by (repeat (first | exact In.refl _ | assumption | apply In.alloc | apply In.drewN | apply In.drew | (refine In.step ?_ (by assumption))))))
  clear j_5 ox_5 ho_6 hb_6 sz_5 xr yr oy_5
  go_wp2_with fail
  refine (eqI_c A_G A_W zs.length c_G c_W zs _ (by unfold maxLen; omega) (by exact reads_own_i (by (with_reducible (repeat (first | assumption | apply World.ownsRow.drew | apply World.ownsRow.alloc))))) (by exact HW.out.below (In.below (by (repeat (first | exact In.refl _ | assumption | apply In.alloc | apply In.drewN | apply In.drew | (refine In.step ?_ (by assumption)))))) (Nat.le_refl _))).mono ?_
  rintro _ w_7 ⟨rfl, hb_7⟩
  have j_7 : In w_3.heap.size w_3 w_7 := In.step (by (repeat (first | exact In.refl _ | assumption | apply In.alloc | apply In.drewN | apply In.drew | (refine In.step ?_ (by assumption))))) hb_7
  have sz_7 : w_5.heap.size ≤ w_7.heap.size := by
    have h := hb_7.size
    (try simp at h)
    omega
  have og_7 : w_7.ownsRow w_5.heap.size 3 1 (.slice A_G zs.length c_G) zs.length (iv zs) := own_step (by (with_reducible (repeat (first | assumption | apply World.ownsRow.drew | apply World.ownsRow.alloc)))) hb_7
  have ox_7 := ox_6.step hb_7
  have oy_7 := own_step oy_6 hb_7
  clear j_6 sz_6 og_6 hb_7 ox_6 oy_6
  go_wp2_with fail
  refine (toSkillS_c a0 len0 cap0 z0 _ (by omega) HLL0.out (by exact R0.out.in_ (IC.out.trans (by (repeat (first | exact In.refl _ | assumption | apply In.alloc | apply In.drewN | apply In.drew | (refine In.step ?_ (by assumption)))))))).mono ?_
  rintro _ w_8 ⟨g_8, rfl, ho_8, hg_8, hb_8⟩
  rw [hL] at ho_8
  rw [hL]
  have y_r := ho_8.reads
  clear ho_8 hg_8
  have j_8 : In w_3.heap.size w_3 w_8 := In.step (by (repeat (first | exact In.refl _ | assumption | apply In.alloc | apply In.drewN | apply In.drew | (refine In.step ?_ (by assumption))))) hb_8
  have sz_8 : w_5.heap.size ≤ w_8.heap.size := by
    have h := hb_8.size
    (try simp at h)
    omega
  have og_8 : w_8.ownsRow w_5.heap.size 3 1 (.slice A_G zs.length c_G) zs.length (iv zs) := own_step (by (with_reducible (repeat (first | assumption | apply World.ownsRow.drew | apply World.ownsRow.alloc)))) hb_8
  have ox_8 := ox_7.step hb_8
  have oy_8 := own_step oy_7 hb_8
  clear j_7 sz_7 og_7 hb_8 ox_7 oy_7
  have x_r := ox_8.own.reads
  go_wp2_with fail
  refine (eqSkillS_c (some ⟨g_4, 0, none⟩) (some ⟨g_8, 0, none⟩) len0 len0 len0 z0 _ (by (try unfold maxLen); omega) (by (with_reducible (repeat (first | assumption | apply ReadsI.drewN | apply ReadsI.drew | apply ReadsI.alloc | apply ReadsSkill.drew | apply ReadsSkill.alloc)))) (by (with_reducible (repeat (first | assumption | apply ReadsI.drewN | apply ReadsI.drew | apply ReadsI.alloc | apply ReadsSkill.drew | apply ReadsSkill.alloc))))).mono ?_
  rintro _ w_9 ⟨rfl, hb_9⟩
  have j_9 : In w_3.heap.size w_3 w_9 := In.step (by (repeat (first | exact In.refl _ | assumption | apply In.alloc | apply In.drewN | apply In.drew | (refine In.step ?_ (by assumption))))) hb_9
  have sz_9 : w_5.heap.size ≤ w_9.heap.size := by
    have h := hb_9.size
    (try simp at h)
    omega
  have og_9 : w_9.ownsRow w_5.heap.size 3 1 (.slice A_G zs.length c_G) zs.length (iv zs) := own_step (by (with_reducible (repeat (first | assumption | apply World.ownsRow.drew | apply World.ownsRow.alloc)))) hb_9
  have ox_9 := ox_8.step hb_9
  have oy_9 := own_step oy_8 hb_9
  clear j_8 sz_8 og_8 hb_9 ox_8 oy_8 x_r y_r
  go_wp2_with fail
  refine (toIntS_c a1 len1 cap1 y1 _ (by omega) (by exact R1.out.below (In.below (IC.out.trans (by (repeat (first | exact In.refl _ | assumption | apply In.alloc | apply In.drewN | apply In.drew | (refine In.step ?_ (by assumption))))))) (Nat.le_refl _))).mono ?_
  rintro _ w_10 ⟨g_10, rfl, ho_10, hg_10, hb_10⟩
  rw [hL1] at ho_10
  rw [hL1]
  have y_r := ho_10.reads
  clear ho_10 hg_10
  have j_10 : In w_3.heap.size w_3 w_10 := In.step (by (repeat (first | exact In.refl _ | assumption | apply In.alloc | apply In.drewN | apply In.drew | (refine In.step ?_ (by assumption))))) hb_10
  have sz_10 : w_5.heap.size ≤ w_10.heap.size := by
    have h := hb_10.size
    (try simp at h)
    omega
  have og_10 : w_10.ownsRow w_5.heap.size 3 1 (.slice A_G zs.length c_G) zs.length (iv zs) := own_step (by (with_reducible (repeat (first | assumption | apply World.ownsRow.drew | apply World.ownsRow.alloc)))) hb_10
  have ox_10 := ox_9.step hb_10
  have oy_10 := own_step oy_9 hb_10
  clear j_9 sz_9 og_9 hb_10 ox_9 oy_9
  have x_r := reads_own_i oy_10
  go_wp2_with fail
  refine (eqI_c (some ⟨g_5, 0, none⟩) (some ⟨g_10, 0, none⟩) len1 len1 len1 y1 _ (by (try unfold maxLen); omega) (by (with_reducible (repeat (first | assumption | apply ReadsI.drewN | apply ReadsI.drew | apply ReadsI.alloc | apply ReadsSkill.drew | apply ReadsSkill.alloc)))) (by (with_reducible (repeat (first | assumption | apply ReadsI.drewN | apply ReadsI.drew | apply ReadsI.alloc | apply ReadsSkill.drew | apply ReadsSkill.alloc))))).mono ?_
  rintro _ w_11 ⟨rfl, hb_11⟩
  have j_11 : In w_3.heap.size w_3 w_11 := In.step (by (repeat (first | exact In.refl _ | assumption | apply In.alloc | apply In.drewN | apply In.drew | (refine In.step ?_ (by assumption))))) hb_11
  have sz_11 : w_5.heap.size ≤ w_11.heap.size := by
    have h := hb_11.size
    (try simp at h)
    omega
  have og_11 : w_11.ownsRow w_5.heap.size 3 1 (.slice A_G zs.length c_G) zs.length (iv zs) := own_step (by (with_reducible (repeat (first | assumption | apply World.ownsRow.drew | apply World.ownsRow.alloc)))) hb_11
  have ox_11 := ox_10.step hb_11
  have oy_11 := own_step oy_10 hb_11
  clear j_10 sz_10 og_10 hb_11 ox_10 oy_10 x_r y_r
  go_wp2_with fail
  refine (markSkillS_c g_4 len0 1 w_4.heap.size z0 _ (by omega) (by omega) hlt9 ox_11 GXL.out).mono ?_
  rintro _ w_12 ⟨rfl, hs_12⟩
  have j_12 : In w_3.heap.size w_3 w_12 := In.wide (by (repeat (first | exact In.refl _ | assumption | apply In.alloc | apply In.drewN | apply In.drew | (refine In.step ?_ (by assumption))))) (hs_12.below.mono GX.out)
  have sz_12 : w_5.heap.size ≤ w_12.heap.size := by
    have h := hs_12.below.size
    (try simp at h)
    omega
  have og_12 : w_12.ownsRow w_5.heap.size 3 1 (.slice A_G zs.length c_G) zs.length (iv zs) := own_span (by (with_reducible (repeat (first | assumption | apply World.ownsRow.drew | apply World.ownsRow.alloc)))) WXB.out hs_12
  have oy_12 : w_12.ownsRow w_4.heap.size 3 1 (.slice (some ⟨g_5, 0, none⟩) len1 len1) len1 (iv y1) := own_span oy_11 (Nat.le_refl _) hs_12
  clear j_11 sz_11 og_11 ox_11 hs_12 oy_11
  obtain ⟨lt, hltt⟩ : ∃ lt, 1 + lenTo z0 len0 + len0 = lt := ⟨_, rfl⟩
  rw [hltt]
  have hltb : lt ≤ 3000000 := by omega
  clear hltt hlt9
  go_wp2_with fail
  refine (markIntS_c g_5 len1 lt y1 _ (by omega) (by omega) (own_to_int oy_12)).mono ?_
  rintro _ w_13 ⟨rfl, hb_13⟩
  have j_13 : In w_3.heap.size w_3 w_13 := In.wide (by (repeat (first | exact In.refl _ | assumption | apply In.alloc | apply In.drewN | apply In.drew | (refine In.step ?_ (by assumption))))) (below_of_only hb_13 (Nat.le_trans (Nat.le_trans GX.out (Nat.le_of_lt GXL.out)) GYG.out) (In.size (B := w_3.heap.size) (a := w_3) (by (repeat (first | exact In.refl _ | assumption | apply In.alloc | apply In.drewN | apply In.drew | (refine In.step ?_ (by assumption)))))))
  have sz_13 : w_5.heap.size ≤ w_13.heap.size := by
    have h := hb_13.size
    (try simp at h)
    omega
  have og_13 : w_13.ownsRow w_5.heap.size 3 1 (.slice A_G zs.length c_G) zs.length (iv zs) := own_only (by (with_reducible (repeat (first | assumption | apply World.ownsRow.drew | apply World.ownsRow.alloc)))) hb_13 GY.out
  clear j_12 sz_12 og_12 oy_12 hb_13
  go_wp2_with fail
  refine (eqI_c A_G A_W zs.length c_G c_W zs _ (by unfold maxLen; omega) (by exact reads_own_i (by (with_reducible (repeat (first | assumption | apply World.ownsRow.drew | apply World.ownsRow.alloc))))) (by exact HW.out.below (In.below (by (repeat (first | exact In.refl _ | assumption | apply In.alloc | apply In.drewN | apply In.drew | (refine In.step ?_ (by assumption)))))) (Nat.le_refl _))).mono ?_
  rintro _ w_14 ⟨rfl, hb_14⟩
  have j_14 : In w_3.heap.size w_3 w_14 := In.step (by (repeat (first | exact In.refl _ | assumption | apply In.alloc | apply In.drewN | apply In.drew | (refine In.step ?_ (by assumption))))) hb_14
  have sz_14 : w_5.heap.size ≤ w_14.heap.size := by
    have h := hb_14.size
    (try simp at h)
    omega
  have og_14 : w_14.ownsRow w_5.heap.size 3 1 (.slice A_G zs.length c_G) zs.length (iv zs) := own_step (by (with_reducible (repeat (first | assumption | apply World.ownsRow.drew | apply World.ownsRow.alloc)))) hb_14
  clear j_13 sz_13 og_13 hb_14
  go_wp2_with fail
  refine (markI_c A_G zs.length c_G 1 w_5.heap.size zs _ (by omega) (by omega) (by first | assumption | (simp; omega)) (by (with_reducible (repeat (first | assumption | apply World.ownsRow.drew | apply World.ownsRow.alloc))))).mono ?_
  rintro _ w_15 ⟨rfl, og_15, hb_15⟩
  have j_15 : In w_3.heap.size w_3 w_15 := In.wide (by (repeat (first | exact In.refl _ | assumption | apply In.alloc | apply In.drewN | apply In.drew | (refine In.step ?_ (by assumption))))) (hb_15.mono CB.out)
  have sz_15 : w_5.heap.size ≤ w_15.heap.size := by
    have h := hb_15.size
    (try simp at h)
    omega
  clear j_14 sz_14 og_14 hb_15
  go_wp2_with fail
  refine (heldI_c A_G zs.length c_G 1 _ (by omega) (by omega) (by exact reads_own_i (by (with_reducible (repeat (first | assumption | apply World.ownsRow.drew | apply World.ownsRow.alloc)))))).mono ?_
  rintro _ w_16 ⟨rfl, hb_16⟩
  have j_16 : In w_3.heap.size w_3 w_16 := In.step (by (repeat (first | exact In.refl _ | assumption | apply In.alloc | apply In.drewN | apply In.drew | (refine In.step ?_ (by assumption))))) hb_16
  have sz_16 : w_5.heap.size ≤ w_16.heap.size := by
    have h := hb_16.size
    (try simp at h)
    omega
  have og_16 : w_16.ownsRow w_5.heap.size 3 1 (.slice A_G zs.length c_G) zs.length (iv (marksI 1 zs.length)) := own_step (by (with_reducible (repeat (first | assumption | apply World.ownsRow.drew | apply World.ownsRow.alloc)))) hb_16
  clear j_15 sz_15 og_15 hb_16
  go_wp2_with fail
  refine (toSkillS_c a0 len0 cap0 z0 _ (by omega) HLL0.out (by exact R0.out.in_ (IC.out.trans (by (repeat (first | exact In.refl _ | assumption | apply In.alloc | apply In.drewN | apply In.drew | (refine In.step ?_ (by assumption)))))))).mono ?_
  rintro _ w_17 ⟨g_17, rfl, ho_17, hg_17, hb_17⟩
  rw [hL] at ho_17
  rw [hL]
  have y_r := ho_17.reads
  clear ho_17 hg_17
  have j_17 : In w_3.heap.size w_3 w_17 := In.step (by (repeat (first | exact In.refl _ | assumption | apply In.alloc | apply In.drewN | apply In.drew | (refine In.step ?_ (by assumption))))) hb_17
  have sz_17 : w_5.heap.size ≤ w_17.heap.size := by
    have h := hb_17.size
    (try simp at h)
    omega
  have og_17 : w_17.ownsRow w_5.heap.size 3 1 (.slice A_G zs.length c_G) zs.length (iv (marksI 1 zs.length)) := own_step (by (with_reducible (repeat (first | assumption | apply World.ownsRow.drew | apply World.ownsRow.alloc)))) hb_17
  clear j_16 sz_16 og_16 hb_17
  go_wp2_with fail
  refine (toIntS_c a1 len1 cap1 y1 _ (by omega) (by exact R1.out.below (In.below (IC.out.trans (by (repeat (first | exact In.refl _ | assumption | apply In.alloc | apply In.drewN | apply In.drew | (refine In.step ?_ (by assumption))))))) (Nat.le_refl _))).mono ?_
  rintro _ w_18 ⟨g_18, rfl, ho_18, hg_18, hb_18⟩
  rw [hL1] at ho_18
  rw [hL1]
  have z_r := ho_18.reads
  have y_r2 := y_r.below hb_18
  clear ho_18 hg_18 y_r
  have j_18 : In w_3.heap.size w_3 w_18 := In.step (by (repeat (first | exact In.refl _ | assumption | apply In.alloc | apply In.drewN | apply In.drew | (refine In.step ?_ (by assumption))))) hb_18
  have sz_18 : w_5.heap.size ≤ w_18.heap.size := by
    have h := hb_18.size
    (try simp at h)
    omega
  have og_18 : w_18.ownsRow w_5.heap.size 3 1 (.slice A_G zs.length c_G) zs.length (iv (marksI 1 zs.length)) := own_step (by (with_reducible (repeat (first | assumption | apply World.ownsRow.drew | apply World.ownsRow.alloc)))) hb_18
  clear j_17 sz_17 og_17 hb_18
  go_wp2_with fail
  refine (HI.out g_17 g_18 _ (by exact (show ReadsSkill _ _ _ _ from by (with_reducible (repeat (first | assumption | apply ReadsI.drewN | apply ReadsI.drew | apply ReadsI.alloc | apply ReadsSkill.drew | apply ReadsSkill.alloc))))) (by (with_reducible (repeat (first | assumption | apply ReadsI.drewN | apply ReadsI.drew | apply ReadsI.alloc | apply ReadsSkill.drew | apply ReadsSkill.alloc))))).mono ?_
  rintro _ w_19 ⟨A_H, c_H, rfl, ho_19, hb_19⟩
  have xh : ReadsI w_19 A_H zs.length zs := reads_own_i ho_19
  clear ho_19 y_r2 z_r
  have j_19 : In w_3.heap.size w_3 w_19 := In.step (by (repeat (first | exact In.refl _ | assumption | apply In.alloc | apply In.drewN | apply In.drew | (refine In.step ?_ (by assumption))))) hb_19
  have sz_19 : w_5.heap.size ≤ w_19.heap.size := by
    have h := hb_19.size
    (try simp at h)
    omega
  have og_19 : w_19.ownsRow w_5.heap.size 3 1 (.slice A_G zs.length c_G) zs.length (iv (marksI 1 zs.length)) := own_step (by (with_reducible (repeat (first | assumption | apply World.ownsRow.drew | apply World.ownsRow.alloc)))) hb_19
  clear j_18 sz_18 og_18 hb_19
  go_wp2_with fail
  refine (eqI_c A_H A_W zs.length c_H c_W zs _ (by unfold maxLen; omega) (by exact (by (with_reducible (repeat (first | assumption | apply ReadsI.drewN | apply ReadsI.drew | apply ReadsI.alloc | apply ReadsSkill.drew | apply ReadsSkill.alloc))))) (by exact HW.out.below (In.below (by (repeat (first | exact In.refl _ | assumption | apply In.alloc | apply In.drewN | apply In.drew | (refine In.step ?_ (by assumption)))))) (Nat.le_refl _))).mono ?_
  rintro _ w_20 ⟨rfl, hb_20⟩
  have j_20 : In w_3.heap.size w_3 w_20 := In.step (by (repeat (first | exact In.refl _ | assumption | apply In.alloc | apply In.drewN | apply In.drew | (refine In.step ?_ (by assumption))))) hb_20
  have sz_20 : w_5.heap.size ≤ w_20.heap.size := by
    have h := hb_20.size
    (try simp at h)
    omega
  have og_20 : w_20.ownsRow w_5.heap.size 3 1 (.slice A_G zs.length c_G) zs.length (iv (marksI 1 zs.length)) := own_step (by (with_reducible (repeat (first | assumption | apply World.ownsRow.drew | apply World.ownsRow.alloc)))) hb_20
  clear j_19 sz_19 og_19 hb_20 xh
  go_wp2_with fail
  refine (heldI_c A_G zs.length c_G 1 _ (by omega) (by omega) (by exact reads_own_i (by (with_reducible (repeat (first | assumption | apply World.ownsRow.drew | apply World.ownsRow.alloc)))))).mono ?_
  rintro _ w_21 ⟨rfl, hb_21⟩
  have j_21 : In w_3.heap.size w_3 w_21 := In.step (by (repeat (first | exact In.refl _ | assumption | apply In.alloc | apply In.drewN | apply In.drew | (refine In.step ?_ (by assumption))))) hb_21
  have sz_21 : w_5.heap.size ≤ w_21.heap.size := by
    have h := hb_21.size
    (try simp at h)
    omega
  have og_21 : w_21.ownsRow w_5.heap.size 3 1 (.slice A_G zs.length c_G) zs.length (iv (marksI 1 zs.length)) := own_step (by (with_reducible (repeat (first | assumption | apply World.ownsRow.drew | apply World.ownsRow.alloc)))) hb_21
  clear j_20 sz_20 og_20 hb_21
  go_wp2
  go_ret
  exact (show Val _ _ _ _ from Val.mk' rfl (IC.out.trans (by (repeat (first | exact In.refl _ | assumption | apply In.alloc | apply In.drewN | apply In.drew | (refine In.step ?_ (by assumption)))))))

end Go.Proofs.Ytcapgojjhlfapab
