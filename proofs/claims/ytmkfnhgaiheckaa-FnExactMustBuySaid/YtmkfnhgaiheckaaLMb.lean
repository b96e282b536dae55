/- The exact law of MustBuy. -/
import Derived.Test.YtmkfnhgaiheckaaMbI
import Derived.Test.YtmkfnhgaiheckaaMbS
import Derived.Test.YtmkfnhgaiheckaaWStock
import Derived.Test.YtmkfnhgaiheckaaMDough
import Derived.Test.YtmkfnhgaiheckaaOwnM
import Derived.Test.YtmkfnhgaiheckaaOwnI
namespace Go.Proofs.Ytmkfnhgaiheckaa
open Go.ChangeShapes Go.WideShapes Go.ChangeAt Go.RowKit
set_option linter.unusedVariables false
set_option linter.unusedSimpArgs false
set_option maxHeartbeats 2000000

set_option maxHeartbeats 16000000 in
set_option maxRecDepth 20000 in
theorem walk_FnExactMustBuy (a0 : Option Addr) (len0 cap0 : Nat) (z0 : List Int) (a1 : Option Addr) (len1 cap1 : Nat) (z1 : List DoughR) (a2 : Option Addr) (len2 cap2 : Nat) (z2 : List Int) (w : World) (w0 : IsRow .i64 w a0 len0 cap0 z0) (m1 : len1 ≤ maxLen) (w1 : ReadsDough w a1 len1 z1) (w2 : IsRow .i64 w a2 len2 cap2 z2) :
    Calls Try.prog 10 #[.agg #[.slice a0 len0 cap0], .slice a1 len1 cap1, .slice a2 len2 cap2] w fun e w' => e = .returned (.bool true) ∧ Below w.heap.size w w' := by
  have R0 := Lib.hid (reads_row w0)
  have m0 := row_le w0
  have R2 := Lib.hid (reads_row w2)
  have m2 := row_le w2
  have R1 := Lib.hid w1
  clear w0 w1 w2
  obtain ⟨zs, hzs⟩ : ∃ zs, MustL len0 (z0.take len0) len1 z1 len2 (z2.take len2) = zs := ⟨_, rfl⟩
  have HZS := Lib.hid hzs
  have hzl : zs.length ≤ 100000 := by rw [← hzs]; exact MustL_len len0 (z0.take len0) len1 z1 len2 (z2.take len2)
  clear hzs
  obtain ⟨bP, hbP⟩ : ∃ b, b = w.heap.size := ⟨_, rfl⟩
  have kP : Blk (w.alloc (.cells #[.slice a0 len0 cap0] 85)) bP 85 #[.slice a0 len0 cap0] := Blk.new' hbP
  have iP : In w.heap.size w (w.alloc (.cells #[.slice a0 len0 cap0] 85)) := by (repeat (first | exact In.refl _ | assumption | apply In.alloc | apply In.drewN | apply In.drew | (refine In.step ?_ (by assumption))))
  by_cases g2 : (1048576 : Int) < (len2 : Int)
  · unfold maxLen at m2
    go_enter Try.func10, Try.ntmps10
    go_wp2
    go_ret
    exact (show Val _ _ _ _ from Val.mk' rfl (by (repeat (first | exact In.refl _ | assumption | apply In.alloc | apply In.drewN | apply In.drew | (refine In.step ?_ (by assumption))))))
  have g2' : (len2 : Int) ≤ 1048576 := by omega
  clear g2
  by_cases g0 : (1048576 : Int) < (len0 : Int)
  · skip
    go_enter Try.func10, Try.ntmps10
    go_wp2_with fail
    rw [← hbP]
    clear hbP
    generalize (w.alloc (.cells #[.slice a0 len0 cap0] 85)) = wP at *
    have cP := kP.cell 0
    go_wp2_with fail
    refine (szStock_c a0 len0 cap0 1048576 _ m0 (by omega) (by omega)).mono ?_
    rintro _ ws ⟨rfl, hbs⟩
    have is : In w.heap.size w ws := iP.step hbs
    have ks := kP.step hbs
    have cs := ks.cell 0
    clear iP kP cP hbs
    rw [if_pos (by omega)]
    go_wp2
    go_ret
    exact (show Val _ _ _ _ from Val.mk' rfl (by (repeat (first | exact In.refl _ | assumption | apply In.alloc | apply In.drewN | apply In.drew | (refine In.step ?_ (by assumption))))))
  have g0' : (len0 : Int) ≤ 1048576 := by omega
  clear g0
  by_cases g1 : 1048576 - (len0 : Int) < (len1 : Int)
  · skip
    go_enter Try.func10, Try.ntmps10
    go_wp2_with fail
    rw [← hbP]
    clear hbP
    generalize (w.alloc (.cells #[.slice a0 len0 cap0] 85)) = wP at *
    have cP := kP.cell 0
    go_wp2_with fail
    refine (szStock_c a0 len0 cap0 1048576 _ m0 (by omega) (by omega)).mono ?_
    rintro _ ws ⟨rfl, hbs⟩
    have is : In w.heap.size w ws := iP.step hbs
    have ks := kP.step hbs
    have cs := ks.cell 0
    clear iP kP cP hbs
    rw [if_neg (by omega)]
    go_wp2_with fail
    refine (szDoughS_c a1 len1 cap1 (1048576 - (len0 : Int)) _ m1 (by omega) (by omega)).mono ?_
    rintro _ _ ⟨rfl, rfl⟩
    rw [if_pos (by omega)]
    go_wp2
    go_ret
    exact (show Val _ _ _ _ from Val.mk' rfl (by (repeat (first | exact In.refl _ | assumption | apply In.alloc | apply In.drewN | apply In.drew | (refine In.step ?_ (by assumption))))))
  have g1' : (len1 : Int) ≤ 1048576 - (len0 : Int) := by omega
  clear g1
  have hm0 : len0 ≤ 1048576 := by omega
  have hm1 : len1 ≤ 1048576 := by omega
  have hm2 : len2 ≤ 1048576 := by omega
  go_enter Try.func10, Try.ntmps10
  go_wp2_with fail
  rw [← hbP]
  clear hbP
  generalize (w.alloc (.cells #[.slice a0 len0 cap0] 85)) = wP at *
  have cP := kP.cell 0
  go_wp2_with fail
  refine (szStock_c a0 len0 cap0 1048576 _ m0 (by omega) (by omega)).mono ?_
  rintro _ ws ⟨rfl, hbs⟩
  have is : In w.heap.size w ws := iP.step hbs
  have ks := kP.step hbs
  have cs := ks.cell 0
  clear iP kP cP hbs
  rw [if_neg (by omega)]
  go_wp2_with fail
  refine (szDoughS_c a1 len1 cap1 (1048576 - (len0 : Int)) _ m1 (by omega) (by omega)).mono ?_
  rintro _ _ ⟨rfl, rfl⟩
  rw [if_neg (by omega)]
  go_wp2_with fail
  refine (toStock_c a0 len0 cap0 (z0.take len0) _ (by omega) (R0.out.below (In.below is) (Nat.le_refl _))).mono ?_
  rintro _ w_1 ⟨g_a, rfl, ho_1, hg_1, hb_1⟩
  have NPB_a : Hid (bP ≠ g_a) := Lib.hid (by have h := ks.lt; omega)
  have i_1 : In w.heap.size w w_1 := is.step hb_1
  have kP_1 : Blk w_1 bP 85 #[.slice a0 len0 cap0] := ks.step hb_1
  have ckP_1 := kP_1.cell 0
  clear is ks hb_1
  clear cs
  clear hg_1
  go_wp2_with fail
  refine (toDoughS_c a1 len1 cap1 z1 _ (by omega) (R1.out.in_ i_1)).mono ?_
  rintro _ w_2 ⟨g_b, rfl, ho_2, hg_2, hb_2⟩
  have hl_2 : z1.length = len1 := R1.out.1
  rw [hl_2] at ho_2
  rw [hl_2]
  clear hl_2
  have NE_b_a : Hid (g_b ≠ g_a) := Lib.hid (by have h := OwnC.lt ho_1; omega)
  have NE_a_b : Hid (g_a ≠ g_b) := Lib.hid NE_b_a.out.symm
  have NPB_b : Hid (bP ≠ g_b) := Lib.hid (by have h := kP_1.lt; omega)
  have i_2 : In w.heap.size w w_2 := i_1.step hb_2
  have kP_2 : Blk w_2 bP 85 #[.slice a0 len0 cap0] := kP_1.step hb_2
  have ckP_2 := kP_2.cell 0
  have oa_2 : OwnC w_2 g_a len0 len0 (z0.take len0) := ho_1.step hb_2
  clear i_1 kP_1 ho_1 hb_2
  clear ckP_1
  clear hg_2
  go_wp2_with fail
  refine (toIntS_c a2 len2 cap2 (z2.take len2) _ (by omega) (R2.out.below (In.below i_2) (Nat.le_refl _))).mono ?_
  rintro _ w_3 ⟨g_c, rfl, ho_3, hg_3, hb_3⟩
  have hl_3 : (z2.take len2).length = len2 := R2.out.1
  rw [hl_3] at ho_3
  rw [hl_3]
  clear hl_3
  have NE_c_a : Hid (g_c ≠ g_a) := Lib.hid (by have h := OwnC.lt oa_2; omega)
  have NE_a_c : Hid (g_a ≠ g_c) := Lib.hid NE_c_a.out.symm
  have NE_c_b : Hid (g_c ≠ g_b) := Lib.hid (by have h := OwnDough.lt ho_2; omega)
  have NE_b_c : Hid (g_b ≠ g_c) := Lib.hid NE_c_b.out.symm
  have NPB_c : Hid (bP ≠ g_c) := Lib.hid (by have h := kP_2.lt; omega)
  have i_3 : In w.heap.size w w_3 := i_2.step hb_3
  have kP_3 : Blk w_3 bP 85 #[.slice a0 len0 cap0] := kP_2.step hb_3
  have ckP_3 := kP_3.cell 0
  have oa_3 : OwnC w_3 g_a len0 len0 (z0.take len0) := oa_2.step hb_3
  have ob_3 : OwnDough w_3 g_b len1 z1 := ho_2.step hb_3
  clear i_2 kP_2 oa_2 ho_2 hb_3
  clear ckP_2
  clear hg_3
  go_wp2_with fail
  refine (sMustBuy ⟨g_a, 0, none⟩ len0 len0 (z0.take len0) (some ⟨g_b, 0, none⟩) len1 len1 z1 (some ⟨g_c, 0, none⟩) len2 len2 (z2.take len2) _ (by omega) oa_3.reads (by unfold maxLen; omega) ob_3.reads (by unfold maxLen; omega) ho_3.reads).mono ?_
  rintro _ w_4 ⟨A_W, c_W, rfl, hr_4, hb_4⟩
  rw [HZS.out] at hr_4
  rw [HZS.out]
  clear oa_3
  clear ob_3
  clear ho_3
  have i_4 : In w.heap.size w w_4 := i_3.step hb_4
  have kP_4 : Blk w_4 bP 85 #[.slice a0 len0 cap0] := kP_3.step hb_4
  have ckP_4 := kP_4.cell 0
  clear i_3 kP_3 hb_4
  clear ckP_3
  have HW := Lib.hid (reads_own_i hr_4)
  have IC := Lib.hid i_4
  have j_4 : In w_4.heap.size w_4 w_4 := In.refl _
  clear hr_4 i_4
  go_wp2_with fail
  refine (toStock_c a0 len0 cap0 (z0.take len0) _ (by omega) (R0.out.below (In.below (IC.out.trans j_4)) (Nat.le_refl _))).mono ?_
  rintro _ w_5 ⟨g_x, rfl, ho_5, hg_5, hb_5⟩
  have NPB_x : Hid (bP ≠ g_x) := Lib.hid (by have h := kP_4.lt; omega)
  have GX_x : Hid (w_4.heap.size ≤ g_x) := Lib.hid (Nat.le_trans j_4.size hg_5)
  have kP_5 : Blk w_5 bP 85 #[.slice a0 len0 cap0] := kP_4.step hb_5
  have ckP_5 := kP_5.cell 0
  have j_5 : In w_4.heap.size w_4 w_5 := j_4.step hb_5
  clear kP_4 j_4 hb_5
  clear ckP_4
  clear hg_5
  go_wp2_with fail
  obtain ⟨bX, hbX⟩ : ∃ b, b = w_5.heap.size := ⟨_, rfl⟩
  rw [← hbX]
  have kX_6 : Blk (w_5.alloc (.cells #[.slice (some ⟨g_x, 0, none⟩) len0 len0] 90)) bX 90 #[.slice (some ⟨g_x, 0, none⟩) len0 len0] := Blk.new' hbX
  have hb_6 : Below w_5.heap.size w_5 (w_5.alloc (.cells #[.slice (some ⟨g_x, 0, none⟩) len0 len0] 90)) := (Below.refl _ _).alloc (Nat.le_refl _) _
  have NXB_x : Hid (bX ≠ g_x) := Lib.hid (by have h := OwnC.lt ho_5; omega)
  clear hbX
  generalize (w_5.alloc (.cells #[.slice (some ⟨g_x, 0, none⟩) len0 len0] 90)) = w_6 at *
  have ckX_6 := kX_6.cell 0
  have kP_6 : Blk w_6 bP 85 #[.slice a0 len0 cap0] := kP_5.step hb_6
  have ckP_6 := kP_6.cell 0
  have j_6 : In w_4.heap.size w_4 w_6 := j_5.step hb_6
  have ox_6 : OwnC w_6 g_x len0 len0 (z0.take len0) := ho_5.step hb_6
  clear kP_5 j_5 ho_5 hb_6
  clear ckP_5
  go_wp2_with fail
  refine (toDoughS_c a1 len1 cap1 z1 _ (by omega) (R1.out.in_ (IC.out.trans j_6))).mono ?_
  rintro _ w_7 ⟨g_y, rfl, ho_7, hg_7, hb_7⟩
  have hl_7 : z1.length = len1 := R1.out.1
  rw [hl_7] at ho_7
  rw [hl_7]
  clear hl_7
  have NE_y_x : Hid (g_y ≠ g_x) := Lib.hid (by have h := OwnC.lt ox_6; omega)
  have NE_x_y : Hid (g_x ≠ g_y) := Lib.hid NE_y_x.out.symm
  have NPB_y : Hid (bP ≠ g_y) := Lib.hid (by have h := kP_6.lt; omega)
  have NXB_y : Hid (bX ≠ g_y) := Lib.hid (by have h := kX_6.lt; omega)
  have GX_y : Hid (w_4.heap.size ≤ g_y) := Lib.hid (Nat.le_trans j_6.size hg_7)
  have kP_7 : Blk w_7 bP 85 #[.slice a0 len0 cap0] := kP_6.step hb_7
  have ckP_7 := kP_7.cell 0
  have j_7 : In w_4.heap.size w_4 w_7 := j_6.step hb_7
  have ox_7 : OwnC w_7 g_x len0 len0 (z0.take len0) := ox_6.step hb_7
  have kX_7 : Blk w_7 bX 90 #[.slice (some ⟨g_x, 0, none⟩) len0 len0] := kX_6.step hb_7
  have ckX_7 := kX_7.cell 0
  clear kP_6 j_6 ox_6 kX_6 hb_7
  clear ckP_6
  clear ckX_6
  clear hg_7
  go_wp2_with fail
  refine (toIntS_c a2 len2 cap2 (z2.take len2) _ (by omega) (R2.out.below (In.below (IC.out.trans j_7)) (Nat.le_refl _))).mono ?_
  rintro _ w_8 ⟨g_z, rfl, ho_8, hg_8, hb_8⟩
  have hl_8 : (z2.take len2).length = len2 := R2.out.1
  rw [hl_8] at ho_8
  rw [hl_8]
  clear hl_8
  have NE_z_x : Hid (g_z ≠ g_x) := Lib.hid (by have h := OwnC.lt ox_7; omega)
  have NE_x_z : Hid (g_x ≠ g_z) := Lib.hid NE_z_x.out.symm
  have NE_z_y : Hid (g_z ≠ g_y) := Lib.hid (by have h := OwnDough.lt ho_7; omega)
  have NE_y_z : Hid (g_y ≠ g_z) := Lib.hid NE_z_y.out.symm
  have NPB_z : Hid (bP ≠ g_z) := Lib.hid (by have h := kP_7.lt; omega)
  have NXB_z : Hid (bX ≠ g_z) := Lib.hid (by have h := kX_7.lt; omega)
  have GX_z : Hid (w_4.heap.size ≤ g_z) := Lib.hid (Nat.le_trans j_7.size hg_8)
  have kP_8 : Blk w_8 bP 85 #[.slice a0 len0 cap0] := kP_7.step hb_8
  have ckP_8 := kP_8.cell 0
  have j_8 : In w_4.heap.size w_4 w_8 := j_7.step hb_8
  have ox_8 : OwnC w_8 g_x len0 len0 (z0.take len0) := ox_7.step hb_8
  have kX_8 : Blk w_8 bX 90 #[.slice (some ⟨g_x, 0, none⟩) len0 len0] := kX_7.step hb_8
  have ckX_8 := kX_8.cell 0
  have oy_8 : OwnDough w_8 g_y len1 z1 := ho_7.step hb_8
  clear kP_7 j_7 ox_7 kX_7 ho_7 hb_8
  clear ckP_7
  clear ckX_7
  clear hg_8
  have CB : Hid (w_4.heap.size ≤ w_8.heap.size) := Lib.hid j_8.size
  have GP : Hid (bP < w_8.heap.size) := Lib.hid kP_8.lt
  have GBX : Hid (bX < w_8.heap.size) := Lib.hid kX_8.lt
  have GB_x : Hid (g_x < w_8.heap.size) := Lib.hid (OwnC.lt ox_8)
  have GB_y : Hid (g_y < w_8.heap.size) := Lib.hid (OwnDough.lt oy_8)
  have GB_z : Hid (g_z < w_8.heap.size) := Lib.hid (OwnInt.lt ho_8)
  go_wp2_with fail
  refine (iMustBuy ⟨g_x, 0, none⟩ len0 len0 (z0.take len0) (some ⟨g_y, 0, none⟩) len1 len1 z1 (some ⟨g_z, 0, none⟩) len2 len2 (z2.take len2) _ (by omega) ox_8.reads (by unfold maxLen; omega) oy_8.reads (by unfold maxLen; omega) ho_8.reads).mono ?_
  rintro _ w_9 ⟨A_G, c_G, rfl, hr_9, hb_9⟩
  rw [HZS.out] at hr_9
  rw [HZS.out]
  have sz_9 : w_8.heap.size ≤ w_9.heap.size := hb_9.size
  have og_9 : w_9.ownsRow w_8.heap.size 3 1 (.slice A_G zs.length c_G) zs.length (iv zs) := hr_9
  clear hr_9
  have kP_9 : Blk w_9 bP 85 #[.slice a0 len0 cap0] := kP_8.step hb_9
  have ckP_9 := kP_9.cell 0
  have j_9 : In w_4.heap.size w_4 w_9 := j_8.step hb_9
  have ox_9 : OwnC w_9 g_x len0 len0 (z0.take len0) := ox_8.step hb_9
  have kX_9 : Blk w_9 bX 90 #[.slice (some ⟨g_x, 0, none⟩) len0 len0] := kX_8.step hb_9
  have ckX_9 := kX_9.cell 0
  have oy_9 : OwnDough w_9 g_y len1 z1 := oy_8.step hb_9
  have oz_9 : OwnInt w_9 g_z len2 (z2.take len2) := ho_8.step hb_9
  clear kP_8 j_8 ox_8 kX_8 oy_8 ho_8 hb_9
  clear ckP_8
  clear ckX_8
  go_wp2_with fail
  refine (eqI_c A_G A_W zs.length c_G c_W zs _ (by unfold maxLen; omega) (reads_own_i og_9) (HW.out.below (In.below j_9) (Nat.le_refl _))).mono ?_
  rintro _ w_10 ⟨rfl, hb_10⟩
  have kP_10 : Blk w_10 bP 85 #[.slice a0 len0 cap0] := kP_9.step hb_10
  have ckP_10 := kP_10.cell 0
  have j_10 : In w_4.heap.size w_4 w_10 := j_9.step hb_10
  have ox_10 : OwnC w_10 g_x len0 len0 (z0.take len0) := ox_9.step hb_10
  have kX_10 : Blk w_10 bX 90 #[.slice (some ⟨g_x, 0, none⟩) len0 len0] := kX_9.step hb_10
  have ckX_10 := kX_10.cell 0
  have oy_10 : OwnDough w_10 g_y len1 z1 := oy_9.step hb_10
  have oz_10 : OwnInt w_10 g_z len2 (z2.take len2) := oz_9.step hb_10
  have og_10 : w_10.ownsRow w_8.heap.size 3 1 (.slice A_G zs.length c_G) zs.length (iv zs) := own_step og_9 hb_10
  have sz_10 : w_8.heap.size ≤ w_10.heap.size := Nat.le_trans sz_9 hb_10.size
  clear kP_9 j_9 ox_9 kX_9 oy_9 oz_9 og_9 sz_9 hb_10
  clear ckP_9
  clear ckX_9
  go_wp2_with fail
  go_region_with (first | (go_at_call 69; (refine (toStock_c a0 len0 cap0 (z0.take len0) _ (by omega) (R0.out.below (In.below (IC.out.trans j_10.drew)) (Nat.le_refl _))).mono ?_); rintro _ w_11 ⟨g_r, rfl, ho_11, hg_11, hbd_11⟩; have hb_11 : Below w_10.heap.size w_10 w_11 := (Below.refl _ w_10).drew.trans hbd_11; clear hbd_11 hg_11; have kP_11 : Blk w_11 bP 85 #[.slice a0 len0 cap0] := kP_10.step hb_11; have ckP_11 := kP_11.cell 0; have j_11 : In w_4.heap.size w_4 w_11 := j_10.step hb_11; have ox_11 : OwnC w_11 g_x len0 len0 (z0.take len0) := ox_10.step hb_11; have kX_11 : Blk w_11 bX 90 #[.slice (some ⟨g_x, 0, none⟩) len0 len0] := kX_10.step hb_11; have ckX_11 := kX_11.cell 0; have oy_11 : OwnDough w_11 g_y len1 z1 := oy_10.step hb_11; have oz_11 : OwnInt w_11 g_z len2 (z2.take len2) := oz_10.step hb_11; have og_11 : w_11.ownsRow w_8.heap.size 3 1 (.slice A_G zs.length c_G) zs.length (iv zs) := own_step og_10 hb_11; have sz_11 : w_8.heap.size ≤ w_11.heap.size := Nat.le_trans sz_10 hb_11.size; clear kP_10 j_10 ox_10 kX_10 oy_10 oz_10 og_10 sz_10 hb_11; clear ckP_10; clear ckX_10) | (go_at_call 73; (refine (eqStock_c (some ⟨g_x, 0, none⟩) (some ⟨g_r, 0, none⟩) len0 len0 len0 (z0.take len0) _ (by unfold maxLen; omega) ox_11.reads ho_11.reads).mono ?_); rintro _ w_12 ⟨rfl, hb_12⟩; have kP_12 : Blk w_12 bP 85 #[.slice a0 len0 cap0] := kP_11.step hb_12; have ckP_12 := kP_12.cell 0; have j_12 : In w_4.heap.size w_4 w_12 := j_11.step hb_12; have ox_12 : OwnC w_12 g_x len0 len0 (z0.take len0) := ox_11.step hb_12; have kX_12 : Blk w_12 bX 90 #[.slice (some ⟨g_x, 0, none⟩) len0 len0] := kX_11.step hb_12; have ckX_12 := kX_12.cell 0; have oy_12 : OwnDough w_12 g_y len1 z1 := oy_11.step hb_12; have oz_12 : OwnInt w_12 g_z len2 (z2.take len2) := oz_11.step hb_12; have og_12 : w_12.ownsRow w_8.heap.size 3 1 (.slice A_G zs.length c_G) zs.length (iv zs) := own_step og_11 hb_12; have sz_12 : w_8.heap.size ≤ w_12.heap.size := Nat.le_trans sz_11 hb_12.size; clear kP_11 j_11 ox_11 kX_11 oy_11 oz_11 og_11 sz_11 hb_12; clear ckP_11; clear ckX_11; clear ho_11))
  all_goals
    go_wp2_with fail
    refine (toDoughS_c a1 len1 cap1 z1 _ (by omega) (R1.out.in_ (IC.out.trans j_12))).mono ?_
    rintro _ w_13 ⟨g_r, rfl, ho_13, hg_13, hb_13⟩
    have hl_13 : z1.length = len1 := R1.out.1
    rw [hl_13] at ho_13
    rw [hl_13]
    clear hl_13
    have NE_r_x : Hid (g_r ≠ g_x) := Lib.hid (by have h := OwnC.lt ox_12; omega)
    have NE_x_r : Hid (g_x ≠ g_r) := Lib.hid NE_r_x.out.symm
    have NE_r_y : Hid (g_r ≠ g_y) := Lib.hid (by have h := OwnDough.lt oy_12; omega)
    have NE_y_r : Hid (g_y ≠ g_r) := Lib.hid NE_r_y.out.symm
    have NE_r_z : Hid (g_r ≠ g_z) := Lib.hid (by have h := OwnInt.lt oz_12; omega)
    have NE_z_r : Hid (g_z ≠ g_r) := Lib.hid NE_r_z.out.symm
    have NPB_r : Hid (bP ≠ g_r) := Lib.hid (by have h := kP_12.lt; omega)
    have NXB_r : Hid (bX ≠ g_r) := Lib.hid (by have h := kX_12.lt; omega)
    have GX_r : Hid (w_4.heap.size ≤ g_r) := Lib.hid (Nat.le_trans j_12.size hg_13)
    have kP_13 : Blk w_13 bP 85 #[.slice a0 len0 cap0] := kP_12.step hb_13
    have ckP_13 := kP_13.cell 0
    have j_13 : In w_4.heap.size w_4 w_13 := j_12.step hb_13
    have ox_13 : OwnC w_13 g_x len0 len0 (z0.take len0) := ox_12.step hb_13
    have kX_13 : Blk w_13 bX 90 #[.slice (some ⟨g_x, 0, none⟩) len0 len0] := kX_12.step hb_13
    have ckX_13 := kX_13.cell 0
    have oy_13 : OwnDough w_13 g_y len1 z1 := oy_12.step hb_13
    have oz_13 : OwnInt w_13 g_z len2 (z2.take len2) := oz_12.step hb_13
    have og_13 : w_13.ownsRow w_8.heap.size 3 1 (.slice A_G zs.length c_G) zs.length (iv zs) := own_step og_12 hb_13
    have sz_13 : w_8.heap.size ≤ w_13.heap.size := Nat.le_trans sz_12 hb_13.size
    clear kP_12 j_12 ox_12 kX_12 oy_12 oz_12 og_12 sz_12 hb_13
    clear ckP_12
    clear ckX_12
    clear hg_13
    go_wp2_with fail
    refine (eqDoughS_c (some ⟨g_y, 0, none⟩) (some ⟨g_r, 0, none⟩) len1 len1 len1 z1 _ (by unfold maxLen; omega) oy_13.reads ho_13.reads).mono ?_
    rintro _ w_14 ⟨rfl, hb_14⟩
    clear ho_13
    have kP_14 : Blk w_14 bP 85 #[.slice a0 len0 cap0] := kP_13.step hb_14
    have ckP_14 := kP_14.cell 0
    have j_14 : In w_4.heap.size w_4 w_14 := j_13.step hb_14
    have ox_14 : OwnC w_14 g_x len0 len0 (z0.take len0) := ox_13.step hb_14
    have kX_14 : Blk w_14 bX 90 #[.slice (some ⟨g_x, 0, none⟩) len0 len0] := kX_13.step hb_14
    have ckX_14 := kX_14.cell 0
    have oy_14 : OwnDough w_14 g_y len1 z1 := oy_13.step hb_14
    have oz_14 : OwnInt w_14 g_z len2 (z2.take len2) := oz_13.step hb_14
    have og_14 : w_14.ownsRow w_8.heap.size 3 1 (.slice A_G zs.length c_G) zs.length (iv zs) := own_step og_13 hb_14
    have sz_14 : w_8.heap.size ≤ w_14.heap.size := Nat.le_trans sz_13 hb_14.size
    clear kP_13 j_13 ox_13 kX_13 oy_13 oz_13 og_13 sz_13 hb_14
    clear ckP_13
    clear ckX_13
    go_wp2_with fail
    refine (toIntS_c a2 len2 cap2 (z2.take len2) _ (by omega) (R2.out.below (In.below (IC.out.trans j_14)) (Nat.le_refl _))).mono ?_
    rintro _ w_15 ⟨g_s, rfl, ho_15, hg_15, hb_15⟩
    have hl_15 : (z2.take len2).length = len2 := R2.out.1
    rw [hl_15] at ho_15
    rw [hl_15]
    clear hl_15
    have NE_s_x : Hid (g_s ≠ g_x) := Lib.hid (by have h := OwnC.lt ox_14; omega)
    have NE_x_s : Hid (g_x ≠ g_s) := Lib.hid NE_s_x.out.symm
    have NE_s_y : Hid (g_s ≠ g_y) := Lib.hid (by have h := OwnDough.lt oy_14; omega)
    have NE_y_s : Hid (g_y ≠ g_s) := Lib.hid NE_s_y.out.symm
    have NE_s_z : Hid (g_s ≠ g_z) := Lib.hid (by have h := OwnInt.lt oz_14; omega)
    have NE_z_s : Hid (g_z ≠ g_s) := Lib.hid NE_s_z.out.symm
    have NPB_s : Hid (bP ≠ g_s) := Lib.hid (by have h := kP_14.lt; omega)
    have NXB_s : Hid (bX ≠ g_s) := Lib.hid (by have h := kX_14.lt; omega)
    have GX_s : Hid (w_4.heap.size ≤ g_s) := Lib.hid (Nat.le_trans j_14.size hg_15)
    have kP_15 : Blk w_15 bP 85 #[.slice a0 len0 cap0] := kP_14.step hb_15
    have ckP_15 := kP_15.cell 0
    have j_15 : In w_4.heap.size w_4 w_15 := j_14.step hb_15
    have ox_15 : OwnC w_15 g_x len0 len0 (z0.take len0) := ox_14.step hb_15
    have kX_15 : Blk w_15 bX 90 #[.slice (some ⟨g_x, 0, none⟩) len0 len0] := kX_14.step hb_15
    have ckX_15 := kX_15.cell 0
    have oy_15 : OwnDough w_15 g_y len1 z1 := oy_14.step hb_15
    have oz_15 : OwnInt w_15 g_z len2 (z2.take len2) := oz_14.step hb_15
    have og_15 : w_15.ownsRow w_8.heap.size 3 1 (.slice A_G zs.length c_G) zs.length (iv zs) := own_step og_14 hb_15
    have sz_15 : w_8.heap.size ≤ w_15.heap.size := Nat.le_trans sz_14 hb_15.size
    clear kP_14 j_14 ox_14 kX_14 oy_14 oz_14 og_14 sz_14 hb_15
    clear ckP_14
    clear ckX_14
    clear hg_15
    go_wp2_with fail
    refine (eqI_c (some ⟨g_z, 0, none⟩) (some ⟨g_s, 0, none⟩) len2 len2 len2 (z2.take len2) _ (by unfold maxLen; omega) oz_15.reads ho_15.reads).mono ?_
    rintro _ w_16 ⟨rfl, hb_16⟩
    clear ho_15
    have kP_16 : Blk w_16 bP 85 #[.slice a0 len0 cap0] := kP_15.step hb_16
    have ckP_16 := kP_16.cell 0
    have j_16 : In w_4.heap.size w_4 w_16 := j_15.step hb_16
    have ox_16 : OwnC w_16 g_x len0 len0 (z0.take len0) := ox_15.step hb_16
    have kX_16 : Blk w_16 bX 90 #[.slice (some ⟨g_x, 0, none⟩) len0 len0] := kX_15.step hb_16
    have ckX_16 := kX_16.cell 0
    have oy_16 : OwnDough w_16 g_y len1 z1 := oy_15.step hb_16
    have oz_16 : OwnInt w_16 g_z len2 (z2.take len2) := oz_15.step hb_16
    have og_16 : w_16.ownsRow w_8.heap.size 3 1 (.slice A_G zs.length c_G) zs.length (iv zs) := own_step og_15 hb_16
    have sz_16 : w_8.heap.size ≤ w_16.heap.size := Nat.le_trans sz_15 hb_16.size
    clear kP_15 j_15 ox_15 kX_15 oy_15 oz_15 og_15 sz_15 hb_16
    clear ckP_15
    clear ckX_15
    go_wp2_with fail
    refine (markStock_c g_x len0 len0 (1) (z0.take len0) _ (by omega) (by omega) ox_16).mono ?_
    rintro _ w_17 ⟨rfl, _, hb_17⟩
    have kP_17 : Blk w_17 bP 85 #[.slice a0 len0 cap0] := kP_16.grown hb_17 (fun e => NPB_x.out (Option.some.inj e))
    have ckP_17 := kP_17.cell 0
    have j_17 : In w_4.heap.size w_4 w_17 := j_16.wide (below_of_only hb_17 GX_x.out j_16.size)
    have kX_17 : Blk w_17 bX 90 #[.slice (some ⟨g_x, 0, none⟩) len0 len0] := kX_16.grown hb_17 (fun e => NXB_x.out (Option.some.inj e))
    have ckX_17 := kX_17.cell 0
    have oy_17 : OwnDough w_17 g_y len1 z1 := oy_16.only hb_17 NE_y_x.out
    have oz_17 : OwnInt w_17 g_z len2 (z2.take len2) := oz_16.only hb_17 NE_z_x.out
    have og_17 : w_17.ownsRow w_8.heap.size 3 1 (.slice A_G zs.length c_G) zs.length (iv zs) := own_only og_16 hb_17 GB_x.out
    have sz_17 : w_8.heap.size ≤ w_17.heap.size := Nat.le_trans sz_16 hb_17.size
    clear kP_16 j_16 ox_16 kX_16 oy_16 oz_16 og_16 sz_16 hb_17
    clear ckP_16
    clear ckX_16
    go_wp2_with fail
    refine (markDoughS_c g_y len1 (1 + len0) z1 _ (by omega) (by omega) oy_17).mono ?_
    rintro _ w_18 ⟨rfl, hb_18⟩
    have kP_18 : Blk w_18 bP 85 #[.slice a0 len0 cap0] := kP_17.grown hb_18 (fun e => NPB_y.out (Option.some.inj e))
    have ckP_18 := kP_18.cell 0
    have j_18 : In w_4.heap.size w_4 w_18 := j_17.wide (below_of_only hb_18 GX_y.out j_17.size)
    have kX_18 : Blk w_18 bX 90 #[.slice (some ⟨g_x, 0, none⟩) len0 len0] := kX_17.grown hb_18 (fun e => NXB_y.out (Option.some.inj e))
    have ckX_18 := kX_18.cell 0
    have oz_18 : OwnInt w_18 g_z len2 (z2.take len2) := oz_17.only hb_18 NE_z_y.out
    have og_18 : w_18.ownsRow w_8.heap.size 3 1 (.slice A_G zs.length c_G) zs.length (iv zs) := own_only og_17 hb_18 GB_y.out
    have sz_18 : w_8.heap.size ≤ w_18.heap.size := Nat.le_trans sz_17 hb_18.size
    clear kP_17 j_17 kX_17 oy_17 oz_17 og_17 sz_17 hb_18
    clear ckP_17
    clear ckX_17
    go_wp2_with fail
    refine (markIntS_c g_z len2 (1 + len0 + 3 * len1) (z2.take len2) _ (by omega) (by omega) oz_18).mono ?_
    rintro _ w_19 ⟨rfl, hb_19⟩
    have kP_19 : Blk w_19 bP 85 #[.slice a0 len0 cap0] := kP_18.grown hb_19 (fun e => NPB_z.out (Option.some.inj e))
    have ckP_19 := kP_19.cell 0
    have j_19 : In w_4.heap.size w_4 w_19 := j_18.wide (below_of_only hb_19 GX_z.out j_18.size)
    have kX_19 : Blk w_19 bX 90 #[.slice (some ⟨g_x, 0, none⟩) len0 len0] := kX_18.grown hb_19 (fun e => NXB_z.out (Option.some.inj e))
    have ckX_19 := kX_19.cell 0
    have og_19 : w_19.ownsRow w_8.heap.size 3 1 (.slice A_G zs.length c_G) zs.length (iv zs) := own_only og_18 hb_19 GB_z.out
    have sz_19 : w_8.heap.size ≤ w_19.heap.size := Nat.le_trans sz_18 hb_19.size
    clear kP_18 j_18 kX_18 oz_18 og_18 sz_18 hb_19
    clear ckP_18
    clear ckX_18
    go_wp2_with fail
    refine (eqI_c A_G A_W zs.length c_G c_W zs _ (by unfold maxLen; omega) (reads_own_i og_19) (HW.out.below (In.below j_19) (Nat.le_refl _))).mono ?_
    rintro _ w_20 ⟨rfl, hb_20⟩
    have kP_20 : Blk w_20 bP 85 #[.slice a0 len0 cap0] := kP_19.step hb_20
    have ckP_20 := kP_20.cell 0
    have j_20 : In w_4.heap.size w_4 w_20 := j_19.step hb_20
    have kX_20 : Blk w_20 bX 90 #[.slice (some ⟨g_x, 0, none⟩) len0 len0] := kX_19.step hb_20
    have ckX_20 := kX_20.cell 0
    have og_20 : w_20.ownsRow w_8.heap.size 3 1 (.slice A_G zs.length c_G) zs.length (iv zs) := own_step og_19 hb_20
    have sz_20 : w_8.heap.size ≤ w_20.heap.size := Nat.le_trans sz_19 hb_20.size
    clear kP_19 j_19 kX_19 og_19 sz_19 hb_20
    clear ckP_19
    clear ckX_19
    go_wp2_with fail
    refine (markI_c A_G zs.length c_G 1 w_8.heap.size zs _ (by omega) (by omega) sz_20 og_20).mono ?_
    rintro _ w_21 ⟨rfl, og9_21, hb_21⟩
    clear og_20
    have kP_21 : Blk w_21 bP 85 #[.slice a0 len0 cap0] := kP_20.below hb_21 GP.out
    have ckP_21 := kP_21.cell 0
    have j_21 : In w_4.heap.size w_4 w_21 := j_20.wide (hb_21.mono CB.out)
    have kX_21 : Blk w_21 bX 90 #[.slice (some ⟨g_x, 0, none⟩) len0 len0] := kX_20.below hb_21 GBX.out
    have ckX_21 := kX_21.cell 0
    have sz_21 : w_8.heap.size ≤ w_21.heap.size := Nat.le_trans sz_20 hb_21.size
    clear kP_20 j_20 kX_20 sz_20 hb_21
    clear ckP_20
    clear ckX_20
    go_wp2_with fail
    refine (heldI_c A_G zs.length c_G 1 _ (by omega) (by omega) (reads_own_i og9_21)).mono ?_
    rintro _ w_22 ⟨rfl, hb_22⟩
    have kP_22 : Blk w_22 bP 85 #[.slice a0 len0 cap0] := kP_21.step hb_22
    have ckP_22 := kP_22.cell 0
    have j_22 : In w_4.heap.size w_4 w_22 := j_21.step hb_22
    have kX_22 : Blk w_22 bX 90 #[.slice (some ⟨g_x, 0, none⟩) len0 len0] := kX_21.step hb_22
    have ckX_22 := kX_22.cell 0
    have sz_22 : w_8.heap.size ≤ w_22.heap.size := Nat.le_trans sz_21 hb_22.size
    have og_22 : w_22.ownsRow w_8.heap.size 3 1 (.slice A_G zs.length c_G) zs.length (iv (marksI 1 zs.length)) := own_step og9_21 hb_22
    clear kP_21 j_21 kX_21 sz_21 og9_21 hb_22
    clear ckP_21
    clear ckX_21
    go_wp2_with fail
    refine (toStock_c a0 len0 cap0 (z0.take len0) _ (by omega) (R0.out.below (In.below (IC.out.trans j_22)) (Nat.le_refl _))).mono ?_
    rintro _ w_23 ⟨g_l, rfl, ho_23, hg_23, hb_23⟩
    have NPB_l : Hid (bP ≠ g_l) := Lib.hid (by have h := kP_22.lt; omega)
    have NXB_l : Hid (bX ≠ g_l) := Lib.hid (by have h := kX_22.lt; omega)
    have GX_l : Hid (w_4.heap.size ≤ g_l) := Lib.hid (Nat.le_trans j_22.size hg_23)
    have kP_23 : Blk w_23 bP 85 #[.slice a0 len0 cap0] := kP_22.step hb_23
    have ckP_23 := kP_23.cell 0
    have j_23 : In w_4.heap.size w_4 w_23 := j_22.step hb_23
    have kX_23 : Blk w_23 bX 90 #[.slice (some ⟨g_x, 0, none⟩) len0 len0] := kX_22.step hb_23
    have ckX_23 := kX_23.cell 0
    have sz_23 : w_8.heap.size ≤ w_23.heap.size := Nat.le_trans sz_22 hb_23.size
    have og_23 : w_23.ownsRow w_8.heap.size 3 1 (.slice A_G zs.length c_G) zs.length (iv (marksI 1 zs.length)) := own_step og_22 hb_23
    clear kP_22 j_22 kX_22 sz_22 og_22 hb_23
    clear ckP_22
    clear ckX_22
    clear hg_23
    go_wp2_with fail
    refine (toDoughS_c a1 len1 cap1 z1 _ (by omega) (R1.out.in_ (IC.out.trans j_23))).mono ?_
    rintro _ w_24 ⟨g_m, rfl, ho_24, hg_24, hb_24⟩
    have hl_24 : z1.length = len1 := R1.out.1
    rw [hl_24] at ho_24
    rw [hl_24]
    clear hl_24
    have NE_m_l : Hid (g_m ≠ g_l) := Lib.hid (by have h := OwnC.lt ho_23; omega)
    have NE_l_m : Hid (g_l ≠ g_m) := Lib.hid NE_m_l.out.symm
    have NPB_m : Hid (bP ≠ g_m) := Lib.hid (by have h := kP_23.lt; omega)
    have NXB_m : Hid (bX ≠ g_m) := Lib.hid (by have h := kX_23.lt; omega)
    have GX_m : Hid (w_4.heap.size ≤ g_m) := Lib.hid (Nat.le_trans j_23.size hg_24)
    have kP_24 : Blk w_24 bP 85 #[.slice a0 len0 cap0] := kP_23.step hb_24
    have ckP_24 := kP_24.cell 0
    have j_24 : In w_4.heap.size w_4 w_24 := j_23.step hb_24
    have kX_24 : Blk w_24 bX 90 #[.slice (some ⟨g_x, 0, none⟩) len0 len0] := kX_23.step hb_24
    have ckX_24 := kX_24.cell 0
    have sz_24 : w_8.heap.size ≤ w_24.heap.size := Nat.le_trans sz_23 hb_24.size
    have og_24 : w_24.ownsRow w_8.heap.size 3 1 (.slice A_G zs.length c_G) zs.length (iv (marksI 1 zs.length)) := own_step og_23 hb_24
    have ol_24 : OwnC w_24 g_l len0 len0 (z0.take len0) := ho_23.step hb_24
    clear kP_23 j_23 kX_23 sz_23 og_23 ho_23 hb_24
    clear ckP_23
    clear ckX_23
    clear hg_24
    go_wp2_with fail
    refine (toIntS_c a2 len2 cap2 (z2.take len2) _ (by omega) (R2.out.below (In.below (IC.out.trans j_24)) (Nat.le_refl _))).mono ?_
    rintro _ w_25 ⟨g_n, rfl, ho_25, hg_25, hb_25⟩
    have hl_25 : (z2.take len2).length = len2 := R2.out.1
    rw [hl_25] at ho_25
    rw [hl_25]
    clear hl_25
    have NE_n_l : Hid (g_n ≠ g_l) := Lib.hid (by have h := OwnC.lt ol_24; omega)
    have NE_l_n : Hid (g_l ≠ g_n) := Lib.hid NE_n_l.out.symm
    have NE_n_m : Hid (g_n ≠ g_m) := Lib.hid (by have h := OwnDough.lt ho_24; omega)
    have NE_m_n : Hid (g_m ≠ g_n) := Lib.hid NE_n_m.out.symm
    have NPB_n : Hid (bP ≠ g_n) := Lib.hid (by have h := kP_24.lt; omega)
    have NXB_n : Hid (bX ≠ g_n) := Lib.hid (by have h := kX_24.lt; omega)
    have GX_n : Hid (w_4.heap.size ≤ g_n) := Lib.hid (Nat.le_trans j_24.size hg_25)
    have kP_25 : Blk w_25 bP 85 #[.slice a0 len0 cap0] := kP_24.step hb_25
    have ckP_25 := kP_25.cell 0
    have j_25 : In w_4.heap.size w_4 w_25 := j_24.step hb_25
    have kX_25 : Blk w_25 bX 90 #[.slice (some ⟨g_x, 0, none⟩) len0 len0] := kX_24.step hb_25
    have ckX_25 := kX_25.cell 0
    have sz_25 : w_8.heap.size ≤ w_25.heap.size := Nat.le_trans sz_24 hb_25.size
    have og_25 : w_25.ownsRow w_8.heap.size 3 1 (.slice A_G zs.length c_G) zs.length (iv (marksI 1 zs.length)) := own_step og_24 hb_25
    have ol_25 : OwnC w_25 g_l len0 len0 (z0.take len0) := ol_24.step hb_25
    have om_25 : OwnDough w_25 g_m len1 z1 := ho_24.step hb_25
    clear kP_24 j_24 kX_24 sz_24 og_24 ol_24 ho_24 hb_25
    clear ckP_24
    clear ckX_24
    clear hg_25
    go_wp2_with fail
    refine (iMustBuy ⟨g_l, 0, none⟩ len0 len0 (z0.take len0) (some ⟨g_m, 0, none⟩) len1 len1 z1 (some ⟨g_n, 0, none⟩) len2 len2 (z2.take len2) _ (by omega) ol_25.reads (by unfold maxLen; omega) om_25.reads (by unfold maxLen; omega) ho_25.reads).mono ?_
    rintro _ w_26 ⟨A_H, c_H, rfl, hr_26, hb_26⟩
    rw [HZS.out] at hr_26
    rw [HZS.out]
    clear ol_25
    clear om_25
    clear ho_25
    have kP_26 : Blk w_26 bP 85 #[.slice a0 len0 cap0] := kP_25.step hb_26
    have ckP_26 := kP_26.cell 0
    have j_26 : In w_4.heap.size w_4 w_26 := j_25.step hb_26
    have kX_26 : Blk w_26 bX 90 #[.slice (some ⟨g_x, 0, none⟩) len0 len0] := kX_25.step hb_26
    have ckX_26 := kX_26.cell 0
    have sz_26 : w_8.heap.size ≤ w_26.heap.size := Nat.le_trans sz_25 hb_26.size
    have og_26 : w_26.ownsRow w_8.heap.size 3 1 (.slice A_G zs.length c_G) zs.length (iv (marksI 1 zs.length)) := own_step og_25 hb_26
    clear kP_25 j_25 kX_25 sz_25 og_25 hb_26
    clear ckP_25
    clear ckX_25
    have xh := reads_own_i hr_26
    clear hr_26
    go_wp2_with fail
    refine (eqI_c A_H A_W zs.length c_H c_W zs _ (by unfold maxLen; omega) xh (HW.out.below (In.below j_26) (Nat.le_refl _))).mono ?_
    rintro _ w_27 ⟨rfl, hb_27⟩
    have kP_27 : Blk w_27 bP 85 #[.slice a0 len0 cap0] := kP_26.step hb_27
    have ckP_27 := kP_27.cell 0
    have j_27 : In w_4.heap.size w_4 w_27 := j_26.step hb_27
    have kX_27 : Blk w_27 bX 90 #[.slice (some ⟨g_x, 0, none⟩) len0 len0] := kX_26.step hb_27
    have ckX_27 := kX_27.cell 0
    have sz_27 : w_8.heap.size ≤ w_27.heap.size := Nat.le_trans sz_26 hb_27.size
    have og_27 : w_27.ownsRow w_8.heap.size 3 1 (.slice A_G zs.length c_G) zs.length (iv (marksI 1 zs.length)) := own_step og_26 hb_27
    clear kP_26 j_26 kX_26 sz_26 og_26 hb_27
    clear ckP_26
    clear ckX_26
    clear xh
    go_wp2_with fail
    refine (heldI_c A_G zs.length c_G 1 _ (by omega) (by omega) (reads_own_i og_27)).mono ?_
    rintro _ w_28 ⟨rfl, hb_28⟩
    have kP_28 : Blk w_28 bP 85 #[.slice a0 len0 cap0] := kP_27.step hb_28
    have ckP_28 := kP_28.cell 0
    have j_28 : In w_4.heap.size w_4 w_28 := j_27.step hb_28
    have kX_28 : Blk w_28 bX 90 #[.slice (some ⟨g_x, 0, none⟩) len0 len0] := kX_27.step hb_28
    have ckX_28 := kX_28.cell 0
    have sz_28 : w_8.heap.size ≤ w_28.heap.size := Nat.le_trans sz_27 hb_28.size
    have og_28 : w_28.ownsRow w_8.heap.size 3 1 (.slice A_G zs.length c_G) zs.length (iv (marksI 1 zs.length)) := own_step og_27 hb_28
    clear kP_27 j_27 kX_27 sz_27 og_27 hb_28
    clear ckP_27
    clear ckX_27
    go_wp2
    go_ret
    exact (show Val _ _ _ _ from Val.mk' rfl (IC.out.trans j_28))
end Go.Proofs.Ytmkfnhgaiheckaa
