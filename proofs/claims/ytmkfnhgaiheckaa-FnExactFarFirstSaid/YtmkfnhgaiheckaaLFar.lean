/- The exact law of FarFirst. -/
import Derived.Test.YtmkfnhgaiheckaaFarS
import Derived.Test.YtmkfnhgaiheckaaMShop
namespace Go.Proofs.Ytmkfnhgaiheckaa
open Go.ChangeShapes Go.WideShapes Go.ChangeAt Go.RowKit
set_option linter.unusedVariables false
set_option linter.unusedSimpArgs false

set_option maxHeartbeats 4000000 in
set_option maxRecDepth 20000 in
theorem walk_FnExactFarFirst (a0 : Option Addr) (len0 cap0 : Nat) (z0 : List ShopR) (a1 : Int) (u1 : (Lit.int .i64 a1).wf = true) (w : World) (m0 : len0 ≤ maxLen) (w0 : ReadsShop w a0 len0 z0) :
    Calls Try.prog 12 #[.slice a0 len0 cap0, .int .i64 a1] w fun e w' => e = .returned (.bool true) ∧ Below w.heap.size w w' := by
  clear u1
  have R0 := Lib.hid w0
  clear w0
  obtain ⟨fv, hfv⟩ : ∃ b, farB len0 z0 a1 = b := ⟨_, rfl⟩
  have HFV := Lib.hid hfv
  clear hfv
  obtain ⟨zs, hzs⟩ : ∃ zs, (FarL len0 z0 a1) = zs := ⟨_, rfl⟩
  have HZS := Lib.hid hzs
  have hzl : zs.length ≤ 100000 := by rw [← hzs]; exact Nat.le_trans (FarL_len len0 z0 a1) (by decide)
  have hz2 : lenR zs zs.length ≤ 1000000 := by rw [← hzs]; exact Nat.le_trans (FarL_tot len0 z0 a1) (by decide)
  clear hzs
  by_cases g0 : 1048576 < (len0 : Int)
  · go_enter Try.func12, Try.ntmps12
    go_wp2_with fail
    refine (szShopS_c a0 len0 cap0 (1048576) _ m0 (by omega) (by omega)).mono ?_
    rintro _ _ ⟨rfl, rfl⟩
    rw [if_pos (by omega)]
    go_wp2
    go_ret
    exact (show Val _ _ _ _ from Val.mk' rfl (by (repeat (first | exact In.refl _ | assumption | apply In.alloc | apply In.drewN | apply In.drew | (refine In.step ?_ (by assumption))))))
  have g0' : (len0 : Int) ≤ 1048576 := by omega
  clear g0
  have hm0 : len0 ≤ 1048576 := by omega
  go_enter Try.func12, Try.ntmps12
  go_wp2_with fail
  refine (szShopS_c a0 len0 cap0 (1048576) _ m0 (by omega) (by omega)).mono ?_
  rintro _ _ ⟨rfl, rfl⟩
  rw [if_neg (by omega)]
  go_wp2_with fail
  refine (toShopS_c a0 len0 cap0 z0 _ (by omega) (by exact R0.out.in_ (by (repeat (first | exact In.refl _ | assumption | apply In.alloc | apply In.drewN | apply In.drew | (refine In.step ?_ (by assumption))))))).mono ?_
  rintro _ w_1 ⟨g_1, rfl, ho_1, hg_1, hb_1⟩
  have hl_1 : z0.length = len0 := R0.out.1
  rw [hl_1] at ho_1
  rw [hl_1]
  clear hl_1
  have ox_1_t1 : OwnShop w_1 g_1 len0 z0 := ho_1
  clear ho_1 hg_1
  have i_1 : In w.heap.size w w_1 := In.step (by (repeat (first | exact In.refl _ | assumption | apply In.alloc | apply In.drewN | apply In.drew | (refine In.step ?_ (by assumption))))) hb_1
  go_wp2_with fail
  refine (sFarFirst (some ⟨g_1, 0, none⟩) len0 len0 z0 a1 _ (by (try unfold maxLen); omega) (by exact OwnShop.reads (by (with_reducible (repeat (first | assumption | apply OwnShop.drew | apply OwnShop.alloc)))))).mono ?_
  rintro _ w_2 ⟨v_W, rfl, ho_2, hb_2⟩
  rw [HFV.out]
  rw [HZS.out] at ho_2
  obtain ⟨A_W, c_W, rfl, hq1_W, hq2_W⟩ := ho_2.shape
  have i_2 : In w.heap.size w w_2 := In.step (by (repeat (first | exact In.refl _ | assumption | apply In.alloc | apply In.drewN | apply In.drew | (refine In.step ?_ (by assumption))))) hb_2
  clear hb_1 i_1 ox_1_t1
  have HW := Lib.hid (RowsC.reads ho_2)
  have IC := Lib.hid i_2
  clear ho_2
  have j_2 : In w_2.heap.size w_2 w_2 := In.refl _
  go_wp2_with fail
  refine (toShopS_c a0 len0 cap0 z0 _ (by omega) (by exact R0.out.in_ (IC.out.trans (by (repeat (first | exact In.refl _ | assumption | apply In.alloc | apply In.drewN | apply In.drew | (refine In.step ?_ (by assumption)))))))).mono ?_
  rintro _ w_3 ⟨g_3, rfl, ho_3, hg_3, hb_3⟩
  have hl_3 : z0.length = len0 := R0.out.1
  rw [hl_3] at ho_3
  rw [hl_3]
  clear hl_3
  have ox_3_t2 : OwnShop w_3 g_3 len0 z0 := ho_3
  have GX_t2 : Hid (w_2.heap.size ≤ g_3) := Lib.hid (Nat.le_trans (In.size (B := w_2.heap.size) (a := w_2) (by (repeat (first | exact In.refl _ | assumption | apply In.alloc | apply In.drewN | apply In.drew | (refine In.step ?_ (by assumption)))))) hg_3)
  clear ho_3 hg_3
  have j_3 : In w_2.heap.size w_2 w_3 := In.step (by (repeat (first | exact In.refl _ | assumption | apply In.alloc | apply In.drewN | apply In.drew | (refine In.step ?_ (by assumption))))) hb_3
  clear hb_2 i_2 j_2
  have CB : Hid (w_2.heap.size ≤ w_3.heap.size) := Lib.hid j_3.size
  have GB_t2 : Hid (g_3 < w_3.heap.size) := Lib.hid ox_3_t2.lt
  go_wp2_with fail
  refine (iFarFirst (some ⟨g_3, 0, none⟩) len0 len0 z0 a1 _ (by (try unfold maxLen); omega) (by exact OwnShop.reads (by (with_reducible (repeat (first | assumption | apply OwnShop.drew | apply OwnShop.alloc)))))).mono ?_
  rintro _ w_4 ⟨v_G, rfl, ho_4, hb_4⟩
  rw [HFV.out]
  rw [HZS.out] at ho_4
  obtain ⟨A_G, c_G, rfl, hq1_G, hq2_G⟩ := ho_4.shape
  have og_4 : RowsC w_4 w_3.heap.size (.slice A_G zs.length c_G) zs.length zs := RowsC.base ho_4 (In.size (B := w_3.heap.size) (a := w_3) (by (repeat (first | exact In.refl _ | assumption | apply In.alloc | apply In.drewN | apply In.drew | (refine In.step ?_ (by assumption))))))
  clear ho_4
  have j_4 : In w_2.heap.size w_2 w_4 := In.step (by (repeat (first | exact In.refl _ | assumption | apply In.alloc | apply In.drewN | apply In.drew | (refine In.step ?_ (by assumption))))) hb_4
  have sz_4 : w_3.heap.size ≤ w_4.heap.size := by
    have h := hb_4.size
    (try simp at h)
    omega
  have ox_4_t2 : OwnShop w_4 g_3 len0 z0 := OwnShop.step (by (with_reducible (repeat (first | assumption | apply OwnShop.drew | apply OwnShop.alloc)))) hb_4
  clear hb_3 j_3 ox_3_t2
  go_wp2_with fail
  refine (eqIntSS_c A_G A_W zs.length c_G c_W zs _ (by unfold maxLen; omega) (by exact RowsC.reads (by assumption)) (by exact HW.out.below (In.below (by (repeat (first | exact In.refl _ | assumption | apply In.alloc | apply In.drewN | apply In.drew | (refine In.step ?_ (by assumption)))))))).mono ?_
  rintro _ w_5 ⟨rfl, hb_5⟩
  have j_5 : In w_2.heap.size w_2 w_5 := In.step (by (repeat (first | exact In.refl _ | assumption | apply In.alloc | apply In.drewN | apply In.drew | (refine In.step ?_ (by assumption))))) hb_5
  have sz_5 : w_3.heap.size ≤ w_5.heap.size := by
    have h := hb_5.size
    (try simp at h)
    omega
  have ox_5_t2 : OwnShop w_5 g_3 len0 z0 := OwnShop.step (by (with_reducible (repeat (first | assumption | apply OwnShop.drew | apply OwnShop.alloc)))) hb_5
  have og_5 : RowsC w_5 w_3.heap.size (.slice A_G zs.length c_G) zs.length zs := RowsC.step (by assumption) hb_5
  clear hb_4 j_4 sz_4 ox_4_t2 og_4
  go_wp2_with fail
  refine (toShopS_c a0 len0 cap0 z0 _ (by omega) (by exact R0.out.in_ (IC.out.trans (by (repeat (first | exact In.refl _ | assumption | apply In.alloc | apply In.drewN | apply In.drew | (refine In.step ?_ (by assumption)))))))).mono ?_
  rintro _ w_6 ⟨g_6, rfl, ho_6, hg_6, hb_6⟩
  have hl_6 : z0.length = len0 := R0.out.1
  rw [hl_6] at ho_6
  rw [hl_6]
  clear hl_6
  have NE_t3_t2 : Hid (g_6 ≠ g_3) := Lib.hid (by have h := hg_6; have h2 := ox_5_t2.lt; (try simp at h); omega)
  have ox_6_t3 : OwnShop w_6 g_6 len0 z0 := ho_6
  have GX_t3 : Hid (w_2.heap.size ≤ g_6) := Lib.hid (Nat.le_trans (In.size (B := w_2.heap.size) (a := w_2) (by (repeat (first | exact In.refl _ | assumption | apply In.alloc | apply In.drewN | apply In.drew | (refine In.step ?_ (by assumption)))))) hg_6)
  clear ho_6 hg_6
  have j_6 : In w_2.heap.size w_2 w_6 := In.step (by (repeat (first | exact In.refl _ | assumption | apply In.alloc | apply In.drewN | apply In.drew | (refine In.step ?_ (by assumption))))) hb_6
  have sz_6 : w_3.heap.size ≤ w_6.heap.size := by
    have h := hb_6.size
    (try simp at h)
    omega
  have ox_6_t2 : OwnShop w_6 g_3 len0 z0 := OwnShop.step (by (with_reducible (repeat (first | assumption | apply OwnShop.drew | apply OwnShop.alloc)))) hb_6
  have og_6 : RowsC w_6 w_3.heap.size (.slice A_G zs.length c_G) zs.length zs := RowsC.step (by assumption) hb_6
  clear hb_5 j_5 sz_5 ox_5_t2 og_5
  go_wp2_with fail
  refine (eqShopS_c (some ⟨g_3, 0, none⟩) (some ⟨g_6, 0, none⟩) len0 len0 len0 z0 _ (by unfold maxLen; omega) (by exact OwnShop.reads (by (with_reducible (repeat (first | assumption | apply OwnShop.drew | apply OwnShop.alloc))))) (by exact OwnShop.reads (by (with_reducible (repeat (first | assumption | apply OwnShop.drew | apply OwnShop.alloc)))))).mono ?_
  rintro _ w_7 ⟨rfl, hb_7⟩
  have j_7 : In w_2.heap.size w_2 w_7 := In.step (by (repeat (first | exact In.refl _ | assumption | apply In.alloc | apply In.drewN | apply In.drew | (refine In.step ?_ (by assumption))))) hb_7
  have sz_7 : w_3.heap.size ≤ w_7.heap.size := by
    have h := hb_7.size
    (try simp at h)
    omega
  have ox_7_t2 : OwnShop w_7 g_3 len0 z0 := OwnShop.step (by (with_reducible (repeat (first | assumption | apply OwnShop.drew | apply OwnShop.alloc)))) hb_7
  have og_7 : RowsC w_7 w_3.heap.size (.slice A_G zs.length c_G) zs.length zs := RowsC.step (by assumption) hb_7
  clear hb_6 j_6 sz_6 ox_6_t2 ox_6_t3 og_6
  go_wp2_with fail
  refine (markShopS_c g_3 len0 (1) z0 _ (by omega) (by omega) (by (with_reducible (repeat (first | assumption | apply OwnShop.drew | apply OwnShop.alloc))))).mono ?_
  rintro _ w_8 ⟨rfl, hb_8⟩
  have j_8 : In w_2.heap.size w_2 w_8 := In.wide (by (repeat (first | exact In.refl _ | assumption | apply In.alloc | apply In.drewN | apply In.drew | (refine In.step ?_ (by assumption))))) (below_of_only hb_8 GX_t2.out (In.size (B := w_2.heap.size) (a := w_2) (by (repeat (first | exact In.refl _ | assumption | apply In.alloc | apply In.drewN | apply In.drew | (refine In.step ?_ (by assumption)))))))
  have sz_8 : w_3.heap.size ≤ w_8.heap.size := by
    have h := hb_8.size
    (try simp at h)
    omega
  have og_8 : RowsC w_8 w_3.heap.size (.slice A_G zs.length c_G) zs.length zs := RowsC.keep (by assumption) (fun i h1 h2 => hb_8.block i h2 (fun e => by injection e with e; omega)) GB_t2.out
  clear hb_7 j_7 sz_7 ox_7_t2 og_7
  go_wp2_with fail
  refine (eqIntSS_c A_G A_W zs.length c_G c_W zs _ (by unfold maxLen; omega) (by exact RowsC.reads (by assumption)) (by exact HW.out.below (In.below (by (repeat (first | exact In.refl _ | assumption | apply In.alloc | apply In.drewN | apply In.drew | (refine In.step ?_ (by assumption)))))))).mono ?_
  rintro _ w_9 ⟨rfl, hb_9⟩
  have j_9 : In w_2.heap.size w_2 w_9 := In.step (by (repeat (first | exact In.refl _ | assumption | apply In.alloc | apply In.drewN | apply In.drew | (refine In.step ?_ (by assumption))))) hb_9
  have sz_9 : w_3.heap.size ≤ w_9.heap.size := by
    have h := hb_9.size
    (try simp at h)
    omega
  have og_9 : RowsC w_9 w_3.heap.size (.slice A_G zs.length c_G) zs.length zs := RowsC.step (by assumption) hb_9
  clear hb_8 j_8 sz_8 og_8
  go_wp2_with fail
  refine (markRows_c A_G zs.length c_G 1 w_3.heap.size zs _ (by omega) (by omega) (by first | assumption | (simp; omega)) hz2 (by assumption)).mono ?_
  rintro _ w_10 ⟨rfl, og_10, hb_10⟩
  have j_10 : In w_2.heap.size w_2 w_10 := In.wide (by (repeat (first | exact In.refl _ | assumption | apply In.alloc | apply In.drewN | apply In.drew | (refine In.step ?_ (by assumption))))) (hb_10.mono CB.out)
  have sz_10 : w_3.heap.size ≤ w_10.heap.size := by
    have h := hb_10.size
    (try simp at h)
    omega
  clear hb_9 j_9 sz_9 og_9
  go_wp2_with fail
  refine (heldRows_c A_G zs.length c_G 1 zs _ (by omega) (by omega) hz2 (by exact RowsC.reads (by assumption))).mono ?_
  rintro _ w_11 ⟨rfl, hb_11⟩
  have j_11 : In w_2.heap.size w_2 w_11 := In.step (by (repeat (first | exact In.refl _ | assumption | apply In.alloc | apply In.drewN | apply In.drew | (refine In.step ?_ (by assumption))))) hb_11
  have sz_11 : w_3.heap.size ≤ w_11.heap.size := by
    have h := hb_11.size
    (try simp at h)
    omega
  have og_11 : RowsC w_11 w_3.heap.size (.slice A_G zs.length c_G) zs.length (marksSS 1 zs zs.length) := RowsC.step (by assumption) hb_11
  clear hb_10 j_10 sz_10 og_10
  go_wp2_with fail
  refine (toShopS_c a0 len0 cap0 z0 _ (by omega) (by exact R0.out.in_ (IC.out.trans (by (repeat (first | exact In.refl _ | assumption | apply In.alloc | apply In.drewN | apply In.drew | (refine In.step ?_ (by assumption)))))))).mono ?_
  rintro _ w_12 ⟨g_12, rfl, ho_12, hg_12, hb_12⟩
  have hl_12 : z0.length = len0 := R0.out.1
  rw [hl_12] at ho_12
  rw [hl_12]
  clear hl_12
  have ox_12_t4 : OwnShop w_12 g_12 len0 z0 := ho_12
  have GX_t4 : Hid (w_2.heap.size ≤ g_12) := Lib.hid (Nat.le_trans (In.size (B := w_2.heap.size) (a := w_2) (by (repeat (first | exact In.refl _ | assumption | apply In.alloc | apply In.drewN | apply In.drew | (refine In.step ?_ (by assumption)))))) hg_12)
  clear ho_12 hg_12
  have j_12 : In w_2.heap.size w_2 w_12 := In.step (by (repeat (first | exact In.refl _ | assumption | apply In.alloc | apply In.drewN | apply In.drew | (refine In.step ?_ (by assumption))))) hb_12
  have sz_12 : w_3.heap.size ≤ w_12.heap.size := by
    have h := hb_12.size
    (try simp at h)
    omega
  have og_12 : RowsC w_12 w_3.heap.size (.slice A_G zs.length c_G) zs.length (marksSS 1 zs zs.length) := RowsC.step (by assumption) hb_12
  clear hb_11 j_11 sz_11 og_11
  go_wp2_with fail
  refine (iFarFirst (some ⟨g_12, 0, none⟩) len0 len0 z0 a1 _ (by (try unfold maxLen); omega) (by exact OwnShop.reads (by (with_reducible (repeat (first | assumption | apply OwnShop.drew | apply OwnShop.alloc)))))).mono ?_
  rintro _ w_13 ⟨v_H, rfl, ho_13, hb_13⟩
  rw [HFV.out]
  rw [HZS.out] at ho_13
  obtain ⟨A_H, c_H, rfl, hq1_H, hq2_H⟩ := ho_13.shape
  have xh : ReadsIntS w_13 A_H zs.length zs := RowsC.reads ho_13
  clear ho_13
  have j_13 : In w_2.heap.size w_2 w_13 := In.step (by (repeat (first | exact In.refl _ | assumption | apply In.alloc | apply In.drewN | apply In.drew | (refine In.step ?_ (by assumption))))) hb_13
  have sz_13 : w_3.heap.size ≤ w_13.heap.size := by
    have h := hb_13.size
    (try simp at h)
    omega
  have og_13 : RowsC w_13 w_3.heap.size (.slice A_G zs.length c_G) zs.length (marksSS 1 zs zs.length) := RowsC.step (by assumption) hb_13
  clear hb_12 j_12 sz_12 ox_12_t4 og_12
  go_wp2_with fail
  refine (eqIntSS_c A_H A_W zs.length c_H c_W zs _ (by unfold maxLen; omega) (by exact (by assumption)) (by exact HW.out.below (In.below (by (repeat (first | exact In.refl _ | assumption | apply In.alloc | apply In.drewN | apply In.drew | (refine In.step ?_ (by assumption)))))))).mono ?_
  rintro _ w_14 ⟨rfl, hb_14⟩
  have j_14 : In w_2.heap.size w_2 w_14 := In.step (by (repeat (first | exact In.refl _ | assumption | apply In.alloc | apply In.drewN | apply In.drew | (refine In.step ?_ (by assumption))))) hb_14
  have sz_14 : w_3.heap.size ≤ w_14.heap.size := by
    have h := hb_14.size
    (try simp at h)
    omega
  have og_14 : RowsC w_14 w_3.heap.size (.slice A_G zs.length c_G) zs.length (marksSS 1 zs zs.length) := RowsC.step (by assumption) hb_14
  clear hb_13 j_13 sz_13 og_13
  clear xh
  go_wp2_with fail
  refine (heldRows_c A_G zs.length c_G 1 zs _ (by omega) (by omega) hz2 (by exact RowsC.reads (by assumption))).mono ?_
  rintro _ w_15 ⟨rfl, hb_15⟩
  have j_15 : In w_2.heap.size w_2 w_15 := In.step (by (repeat (first | exact In.refl _ | assumption | apply In.alloc | apply In.drewN | apply In.drew | (refine In.step ?_ (by assumption))))) hb_15
  have sz_15 : w_3.heap.size ≤ w_15.heap.size := by
    have h := hb_15.size
    (try simp at h)
    omega
  have og_15 : RowsC w_15 w_3.heap.size (.slice A_G zs.length c_G) zs.length (marksSS 1 zs zs.length) := RowsC.step (by assumption) hb_15
  clear hb_14 j_14 sz_14 og_14
  go_wp2
  go_ret
  exact (show Val _ _ _ _ from Val.mk' rfl (IC.out.trans (by (repeat (first | exact In.refl _ | assumption | apply In.alloc | apply In.drewN | apply In.drew | (refine In.step ?_ (by assumption)))))))

end Go.Proofs.Ytmkfnhgaiheckaa
