/- The law of chapter 20: CommonPairs -/
import Derived.Test.YtmkfnhgaiheckaaIntS
import Derived.Test.YtmkfnhgaiheckaaIntE
import Derived.Test.YtmkfnhgaiheckaaOwnI
import Derived.Test.YtmkfnhgaiheckaaOwnM
import Derived.Test.YtmkfnhgaiheckaaMBasket
import Derived.Test.YtmkfnhgaiheckaaG20
namespace Go.Proofs.Ytmkfnhgaiheckaa
open Go.ChangeShapes Go.WideShapes Go.ChangeAt Go.RowKit
set_option linter.unusedVariables false
set_option linter.unusedSimpArgs false

set_option maxHeartbeats 4000000 in
theorem walk_FnExactCommonPairs (a0 : Option Addr) (len0 cap0 : Nat) (z0 : List BasketR) (a1 : Int) (u1 : (Lit.int .i64 a1).wf = true) (w : World) (m0 : len0 ≤ maxLen) (w0 : ReadsBasket w a0 len0 z0) :
    Calls Try.prog 3 #[.slice a0 len0 cap0, .int .i64 a1] w fun e w' => e = .returned (.bool true) ∧ Below w.heap.size w w' := by
  have r0 := w0
  clear w0
  have R0 := Lib.hid r0
  clear r0
  have tn0 := totBasket_nn z0 len0 len0 (Nat.le_refl _)
  obtain ⟨tS0, hts0⟩ : ∃ t, (len0 : Int) + totBasket z0 len0 = t := ⟨_, rfl⟩
  have HTS0 := Lib.hid hts0
  by_cases g0 : 1048576 < tS0
  · have m0' := m0
    clear hts0 tn0
    go_enter Try.func3, Try.ntmps3
    go_wp2_with fail
    refine (szBasketS_c a0 len0 cap0 z0 (1048576) _ m0 (by omega) (by omega) R0.out).mono ?_
    rintro _ ws0 ⟨rfl, hbs0⟩
    rw [HTS0.out, szVBasket, if_pos (by omega)]
    go_wp2
    go_ret
    exact (show Val _ _ _ _ from Val.mk' rfl (by (repeat (first | exact In.refl _ | assumption | apply In.alloc | apply In.drewN | apply In.drew | (refine In.step ?_ (by assumption))))))
  have g0' : tS0 ≤ 1048576 := by omega
  clear g0
  have HLL0 : Hid (∀ k, k < len0 → ((((z0).getD k ⟨[]⟩).f0.length : Int) ≤ 10000000)) := Lib.hid fun k hk => by have := totBasket_at z0 len0 k hk; omega
  have hlt0 : (len0 : Int) ≤ 1048576 := by omega
  clear hts0 tn0
  have hm0 : len0 ≤ 1048576 := by omega
  have hz : (PairsL len0 z0 a1).length ≤ 100000 := Nat.le_trans (PairsL_len len0 z0 a1) (by omega)
  have hz2 : lenR (PairsL len0 z0 a1) (PairsL len0 z0 a1).length ≤ 1000000 := Nat.le_trans (PairsL_tot len0 z0 a1) (by omega)
  have HS := Lib.hid (fun g W h => sCommonPairs (some ⟨g, 0, none⟩) len0 len0 z0 a1 W m0 h)
  have HI := Lib.hid (fun g W h => iCommonPairs (some ⟨g, 0, none⟩) len0 len0 z0 a1 W m0 h)
  have HLT := Lib.hid (lenTo_tot z0 len0)
  have hlt9 : lenTo z0 len0 ≤ 1048576 := by have := HLT.out; have := HTS0.out; omega
  have hL : z0.length = len0 := R0.out.1
  generalize hzs : (PairsL len0 z0 a1) = zs at *
  clear hzs
  go_enter Try.func3, Try.ntmps3
  go_wp2_with fail
  refine (szBasketS_c a0 len0 cap0 z0 (1048576) _ m0 (by omega) (by omega) R0.out).mono ?_
  rintro _ ws0 ⟨rfl, hbs0⟩
  rw [HTS0.out, szVBasket, if_neg (by omega)]
  have hd0 : decide (1048576 - tS0 < 0) = false := by simp; omega
  go_wp2_with fail
  refine (toBasketS_c a0 len0 cap0 z0 _ (by omega) HLL0.out (by exact R0.out.in_ (by (repeat (first | exact In.refl _ | assumption | apply In.alloc | apply In.drewN | apply In.drew | (refine In.step ?_ (by assumption))))))).mono ?_
  rintro _ w_1 ⟨g_1, rfl, ho_1, hg_1, hb_1⟩
  rw [hL] at ho_1
  rw [hL]
  have x1 := ho_1.reads
  have i_1 : In w.heap.size w w_1 := In.step (by (repeat (first | exact In.refl _ | assumption | apply In.alloc | apply In.drewN | apply In.drew | (refine In.step ?_ (by assumption))))) hb_1
  clear ho_1 hg_1
  go_wp2_with fail
  refine (HS.out g_1 _ (by exact (show ReadsBasket _ _ _ _ from by (with_reducible (repeat (first | assumption | apply ReadsI.drewN | apply ReadsI.drew | apply ReadsI.alloc | apply ReadsBasket.drew | apply ReadsBasket.alloc)))))).mono ?_
  rintro _ w_2 ⟨v_W, rfl, ho_2, hb_2⟩
  obtain ⟨A_W, c_W, rfl, hq1_W, hq2_W⟩ := ho_2.shape
  have i_2 : In w.heap.size w w_2 := In.step (by (repeat (first | exact In.refl _ | assumption | apply In.alloc | apply In.drewN | apply In.drew | (refine In.step ?_ (by assumption))))) hb_2
  have HW := Lib.hid (RowsC.reads ho_2)
  have IC := Lib.hid i_2
  have j_2 : In w_2.heap.size w_2 w_2 := In.refl _
  clear ho_2 hb_2 i_2 hb_1 i_1 x1
  go_wp2_with fail
  refine (toBasketS_c a0 len0 cap0 z0 _ (by omega) HLL0.out (by exact R0.out.in_ (IC.out.trans (by (repeat (first | exact In.refl _ | assumption | apply In.alloc | apply In.drewN | apply In.drew | (refine In.step ?_ (by assumption)))))))).mono ?_
  rintro _ w_3 ⟨g_3, rfl, ho_3, hg_3, hb_3⟩
  rw [hL] at ho_3
  rw [hL]
  have j_3 : In w_2.heap.size w_2 w_3 := In.step (by (repeat (first | exact In.refl _ | assumption | apply In.alloc | apply In.drewN | apply In.drew | (refine In.step ?_ (by assumption))))) hb_3
  have GX : Hid (w_2.heap.size ≤ g_3) := Lib.hid (Nat.le_trans (In.size (B := w_2.heap.size) (a := w_2) (by (repeat (first | exact In.refl _ | assumption | apply In.alloc | apply In.drewN | apply In.drew | (refine In.step ?_ (by assumption)))))) hg_3)
  have GXL : Hid (g_3 < w_3.heap.size) := Lib.hid (by obtain ⟨_, _, hk, _⟩ := ho_3; exact hk.lt)
  have ox_3 := ho_3.bound
  clear ho_3 hg_3 hb_3 j_2
  have CB : Hid (w_2.heap.size ≤ w_3.heap.size) := Lib.hid j_3.size
  have sz_3 : w_3.heap.size ≤ w_3.heap.size := Nat.le_refl _
  have xr := ox_3.own.reads
  go_wp2_with fail
  refine (HI.out g_3 _ (by exact (show ReadsBasket _ _ _ _ from by (with_reducible (repeat (first | assumption | apply ReadsI.drewN | apply ReadsI.drew | apply ReadsI.alloc | apply ReadsBasket.drew | apply ReadsBasket.alloc)))))).mono ?_
  rintro _ w_4 ⟨v_G, rfl, ho_4, hb_4⟩
  obtain ⟨A_G, c_G, rfl, hq1_G, hq2_G⟩ := ho_4.shape
  have j_4 : In w_2.heap.size w_2 w_4 := In.step (by (repeat (first | exact In.refl _ | assumption | apply In.alloc | apply In.drewN | apply In.drew | (refine In.step ?_ (by assumption))))) hb_4
  have ox_4 := ox_3.step hb_4
  have sz_4 : w_3.heap.size ≤ w_4.heap.size := hb_4.size
  have og_4 : RowsC w_4 w_3.heap.size (.slice A_G zs.length c_G) zs.length zs := RowsC.base ho_4 (In.size (B := w_3.heap.size) (a := w_3) (by (repeat (first | exact In.refl _ | assumption | apply In.alloc | apply In.drewN | apply In.drew | (refine In.step ?_ (by assumption))))))
  clear j_3 ox_3 ho_4 hb_4 sz_3 xr
  go_wp2_with fail
  refine (eqIntSS_c A_G A_W zs.length c_G c_W zs _ (by unfold maxLen; omega) (by exact RowsC.reads (by assumption)) (by exact HW.out.below (In.below (by (repeat (first | exact In.refl _ | assumption | apply In.alloc | apply In.drewN | apply In.drew | (refine In.step ?_ (by assumption)))))))).mono ?_
  rintro _ w_5 ⟨rfl, hb_5⟩
  have j_5 : In w_2.heap.size w_2 w_5 := In.step (by (repeat (first | exact In.refl _ | assumption | apply In.alloc | apply In.drewN | apply In.drew | (refine In.step ?_ (by assumption))))) hb_5
  have sz_5 : w_3.heap.size ≤ w_5.heap.size := by
    have h := hb_5.size
    (try simp at h)
    omega
  have og_5 : RowsC w_5 w_3.heap.size (.slice A_G zs.length c_G) zs.length zs := RowsC.step (by assumption) hb_5
  have ox_5 := ox_4.step hb_5
  clear j_4 sz_4 og_4 hb_5 ox_4
  go_wp2_with fail
  refine (toBasketS_c a0 len0 cap0 z0 _ (by omega) HLL0.out (by exact R0.out.in_ (IC.out.trans (by (repeat (first | exact In.refl _ | assumption | apply In.alloc | apply In.drewN | apply In.drew | (refine In.step ?_ (by assumption)))))))).mono ?_
  rintro _ w_6 ⟨g_6, rfl, ho_6, hg_6, hb_6⟩
  rw [hL] at ho_6
  rw [hL]
  have y_r := ho_6.reads
  clear ho_6 hg_6
  have j_6 : In w_2.heap.size w_2 w_6 := In.step (by (repeat (first | exact In.refl _ | assumption | apply In.alloc | apply In.drewN | apply In.drew | (refine In.step ?_ (by assumption))))) hb_6
  have sz_6 : w_3.heap.size ≤ w_6.heap.size := by
    have h := hb_6.size
    (try simp at h)
    omega
  have og_6 : RowsC w_6 w_3.heap.size (.slice A_G zs.length c_G) zs.length zs := RowsC.step (by assumption) hb_6
  have ox_6 := ox_5.step hb_6
  clear j_5 sz_5 og_5 hb_6 ox_5
  have x_r := ox_6.own.reads
  go_wp2_with fail
  refine (eqBasketS_c (some ⟨g_3, 0, none⟩) (some ⟨g_6, 0, none⟩) len0 len0 len0 z0 _ (by (try unfold maxLen); omega) (by (with_reducible (repeat (first | assumption | apply ReadsI.drewN | apply ReadsI.drew | apply ReadsI.alloc | apply ReadsBasket.drew | apply ReadsBasket.alloc)))) (by (with_reducible (repeat (first | assumption | apply ReadsI.drewN | apply ReadsI.drew | apply ReadsI.alloc | apply ReadsBasket.drew | apply ReadsBasket.alloc))))).mono ?_
  rintro _ w_7 ⟨rfl, hb_7⟩
  have j_7 : In w_2.heap.size w_2 w_7 := In.step (by (repeat (first | exact In.refl _ | assumption | apply In.alloc | apply In.drewN | apply In.drew | (refine In.step ?_ (by assumption))))) hb_7
  have sz_7 : w_3.heap.size ≤ w_7.heap.size := by
    have h := hb_7.size
    (try simp at h)
    omega
  have og_7 : RowsC w_7 w_3.heap.size (.slice A_G zs.length c_G) zs.length zs := RowsC.step (by assumption) hb_7
  have ox_7 := ox_6.step hb_7
  clear j_6 sz_6 og_6 hb_7 ox_6 x_r y_r
  go_wp2_with fail
  refine (markBasketS_c g_3 len0 1 w_3.heap.size z0 _ (by omega) (by omega) hlt9 ox_7 GXL.out).mono ?_
  rintro _ w_8 ⟨rfl, hs_8⟩
  have j_8 : In w_2.heap.size w_2 w_8 := In.wide (by (repeat (first | exact In.refl _ | assumption | apply In.alloc | apply In.drewN | apply In.drew | (refine In.step ?_ (by assumption))))) (hs_8.below.mono GX.out)
  have sz_8 : w_3.heap.size ≤ w_8.heap.size := by
    have h := hs_8.below.size
    (try simp at h)
    omega
  have og_8 : RowsC w_8 w_3.heap.size (.slice A_G zs.length c_G) zs.length zs := RowsC.keep (hi := w_3.heap.size) (by assumption) hs_8.above (Nat.le_refl _)
  clear j_7 sz_7 og_7 ox_7 hs_8
  obtain ⟨lt, hltt⟩ : ∃ lt, 1 + lenTo z0 len0 = lt := ⟨_, rfl⟩
  rw [hltt]
  have hltb : lt ≤ 3000000 := by omega
  clear hltt hlt9
  go_wp2_with fail
  refine (eqIntSS_c A_G A_W zs.length c_G c_W zs _ (by unfold maxLen; omega) (by exact RowsC.reads (by assumption)) (by exact HW.out.below (In.below (by (repeat (first | exact In.refl _ | assumption | apply In.alloc | apply In.drewN | apply In.drew | (refine In.step ?_ (by assumption)))))))).mono ?_
  rintro _ w_9 ⟨rfl, hb_9⟩
  have j_9 : In w_2.heap.size w_2 w_9 := In.step (by (repeat (first | exact In.refl _ | assumption | apply In.alloc | apply In.drewN | apply In.drew | (refine In.step ?_ (by assumption))))) hb_9
  have sz_9 : w_3.heap.size ≤ w_9.heap.size := by
    have h := hb_9.size
    (try simp at h)
    omega
  have og_9 : RowsC w_9 w_3.heap.size (.slice A_G zs.length c_G) zs.length zs := RowsC.step (by assumption) hb_9
  clear j_8 sz_8 og_8 hb_9
  go_wp2_with fail
  refine (markRows_c A_G zs.length c_G 1 w_3.heap.size zs _ (by omega) (by omega) (by first | assumption | (simp; omega)) hz2 (by assumption)).mono ?_
  rintro _ w_10 ⟨rfl, og_10, hb_10⟩
  have j_10 : In w_2.heap.size w_2 w_10 := In.wide (by (repeat (first | exact In.refl _ | assumption | apply In.alloc | apply In.drewN | apply In.drew | (refine In.step ?_ (by assumption))))) (hb_10.mono CB.out)
  have sz_10 : w_3.heap.size ≤ w_10.heap.size := by
    have h := hb_10.size
    (try simp at h)
    omega
  clear j_9 sz_9 og_9 hb_10
  go_wp2_with fail
  refine (heldRows_c A_G zs.length c_G 1 zs _ (by omega) (by omega) hz2 (by exact RowsC.reads (by assumption))).mono ?_
  rintro _ w_11 ⟨rfl, hb_11⟩
  have j_11 : In w_2.heap.size w_2 w_11 := In.step (by (repeat (first | exact In.refl _ | assumption | apply In.alloc | apply In.drewN | apply In.drew | (refine In.step ?_ (by assumption))))) hb_11
  have sz_11 : w_3.heap.size ≤ w_11.heap.size := by
    have h := hb_11.size
    (try simp at h)
    omega
  have og_11 : RowsC w_11 w_3.heap.size (.slice A_G zs.length c_G) zs.length (marksSS 1 zs zs.length) := RowsC.step (by assumption) hb_11
  clear j_10 sz_10 og_10 hb_11
  go_wp2_with fail
  refine (toBasketS_c a0 len0 cap0 z0 _ (by omega) HLL0.out (by exact R0.out.in_ (IC.out.trans (by (repeat (first | exact In.refl _ | assumption | apply In.alloc | apply In.drewN | apply In.drew | (refine In.step ?_ (by assumption)))))))).mono ?_
  rintro _ w_12 ⟨g_12, rfl, ho_12, hg_12, hb_12⟩
  rw [hL] at ho_12
  rw [hL]
  have y_r := ho_12.reads
  clear ho_12 hg_12
  have j_12 : In w_2.heap.size w_2 w_12 := In.step (by (repeat (first | exact In.refl _ | assumption | apply In.alloc | apply In.drewN | apply In.drew | (refine In.step ?_ (by assumption))))) hb_12
  have sz_12 : w_3.heap.size ≤ w_12.heap.size := by
    have h := hb_12.size
    (try simp at h)
    omega
  have og_12 : RowsC w_12 w_3.heap.size (.slice A_G zs.length c_G) zs.length (marksSS 1 zs zs.length) := RowsC.step (by assumption) hb_12
  clear j_11 sz_11 og_11 hb_12
  go_wp2_with fail
  refine (HI.out g_12 _ (by exact (show ReadsBasket _ _ _ _ from by (with_reducible (repeat (first | assumption | apply ReadsI.drewN | apply ReadsI.drew | apply ReadsI.alloc | apply ReadsBasket.drew | apply ReadsBasket.alloc)))))).mono ?_
  rintro _ w_13 ⟨v_H, rfl, ho_13, hb_13⟩
  obtain ⟨A_H, c_H, rfl, hq1_H, hq2_H⟩ := ho_13.shape
  have xh : ReadsIntS w_13 A_H zs.length zs := RowsC.reads ho_13
  clear ho_13 y_r
  have j_13 : In w_2.heap.size w_2 w_13 := In.step (by (repeat (first | exact In.refl _ | assumption | apply In.alloc | apply In.drewN | apply In.drew | (refine In.step ?_ (by assumption))))) hb_13
  have sz_13 : w_3.heap.size ≤ w_13.heap.size := by
    have h := hb_13.size
    (try simp at h)
    omega
  have og_13 : RowsC w_13 w_3.heap.size (.slice A_G zs.length c_G) zs.length (marksSS 1 zs zs.length) := RowsC.step (by assumption) hb_13
  clear j_12 sz_12 og_12 hb_13
  go_wp2_with fail
  refine (eqIntSS_c A_H A_W zs.length c_H c_W zs _ (by unfold maxLen; omega) (by exact (by assumption)) (by exact HW.out.below (In.below (by (repeat (first | exact In.refl _ | assumption | apply In.alloc | apply In.drewN | apply In.drew | (refine In.step ?_ (by assumption)))))))).mono ?_
  rintro _ w_14 ⟨rfl, hb_14⟩
  have j_14 : In w_2.heap.size w_2 w_14 := In.step (by (repeat (first | exact In.refl _ | assumption | apply In.alloc | apply In.drewN | apply In.drew | (refine In.step ?_ (by assumption))))) hb_14
  have sz_14 : w_3.heap.size ≤ w_14.heap.size := by
    have h := hb_14.size
    (try simp at h)
    omega
  have og_14 : RowsC w_14 w_3.heap.size (.slice A_G zs.length c_G) zs.length (marksSS 1 zs zs.length) := RowsC.step (by assumption) hb_14
  clear j_13 sz_13 og_13 hb_14 xh
  go_wp2_with fail
  refine (heldRows_c A_G zs.length c_G 1 zs _ (by omega) (by omega) hz2 (by exact RowsC.reads (by assumption))).mono ?_
  rintro _ w_15 ⟨rfl, hb_15⟩
  have j_15 : In w_2.heap.size w_2 w_15 := In.step (by (repeat (first | exact In.refl _ | assumption | apply In.alloc | apply In.drewN | apply In.drew | (refine In.step ?_ (by assumption))))) hb_15
  have sz_15 : w_3.heap.size ≤ w_15.heap.size := by
    have h := hb_15.size
    (try simp at h)
    omega
  have og_15 : RowsC w_15 w_3.heap.size (.slice A_G zs.length c_G) zs.length (marksSS 1 zs zs.length) := RowsC.step (by assumption) hb_15
  clear j_14 sz_14 og_14 hb_15
  go_wp2
  go_ret
  exact (show Val _ _ _ _ from Val.mk' rfl (IC.out.trans (by (repeat (first | exact In.refl _ | assumption | apply In.alloc | apply In.drewN | apply In.drew | (refine In.step ?_ (by assumption)))))))

end Go.Proofs.Ytmkfnhgaiheckaa
