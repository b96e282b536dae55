/- The law FnCosts. -/
import Derived.Test.YtkaaebpoljnbnaaDoorP24b
import Derived.Test.YtkaaebpoljnbnaaDoorA24
import Derived.Test.YtkaaebpoljnbnaaDoorC24
import Derived.Test.YtkaaebpoljnbnaaDoorDrw
import Derived.Test.YtkaaebpoljnbnaaDoorAtAll
import Derived.Test.YtkaaebpoljnbnaaDoorQuietL
import Derived.BigQuiet
import Derived.Deep.QuietTactic
namespace Go.Proofs.YtkaaebpoljnbnaaDoor
open Go.ChangeShapes Go.WideShapes Go.ChangeAt Go.RowKit
set_option linter.unusedVariables false
set_option linter.unusedSimpArgs false
set_option maxHeartbeats 2000000

theorem mgF_spec {x y z pr : Int} : ∀ (K p : Nat), p ≤ K → prcN x y z p ≤ pr → ∃ m : Nat, mgF x y z pr K = m ∧ p ≤ m ∧ m ≤ K ∧ prcN x y z m ≤ pr ∧ ∀ j : Nat, m < j → j ≤ K → pr < prcN x y z j
  | 0, p, hp, h => by
    obtain rfl : p = 0 := by omega
    exact ⟨0, mgF_t (k := 0) h, Nat.le_refl _, Nat.le_refl _, h, fun j h1 h2 => by omega⟩
  | K + 1, p, hp, h => by
    by_cases hk : prcN x y z ((K + 1 : Nat) : Int) ≤ pr
    · exact ⟨K + 1, mgF_t hk, hp, Nat.le_refl _, hk, fun j h1 h2 => by omega⟩
    · have hpk : p ≤ K := by
        rcases Nat.lt_or_ge K p with q | q
        · exfalso
          obtain rfl : p = K + 1 := by omega
          exact hk h
        · exact q
      obtain ⟨m, e, h1, h2, h3, h4⟩ := mgF_spec K p hpk h
      refine ⟨m, (mgF_f hk).trans e, h1, by omega, h3, fun j a1 a2 => ?_⟩
      by_cases e2 : j = K + 1
      · subst e2; omega
      · exact h4 j a1 (by omega)
theorem cost_law {a b c p n : Int} (ha : 0 ≤ a ∧ a ≤ 249) (hb : 0 ≤ b ∧ b ≤ 249) (hc : 0 ≤ c ∧ c ≤ 99) (hp : 0 ≤ p ∧ p ≤ 500) (hn : 1 ≤ n ∧ n ≤ 30) :
    ∃ X M Y Z T : Int, priceV a b c p = X ∧ margV a b c X = M ∧ priceV a b c M = Y ∧ (M < 500 → priceV a b c (M + 1) = Z) ∧ (a + b + c) * (100 + p) = T ∧ (0 ≤ T ∧ T ≤ 400000) ∧ (0 ≤ X ∧ X ≤ 10000) ∧ X % 5 = 0 ∧ T ≤ 100 * X ∧ (0 < X → 100 * (X - 5) < T) ∧ p ≤ M ∧ M ≤ 500 ∧ Y ≤ X ∧ (M < 500 → X < Z) ∧ (X = 0 → M = 500) := by
  have hcb : costB a b c = true := by simp [costB, inB]; omega
  have hS : 0 ≤ a + b + c ∧ a + b + c ≤ 597 := by omega
  have hT : ∀ k : Int, 0 ≤ k → k ≤ 500 → 0 ≤ (a + b + c) * (100 + k) ∧ (a + b + c) * (100 + k) ≤ 597 * 600 := fun k h0 h1 => mul_in hS.1 hS.2 (by omega) (by omega)
  have hV : ∀ k : Int, 0 ≤ k → k ≤ 500 → priceV a b c k = prcN a b c k := fun k h0 h1 => by
    unfold priceV prcB; rw [hcb, inB_t ⟨h0, h1⟩]; rfl
  obtain ⟨P, rfl⟩ := Int.eq_ofNat_of_zero_le hp.1
  obtain ⟨T, hTe⟩ : ∃ T, (a + b + c) * (100 + (P : Int)) = T := ⟨_, rfl⟩
  have t1 := hT P hp.1 hp.2
  rw [hTe] at t1
  have hX : prcN a b c P = (T + 499) / 500 * 5 := by unfold prcN; rw [hTe]
  have hx0 : 0 ≤ prcN a b c P ∧ prcN a b c P ≤ 10000 := by rw [hX]; omega
  obtain ⟨m, e, m1, m2, m3, m4⟩ := mgF_spec (x := a) (y := b) (z := c) (pr := prcN a b c P) 500 P (by omega) (Int.le_refl _)
  have hM : margV a b c (prcN a b c P) = m := by
    unfold margV; rw [hcb, inB_t (by omega)]; exact e
  refine ⟨_, _, _, prcN a b c (m + 1), T, hV P hp.1 hp.2, hM, hV m (by omega) (by omega), fun h => hV (m + 1) (by omega) (by omega), hTe, by omega, hx0, ?_, ?_, ?_, by omega, by omega, m3, fun h => ?_, fun h => ?_⟩
  · rw [hX]; omega
  · rw [hX]; omega
  · rw [hX]; omega
  · have := m4 (m + 1) (by omega) (by omega)
    exact_mod_cast this
  · rw [hX] at h
    have hT0 : T = 0 := by omega
    have hs0 : a + b + c = 0 := by
      rcases Int.mul_eq_zero.1 (hTe.trans hT0) with q | q
      · exact q
      · omega
    rcases Nat.lt_or_ge m 500 with q | q
    · have := m4 500 q (Nat.le_refl _)
      rw [hX, hT0] at this
      unfold prcN at this
      rw [hs0] at this
      simp at this
    · omega
theorem up_law {a n : Int} (ha : 0 ≤ a ∧ a ≤ 249) (hn : 1 ≤ n ∧ n ≤ 30) : ∃ q A B : Int, upV a n = q ∧ q * n = A ∧ (q - 1) * n = B ∧ (0 ≤ q ∧ q ≤ 249) ∧ a ≤ A ∧ B < a ∧ A ≤ 10000 ∧ -100 ≤ B := by
  have h1 : (a + (n - 1)) / n * n ≤ a + (n - 1) := Int.ediv_mul_le _ (by omega)
  have h2 : a + (n - 1) < ((a + (n - 1)) / n + 1) * n := Int.lt_ediv_add_one_mul_self _ (by omega)
  have h3 : 0 ≤ (a + (n - 1)) / n := Int.ediv_nonneg (by omega) (by omega)
  have h4 : ((a + (n - 1)) / n - 1) * n = (a + (n - 1)) / n * n - n := by rw [Int.sub_mul]; omega
  have h5 : ((a + (n - 1)) / n + 1) * n = (a + (n - 1)) / n * n + n := by rw [Int.add_mul]; omega
  have h6 : (a + (n - 1)) / n ≤ 249 := by
    have : (a + (n - 1)) / n < 250 := Int.ediv_lt_of_lt_mul (by omega) (by omega)
    omega
  refine ⟨_, _, _, rfl, rfl, rfl, ⟨h3, h6⟩, ?_⟩
  unfold upV
  omega
theorem larg_law {a b c : Int} (h : costB a b c = true) : ∃ (k : Nat) (m : Int), largV a b c = k ∧ k < 3 ∧ [a, b, c].getD k 0 = m ∧ a ≤ m ∧ b ≤ m ∧ c ≤ m ∧ (∀ j, j < k → [a, b, c].getD j 0 ≠ m) := by
  unfold largV
  rw [h]
  by_cases h1 : b ≤ a ∧ c ≤ a
  · exact ⟨0, a, by simp [h1], by omega, rfl, by omega, h1.1, h1.2, fun j hj => by omega⟩
  · by_cases h2 : c ≤ b
    · refine ⟨1, b, by simp [h1, h2], by omega, rfl, by omega, by omega, h2, fun j hj => ?_⟩
      obtain rfl : j = 0 := by omega
      show a ≠ b
      omega
    · refine ⟨2, c, by simp [h1, h2], by omega, rfl, by omega, by omega, by omega, fun j hj => ?_⟩
      have : j = 0 ∨ j = 1 := by omega
      rcases this with rfl | rfl
      · show a ≠ c; omega
      · show b ≠ c; omega
theorem price125 : priceV 100 0 0 25 = 125 := by decide
def ErrC (w : World) : Prop := ∃ a, ErrP a w
theorem ErrC.in_ {w w' : World} (h : ErrC w) (hi : In w.heap.size w w') : ErrC w' := h.imp fun _ h => h.in_ hi
theorem errC_of {W : World} (h : laidMetH Tryd.prog Rows.fnCostsRow.laid W) : ErrC W := err_of h
theorem priceC (x y z p : Int) (w : World) (hE : ErrC w) : Calls Tryd.prog 8 #[.agg #[.int .i64 x, .int .i64 y, .int .i64 z], .int .i64 p] w (Val (i64 (priceV x y z p)) w) := by
  obtain ⟨a, h⟩ := hE
  exact iPriceFor a x y z p w h
theorem margC (x y z p : Int) (w : World) (hE : ErrC w) : Calls Tryd.prog 9 #[.agg #[.int .i64 x, .int .i64 y, .int .i64 z], .int .i64 p] w (Val (i64 (margV x y z p)) w) := by
  obtain ⟨a, h⟩ := hE
  exact iMarginOf a x y z p w h
set_option maxHeartbeats 80000000 in
set_option maxRecDepth 20000 in
theorem walk_FnCosts (a0 : Option Addr) (len0 cap0 : Nat) (z0 : List Int) (w : World) (w0 : IsRow .u8 w a0 len0 cap0 z0) (hL : laidMetH Tryd.prog Rows.fnCostsRow.laid w) :
    Calls Tryd.prog 3 #[.slice a0 len0 cap0] w fun e w' => e = .returned (.bool true) ∧ Below w.heap.size w w' := by
  have HT := Lib.hid (errC_of hL)
  clear hL
  have hb := ReadsU.of_row w0
  have hm := hb.1
  clear w0
  by_cases hbig : (1048576 : Int) < (len0 : Int)
  · go_enter Tryd.func3, Tryd.ntmps3
    go_wp2_with fail
    refine (bigU _ _ _ _ hm true (by simpa using hbig)).mono ?_
    rintro e w' ⟨rfl, rfl⟩
    go_wp2_with fail
    go_ret
    exact ⟨rfl, Below.refl _ _⟩
  have HB := Lib.hid hb
  obtain ⟨x0, h0, A0⟩ := at_all a0 len0 cap0 0 w (by omega) (by omega) hb
  have HA0 := Lib.hid A0
  clear A0
  obtain ⟨x1, h1, A1⟩ := at_all a0 len0 cap0 1 w (by omega) (by omega) hb
  have HA1 := Lib.hid A1
  clear A1
  go_enter Tryd.func3, Tryd.ntmps3
  go_wp2_with fail
  refine (bigU _ _ _ _ hm false (by simpa using hbig)).mono ?_
  rintro e w' ⟨rfl, rfl⟩
  clear hbig hm hb
  have f0_0 : In w.heap.size w w := In.refl w
  have f0_1 := HB.out
  go_wp2_with fail
  refine (drawCost _ _ _ _ (bytes_of f0_1)).mono ?_
  rintro _ w1 ⟨a, b, c, ⟨ha, hb, hc⟩, rfl, hb1⟩
  replace ha : 0 ≤ a ∧ a ≤ 249 := by omega
  replace hb : 0 ≤ b ∧ b ≤ 249 := by omega
  replace hc : 0 ≤ c ∧ c ≤ 99 := by omega
  have f1_0 : In w.heap.size w w1 := f0_0.step hb1
  clear f0_0 f0_1
  clear hb1
  have kb2 : Blk (w1.alloc (.cells #[.int .i64 a, .int .i64 b, .int .i64 c] 25)) w1.heap.size 25 #[.int .i64 a, .int .i64 b, .int .i64 c] := Blk.new w1 _ _
  have hb2 : Below w1.heap.size w1 (w1.alloc (.cells #[.int .i64 a, .int .i64 b, .int .i64 c] 25)) := (Below.refl _ w1).alloc (Nat.le_refl _) _
  have f2_0 : In w.heap.size w (w1.alloc (.cells #[.int .i64 a, .int .i64 b, .int .i64 c] 25)) := f1_0.step hb2
  have f2_1 : (w1.alloc (.cells #[.int .i64 a, .int .i64 b, .int .i64 c] 25)).cell? ⟨w1.heap.size, 0, none⟩ = some (.int .i64 a) := kb2.cell 0
  have f2_2 : (w1.alloc (.cells #[.int .i64 a, .int .i64 b, .int .i64 c] 25)).cell? ⟨w1.heap.size, 1, none⟩ = some (.int .i64 b) := kb2.cell 1
  have f2_3 : (w1.alloc (.cells #[.int .i64 a, .int .i64 b, .int .i64 c] 25)).cell? ⟨w1.heap.size, 2, none⟩ = some (.int .i64 c) := kb2.cell 2
  clear f1_0
  clear kb2 hb2
  go_wp2_with fail
  refine (HA0.out _ f2_0).mono ?_
  rintro e w' ⟨rfl, rfl⟩
  have hp : 0 ≤ x0 * 2 % 501 ∧ x0 * 2 % 501 ≤ 500 := by omega
  go_wp2_with fail
  generalize x0 * 2 % 501 = p at *
  have hn : 1 ≤ 1 + x1 % 30 ∧ 1 + x1 % 30 ≤ 30 := by omega
  obtain ⟨n, hne⟩ : ∃ n, 1 + x1 % 30 = n := ⟨_, rfl⟩
  rw [hne] at hn
  obtain ⟨X, M, Y, Z, T, eX, eM, eY, eZ, eT, hT, hX, x1_, x2_, x3_, m1, m2, yx, zx, mx⟩ := cost_law ha hb hc hp hn
  have HP0 := Lib.hid (fun W h => priceC a b c p W h)
  rw [eX] at HP0
  have HM0 := Lib.hid (fun W h => margC a b c X W h)
  rw [eM] at HM0
  have HPM := Lib.hid (fun W h => priceC a b c M W h)
  rw [eY] at HPM
  have HPN := Lib.hid (fun (h9 : M < 500) W h => (eZ h9) ▸ priceC a b c (M + 1) W h)
  have HP5 := Lib.hid (fun W h => priceC 100 0 0 25 W h)
  rw [price125] at HP5
  have hcb : costB a b c = true := by simp [costB, inB]; omega
  have hc2 : costB (a + a) (b + b) (c + c) = true := by simp [costB, inB]; omega
  obtain ⟨q1, A1, B1, eq1, eA1, eB1, hq1, k1, k2, k3, k4⟩ := up_law ha hn
  obtain ⟨q2, A2, B2, eq2, eA2, eB2, hq2, l1, l2, l3, l4⟩ := up_law hb hn
  obtain ⟨q3, A3, B3, eq3, eA3, eB3, hq3, r1, r2, r3, r4⟩ := up_law (a := c) ⟨hc.1, by omega⟩ hn
  obtain ⟨k, m, eL, hk3, hkm, ham, hbm, hcm, hlt⟩ := larg_law hcb
  have HPL := Lib.hid (fun W => iPerLoaf a b c n W)
  rw [show perV a b c n = .agg #[.int .i64 q1, .int .i64 q2, .int .i64 q3] by unfold perV perB; rw [hcb, inB_t (by omega), eq1, eq2, eq3]; rfl] at HPL
  have HAD := Lib.hid (fun W => iAddCosts a b c a b c W)
  rw [show addV a b c a b c = .tuple #[.agg #[.int .i64 (a + a), .int .i64 (b + b), .int .i64 (c + c)], .bool true] by unfold addV addB; rw [hcb, hc2]; rfl] at HAD
  have HLP := Lib.hid (fun W => iLargestPart a b c W)
  rw [eL] at HLP
  have HOK := Lib.hid (fun W => iCostOk a b c W)
  rw [hcb] at HOK
  have HKM := Lib.hid hkm
  have HLT := Lib.hid hlt
  clear eX eM eY eZ eq1 eq2 eq3 eL hkm hlt hcb hc2
  refine (HP0.out _ (HT.out.in_ f2_0)).mono ?_
  rintro _ w3 ⟨rfl, hb3⟩
  have f3_0 : In w.heap.size w w3 := f2_0.step hb3
  have f3_1 : w3.cell? ⟨w1.heap.size, 0, none⟩ = some (.int .i64 a) := cell_in f2_1 ⟨hb3, hb3.size⟩
  have f3_2 : w3.cell? ⟨w1.heap.size, 1, none⟩ = some (.int .i64 b) := cell_in f2_2 ⟨hb3, hb3.size⟩
  have f3_3 : w3.cell? ⟨w1.heap.size, 2, none⟩ = some (.int .i64 c) := cell_in f2_3 ⟨hb3, hb3.size⟩
  clear f2_0 f2_1 f2_2 f2_3
  clear hb3
  clear HP0
  go_wp2_with fail
  refine (HM0.out _ (HT.out.in_ f3_0)).mono ?_
  rintro _ w4 ⟨rfl, hb4⟩
  have f4_0 : In w.heap.size w w4 := f3_0.step hb4
  have f4_1 : w4.cell? ⟨w1.heap.size, 0, none⟩ = some (.int .i64 a) := cell_in f3_1 ⟨hb4, hb4.size⟩
  have f4_2 : w4.cell? ⟨w1.heap.size, 1, none⟩ = some (.int .i64 b) := cell_in f3_2 ⟨hb4, hb4.size⟩
  have f4_3 : w4.cell? ⟨w1.heap.size, 2, none⟩ = some (.int .i64 c) := cell_in f3_3 ⟨hb4, hb4.size⟩
  clear f3_0 f3_1 f3_2 f3_3
  clear hb4
  clear HM0
  go_wp2_with fail
  refine (HA1.out _ f4_0).mono ?_
  rintro e w' ⟨rfl, rfl⟩
  go_wp2_with fail
  (try rw [hne])
  clear hne h0 h1 HA0 HA1 HB
  refine (HPL.out _).mono ?_
  rintro _ w5 ⟨rfl, hb5⟩
  have f5_0 : In w.heap.size w w5 := f4_0.step hb5
  have f5_1 : w5.cell? ⟨w1.heap.size, 0, none⟩ = some (.int .i64 a) := cell_in f4_1 ⟨hb5, hb5.size⟩
  have f5_2 : w5.cell? ⟨w1.heap.size, 1, none⟩ = some (.int .i64 b) := cell_in f4_2 ⟨hb5, hb5.size⟩
  have f5_3 : w5.cell? ⟨w1.heap.size, 2, none⟩ = some (.int .i64 c) := cell_in f4_3 ⟨hb5, hb5.size⟩
  clear f4_0 f4_1 f4_2 f4_3
  clear hb5
  clear HPL
  have kb6 : Blk (w5.alloc (.cells #[.int .i64 q1, .int .i64 q2, .int .i64 q3] 25)) w5.heap.size 25 #[.int .i64 q1, .int .i64 q2, .int .i64 q3] := Blk.new w5 _ _
  have hb6 : Below w5.heap.size w5 (w5.alloc (.cells #[.int .i64 q1, .int .i64 q2, .int .i64 q3] 25)) := (Below.refl _ w5).alloc (Nat.le_refl _) _
  have f6_0 : In w.heap.size w (w5.alloc (.cells #[.int .i64 q1, .int .i64 q2, .int .i64 q3] 25)) := f5_0.step hb6
  have f6_1 : (w5.alloc (.cells #[.int .i64 q1, .int .i64 q2, .int .i64 q3] 25)).cell? ⟨w1.heap.size, 0, none⟩ = some (.int .i64 a) := cell_in f5_1 ⟨hb6, hb6.size⟩
  have f6_2 : (w5.alloc (.cells #[.int .i64 q1, .int .i64 q2, .int .i64 q3] 25)).cell? ⟨w1.heap.size, 1, none⟩ = some (.int .i64 b) := cell_in f5_2 ⟨hb6, hb6.size⟩
  have f6_3 : (w5.alloc (.cells #[.int .i64 q1, .int .i64 q2, .int .i64 q3] 25)).cell? ⟨w1.heap.size, 2, none⟩ = some (.int .i64 c) := cell_in f5_3 ⟨hb6, hb6.size⟩
  have f6_4 : (w5.alloc (.cells #[.int .i64 q1, .int .i64 q2, .int .i64 q3] 25)).cell? ⟨w5.heap.size, 0, none⟩ = some (.int .i64 q1) := kb6.cell 0
  have f6_5 : (w5.alloc (.cells #[.int .i64 q1, .int .i64 q2, .int .i64 q3] 25)).cell? ⟨w5.heap.size, 1, none⟩ = some (.int .i64 q2) := kb6.cell 1
  have f6_6 : (w5.alloc (.cells #[.int .i64 q1, .int .i64 q2, .int .i64 q3] 25)).cell? ⟨w5.heap.size, 2, none⟩ = some (.int .i64 q3) := kb6.cell 2
  clear f5_0 f5_1 f5_2 f5_3
  clear kb6 hb6
  go_wp2_with fail
  refine (HAD.out _).mono ?_
  rintro _ w7 ⟨rfl, hb7⟩
  have f7_0 : In w.heap.size w w7 := f6_0.step hb7
  have f7_1 : w7.cell? ⟨w1.heap.size, 0, none⟩ = some (.int .i64 a) := cell_in f6_1 ⟨hb7, hb7.size⟩
  have f7_2 : w7.cell? ⟨w1.heap.size, 1, none⟩ = some (.int .i64 b) := cell_in f6_2 ⟨hb7, hb7.size⟩
  have f7_3 : w7.cell? ⟨w1.heap.size, 2, none⟩ = some (.int .i64 c) := cell_in f6_3 ⟨hb7, hb7.size⟩
  have f7_4 : w7.cell? ⟨w5.heap.size, 0, none⟩ = some (.int .i64 q1) := cell_in f6_4 ⟨hb7, hb7.size⟩
  have f7_5 : w7.cell? ⟨w5.heap.size, 1, none⟩ = some (.int .i64 q2) := cell_in f6_5 ⟨hb7, hb7.size⟩
  have f7_6 : w7.cell? ⟨w5.heap.size, 2, none⟩ = some (.int .i64 q3) := cell_in f6_6 ⟨hb7, hb7.size⟩
  clear f6_0 f6_1 f6_2 f6_3 f6_4 f6_5 f6_6
  clear hb7
  clear HAD
  have kb8 : Blk (w7.alloc (.cells #[.int .i64 (a + a), .int .i64 (b + b), .int .i64 (c + c)] 25)) w7.heap.size 25 #[.int .i64 (a + a), .int .i64 (b + b), .int .i64 (c + c)] := Blk.new w7 _ _
  have hb8 : Below w7.heap.size w7 (w7.alloc (.cells #[.int .i64 (a + a), .int .i64 (b + b), .int .i64 (c + c)] 25)) := (Below.refl _ w7).alloc (Nat.le_refl _) _
  have f8_0 : In w.heap.size w (w7.alloc (.cells #[.int .i64 (a + a), .int .i64 (b + b), .int .i64 (c + c)] 25)) := f7_0.step hb8
  have f8_1 : (w7.alloc (.cells #[.int .i64 (a + a), .int .i64 (b + b), .int .i64 (c + c)] 25)).cell? ⟨w1.heap.size, 0, none⟩ = some (.int .i64 a) := cell_in f7_1 ⟨hb8, hb8.size⟩
  have f8_2 : (w7.alloc (.cells #[.int .i64 (a + a), .int .i64 (b + b), .int .i64 (c + c)] 25)).cell? ⟨w1.heap.size, 1, none⟩ = some (.int .i64 b) := cell_in f7_2 ⟨hb8, hb8.size⟩
  have f8_3 : (w7.alloc (.cells #[.int .i64 (a + a), .int .i64 (b + b), .int .i64 (c + c)] 25)).cell? ⟨w1.heap.size, 2, none⟩ = some (.int .i64 c) := cell_in f7_3 ⟨hb8, hb8.size⟩
  have f8_4 : (w7.alloc (.cells #[.int .i64 (a + a), .int .i64 (b + b), .int .i64 (c + c)] 25)).cell? ⟨w5.heap.size, 0, none⟩ = some (.int .i64 q1) := cell_in f7_4 ⟨hb8, hb8.size⟩
  have f8_5 : (w7.alloc (.cells #[.int .i64 (a + a), .int .i64 (b + b), .int .i64 (c + c)] 25)).cell? ⟨w5.heap.size, 1, none⟩ = some (.int .i64 q2) := cell_in f7_5 ⟨hb8, hb8.size⟩
  have f8_6 : (w7.alloc (.cells #[.int .i64 (a + a), .int .i64 (b + b), .int .i64 (c + c)] 25)).cell? ⟨w5.heap.size, 2, none⟩ = some (.int .i64 q3) := cell_in f7_6 ⟨hb8, hb8.size⟩
  have f8_7 : (w7.alloc (.cells #[.int .i64 (a + a), .int .i64 (b + b), .int .i64 (c + c)] 25)).cell? ⟨w7.heap.size, 0, none⟩ = some (.int .i64 (a + a)) := kb8.cell 0
  have f8_8 : (w7.alloc (.cells #[.int .i64 (a + a), .int .i64 (b + b), .int .i64 (c + c)] 25)).cell? ⟨w7.heap.size, 1, none⟩ = some (.int .i64 (b + b)) := kb8.cell 1
  have f8_9 : (w7.alloc (.cells #[.int .i64 (a + a), .int .i64 (b + b), .int .i64 (c + c)] 25)).cell? ⟨w7.heap.size, 2, none⟩ = some (.int .i64 (c + c)) := kb8.cell 2
  clear f7_0 f7_1 f7_2 f7_3 f7_4 f7_5 f7_6
  clear kb8 hb8
  go_wp2_with fail
  refine (HLP.out _).mono ?_
  rintro _ w9 ⟨rfl, hb9⟩
  have f9_0 : In w.heap.size w w9 := f8_0.step hb9
  have f9_1 : w9.cell? ⟨w1.heap.size, 0, none⟩ = some (.int .i64 a) := cell_in f8_1 ⟨hb9, hb9.size⟩
  have f9_2 : w9.cell? ⟨w1.heap.size, 1, none⟩ = some (.int .i64 b) := cell_in f8_2 ⟨hb9, hb9.size⟩
  have f9_3 : w9.cell? ⟨w1.heap.size, 2, none⟩ = some (.int .i64 c) := cell_in f8_3 ⟨hb9, hb9.size⟩
  have f9_4 : w9.cell? ⟨w5.heap.size, 0, none⟩ = some (.int .i64 q1) := cell_in f8_4 ⟨hb9, hb9.size⟩
  have f9_5 : w9.cell? ⟨w5.heap.size, 1, none⟩ = some (.int .i64 q2) := cell_in f8_5 ⟨hb9, hb9.size⟩
  have f9_6 : w9.cell? ⟨w5.heap.size, 2, none⟩ = some (.int .i64 q3) := cell_in f8_6 ⟨hb9, hb9.size⟩
  have f9_7 : w9.cell? ⟨w7.heap.size, 0, none⟩ = some (.int .i64 (a + a)) := cell_in f8_7 ⟨hb9, hb9.size⟩
  have f9_8 : w9.cell? ⟨w7.heap.size, 1, none⟩ = some (.int .i64 (b + b)) := cell_in f8_8 ⟨hb9, hb9.size⟩
  have f9_9 : w9.cell? ⟨w7.heap.size, 2, none⟩ = some (.int .i64 (c + c)) := cell_in f8_9 ⟨hb9, hb9.size⟩
  clear f8_0 f8_1 f8_2 f8_3 f8_4 f8_5 f8_6 f8_7 f8_8 f8_9
  clear hb9
  clear HLP
  have kb10 : Blk (w9.alloc (.cells #[.int .i64 a, .int .i64 b, .int .i64 c] 3)) w9.heap.size 3 #[.int .i64 a, .int .i64 b, .int .i64 c] := Blk.new w9 _ _
  have hb10 : Below w9.heap.size w9 (w9.alloc (.cells #[.int .i64 a, .int .i64 b, .int .i64 c] 3)) := (Below.refl _ w9).alloc (Nat.le_refl _) _
  have f10_0 : In w.heap.size w (w9.alloc (.cells #[.int .i64 a, .int .i64 b, .int .i64 c] 3)) := f9_0.step hb10
  have f10_1 : (w9.alloc (.cells #[.int .i64 a, .int .i64 b, .int .i64 c] 3)).cell? ⟨w1.heap.size, 0, none⟩ = some (.int .i64 a) := cell_in f9_1 ⟨hb10, hb10.size⟩
  have f10_2 : (w9.alloc (.cells #[.int .i64 a, .int .i64 b, .int .i64 c] 3)).cell? ⟨w1.heap.size, 1, none⟩ = some (.int .i64 b) := cell_in f9_2 ⟨hb10, hb10.size⟩
  have f10_3 : (w9.alloc (.cells #[.int .i64 a, .int .i64 b, .int .i64 c] 3)).cell? ⟨w1.heap.size, 2, none⟩ = some (.int .i64 c) := cell_in f9_3 ⟨hb10, hb10.size⟩
  have f10_4 : (w9.alloc (.cells #[.int .i64 a, .int .i64 b, .int .i64 c] 3)).cell? ⟨w5.heap.size, 0, none⟩ = some (.int .i64 q1) := cell_in f9_4 ⟨hb10, hb10.size⟩
  have f10_5 : (w9.alloc (.cells #[.int .i64 a, .int .i64 b, .int .i64 c] 3)).cell? ⟨w5.heap.size, 1, none⟩ = some (.int .i64 q2) := cell_in f9_5 ⟨hb10, hb10.size⟩
  have f10_6 : (w9.alloc (.cells #[.int .i64 a, .int .i64 b, .int .i64 c] 3)).cell? ⟨w5.heap.size, 2, none⟩ = some (.int .i64 q3) := cell_in f9_6 ⟨hb10, hb10.size⟩
  have f10_7 : (w9.alloc (.cells #[.int .i64 a, .int .i64 b, .int .i64 c] 3)).cell? ⟨w7.heap.size, 0, none⟩ = some (.int .i64 (a + a)) := cell_in f9_7 ⟨hb10, hb10.size⟩
  have f10_8 : (w9.alloc (.cells #[.int .i64 a, .int .i64 b, .int .i64 c] 3)).cell? ⟨w7.heap.size, 1, none⟩ = some (.int .i64 (b + b)) := cell_in f9_8 ⟨hb10, hb10.size⟩
  have f10_9 : (w9.alloc (.cells #[.int .i64 a, .int .i64 b, .int .i64 c] 3)).cell? ⟨w7.heap.size, 2, none⟩ = some (.int .i64 (c + c)) := cell_in f9_9 ⟨hb10, hb10.size⟩
  have f10_10 : (w9.alloc (.cells #[.int .i64 a, .int .i64 b, .int .i64 c] 3)).cell? ⟨w9.heap.size, 0, none⟩ = some (.int .i64 a) := kb10.cell 0
  have f10_11 : (w9.alloc (.cells #[.int .i64 a, .int .i64 b, .int .i64 c] 3)).cell? ⟨w9.heap.size, 1, none⟩ = some (.int .i64 b) := kb10.cell 1
  have f10_12 : (w9.alloc (.cells #[.int .i64 a, .int .i64 b, .int .i64 c] 3)).cell? ⟨w9.heap.size, 2, none⟩ = some (.int .i64 c) := kb10.cell 2
  clear kb10 hb10
  have HCK := Lib.hid (show ∀ W : World, W.cell? ⟨w9.heap.size, 0, none⟩ = some (.int .i64 a) → W.cell? ⟨w9.heap.size, 1, none⟩ = some (.int .i64 b) → W.cell? ⟨w9.heap.size, 2, none⟩ = some (.int .i64 c) → ∀ j, j < 3 → W.cell? ⟨w9.heap.size, j, none⟩ = some (.int .i64 ([a, b, c].getD j 0)) from fun W h0 h1 h2 j hj => by
    have : j = 0 ∨ j = 1 ∨ j = 2 := by omega
    rcases this with rfl | rfl | rfl
    · exact h0
    · exact h1
    · exact h2)
  have V1 : IntKind.i64.wrap (100 * X) = 100 * X := by rw [IntWalk.i64_in _ (by omega)]
  have V2 : IntKind.i64.wrap (100 + p) = 100 + p := by rw [IntWalk.i64_in _ (by omega)]
  have V3 : IntKind.i64.wrap ((a + b + c) * (100 + p)) = T := by rw [eT]; exact IntWalk.i64_in _ (by omega)
  have V4 : IntKind.i64.wrap (X - 5) = X - 5 := by rw [IntWalk.i64_in _ (by omega)]
  have V5 : IntKind.i64.wrap (100 * (X - 5)) = 100 * (X - 5) := by rw [IntWalk.i64_in _ (by omega)]
  have V6 : IntKind.i64.wrap (M + 1) = M + 1 := by rw [IntWalk.i64_in _ (by omega)]
  have V7 : X.tmod 5 = 0 := by rw [Int.tmod_eq_emod_of_nonneg hX.1]; exact x1_
  have D1 : decide (X < 0) = false := decide_eq_false (by omega)
  have D2 : decide (100 * X < T) = false := decide_eq_false (by omega)
  have D4 : decide (M < p) = false := decide_eq_false (by omega)
  have D5 : decide (X < Y) = false := decide_eq_false (by omega)
  have D6 : decide ((k : Int) < 0) = false := decide_eq_false (by omega)
  have D7 : decide ((2 : Int) < (k : Int)) = false := decide_eq_false (by omega)
  have HCL := Lib.hid (show ∀ W', In w.heap.size w W' ∧ W'.cell? ⟨w1.heap.size, 0, none⟩ = some (.int .i64 a) ∧ W'.cell? ⟨w1.heap.size, 1, none⟩ = some (.int .i64 b) ∧ W'.cell? ⟨w1.heap.size, 2, none⟩ = some (.int .i64 c) ∧ W'.cell? ⟨w5.heap.size, 0, none⟩ = some (.int .i64 q1) ∧ W'.cell? ⟨w5.heap.size, 1, none⟩ = some (.int .i64 q2) ∧ W'.cell? ⟨w5.heap.size, 2, none⟩ = some (.int .i64 q3) ∧ W'.cell? ⟨w7.heap.size, 0, none⟩ = some (.int .i64 (a + a)) ∧ W'.cell? ⟨w7.heap.size, 1, none⟩ = some (.int .i64 (b + b)) ∧ W'.cell? ⟨w7.heap.size, 2, none⟩ = some (.int .i64 (c + c)) ∧ W'.cell? ⟨w9.heap.size, 0, none⟩ = some (.int .i64 a) ∧ W'.cell? ⟨w9.heap.size, 1, none⟩ = some (.int .i64 b) ∧ W'.cell? ⟨w9.heap.size, 2, none⟩ = some (.int .i64 c) → ∀ W2, Below W'.heap.size W' W2 → In w.heap.size w W2 ∧ W2.cell? ⟨w1.heap.size, 0, none⟩ = some (.int .i64 a) ∧ W2.cell? ⟨w1.heap.size, 1, none⟩ = some (.int .i64 b) ∧ W2.cell? ⟨w1.heap.size, 2, none⟩ = some (.int .i64 c) ∧ W2.cell? ⟨w5.heap.size, 0, none⟩ = some (.int .i64 q1) ∧ W2.cell? ⟨w5.heap.size, 1, none⟩ = some (.int .i64 q2) ∧ W2.cell? ⟨w5.heap.size, 2, none⟩ = some (.int .i64 q3) ∧ W2.cell? ⟨w7.heap.size, 0, none⟩ = some (.int .i64 (a + a)) ∧ W2.cell? ⟨w7.heap.size, 1, none⟩ = some (.int .i64 (b + b)) ∧ W2.cell? ⟨w7.heap.size, 2, none⟩ = some (.int .i64 (c + c)) ∧ W2.cell? ⟨w9.heap.size, 0, none⟩ = some (.int .i64 a) ∧ W2.cell? ⟨w9.heap.size, 1, none⟩ = some (.int .i64 b) ∧ W2.cell? ⟨w9.heap.size, 2, none⟩ = some (.int .i64 c) from fun W' h W2 hb => by
    obtain ⟨g0, g1, g2, g3, g4, g5, g6, g7, g8, g9, g10, g11, g12⟩ := h
    exact ⟨g0.step hb, cell_in g1 ⟨hb, hb.size⟩, cell_in g2 ⟨hb, hb.size⟩, cell_in g3 ⟨hb, hb.size⟩, cell_in g4 ⟨hb, hb.size⟩, cell_in g5 ⟨hb, hb.size⟩, cell_in g6 ⟨hb, hb.size⟩, cell_in g7 ⟨hb, hb.size⟩, cell_in g8 ⟨hb, hb.size⟩, cell_in g9 ⟨hb, hb.size⟩, cell_in g10 ⟨hb, hb.size⟩, cell_in g11 ⟨hb, hb.size⟩, cell_in g12 ⟨hb, hb.size⟩⟩)
  by_cases hx0 : 0 < X
  · by_cases hm5 : M < 500
    · skip
      have D3 : decide (0 < X) = true := decide_eq_true (by omega)
      have D9 : decide (T ≤ 100 * (X - 5)) = false := by have := x3_ (by omega); exact decide_eq_false (by omega)
      have D8 : decide (M < 500) = true := decide_eq_true (by omega)
      have D10 : decide (Z ≤ X) = false := by have := zx hm5; exact decide_eq_false (by omega)
      have HPZ := Lib.hid (HPN.out hm5)
      clear eT
      simp only []
      iterate 38 go_step
      (try rw [List.append_eq])
      (try rw [List.append_eq])
      (repeat rw [List.cons_append])
      (repeat rw [List.nil_append])
      clear f9_0 f9_1 f9_2 f9_3 f9_4 f9_5 f9_6 f9_7 f9_8 f9_9
      refine wp_region_L (C := (fun w' => In w.heap.size w w' ∧ w'.cell? ⟨w1.heap.size, 0, none⟩ = some (.int .i64 a) ∧ w'.cell? ⟨w1.heap.size, 1, none⟩ = some (.int .i64 b) ∧ w'.cell? ⟨w1.heap.size, 2, none⟩ = some (.int .i64 c) ∧ w'.cell? ⟨w5.heap.size, 0, none⟩ = some (.int .i64 q1) ∧ w'.cell? ⟨w5.heap.size, 1, none⟩ = some (.int .i64 q2) ∧ w'.cell? ⟨w5.heap.size, 2, none⟩ = some (.int .i64 q3) ∧ w'.cell? ⟨w7.heap.size, 0, none⟩ = some (.int .i64 (a + a)) ∧ w'.cell? ⟨w7.heap.size, 1, none⟩ = some (.int .i64 (b + b)) ∧ w'.cell? ⟨w7.heap.size, 2, none⟩ = some (.int .i64 (c + c)) ∧ w'.cell? ⟨w9.heap.size, 0, none⟩ = some (.int .i64 a) ∧ w'.cell? ⟨w9.heap.size, 1, none⟩ = some (.int .i64 b) ∧ w'.cell? ⟨w9.heap.size, 2, none⟩ = some (.int .i64 c))) ?_ ?_
      · exact ⟨f10_0, f10_1, f10_2, f10_3, f10_4, f10_5, f10_6, f10_7, f10_8, f10_9, f10_10, f10_11, f10_12⟩
      repeat (first | go_big_quiet_skip | (go_big_quiet_want; first | (refine quiet_ex ?_; apply Exists.intro; refine ⟨fun W hW => ?_, ?_⟩; (· (obtain ⟨f11_0, f11_1, f11_2, f11_3, f11_4, f11_5, f11_6, f11_7, f11_8, f11_9, f11_10, f11_11, f11_12⟩ := hW; go_simp; (first | done | with_reducible rfl | rfl))); simp only [Act.put, List.setIfInBounds_toArray, List.set_cons_zero, List.set_cons_succ]; go_big_quiet_on) | (refine quiet_ex ?_; apply Exists.intro; refine ⟨fun W hW => ?_, ?_⟩; (· (go_simp; first | (go_at_call 8; (with_reducible refine (HPM.out _ (HT.out.in_ hW.1)).mono ?_); rintro e w2 ⟨rfl, hb2⟩; exact ⟨rfl, HCL.out _ hW _ hb2⟩) | (go_at_call 8; (with_reducible refine (HPZ.out _ (HT.out.in_ hW.1)).mono ?_); rintro e w2 ⟨rfl, hb2⟩; exact ⟨rfl, HCL.out _ hW _ hb2⟩))); simp only [Act.put, List.setIfInBounds_toArray, List.set_cons_zero, List.set_cons_succ]; go_big_quiet_on)))
      refine wpQuiet_nil ?_
      rintro w' ⟨f11_0, f11_1, f11_2, f11_3, f11_4, f11_5, f11_6, f11_7, f11_8, f11_9, f11_10, f11_11, f11_12⟩
      clear f10_0 f10_1 f10_2 f10_3 f10_4 f10_5 f10_6 f10_7 f10_8 f10_9 f10_10 f10_11 f10_12
      obtain ⟨u0, hx9⟩ : ∃ x, x = w' := ⟨_, rfl⟩
      subst hx9
      clear V1 V2 V3 V4 V5 V6 V7 D1 D2 D4 D5 D6 D7 HCL HPM
      as_aux_lemma =>
       go_wp2
       go_loopw [14] (fun i wr => ∃ j : Nat, j ≤ 3 ∧ i = .int .i64 j ∧ (In w.heap.size w wr ∧ wr.cell? ⟨w1.heap.size, 0, none⟩ = some (.int .i64 a) ∧ wr.cell? ⟨w1.heap.size, 1, none⟩ = some (.int .i64 b) ∧ wr.cell? ⟨w1.heap.size, 2, none⟩ = some (.int .i64 c) ∧ wr.cell? ⟨w5.heap.size, 0, none⟩ = some (.int .i64 q1) ∧ wr.cell? ⟨w5.heap.size, 1, none⟩ = some (.int .i64 q2) ∧ wr.cell? ⟨w5.heap.size, 2, none⟩ = some (.int .i64 q3) ∧ wr.cell? ⟨w7.heap.size, 0, none⟩ = some (.int .i64 (a + a)) ∧ wr.cell? ⟨w7.heap.size, 1, none⟩ = some (.int .i64 (b + b)) ∧ wr.cell? ⟨w7.heap.size, 2, none⟩ = some (.int .i64 (c + c)) ∧ wr.cell? ⟨w9.heap.size, 0, none⟩ = some (.int .i64 a) ∧ wr.cell? ⟨w9.heap.size, 1, none⟩ = some (.int .i64 b) ∧ wr.cell? ⟨w9.heap.size, 2, none⟩ = some (.int .i64 c))) (fun i _ => 3 - (intOf i).toNat)
       case atStart => exact ⟨0, by omega, rfl, f11_0, f11_1, f11_2, f11_3, f11_4, f11_5, f11_6, f11_7, f11_8, f11_9, f11_10, f11_11, f11_12⟩
       case round =>
         obtain ⟨j, hj3, rfl, f12_0, f12_1, f12_2, f12_3, f12_4, f12_5, f12_6, f12_7, f12_8, f12_9, f12_10, f12_11, f12_12⟩ := hrel
         clear f11_0 f11_1 f11_2 f11_3 f11_4 f11_5 f11_6 f11_7 f11_8 f11_9 f11_10 f11_11 f11_12
         by_cases hlt : j < 3
         · skip
           have hcj := HCK.out _ f12_10 f12_11 f12_12 j hlt
           have hck := HCK.out _ f12_10 f12_11 f12_12 k hk3
           rw [HKM.out] at hck
           have hle : [a, b, c].getD j 0 ≤ m := by
             have : j = 0 ∨ j = 1 ∨ j = 2 := by omega
             rcases this with rfl | rfl | rfl
             · exact ham
             · exact hbm
             · exact hcm
           have hnl := HLT.out j
           generalize [a, b, c].getD j 0 = v at hcj hle hnl
           have g1 : decide (m < v) = false := decide_eq_false (by omega)
           have g3 : (j : Int) < 3 := by omega
           have g4 : (0 : Int) ≤ (j : Int) := by omega
           have g5 : (k : Int) < 3 := by omega
           have g6 : (0 : Int) ≤ (k : Int) := by omega
           by_cases hjk : j < k
           · skip
             have g2 : decide ((j : Int) < (k : Int)) = true := decide_eq_true (by omega)
             have g2n : decide (j < k) = true := decide_eq_true hjk
             have g7 : (v == m) = false := by simpa using hnl hjk
             clear hnl hle hlt hjk
             go_wp2
             refine wp_region_S (C := (fun w' => In w.heap.size w w' ∧ w'.cell? ⟨w1.heap.size, 0, none⟩ = some (.int .i64 a) ∧ w'.cell? ⟨w1.heap.size, 1, none⟩ = some (.int .i64 b) ∧ w'.cell? ⟨w1.heap.size, 2, none⟩ = some (.int .i64 c) ∧ w'.cell? ⟨w5.heap.size, 0, none⟩ = some (.int .i64 q1) ∧ w'.cell? ⟨w5.heap.size, 1, none⟩ = some (.int .i64 q2) ∧ w'.cell? ⟨w5.heap.size, 2, none⟩ = some (.int .i64 q3) ∧ w'.cell? ⟨w7.heap.size, 0, none⟩ = some (.int .i64 (a + a)) ∧ w'.cell? ⟨w7.heap.size, 1, none⟩ = some (.int .i64 (b + b)) ∧ w'.cell? ⟨w7.heap.size, 2, none⟩ = some (.int .i64 (c + c)) ∧ w'.cell? ⟨w9.heap.size, 0, none⟩ = some (.int .i64 a) ∧ w'.cell? ⟨w9.heap.size, 1, none⟩ = some (.int .i64 b) ∧ w'.cell? ⟨w9.heap.size, 2, none⟩ = some (.int .i64 c) ∧ w'.cell? ⟨w9.heap.size, j, none⟩ = some (.int .i64 v) ∧ w'.cell? ⟨w9.heap.size, k, none⟩ = some (.int .i64 m))) (by kernel_rfl) (by kernel_rfl) ?_ ?_
             · exact ⟨f12_0.drew, f12_1, f12_2, f12_3, f12_4, f12_5, f12_6, f12_7, f12_8, f12_9, f12_10, f12_11, f12_12, hcj, hck⟩
             repeat (first | go_big_quiet_skip | (go_big_quiet_want; first | (refine quiet_ex ?_; apply Exists.intro; refine ⟨fun W hW => ?_, ?_⟩; (· (obtain ⟨f13_0, f13_1, f13_2, f13_3, f13_4, f13_5, f13_6, f13_7, f13_8, f13_9, f13_10, f13_11, f13_12, f13_13, f13_14⟩ := hW; go_simp; (first | done | with_reducible rfl | rfl))); simp only [Act.put, List.setIfInBounds_toArray, List.set_cons_zero, List.set_cons_succ]; go_big_quiet_on) | (refine quiet_ex ?_; apply Exists.intro; refine ⟨fun W hW => ?_, ?_⟩; (· (go_simp; first | (fail))); simp only [Act.put, List.setIfInBounds_toArray, List.set_cons_zero, List.set_cons_succ]; go_big_quiet_on)))
             refine wpQuiet_nil ?_
             rintro w' ⟨f13_0, f13_1, f13_2, f13_3, f13_4, f13_5, f13_6, f13_7, f13_8, f13_9, f13_10, f13_11, f13_12, f13_13, f13_14⟩
             clear f12_0 f12_1 f12_2 f12_3 f12_4 f12_5 f12_6 f12_7 f12_8 f12_9 f12_10 f12_11 f12_12 hcj hck
             obtain ⟨u1, hx9⟩ : ∃ x, x = w' := ⟨_, rfl⟩
             subst hx9
             go_wp2
             go_roundw
             case rel => exact ⟨j + 1, by omega, by go_num, f13_0, f13_1, f13_2, f13_3, f13_4, f13_5, f13_6, f13_7, f13_8, f13_9, f13_10, f13_11, f13_12⟩
             case measure => simp [intOf]; omega
           · skip
             have g2 : decide ((j : Int) < (k : Int)) = false := decide_eq_false (by omega)
             have g2n : decide (j < k) = false := decide_eq_false hjk
             clear hnl hle hlt hjk
             go_wp2
             refine wp_region_S (C := (fun w' => In w.heap.size w w' ∧ w'.cell? ⟨w1.heap.size, 0, none⟩ = some (.int .i64 a) ∧ w'.cell? ⟨w1.heap.size, 1, none⟩ = some (.int .i64 b) ∧ w'.cell? ⟨w1.heap.size, 2, none⟩ = some (.int .i64 c) ∧ w'.cell? ⟨w5.heap.size, 0, none⟩ = some (.int .i64 q1) ∧ w'.cell? ⟨w5.heap.size, 1, none⟩ = some (.int .i64 q2) ∧ w'.cell? ⟨w5.heap.size, 2, none⟩ = some (.int .i64 q3) ∧ w'.cell? ⟨w7.heap.size, 0, none⟩ = some (.int .i64 (a + a)) ∧ w'.cell? ⟨w7.heap.size, 1, none⟩ = some (.int .i64 (b + b)) ∧ w'.cell? ⟨w7.heap.size, 2, none⟩ = some (.int .i64 (c + c)) ∧ w'.cell? ⟨w9.heap.size, 0, none⟩ = some (.int .i64 a) ∧ w'.cell? ⟨w9.heap.size, 1, none⟩ = some (.int .i64 b) ∧ w'.cell? ⟨w9.heap.size, 2, none⟩ = some (.int .i64 c) ∧ w'.cell? ⟨w9.heap.size, j, none⟩ = some (.int .i64 v) ∧ w'.cell? ⟨w9.heap.size, k, none⟩ = some (.int .i64 m))) (by kernel_rfl) (by kernel_rfl) ?_ ?_
             · exact ⟨f12_0.drew, f12_1, f12_2, f12_3, f12_4, f12_5, f12_6, f12_7, f12_8, f12_9, f12_10, f12_11, f12_12, hcj, hck⟩
             repeat (first | go_big_quiet_skip | (go_big_quiet_want; first | (refine quiet_ex ?_; apply Exists.intro; refine ⟨fun W hW => ?_, ?_⟩; (· (obtain ⟨f13_0, f13_1, f13_2, f13_3, f13_4, f13_5, f13_6, f13_7, f13_8, f13_9, f13_10, f13_11, f13_12, f13_13, f13_14⟩ := hW; go_simp; (first | done | with_reducible rfl | rfl))); simp only [Act.put, List.setIfInBounds_toArray, List.set_cons_zero, List.set_cons_succ]; go_big_quiet_on) | (refine quiet_ex ?_; apply Exists.intro; refine ⟨fun W hW => ?_, ?_⟩; (· (go_simp; first | (fail))); simp only [Act.put, List.setIfInBounds_toArray, List.set_cons_zero, List.set_cons_succ]; go_big_quiet_on)))
             refine wpQuiet_nil ?_
             rintro w' ⟨f13_0, f13_1, f13_2, f13_3, f13_4, f13_5, f13_6, f13_7, f13_8, f13_9, f13_10, f13_11, f13_12, f13_13, f13_14⟩
             clear f12_0 f12_1 f12_2 f12_3 f12_4 f12_5 f12_6 f12_7 f12_8 f12_9 f12_10 f12_11 f12_12 hcj hck
             obtain ⟨u1, hx9⟩ : ∃ x, x = w' := ⟨_, rfl⟩
             subst hx9
             go_wp2
             go_roundw
             case rel => exact ⟨j + 1, by omega, by go_num, f13_0, f13_1, f13_2, f13_3, f13_4, f13_5, f13_6, f13_7, f13_8, f13_9, f13_10, f13_11, f13_12⟩
             case measure => simp [intOf]; omega
         · skip
           obtain rfl : j = 3 := by omega
           clear hlt hj3 HCK HLT HKM
           have U1 : IntKind.i64.wrap (2 * a) = a + a := by rw [IntWalk.i64_in _ (by omega)]; omega
           have A1_ : IntKind.i64.wrap (q1 * n) = A1 := by rw [eA1]; exact IntWalk.i64_in _ (by omega)
           have G1 : decide (a ≤ A1) = true := decide_eq_true (by omega)
           have B1_ : IntKind.i64.wrap ((q1 - 1) * n) = B1 := by rw [eB1]; exact IntWalk.i64_in _ (by omega)
           have C1_ : IntKind.i64.wrap (q1 - 1) = q1 - 1 := IntWalk.i64_in _ (by omega)
           have L1 : decide (B1 < a) = true := decide_eq_true (by omega)
           have U2 : IntKind.i64.wrap (2 * b) = b + b := by rw [IntWalk.i64_in _ (by omega)]; omega
           have A2_ : IntKind.i64.wrap (q2 * n) = A2 := by rw [eA2]; exact IntWalk.i64_in _ (by omega)
           have G2 : decide (b ≤ A2) = true := decide_eq_true (by omega)
           have U3 : IntKind.i64.wrap (2 * c) = c + c := by rw [IntWalk.i64_in _ (by omega)]; omega
           have A3_ : IntKind.i64.wrap (q3 * n) = A3 := by rw [eA3]; exact IntWalk.i64_in _ (by omega)
           have G3 : decide (c ≤ A3) = true := decide_eq_true (by omega)
           have B3_ : IntKind.i64.wrap ((q3 - 1) * n) = B3 := by rw [eB3]; exact IntWalk.i64_in _ (by omega)
           have C3_ : IntKind.i64.wrap (q3 - 1) = q3 - 1 := IntWalk.i64_in _ (by omega)
           have L3 : decide (B3 < c) = true := decide_eq_true (by omega)
           have HCL := Lib.hid (show ∀ W', In w.heap.size w W' ∧ W'.cell? ⟨w1.heap.size, 0, none⟩ = some (.int .i64 a) ∧ W'.cell? ⟨w1.heap.size, 1, none⟩ = some (.int .i64 b) ∧ W'.cell? ⟨w1.heap.size, 2, none⟩ = some (.int .i64 c) ∧ W'.cell? ⟨w5.heap.size, 0, none⟩ = some (.int .i64 q1) ∧ W'.cell? ⟨w5.heap.size, 1, none⟩ = some (.int .i64 q2) ∧ W'.cell? ⟨w5.heap.size, 2, none⟩ = some (.int .i64 q3) ∧ W'.cell? ⟨w7.heap.size, 0, none⟩ = some (.int .i64 (a + a)) ∧ W'.cell? ⟨w7.heap.size, 1, none⟩ = some (.int .i64 (b + b)) ∧ W'.cell? ⟨w7.heap.size, 2, none⟩ = some (.int .i64 (c + c)) ∧ W'.cell? ⟨w9.heap.size, 0, none⟩ = some (.int .i64 a) ∧ W'.cell? ⟨w9.heap.size, 1, none⟩ = some (.int .i64 b) ∧ W'.cell? ⟨w9.heap.size, 2, none⟩ = some (.int .i64 c) → ∀ W2, Below W'.heap.size W' W2 → In w.heap.size w W2 ∧ W2.cell? ⟨w1.heap.size, 0, none⟩ = some (.int .i64 a) ∧ W2.cell? ⟨w1.heap.size, 1, none⟩ = some (.int .i64 b) ∧ W2.cell? ⟨w1.heap.size, 2, none⟩ = some (.int .i64 c) ∧ W2.cell? ⟨w5.heap.size, 0, none⟩ = some (.int .i64 q1) ∧ W2.cell? ⟨w5.heap.size, 1, none⟩ = some (.int .i64 q2) ∧ W2.cell? ⟨w5.heap.size, 2, none⟩ = some (.int .i64 q3) ∧ W2.cell? ⟨w7.heap.size, 0, none⟩ = some (.int .i64 (a + a)) ∧ W2.cell? ⟨w7.heap.size, 1, none⟩ = some (.int .i64 (b + b)) ∧ W2.cell? ⟨w7.heap.size, 2, none⟩ = some (.int .i64 (c + c)) ∧ W2.cell? ⟨w9.heap.size, 0, none⟩ = some (.int .i64 a) ∧ W2.cell? ⟨w9.heap.size, 1, none⟩ = some (.int .i64 b) ∧ W2.cell? ⟨w9.heap.size, 2, none⟩ = some (.int .i64 c) from fun W' h W2 hb => by
             obtain ⟨g0, g1, g2, g3, g4, g5, g6, g7, g8, g9, g10, g11, g12⟩ := h
             exact ⟨g0.step hb, cell_in g1 ⟨hb, hb.size⟩, cell_in g2 ⟨hb, hb.size⟩, cell_in g3 ⟨hb, hb.size⟩, cell_in g4 ⟨hb, hb.size⟩, cell_in g5 ⟨hb, hb.size⟩, cell_in g6 ⟨hb, hb.size⟩, cell_in g7 ⟨hb, hb.size⟩, cell_in g8 ⟨hb, hb.size⟩, cell_in g9 ⟨hb, hb.size⟩, cell_in g10 ⟨hb, hb.size⟩, cell_in g11 ⟨hb, hb.size⟩, cell_in g12 ⟨hb, hb.size⟩⟩)
           clear ha hb hc hp hn hT hX x1_ x2_ x3_ m1 m2 yx mx eA1 eB1 hq1 k1 k2 k3 k4 eA2 eB2 hq2 l1 l2 l3 l4 eA3 eB3 hq3 r1 r2 r3 r4 ham hbm hcm hk3
           iterate 20 go_step
           (try rw [List.append_eq])
           (try rw [List.append_eq])
           (repeat rw [List.cons_append])
           (repeat rw [List.nil_append])
           refine wp_region_L (C := (fun w' => In w.heap.size w w' ∧ w'.cell? ⟨w1.heap.size, 0, none⟩ = some (.int .i64 a) ∧ w'.cell? ⟨w1.heap.size, 1, none⟩ = some (.int .i64 b) ∧ w'.cell? ⟨w1.heap.size, 2, none⟩ = some (.int .i64 c) ∧ w'.cell? ⟨w5.heap.size, 0, none⟩ = some (.int .i64 q1) ∧ w'.cell? ⟨w5.heap.size, 1, none⟩ = some (.int .i64 q2) ∧ w'.cell? ⟨w5.heap.size, 2, none⟩ = some (.int .i64 q3) ∧ w'.cell? ⟨w7.heap.size, 0, none⟩ = some (.int .i64 (a + a)) ∧ w'.cell? ⟨w7.heap.size, 1, none⟩ = some (.int .i64 (b + b)) ∧ w'.cell? ⟨w7.heap.size, 2, none⟩ = some (.int .i64 (c + c)) ∧ w'.cell? ⟨w9.heap.size, 0, none⟩ = some (.int .i64 a) ∧ w'.cell? ⟨w9.heap.size, 1, none⟩ = some (.int .i64 b) ∧ w'.cell? ⟨w9.heap.size, 2, none⟩ = some (.int .i64 c))) ?_ ?_
           · exact ⟨f12_0, f12_1, f12_2, f12_3, f12_4, f12_5, f12_6, f12_7, f12_8, f12_9, f12_10, f12_11, f12_12⟩
           repeat (first | go_big_quiet_skip | (go_big_quiet_want; first | (refine quiet_ex ?_; apply Exists.intro; refine ⟨fun W hW => ?_, ?_⟩; (· (obtain ⟨f13_0, f13_1, f13_2, f13_3, f13_4, f13_5, f13_6, f13_7, f13_8, f13_9, f13_10, f13_11, f13_12⟩ := hW; go_simp; (first | done | with_reducible rfl | rfl))); simp only [Act.put, List.setIfInBounds_toArray, List.set_cons_zero, List.set_cons_succ]; go_big_quiet_on) | (refine quiet_ex ?_; apply Exists.intro; refine ⟨fun W hW => ?_, ?_⟩; (· (go_simp; first | (go_at_call 13; (with_reducible refine (HOK.out _).mono ?_); rintro e w2 ⟨rfl, hb2⟩; exact ⟨rfl, HCL.out _ hW _ hb2⟩) | (go_at_call 8; (with_reducible refine (HP5.out _ (HT.out.in_ hW.1)).mono ?_); rintro e w2 ⟨rfl, hb2⟩; exact ⟨rfl, HCL.out _ hW _ hb2⟩))); simp only [Act.put, List.setIfInBounds_toArray, List.set_cons_zero, List.set_cons_succ]; go_big_quiet_on)))
           refine wpQuiet_nil ?_
           rintro w' ⟨f13_0, f13_1, f13_2, f13_3, f13_4, f13_5, f13_6, f13_7, f13_8, f13_9, f13_10, f13_11, f13_12⟩
           clear f12_0 f12_1 f12_2 f12_3 f12_4 f12_5 f12_6 f12_7 f12_8 f12_9 f12_10 f12_11 f12_12
           go_wp2
           go_ret
           exact ⟨ret_bool rfl, f13_0.below⟩
    · skip
      have D3 : decide (0 < X) = true := decide_eq_true (by omega)
      have D9 : decide (T ≤ 100 * (X - 5)) = false := by have := x3_ (by omega); exact decide_eq_false (by omega)
      have D8 : decide (M < 500) = false := decide_eq_false (by omega)
      clear eT
      simp only []
      iterate 38 go_step
      (try rw [List.append_eq])
      (try rw [List.append_eq])
      (repeat rw [List.cons_append])
      (repeat rw [List.nil_append])
      clear f9_0 f9_1 f9_2 f9_3 f9_4 f9_5 f9_6 f9_7 f9_8 f9_9
      refine wp_region_L (C := (fun w' => In w.heap.size w w' ∧ w'.cell? ⟨w1.heap.size, 0, none⟩ = some (.int .i64 a) ∧ w'.cell? ⟨w1.heap.size, 1, none⟩ = some (.int .i64 b) ∧ w'.cell? ⟨w1.heap.size, 2, none⟩ = some (.int .i64 c) ∧ w'.cell? ⟨w5.heap.size, 0, none⟩ = some (.int .i64 q1) ∧ w'.cell? ⟨w5.heap.size, 1, none⟩ = some (.int .i64 q2) ∧ w'.cell? ⟨w5.heap.size, 2, none⟩ = some (.int .i64 q3) ∧ w'.cell? ⟨w7.heap.size, 0, none⟩ = some (.int .i64 (a + a)) ∧ w'.cell? ⟨w7.heap.size, 1, none⟩ = some (.int .i64 (b + b)) ∧ w'.cell? ⟨w7.heap.size, 2, none⟩ = some (.int .i64 (c + c)) ∧ w'.cell? ⟨w9.heap.size, 0, none⟩ = some (.int .i64 a) ∧ w'.cell? ⟨w9.heap.size, 1, none⟩ = some (.int .i64 b) ∧ w'.cell? ⟨w9.heap.size, 2, none⟩ = some (.int .i64 c))) ?_ ?_
      · exact ⟨f10_0, f10_1, f10_2, f10_3, f10_4, f10_5, f10_6, f10_7, f10_8, f10_9, f10_10, f10_11, f10_12⟩
      repeat (first | go_big_quiet_skip | (go_big_quiet_want; first | (refine quiet_ex ?_; apply Exists.intro; refine ⟨fun W hW => ?_, ?_⟩; (· (obtain ⟨f11_0, f11_1, f11_2, f11_3, f11_4, f11_5, f11_6, f11_7, f11_8, f11_9, f11_10, f11_11, f11_12⟩ := hW; go_simp; (first | done | with_reducible rfl | rfl))); simp only [Act.put, List.setIfInBounds_toArray, List.set_cons_zero, List.set_cons_succ]; go_big_quiet_on) | (refine quiet_ex ?_; apply Exists.intro; refine ⟨fun W hW => ?_, ?_⟩; (· (go_simp; first | (go_at_call 8; (with_reducible refine (HPM.out _ (HT.out.in_ hW.1)).mono ?_); rintro e w2 ⟨rfl, hb2⟩; exact ⟨rfl, HCL.out _ hW _ hb2⟩))); simp only [Act.put, List.setIfInBounds_toArray, List.set_cons_zero, List.set_cons_succ]; go_big_quiet_on)))
      refine wpQuiet_nil ?_
      rintro w' ⟨f11_0, f11_1, f11_2, f11_3, f11_4, f11_5, f11_6, f11_7, f11_8, f11_9, f11_10, f11_11, f11_12⟩
      clear f10_0 f10_1 f10_2 f10_3 f10_4 f10_5 f10_6 f10_7 f10_8 f10_9 f10_10 f10_11 f10_12
      obtain ⟨u0, hx9⟩ : ∃ x, x = w' := ⟨_, rfl⟩
      subst hx9
      clear V1 V2 V3 V4 V5 V6 V7 D1 D2 D4 D5 D6 D7 HCL HPM
      as_aux_lemma =>
       go_wp2
       go_loopw [14] (fun i wr => ∃ j : Nat, j ≤ 3 ∧ i = .int .i64 j ∧ (In w.heap.size w wr ∧ wr.cell? ⟨w1.heap.size, 0, none⟩ = some (.int .i64 a) ∧ wr.cell? ⟨w1.heap.size, 1, none⟩ = some (.int .i64 b) ∧ wr.cell? ⟨w1.heap.size, 2, none⟩ = some (.int .i64 c) ∧ wr.cell? ⟨w5.heap.size, 0, none⟩ = some (.int .i64 q1) ∧ wr.cell? ⟨w5.heap.size, 1, none⟩ = some (.int .i64 q2) ∧ wr.cell? ⟨w5.heap.size, 2, none⟩ = some (.int .i64 q3) ∧ wr.cell? ⟨w7.heap.size, 0, none⟩ = some (.int .i64 (a + a)) ∧ wr.cell? ⟨w7.heap.size, 1, none⟩ = some (.int .i64 (b + b)) ∧ wr.cell? ⟨w7.heap.size, 2, none⟩ = some (.int .i64 (c + c)) ∧ wr.cell? ⟨w9.heap.size, 0, none⟩ = some (.int .i64 a) ∧ wr.cell? ⟨w9.heap.size, 1, none⟩ = some (.int .i64 b) ∧ wr.cell? ⟨w9.heap.size, 2, none⟩ = some (.int .i64 c))) (fun i _ => 3 - (intOf i).toNat)
       case atStart => exact ⟨0, by omega, rfl, f11_0, f11_1, f11_2, f11_3, f11_4, f11_5, f11_6, f11_7, f11_8, f11_9, f11_10, f11_11, f11_12⟩
       case round =>
         obtain ⟨j, hj3, rfl, f12_0, f12_1, f12_2, f12_3, f12_4, f12_5, f12_6, f12_7, f12_8, f12_9, f12_10, f12_11, f12_12⟩ := hrel
         clear f11_0 f11_1 f11_2 f11_3 f11_4 f11_5 f11_6 f11_7 f11_8 f11_9 f11_10 f11_11 f11_12
         by_cases hlt : j < 3
         · skip
           have hcj := HCK.out _ f12_10 f12_11 f12_12 j hlt
           have hck := HCK.out _ f12_10 f12_11 f12_12 k hk3
           rw [HKM.out] at hck
           have hle : [a, b, c].getD j 0 ≤ m := by
             have : j = 0 ∨ j = 1 ∨ j = 2 := by omega
             rcases this with rfl | rfl | rfl
             · exact ham
             · exact hbm
             · exact hcm
           have hnl := HLT.out j
           generalize [a, b, c].getD j 0 = v at hcj hle hnl
           have g1 : decide (m < v) = false := decide_eq_false (by omega)
           have g3 : (j : Int) < 3 := by omega
           have g4 : (0 : Int) ≤ (j : Int) := by omega
           have g5 : (k : Int) < 3 := by omega
           have g6 : (0 : Int) ≤ (k : Int) := by omega
           by_cases hjk : j < k
           · skip
             have g2 : decide ((j : Int) < (k : Int)) = true := decide_eq_true (by omega)
             have g2n : decide (j < k) = true := decide_eq_true hjk
             have g7 : (v == m) = false := by simpa using hnl hjk
             clear hnl hle hlt hjk
             go_wp2
             refine wp_region_S (C := (fun w' => In w.heap.size w w' ∧ w'.cell? ⟨w1.heap.size, 0, none⟩ = some (.int .i64 a) ∧ w'.cell? ⟨w1.heap.size, 1, none⟩ = some (.int .i64 b) ∧ w'.cell? ⟨w1.heap.size, 2, none⟩ = some (.int .i64 c) ∧ w'.cell? ⟨w5.heap.size, 0, none⟩ = some (.int .i64 q1) ∧ w'.cell? ⟨w5.heap.size, 1, none⟩ = some (.int .i64 q2) ∧ w'.cell? ⟨w5.heap.size, 2, none⟩ = some (.int .i64 q3) ∧ w'.cell? ⟨w7.heap.size, 0, none⟩ = some (.int .i64 (a + a)) ∧ w'.cell? ⟨w7.heap.size, 1, none⟩ = some (.int .i64 (b + b)) ∧ w'.cell? ⟨w7.heap.size, 2, none⟩ = some (.int .i64 (c + c)) ∧ w'.cell? ⟨w9.heap.size, 0, none⟩ = some (.int .i64 a) ∧ w'.cell? ⟨w9.heap.size, 1, none⟩ = some (.int .i64 b) ∧ w'.cell? ⟨w9.heap.size, 2, none⟩ = some (.int .i64 c) ∧ w'.cell? ⟨w9.heap.size, j, none⟩ = some (.int .i64 v) ∧ w'.cell? ⟨w9.heap.size, k, none⟩ = some (.int .i64 m))) (by kernel_rfl) (by kernel_rfl) ?_ ?_
             · exact ⟨f12_0.drew, f12_1, f12_2, f12_3, f12_4, f12_5, f12_6, f12_7, f12_8, f12_9, f12_10, f12_11, f12_12, hcj, hck⟩
             repeat (first | go_big_quiet_skip | (go_big_quiet_want; first | (refine quiet_ex ?_; apply Exists.intro; refine ⟨fun W hW => ?_, ?_⟩; (· (obtain ⟨f13_0, f13_1, f13_2, f13_3, f13_4, f13_5, f13_6, f13_7, f13_8, f13_9, f13_10, f13_11, f13_12, f13_13, f13_14⟩ := hW; go_simp; (first | done | with_reducible rfl | rfl))); simp only [Act.put, List.setIfInBounds_toArray, List.set_cons_zero, List.set_cons_succ]; go_big_quiet_on) | (refine quiet_ex ?_; apply Exists.intro; refine ⟨fun W hW => ?_, ?_⟩; (· (go_simp; first | (fail))); simp only [Act.put, List.setIfInBounds_toArray, List.set_cons_zero, List.set_cons_succ]; go_big_quiet_on)))
             refine wpQuiet_nil ?_
             rintro w' ⟨f13_0, f13_1, f13_2, f13_3, f13_4, f13_5, f13_6, f13_7, f13_8, f13_9, f13_10, f13_11, f13_12, f13_13, f13_14⟩
             clear f12_0 f12_1 f12_2 f12_3 f12_4 f12_5 f12_6 f12_7 f12_8 f12_9 f12_10 f12_11 f12_12 hcj hck
             obtain ⟨u1, hx9⟩ : ∃ x, x = w' := ⟨_, rfl⟩
             subst hx9
             go_wp2
             go_roundw
             case rel => exact ⟨j + 1, by omega, by go_num, f13_0, f13_1, f13_2, f13_3, f13_4, f13_5, f13_6, f13_7, f13_8, f13_9, f13_10, f13_11, f13_12⟩
             case measure => simp [intOf]; omega
           · skip
             have g2 : decide ((j : Int) < (k : Int)) = false := decide_eq_false (by omega)
             have g2n : decide (j < k) = false := decide_eq_false hjk
             clear hnl hle hlt hjk
             go_wp2
             refine wp_region_S (C := (fun w' => In w.heap.size w w' ∧ w'.cell? ⟨w1.heap.size, 0, none⟩ = some (.int .i64 a) ∧ w'.cell? ⟨w1.heap.size, 1, none⟩ = some (.int .i64 b) ∧ w'.cell? ⟨w1.heap.size, 2, none⟩ = some (.int .i64 c) ∧ w'.cell? ⟨w5.heap.size, 0, none⟩ = some (.int .i64 q1) ∧ w'.cell? ⟨w5.heap.size, 1, none⟩ = some (.int .i64 q2) ∧ w'.cell? ⟨w5.heap.size, 2, none⟩ = some (.int .i64 q3) ∧ w'.cell? ⟨w7.heap.size, 0, none⟩ = some (.int .i64 (a + a)) ∧ w'.cell? ⟨w7.heap.size, 1, none⟩ = some (.int .i64 (b + b)) ∧ w'.cell? ⟨w7.heap.size, 2, none⟩ = some (.int .i64 (c + c)) ∧ w'.cell? ⟨w9.heap.size, 0, none⟩ = some (.int .i64 a) ∧ w'.cell? ⟨w9.heap.size, 1, none⟩ = some (.int .i64 b) ∧ w'.cell? ⟨w9.heap.size, 2, none⟩ = some (.int .i64 c) ∧ w'.cell? ⟨w9.heap.size, j, none⟩ = some (.int .i64 v) ∧ w'.cell? ⟨w9.heap.size, k, none⟩ = some (.int .i64 m))) (by kernel_rfl) (by kernel_rfl) ?_ ?_
             · exact ⟨f12_0.drew, f12_1, f12_2, f12_3, f12_4, f12_5, f12_6, f12_7, f12_8, f12_9, f12_10, f12_11, f12_12, hcj, hck⟩
             repeat (first | go_big_quiet_skip | (go_big_quiet_want; first | (refine quiet_ex ?_; apply Exists.intro; refine ⟨fun W hW => ?_, ?_⟩; (· (obtain ⟨f13_0, f13_1, f13_2, f13_3, f13_4, f13_5, f13_6, f13_7, f13_8, f13_9, f13_10, f13_11, f13_12, f13_13, f13_14⟩ := hW; go_simp; (first | done | with_reducible rfl | rfl))); simp only [Act.put, List.setIfInBounds_toArray, List.set_cons_zero, List.set_cons_succ]; go_big_quiet_on) | (refine quiet_ex ?_; apply Exists.intro; refine ⟨fun W hW => ?_, ?_⟩; (· (go_simp; first | (fail))); simp only [Act.put, List.setIfInBounds_toArray, List.set_cons_zero, List.set_cons_succ]; go_big_quiet_on)))
             refine wpQuiet_nil ?_
             rintro w' ⟨f13_0, f13_1, f13_2, f13_3, f13_4, f13_5, f13_6, f13_7, f13_8, f13_9, f13_10, f13_11, f13_12, f13_13, f13_14⟩
             clear f12_0 f12_1 f12_2 f12_3 f12_4 f12_5 f12_6 f12_7 f12_8 f12_9 f12_10 f12_11 f12_12 hcj hck
             obtain ⟨u1, hx9⟩ : ∃ x, x = w' := ⟨_, rfl⟩
             subst hx9
             go_wp2
             go_roundw
             case rel => exact ⟨j + 1, by omega, by go_num, f13_0, f13_1, f13_2, f13_3, f13_4, f13_5, f13_6, f13_7, f13_8, f13_9, f13_10, f13_11, f13_12⟩
             case measure => simp [intOf]; omega
         · skip
           obtain rfl : j = 3 := by omega
           clear hlt hj3 HCK HLT HKM
           have U1 : IntKind.i64.wrap (2 * a) = a + a := by rw [IntWalk.i64_in _ (by omega)]; omega
           have A1_ : IntKind.i64.wrap (q1 * n) = A1 := by rw [eA1]; exact IntWalk.i64_in _ (by omega)
           have G1 : decide (a ≤ A1) = true := decide_eq_true (by omega)
           have B1_ : IntKind.i64.wrap ((q1 - 1) * n) = B1 := by rw [eB1]; exact IntWalk.i64_in _ (by omega)
           have C1_ : IntKind.i64.wrap (q1 - 1) = q1 - 1 := IntWalk.i64_in _ (by omega)
           have L1 : decide (B1 < a) = true := decide_eq_true (by omega)
           have U2 : IntKind.i64.wrap (2 * b) = b + b := by rw [IntWalk.i64_in _ (by omega)]; omega
           have A2_ : IntKind.i64.wrap (q2 * n) = A2 := by rw [eA2]; exact IntWalk.i64_in _ (by omega)
           have G2 : decide (b ≤ A2) = true := decide_eq_true (by omega)
           have U3 : IntKind.i64.wrap (2 * c) = c + c := by rw [IntWalk.i64_in _ (by omega)]; omega
           have A3_ : IntKind.i64.wrap (q3 * n) = A3 := by rw [eA3]; exact IntWalk.i64_in _ (by omega)
           have G3 : decide (c ≤ A3) = true := decide_eq_true (by omega)
           have B3_ : IntKind.i64.wrap ((q3 - 1) * n) = B3 := by rw [eB3]; exact IntWalk.i64_in _ (by omega)
           have C3_ : IntKind.i64.wrap (q3 - 1) = q3 - 1 := IntWalk.i64_in _ (by omega)
           have L3 : decide (B3 < c) = true := decide_eq_true (by omega)
           have HCL := Lib.hid (show ∀ W', In w.heap.size w W' ∧ W'.cell? ⟨w1.heap.size, 0, none⟩ = some (.int .i64 a) ∧ W'.cell? ⟨w1.heap.size, 1, none⟩ = some (.int .i64 b) ∧ W'.cell? ⟨w1.heap.size, 2, none⟩ = some (.int .i64 c) ∧ W'.cell? ⟨w5.heap.size, 0, none⟩ = some (.int .i64 q1) ∧ W'.cell? ⟨w5.heap.size, 1, none⟩ = some (.int .i64 q2) ∧ W'.cell? ⟨w5.heap.size, 2, none⟩ = some (.int .i64 q3) ∧ W'.cell? ⟨w7.heap.size, 0, none⟩ = some (.int .i64 (a + a)) ∧ W'.cell? ⟨w7.heap.size, 1, none⟩ = some (.int .i64 (b + b)) ∧ W'.cell? ⟨w7.heap.size, 2, none⟩ = some (.int .i64 (c + c)) ∧ W'.cell? ⟨w9.heap.size, 0, none⟩ = some (.int .i64 a) ∧ W'.cell? ⟨w9.heap.size, 1, none⟩ = some (.int .i64 b) ∧ W'.cell? ⟨w9.heap.size, 2, none⟩ = some (.int .i64 c) → ∀ W2, Below W'.heap.size W' W2 → In w.heap.size w W2 ∧ W2.cell? ⟨w1.heap.size, 0, none⟩ = some (.int .i64 a) ∧ W2.cell? ⟨w1.heap.size, 1, none⟩ = some (.int .i64 b) ∧ W2.cell? ⟨w1.heap.size, 2, none⟩ = some (.int .i64 c) ∧ W2.cell? ⟨w5.heap.size, 0, none⟩ = some (.int .i64 q1) ∧ W2.cell? ⟨w5.heap.size, 1, none⟩ = some (.int .i64 q2) ∧ W2.cell? ⟨w5.heap.size, 2, none⟩ = some (.int .i64 q3) ∧ W2.cell? ⟨w7.heap.size, 0, none⟩ = some (.int .i64 (a + a)) ∧ W2.cell? ⟨w7.heap.size, 1, none⟩ = some (.int .i64 (b + b)) ∧ W2.cell? ⟨w7.heap.size, 2, none⟩ = some (.int .i64 (c + c)) ∧ W2.cell? ⟨w9.heap.size, 0, none⟩ = some (.int .i64 a) ∧ W2.cell? ⟨w9.heap.size, 1, none⟩ = some (.int .i64 b) ∧ W2.cell? ⟨w9.heap.size, 2, none⟩ = some (.int .i64 c) from fun W' h W2 hb => by
             obtain ⟨g0, g1, g2, g3, g4, g5, g6, g7, g8, g9, g10, g11, g12⟩ := h
             exact ⟨g0.step hb, cell_in g1 ⟨hb, hb.size⟩, cell_in g2 ⟨hb, hb.size⟩, cell_in g3 ⟨hb, hb.size⟩, cell_in g4 ⟨hb, hb.size⟩, cell_in g5 ⟨hb, hb.size⟩, cell_in g6 ⟨hb, hb.size⟩, cell_in g7 ⟨hb, hb.size⟩, cell_in g8 ⟨hb, hb.size⟩, cell_in g9 ⟨hb, hb.size⟩, cell_in g10 ⟨hb, hb.size⟩, cell_in g11 ⟨hb, hb.size⟩, cell_in g12 ⟨hb, hb.size⟩⟩)
           clear ha hb hc hp hn hT hX x1_ x2_ x3_ m1 m2 yx mx eA1 eB1 hq1 k1 k2 k3 k4 eA2 eB2 hq2 l1 l2 l3 l4 eA3 eB3 hq3 r1 r2 r3 r4 ham hbm hcm hk3
           iterate 20 go_step
           (try rw [List.append_eq])
           (try rw [List.append_eq])
           (repeat rw [List.cons_append])
           (repeat rw [List.nil_append])
           refine wp_region_L (C := (fun w' => In w.heap.size w w' ∧ w'.cell? ⟨w1.heap.size, 0, none⟩ = some (.int .i64 a) ∧ w'.cell? ⟨w1.heap.size, 1, none⟩ = some (.int .i64 b) ∧ w'.cell? ⟨w1.heap.size, 2, none⟩ = some (.int .i64 c) ∧ w'.cell? ⟨w5.heap.size, 0, none⟩ = some (.int .i64 q1) ∧ w'.cell? ⟨w5.heap.size, 1, none⟩ = some (.int .i64 q2) ∧ w'.cell? ⟨w5.heap.size, 2, none⟩ = some (.int .i64 q3) ∧ w'.cell? ⟨w7.heap.size, 0, none⟩ = some (.int .i64 (a + a)) ∧ w'.cell? ⟨w7.heap.size, 1, none⟩ = some (.int .i64 (b + b)) ∧ w'.cell? ⟨w7.heap.size, 2, none⟩ = some (.int .i64 (c + c)) ∧ w'.cell? ⟨w9.heap.size, 0, none⟩ = some (.int .i64 a) ∧ w'.cell? ⟨w9.heap.size, 1, none⟩ = some (.int .i64 b) ∧ w'.cell? ⟨w9.heap.size, 2, none⟩ = some (.int .i64 c))) ?_ ?_
           · exact ⟨f12_0, f12_1, f12_2, f12_3, f12_4, f12_5, f12_6, f12_7, f12_8, f12_9, f12_10, f12_11, f12_12⟩
           repeat (first | go_big_quiet_skip | (go_big_quiet_want; first | (refine quiet_ex ?_; apply Exists.intro; refine ⟨fun W hW => ?_, ?_⟩; (· (obtain ⟨f13_0, f13_1, f13_2, f13_3, f13_4, f13_5, f13_6, f13_7, f13_8, f13_9, f13_10, f13_11, f13_12⟩ := hW; go_simp; (first | done | with_reducible rfl | rfl))); simp only [Act.put, List.setIfInBounds_toArray, List.set_cons_zero, List.set_cons_succ]; go_big_quiet_on) | (refine quiet_ex ?_; apply Exists.intro; refine ⟨fun W hW => ?_, ?_⟩; (· (go_simp; first | (go_at_call 13; (with_reducible refine (HOK.out _).mono ?_); rintro e w2 ⟨rfl, hb2⟩; exact ⟨rfl, HCL.out _ hW _ hb2⟩) | (go_at_call 8; (with_reducible refine (HP5.out _ (HT.out.in_ hW.1)).mono ?_); rintro e w2 ⟨rfl, hb2⟩; exact ⟨rfl, HCL.out _ hW _ hb2⟩))); simp only [Act.put, List.setIfInBounds_toArray, List.set_cons_zero, List.set_cons_succ]; go_big_quiet_on)))
           refine wpQuiet_nil ?_
           rintro w' ⟨f13_0, f13_1, f13_2, f13_3, f13_4, f13_5, f13_6, f13_7, f13_8, f13_9, f13_10, f13_11, f13_12⟩
           clear f12_0 f12_1 f12_2 f12_3 f12_4 f12_5 f12_6 f12_7 f12_8 f12_9 f12_10 f12_11 f12_12
           go_wp2
           go_ret
           exact ⟨ret_bool rfl, f13_0.below⟩
  · skip
    have D3 : decide (0 < X) = false := decide_eq_false (by omega)
    have D8 : decide (M < 500) = false := decide_eq_false (by have := mx (by omega); omega)
    clear eT
    simp only []
    iterate 38 go_step
    (try rw [List.append_eq])
    (try rw [List.append_eq])
    (repeat rw [List.cons_append])
    (repeat rw [List.nil_append])
    clear f9_0 f9_1 f9_2 f9_3 f9_4 f9_5 f9_6 f9_7 f9_8 f9_9
    refine wp_region_L (C := (fun w' => In w.heap.size w w' ∧ w'.cell? ⟨w1.heap.size, 0, none⟩ = some (.int .i64 a) ∧ w'.cell? ⟨w1.heap.size, 1, none⟩ = some (.int .i64 b) ∧ w'.cell? ⟨w1.heap.size, 2, none⟩ = some (.int .i64 c) ∧ w'.cell? ⟨w5.heap.size, 0, none⟩ = some (.int .i64 q1) ∧ w'.cell? ⟨w5.heap.size, 1, none⟩ = some (.int .i64 q2) ∧ w'.cell? ⟨w5.heap.size, 2, none⟩ = some (.int .i64 q3) ∧ w'.cell? ⟨w7.heap.size, 0, none⟩ = some (.int .i64 (a + a)) ∧ w'.cell? ⟨w7.heap.size, 1, none⟩ = some (.int .i64 (b + b)) ∧ w'.cell? ⟨w7.heap.size, 2, none⟩ = some (.int .i64 (c + c)) ∧ w'.cell? ⟨w9.heap.size, 0, none⟩ = some (.int .i64 a) ∧ w'.cell? ⟨w9.heap.size, 1, none⟩ = some (.int .i64 b) ∧ w'.cell? ⟨w9.heap.size, 2, none⟩ = some (.int .i64 c))) ?_ ?_
    · exact ⟨f10_0, f10_1, f10_2, f10_3, f10_4, f10_5, f10_6, f10_7, f10_8, f10_9, f10_10, f10_11, f10_12⟩
    repeat (first | go_big_quiet_skip | (go_big_quiet_want; first | (refine quiet_ex ?_; apply Exists.intro; refine ⟨fun W hW => ?_, ?_⟩; (· (obtain ⟨f11_0, f11_1, f11_2, f11_3, f11_4, f11_5, f11_6, f11_7, f11_8, f11_9, f11_10, f11_11, f11_12⟩ := hW; go_simp; (first | done | with_reducible rfl | rfl))); simp only [Act.put, List.setIfInBounds_toArray, List.set_cons_zero, List.set_cons_succ]; go_big_quiet_on) | (refine quiet_ex ?_; apply Exists.intro; refine ⟨fun W hW => ?_, ?_⟩; (· (go_simp; first | (go_at_call 8; (with_reducible refine (HPM.out _ (HT.out.in_ hW.1)).mono ?_); rintro e w2 ⟨rfl, hb2⟩; exact ⟨rfl, HCL.out _ hW _ hb2⟩))); simp only [Act.put, List.setIfInBounds_toArray, List.set_cons_zero, List.set_cons_succ]; go_big_quiet_on)))
    refine wpQuiet_nil ?_
    rintro w' ⟨f11_0, f11_1, f11_2, f11_3, f11_4, f11_5, f11_6, f11_7, f11_8, f11_9, f11_10, f11_11, f11_12⟩
    clear f10_0 f10_1 f10_2 f10_3 f10_4 f10_5 f10_6 f10_7 f10_8 f10_9 f10_10 f10_11 f10_12
    obtain ⟨u0, hx9⟩ : ∃ x, x = w' := ⟨_, rfl⟩
    subst hx9
    clear V1 V2 V3 V4 V5 V6 V7 D1 D2 D4 D5 D6 D7 HCL HPM
    as_aux_lemma =>
     go_wp2
     go_loopw [14] (fun i wr => ∃ j : Nat, j ≤ 3 ∧ i = .int .i64 j ∧ (In w.heap.size w wr ∧ wr.cell? ⟨w1.heap.size, 0, none⟩ = some (.int .i64 a) ∧ wr.cell? ⟨w1.heap.size, 1, none⟩ = some (.int .i64 b) ∧ wr.cell? ⟨w1.heap.size, 2, none⟩ = some (.int .i64 c) ∧ wr.cell? ⟨w5.heap.size, 0, none⟩ = some (.int .i64 q1) ∧ wr.cell? ⟨w5.heap.size, 1, none⟩ = some (.int .i64 q2) ∧ wr.cell? ⟨w5.heap.size, 2, none⟩ = some (.int .i64 q3) ∧ wr.cell? ⟨w7.heap.size, 0, none⟩ = some (.int .i64 (a + a)) ∧ wr.cell? ⟨w7.heap.size, 1, none⟩ = some (.int .i64 (b + b)) ∧ wr.cell? ⟨w7.heap.size, 2, none⟩ = some (.int .i64 (c + c)) ∧ wr.cell? ⟨w9.heap.size, 0, none⟩ = some (.int .i64 a) ∧ wr.cell? ⟨w9.heap.size, 1, none⟩ = some (.int .i64 b) ∧ wr.cell? ⟨w9.heap.size, 2, none⟩ = some (.int .i64 c))) (fun i _ => 3 - (intOf i).toNat)
     case atStart => exact ⟨0, by omega, rfl, f11_0, f11_1, f11_2, f11_3, f11_4, f11_5, f11_6, f11_7, f11_8, f11_9, f11_10, f11_11, f11_12⟩
     case round =>
       obtain ⟨j, hj3, rfl, f12_0, f12_1, f12_2, f12_3, f12_4, f12_5, f12_6, f12_7, f12_8, f12_9, f12_10, f12_11, f12_12⟩ := hrel
       clear f11_0 f11_1 f11_2 f11_3 f11_4 f11_5 f11_6 f11_7 f11_8 f11_9 f11_10 f11_11 f11_12
       by_cases hlt : j < 3
       · skip
         have hcj := HCK.out _ f12_10 f12_11 f12_12 j hlt
         have hck := HCK.out _ f12_10 f12_11 f12_12 k hk3
         rw [HKM.out] at hck
         have hle : [a, b, c].getD j 0 ≤ m := by
           have : j = 0 ∨ j = 1 ∨ j = 2 := by omega
           rcases this with rfl | rfl | rfl
           · exact ham
           · exact hbm
           · exact hcm
         have hnl := HLT.out j
         generalize [a, b, c].getD j 0 = v at hcj hle hnl
         have g1 : decide (m < v) = false := decide_eq_false (by omega)
         have g3 : (j : Int) < 3 := by omega
         have g4 : (0 : Int) ≤ (j : Int) := by omega
         have g5 : (k : Int) < 3 := by omega
         have g6 : (0 : Int) ≤ (k : Int) := by omega
         by_cases hjk : j < k
         · skip
           have g2 : decide ((j : Int) < (k : Int)) = true := decide_eq_true (by omega)
           have g2n : decide (j < k) = true := decide_eq_true hjk
           have g7 : (v == m) = false := by simpa using hnl hjk
           clear hnl hle hlt hjk
           go_wp2
           refine wp_region_S (C := (fun w' => In w.heap.size w w' ∧ w'.cell? ⟨w1.heap.size, 0, none⟩ = some (.int .i64 a) ∧ w'.cell? ⟨w1.heap.size, 1, none⟩ = some (.int .i64 b) ∧ w'.cell? ⟨w1.heap.size, 2, none⟩ = some (.int .i64 c) ∧ w'.cell? ⟨w5.heap.size, 0, none⟩ = some (.int .i64 q1) ∧ w'.cell? ⟨w5.heap.size, 1, none⟩ = some (.int .i64 q2) ∧ w'.cell? ⟨w5.heap.size, 2, none⟩ = some (.int .i64 q3) ∧ w'.cell? ⟨w7.heap.size, 0, none⟩ = some (.int .i64 (a + a)) ∧ w'.cell? ⟨w7.heap.size, 1, none⟩ = some (.int .i64 (b + b)) ∧ w'.cell? ⟨w7.heap.size, 2, none⟩ = some (.int .i64 (c + c)) ∧ w'.cell? ⟨w9.heap.size, 0, none⟩ = some (.int .i64 a) ∧ w'.cell? ⟨w9.heap.size, 1, none⟩ = some (.int .i64 b) ∧ w'.cell? ⟨w9.heap.size, 2, none⟩ = some (.int .i64 c) ∧ w'.cell? ⟨w9.heap.size, j, none⟩ = some (.int .i64 v) ∧ w'.cell? ⟨w9.heap.size, k, none⟩ = some (.int .i64 m))) (by kernel_rfl) (by kernel_rfl) ?_ ?_
           · exact ⟨f12_0.drew, f12_1, f12_2, f12_3, f12_4, f12_5, f12_6, f12_7, f12_8, f12_9, f12_10, f12_11, f12_12, hcj, hck⟩
           repeat (first | go_big_quiet_skip | (go_big_quiet_want; first | (refine quiet_ex ?_; apply Exists.intro; refine ⟨fun W hW => ?_, ?_⟩; (· (obtain ⟨f13_0, f13_1, f13_2, f13_3, f13_4, f13_5, f13_6, f13_7, f13_8, f13_9, f13_10, f13_11, f13_12, f13_13, f13_14⟩ := hW; go_simp; (first | done | with_reducible rfl | rfl))); simp only [Act.put, List.setIfInBounds_toArray, List.set_cons_zero, List.set_cons_succ]; go_big_quiet_on) | (refine quiet_ex ?_; apply Exists.intro; refine ⟨fun W hW => ?_, ?_⟩; (· (go_simp; first | (fail))); simp only [Act.put, List.setIfInBounds_toArray, List.set_cons_zero, List.set_cons_succ]; go_big_quiet_on)))
           refine wpQuiet_nil ?_
           rintro w' ⟨f13_0, f13_1, f13_2, f13_3, f13_4, f13_5, f13_6, f13_7, f13_8, f13_9, f13_10, f13_11, f13_12, f13_13, f13_14⟩
           clear f12_0 f12_1 f12_2 f12_3 f12_4 f12_5 f12_6 f12_7 f12_8 f12_9 f12_10 f12_11 f12_12 hcj hck
           obtain ⟨u1, hx9⟩ : ∃ x, x = w' := ⟨_, rfl⟩
           subst hx9
           go_wp2
           go_roundw
           case rel => exact ⟨j + 1, by omega, by go_num, f13_0, f13_1, f13_2, f13_3, f13_4, f13_5, f13_6, f13_7, f13_8, f13_9, f13_10, f13_11, f13_12⟩
           case measure => simp [intOf]; omega
         · skip
           have g2 : decide ((j : Int) < (k : Int)) = false := decide_eq_false (by omega)
           have g2n : decide (j < k) = false := decide_eq_false hjk
           clear hnl hle hlt hjk
           go_wp2
           refine wp_region_S (C := (fun w' => In w.heap.size w w' ∧ w'.cell? ⟨w1.heap.size, 0, none⟩ = some (.int .i64 a) ∧ w'.cell? ⟨w1.heap.size, 1, none⟩ = some (.int .i64 b) ∧ w'.cell? ⟨w1.heap.size, 2, none⟩ = some (.int .i64 c) ∧ w'.cell? ⟨w5.heap.size, 0, none⟩ = some (.int .i64 q1) ∧ w'.cell? ⟨w5.heap.size, 1, none⟩ = some (.int .i64 q2) ∧ w'.cell? ⟨w5.heap.size, 2, none⟩ = some (.int .i64 q3) ∧ w'.cell? ⟨w7.heap.size, 0, none⟩ = some (.int .i64 (a + a)) ∧ w'.cell? ⟨w7.heap.size, 1, none⟩ = some (.int .i64 (b + b)) ∧ w'.cell? ⟨w7.heap.size, 2, none⟩ = some (.int .i64 (c + c)) ∧ w'.cell? ⟨w9.heap.size, 0, none⟩ = some (.int .i64 a) ∧ w'.cell? ⟨w9.heap.size, 1, none⟩ = some (.int .i64 b) ∧ w'.cell? ⟨w9.heap.size, 2, none⟩ = some (.int .i64 c) ∧ w'.cell? ⟨w9.heap.size, j, none⟩ = some (.int .i64 v) ∧ w'.cell? ⟨w9.heap.size, k, none⟩ = some (.int .i64 m))) (by kernel_rfl) (by kernel_rfl) ?_ ?_
           · exact ⟨f12_0.drew, f12_1, f12_2, f12_3, f12_4, f12_5, f12_6, f12_7, f12_8, f12_9, f12_10, f12_11, f12_12, hcj, hck⟩
           repeat (first | go_big_quiet_skip | (go_big_quiet_want; first | (refine quiet_ex ?_; apply Exists.intro; refine ⟨fun W hW => ?_, ?_⟩; (· (obtain ⟨f13_0, f13_1, f13_2, f13_3, f13_4, f13_5, f13_6, f13_7, f13_8, f13_9, f13_10, f13_11, f13_12, f13_13, f13_14⟩ := hW; go_simp; (first | done | with_reducible rfl | rfl))); simp only [Act.put, List.setIfInBounds_toArray, List.set_cons_zero, List.set_cons_succ]; go_big_quiet_on) | (refine quiet_ex ?_; apply Exists.intro; refine ⟨fun W hW => ?_, ?_⟩; (· (go_simp; first | (fail))); simp only [Act.put, List.setIfInBounds_toArray, List.set_cons_zero, List.set_cons_succ]; go_big_quiet_on)))
           refine wpQuiet_nil ?_
           rintro w' ⟨f13_0, f13_1, f13_2, f13_3, f13_4, f13_5, f13_6, f13_7, f13_8, f13_9, f13_10, f13_11, f13_12, f13_13, f13_14⟩
           clear f12_0 f12_1 f12_2 f12_3 f12_4 f12_5 f12_6 f12_7 f12_8 f12_9 f12_10 f12_11 f12_12 hcj hck
           obtain ⟨u1, hx9⟩ : ∃ x, x = w' := ⟨_, rfl⟩
           subst hx9
           go_wp2
           go_roundw
           case rel => exact ⟨j + 1, by omega, by go_num, f13_0, f13_1, f13_2, f13_3, f13_4, f13_5, f13_6, f13_7, f13_8, f13_9, f13_10, f13_11, f13_12⟩
           case measure => simp [intOf]; omega
       · skip
         obtain rfl : j = 3 := by omega
         clear hlt hj3 HCK HLT HKM
         have U1 : IntKind.i64.wrap (2 * a) = a + a := by rw [IntWalk.i64_in _ (by omega)]; omega
         have A1_ : IntKind.i64.wrap (q1 * n) = A1 := by rw [eA1]; exact IntWalk.i64_in _ (by omega)
         have G1 : decide (a ≤ A1) = true := decide_eq_true (by omega)
         have B1_ : IntKind.i64.wrap ((q1 - 1) * n) = B1 := by rw [eB1]; exact IntWalk.i64_in _ (by omega)
         have C1_ : IntKind.i64.wrap (q1 - 1) = q1 - 1 := IntWalk.i64_in _ (by omega)
         have L1 : decide (B1 < a) = true := decide_eq_true (by omega)
         have U2 : IntKind.i64.wrap (2 * b) = b + b := by rw [IntWalk.i64_in _ (by omega)]; omega
         have A2_ : IntKind.i64.wrap (q2 * n) = A2 := by rw [eA2]; exact IntWalk.i64_in _ (by omega)
         have G2 : decide (b ≤ A2) = true := decide_eq_true (by omega)
         have U3 : IntKind.i64.wrap (2 * c) = c + c := by rw [IntWalk.i64_in _ (by omega)]; omega
         have A3_ : IntKind.i64.wrap (q3 * n) = A3 := by rw [eA3]; exact IntWalk.i64_in _ (by omega)
         have G3 : decide (c ≤ A3) = true := decide_eq_true (by omega)
         have B3_ : IntKind.i64.wrap ((q3 - 1) * n) = B3 := by rw [eB3]; exact IntWalk.i64_in _ (by omega)
         have C3_ : IntKind.i64.wrap (q3 - 1) = q3 - 1 := IntWalk.i64_in _ (by omega)
         have L3 : decide (B3 < c) = true := decide_eq_true (by omega)
         have HCL := Lib.hid (show ∀ W', In w.heap.size w W' ∧ W'.cell? ⟨w1.heap.size, 0, none⟩ = some (.int .i64 a) ∧ W'.cell? ⟨w1.heap.size, 1, none⟩ = some (.int .i64 b) ∧ W'.cell? ⟨w1.heap.size, 2, none⟩ = some (.int .i64 c) ∧ W'.cell? ⟨w5.heap.size, 0, none⟩ = some (.int .i64 q1) ∧ W'.cell? ⟨w5.heap.size, 1, none⟩ = some (.int .i64 q2) ∧ W'.cell? ⟨w5.heap.size, 2, none⟩ = some (.int .i64 q3) ∧ W'.cell? ⟨w7.heap.size, 0, none⟩ = some (.int .i64 (a + a)) ∧ W'.cell? ⟨w7.heap.size, 1, none⟩ = some (.int .i64 (b + b)) ∧ W'.cell? ⟨w7.heap.size, 2, none⟩ = some (.int .i64 (c + c)) ∧ W'.cell? ⟨w9.heap.size, 0, none⟩ = some (.int .i64 a) ∧ W'.cell? ⟨w9.heap.size, 1, none⟩ = some (.int .i64 b) ∧ W'.cell? ⟨w9.heap.size, 2, none⟩ = some (.int .i64 c) → ∀ W2, Below W'.heap.size W' W2 → In w.heap.size w W2 ∧ W2.cell? ⟨w1.heap.size, 0, none⟩ = some (.int .i64 a) ∧ W2.cell? ⟨w1.heap.size, 1, none⟩ = some (.int .i64 b) ∧ W2.cell? ⟨w1.heap.size, 2, none⟩ = some (.int .i64 c) ∧ W2.cell? ⟨w5.heap.size, 0, none⟩ = some (.int .i64 q1) ∧ W2.cell? ⟨w5.heap.size, 1, none⟩ = some (.int .i64 q2) ∧ W2.cell? ⟨w5.heap.size, 2, none⟩ = some (.int .i64 q3) ∧ W2.cell? ⟨w7.heap.size, 0, none⟩ = some (.int .i64 (a + a)) ∧ W2.cell? ⟨w7.heap.size, 1, none⟩ = some (.int .i64 (b + b)) ∧ W2.cell? ⟨w7.heap.size, 2, none⟩ = some (.int .i64 (c + c)) ∧ W2.cell? ⟨w9.heap.size, 0, none⟩ = some (.int .i64 a) ∧ W2.cell? ⟨w9.heap.size, 1, none⟩ = some (.int .i64 b) ∧ W2.cell? ⟨w9.heap.size, 2, none⟩ = some (.int .i64 c) from fun W' h W2 hb => by
           obtain ⟨g0, g1, g2, g3, g4, g5, g6, g7, g8, g9, g10, g11, g12⟩ := h
           exact ⟨g0.step hb, cell_in g1 ⟨hb, hb.size⟩, cell_in g2 ⟨hb, hb.size⟩, cell_in g3 ⟨hb, hb.size⟩, cell_in g4 ⟨hb, hb.size⟩, cell_in g5 ⟨hb, hb.size⟩, cell_in g6 ⟨hb, hb.size⟩, cell_in g7 ⟨hb, hb.size⟩, cell_in g8 ⟨hb, hb.size⟩, cell_in g9 ⟨hb, hb.size⟩, cell_in g10 ⟨hb, hb.size⟩, cell_in g11 ⟨hb, hb.size⟩, cell_in g12 ⟨hb, hb.size⟩⟩)
         clear ha hb hc hp hn hT hX x1_ x2_ x3_ m1 m2 yx mx eA1 eB1 hq1 k1 k2 k3 k4 eA2 eB2 hq2 l1 l2 l3 l4 eA3 eB3 hq3 r1 r2 r3 r4 ham hbm hcm hk3
         iterate 20 go_step
         (try rw [List.append_eq])
         (try rw [List.append_eq])
         (repeat rw [List.cons_append])
         (repeat rw [List.nil_append])
         refine wp_region_L (C := (fun w' => In w.heap.size w w' ∧ w'.cell? ⟨w1.heap.size, 0, none⟩ = some (.int .i64 a) ∧ w'.cell? ⟨w1.heap.size, 1, none⟩ = some (.int .i64 b) ∧ w'.cell? ⟨w1.heap.size, 2, none⟩ = some (.int .i64 c) ∧ w'.cell? ⟨w5.heap.size, 0, none⟩ = some (.int .i64 q1) ∧ w'.cell? ⟨w5.heap.size, 1, none⟩ = some (.int .i64 q2) ∧ w'.cell? ⟨w5.heap.size, 2, none⟩ = some (.int .i64 q3) ∧ w'.cell? ⟨w7.heap.size, 0, none⟩ = some (.int .i64 (a + a)) ∧ w'.cell? ⟨w7.heap.size, 1, none⟩ = some (.int .i64 (b + b)) ∧ w'.cell? ⟨w7.heap.size, 2, none⟩ = some (.int .i64 (c + c)) ∧ w'.cell? ⟨w9.heap.size, 0, none⟩ = some (.int .i64 a) ∧ w'.cell? ⟨w9.heap.size, 1, none⟩ = some (.int .i64 b) ∧ w'.cell? ⟨w9.heap.size, 2, none⟩ = some (.int .i64 c))) ?_ ?_
         · exact ⟨f12_0, f12_1, f12_2, f12_3, f12_4, f12_5, f12_6, f12_7, f12_8, f12_9, f12_10, f12_11, f12_12⟩
         repeat (first | go_big_quiet_skip | (go_big_quiet_want; first | (refine quiet_ex ?_; apply Exists.intro; refine ⟨fun W hW => ?_, ?_⟩; (· (obtain ⟨f13_0, f13_1, f13_2, f13_3, f13_4, f13_5, f13_6, f13_7, f13_8, f13_9, f13_10, f13_11, f13_12⟩ := hW; go_simp; (first | done | with_reducible rfl | rfl))); simp only [Act.put, List.setIfInBounds_toArray, List.set_cons_zero, List.set_cons_succ]; go_big_quiet_on) | (refine quiet_ex ?_; apply Exists.intro; refine ⟨fun W hW => ?_, ?_⟩; (· (go_simp; first | (go_at_call 13; (with_reducible refine (HOK.out _).mono ?_); rintro e w2 ⟨rfl, hb2⟩; exact ⟨rfl, HCL.out _ hW _ hb2⟩) | (go_at_call 8; (with_reducible refine (HP5.out _ (HT.out.in_ hW.1)).mono ?_); rintro e w2 ⟨rfl, hb2⟩; exact ⟨rfl, HCL.out _ hW _ hb2⟩))); simp only [Act.put, List.setIfInBounds_toArray, List.set_cons_zero, List.set_cons_succ]; go_big_quiet_on)))
         refine wpQuiet_nil ?_
         rintro w' ⟨f13_0, f13_1, f13_2, f13_3, f13_4, f13_5, f13_6, f13_7, f13_8, f13_9, f13_10, f13_11, f13_12⟩
         clear f12_0 f12_1 f12_2 f12_3 f12_4 f12_5 f12_6 f12_7 f12_8 f12_9 f12_10 f12_11 f12_12
         go_wp2
         go_ret
         exact ⟨ret_bool rfl, f13_0.below⟩
 end Go.Proofs.YtkaaebpoljnbnaaDoor
