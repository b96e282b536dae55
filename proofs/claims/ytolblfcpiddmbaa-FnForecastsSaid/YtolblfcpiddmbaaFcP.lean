/- FnForecasts: the plain facts. -/
import Derived.Test.YtolblfcpiddmbaaB14
import Derived.Test.YtolblfcpiddmbaaI14
import Derived.Test.YtolblfcpiddmbaaDl14
namespace Go.Proofs.Ytolblfcpiddmbaa
open Go.ChangeShapes Go.WideShapes Go.ChangeAt Go.RowKit
set_option linter.unusedVariables false
set_option linter.unusedSimpArgs false
set_option maxHeartbeats 2000000

abbrev PSa (xs : List Int) (n : Nat) : Prop := ∀ i, i < n → (fun v : Int => 20 ≤ v ∧ v ≤ 89) (xs.getD i 0)
theorem sales_t {n : Nat} {xs : List Int} (h1 : 7 ≤ n) (h2 : n ≤ 140) (h : ∀ i, i < n → 0 ≤ xs.getD i 0 ∧ xs.getD i 0 ≤ 10000) : salesB n xs = true := by
  unfold salesB
  rw [inB_t (by omega), allIn_t fun i hi => inB_t (h i hi)]
  rfl
def lowD (xs : List Int) (d : Nat) : Nat → Int
  | 0 => 10000
  | j + 1 => min (lowD xs d j) (mG xs d j)
def highD (xs : List Int) (d : Nat) : Nat → Int
  | 0 => 0
  | j + 1 => max (highD xs d j) (mG xs d j)
theorem lh_in {n : Nat} {xs : List Int} (hx : PSa xs n) (d : Nat) : ∀ j : Nat, (∀ t, t < j → d + 7 * t < n) → 0 ≤ highD xs d j ∧ highD xs d j ≤ 89 ∧ 20 ≤ lowD xs d j ∧ lowD xs d j ≤ 10000 ∧ (0 < j → lowD xs d j * j ≤ sumTo (mG xs d) j ∧ sumTo (mG xs d) j ≤ highD xs d j * j)
  | 0, _ => by simp [lowD, highD]
  | j + 1, h => by
    obtain ⟨a1, a2, a3, a4, a5⟩ := lh_in hx d j fun t ht => h t (by omega)
    have h1 := hx (d + 7 * j) (h j (by omega))
    simp only [] at h1
    rw [lowD, highD, sumTo_succ]
    have e : mG xs d j = xs.getD (d + 7 * j) 0 := rfl
    rw [← e] at h1
    generalize mG xs d j = y at *
    refine ⟨by omega, by omega, by omega, by omega, fun _ => ?_⟩
    rcases Nat.eq_zero_or_pos j with rfl | hj
    · simp [sumTo, lowD, highD]; omega
    · obtain ⟨b1, b2⟩ := a5 hj
      have hj0 : (0 : Int) ≤ (j : Int) := by omega
      have c1 : min (lowD xs d j) y * (j : Int) ≤ lowD xs d j * j := Int.mul_le_mul_of_nonneg_right (by omega) hj0
      have c2 : highD xs d j * (j : Int) ≤ max (highD xs d j) y * j := Int.mul_le_mul_of_nonneg_right (by omega) hj0
      push_cast
      rw [Int.mul_add, Int.mul_add]
      omega
theorem mean_lh {n : Nat} {xs : List Int} (hn : 7 ≤ n) (hx : PSa xs n) (d : Nat) (hd : d ≤ 6) : lowD xs d (cntM n d) ≤ meanR n xs d ∧ meanR n xs d ≤ highD xs d (cntM n d) ∧ 0 < cntM n d := by
  have hc : 0 < cntM n d := by unfold cntM; omega
  have ht : ∀ t, t < cntM n d → d + 7 * t < n := fun t ht => by unfold cntM at ht; omega
  obtain ⟨_, _, _, _, h5⟩ := lh_in hx d (cntM n d) ht
  obtain ⟨b1, b2⟩ := h5 hc
  have hc' : (0 : Int) < (cntM n d : Nat) := by omega
  refine ⟨Int.le_ediv_of_mul_le hc' b1, ?_, hc⟩
  unfold meanR
  have := Int.ediv_le_ediv hc' b2
  rwa [Int.mul_ediv_cancel _ (by omega)] at this
theorem take_getD (W : List Int) (i j : Nat) (h : j < i) : (W.take i).getD j 0 = W.getD j 0 := by simp [List.getD_eq_getElem?_getD, List.getElem?_take, h]
theorem err_week {a0 a1 a2 a3 a4 a5 a6 : Int} (h0 : 20 ≤ a0 ∧ a0 ≤ 89) (h1 : 20 ≤ a1 ∧ a1 ≤ 89) (h2 : 20 ≤ a2 ∧ a2 ≤ 89) (h3 : 20 ≤ a3 ∧ a3 ≤ 89) (h4 : 20 ≤ a4 ∧ a4 ≤ 89) (h5 : 20 ≤ a5 ∧ a5 ≤ 89) (h6 : 20 ≤ a6 ∧ a6 ≤ 89) :
    errV 14 [a0, a1, a2, a3, a4, a5, a6, a0, a1, a2, a3, a4, a5, a6] = 0 ∧ growB 14 [a0, a1, a2, a3, a4, a5, a6, a0, a1, a2, a3, a4, a5, a6] = false ∧ growB 14 [a0, a1, a2, a3, a4, a5, a6, a0, a1, a2, a3, a4, a5, a6 + 1] = true ∧ meanV 14 [a0, a1, a2, a3, a4, a5, a6, a0, a1, a2, a3, a4, a5, a6] 0 = a0 := by
  have hW : ∀ i, i < 14 → 0 ≤ ([a0, a1, a2, a3, a4, a5, a6, a0, a1, a2, a3, a4, a5, a6] : List Int).getD i 0 ∧ ([a0, a1, a2, a3, a4, a5, a6, a0, a1, a2, a3, a4, a5, a6] : List Int).getD i 0 ≤ 10000 := fun i hi => by
    rcases (by omega : i = 0 ∨ i = 1 ∨ i = 2 ∨ i = 3 ∨ i = 4 ∨ i = 5 ∨ i = 6 ∨ i = 7 ∨ i = 8 ∨ i = 9 ∨ i = 10 ∨ i = 11 ∨ i = 12 ∨ i = 13) with rfl | rfl | rfl | rfl | rfl | rfl | rfl | rfl | rfl | rfl | rfl | rfl | rfl | rfl <;> simp <;> omega
  have hM : ∀ i, i < 14 → 0 ≤ ([a0, a1, a2, a3, a4, a5, a6, a0, a1, a2, a3, a4, a5, a6 + 1] : List Int).getD i 0 ∧ ([a0, a1, a2, a3, a4, a5, a6, a0, a1, a2, a3, a4, a5, a6 + 1] : List Int).getD i 0 ≤ 10000 := fun i hi => by
    rcases (by omega : i = 0 ∨ i = 1 ∨ i = 2 ∨ i = 3 ∨ i = 4 ∨ i = 5 ∨ i = 6 ∨ i = 7 ∨ i = 8 ∨ i = 9 ∨ i = 10 ∨ i = 11 ∨ i = 12 ∨ i = 13) with rfl | rfl | rfl | rfl | rfl | rfl | rfl | rfl | rfl | rfl | rfl | rfl | rfl | rfl <;> simp <;> omega
  have sW := sales_t (n := 14) (by omega) (by omega) hW
  have sM := sales_t (n := 14) (by omega) (by omega) hM
  refine ⟨?_, ?_, ?_, ?_⟩
  · unfold errV
    rw [if_pos sW]
    refine sumTo_zero _ _ fun i hi => ?_
    unfold errG
    by_cases h7 : i < 7
    · rw [if_pos h7]
    · rw [if_neg h7]
      obtain ⟨W, hWW⟩ : ∃ W, W = ([a0, a1, a2, a3, a4, a5, a6, a0, a1, a2, a3, a4, a5, a6] : List Int) := ⟨_, rfl⟩
      rw [← hWW] at hW ⊢
      have hs : salesB i (W.take i) = true := sales_t (by omega) (by omega) fun j hj => by rw [take_getD W i j hj]; exact hW j (by omega)
      have he : nextR W i = W.getD i 0 := by
        unfold nextR meanV
        rw [hs, inB_t (by omega), if_pos (show (true && true) = true from rfl)]
        unfold meanR cntM
        rw [show ((i : Int) % 7).toNat = i - 7 by omega, show (i - (i - 7) + 6) / 7 = 1 by omega]
        simp only [sumTo_succ, show ∀ f : Nat → Int, sumTo f 0 = 0 from fun _ => rfl, mG, Nat.mul_zero, Nat.add_zero]
        rw [take_getD W i (i - 7) (by omega), hWW]
        rcases (by omega : i = 7 ∨ i = 8 ∨ i = 9 ∨ i = 10 ∨ i = 11 ∨ i = 12 ∨ i = 13) with rfl | rfl | rfl | rfl | rfl | rfl | rfl <;> simp
      rw [he, Int.sub_self]; rfl
  · unfold growB
    rw [sW]
    simp [lsum, sumTo, gF, seg]
  · unfold growB
    rw [sM]
    simp [lsum, sumTo, gF, seg]
    omega
  · unfold meanV
    rw [sW, inB_t (by omega), if_pos (show (true && true) = true from rfl)]
    simp [meanR, cntM, sumTo, mG]
    omega
theorem seven (xs : List Int) (h : 7 ≤ xs.length) : ∃ a0 a1 a2 a3 a4 a5 a6 r, xs = a0 :: a1 :: a2 :: a3 :: a4 :: a5 :: a6 :: r := by
  match xs, h with
  | a0 :: a1 :: a2 :: a3 :: a4 :: a5 :: a6 :: r, _ => exact ⟨a0, a1, a2, a3, a4, a5, a6, r, rfl⟩
theorem fore_law {n : Nat} {xs : List Int} (hn : 7 ≤ n ∧ n ≤ 26) (hx : PSa xs n) (hl : xs.length = n) :
    salesB n xs = true ∧ ∃ (T W M : List Int) (y z : Int) (K : Nat) (E : Int), xs.take 7 = T ∧ T.length = 7 ∧ T ++ T = W ∧ W.length = 14 ∧ W.getD 13 0 = z ∧ (20 ≤ z ∧ z ≤ 89) ∧ W.set 13 (z + 1) = M ∧ M.length = 14 ∧ xs.getD 0 0 = y ∧ errV 14 W = 0 ∧ growB 14 W = false ∧ growB 14 M = true ∧ meanV 14 W 0 = y ∧
      busyV n xs = K ∧ K ≤ 6 ∧ (∀ d : Nat, d ≤ 6 → meanV n xs d = dF n xs d ∧ (0 ≤ dF n xs d ∧ dF n xs d ≤ 10000) ∧ dF n xs d ≤ dF n xs K ∧ (d < K → dF n xs d < dF n xs K) ∧ lowD xs d (cntM n d) ≤ dF n xs d ∧ dF n xs d ≤ highD xs d (cntM n d)) ∧ errV n xs = E ∧ sumTo (errG xs) n = E ∧ sumTo (errG xs) 7 = 0 := by
  have hS : salesB n xs = true := sales_t hn.1 (by omega) fun i hi => by have := hx i hi; simp only [] at this; omega
  obtain ⟨a0, a1, a2, a3, a4, a5, a6, r, rfl⟩ := seven xs (by omega)
  have b := fun i (hi : i < 7) => hx i (by omega)
  have b0 := b 0 (by omega)
  have b1 := b 1 (by omega)
  have b2 := b 2 (by omega)
  have b3 := b 3 (by omega)
  have b4 := b 4 (by omega)
  have b5 := b 5 (by omega)
  have b6 := b 6 (by omega)
  simp at b0 b1 b2 b3 b4 b5 b6
  obtain ⟨e1, e2, e3, e4⟩ := err_week b0 b1 b2 b3 b4 b5 b6
  refine ⟨hS, [a0, a1, a2, a3, a4, a5, a6], _, _, a0, a6, amax (dF n (a0 :: a1 :: a2 :: a3 :: a4 :: a5 :: a6 :: r)) 7, errV n (a0 :: a1 :: a2 :: a3 :: a4 :: a5 :: a6 :: r), by simp, rfl, rfl, rfl, rfl, b6, rfl, rfl, rfl, e1, e2, e3, e4, ?_, ?_, fun d hd => ?_, rfl, ?_, sumTo_zero _ _ fun i hi => (by unfold errG; rw [if_pos hi])⟩
  · unfold busyV; rw [if_pos hS]
  · have := amax_lt (dF n (a0 :: a1 :: a2 :: a3 :: a4 :: a5 :: a6 :: r)) 7 (by omega); omega
  · have hm := mean_lh hn.1 hx d hd
    exact ⟨meanV_R hS d hd, mean_in hS d hd, amax_max _ _ d (by omega), fun h => amax_first _ _ d h, hm.1, hm.2.1⟩
  · unfold errV; rw [if_pos hS]
end Go.Proofs.Ytolblfcpiddmbaa
