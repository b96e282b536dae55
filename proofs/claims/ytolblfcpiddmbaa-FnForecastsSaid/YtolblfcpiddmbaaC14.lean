/- Chapter 14: SalesOk, MeanOf, NextSales, BusiestDay. -/
import Derived.Test.YtolblfcpiddmbaaAll
import Derived.Test.YtolblfcpiddmbaaGi
import Derived.Test.YtolblfcpiddmbaaIntI
namespace Go.Proofs.Ytolblfcpiddmbaa
open Go.ChangeShapes Go.WideShapes Go.ChangeAt Go.RowKit
set_option linter.unusedVariables false
set_option linter.unusedSimpArgs false

def salesB (n : Nat) (xs : List Int) : Bool := inB n 7 140 && allIn xs 0 10000 n
theorem sales_at {n : Nat} {xs : List Int} (h : salesB n xs = true) : 7 ≤ n ∧ n ≤ 140 ∧ ∀ i, i < n → 0 ≤ xs.getD i 0 ∧ xs.getD i 0 ≤ 10000 := by
  simp only [salesB, Bool.and_eq_true] at h
  have h1 := inB_tt h.1
  exact ⟨by omega, by omega, allIn_at h.2⟩
theorem iSalesOk (A : Option Addr) (n c : Nat) (xs : List Int) (w : World) (hn : n ≤ maxLen) (hx : ReadsI w A n xs) : Calls Try.prog 16 #[.slice A n c] w (Same (.bool (salesB n xs)) w) := by
  cases h4 : inB n 7 140
  all_goals
    go_enter Try.func16, Try.ntmps16
    go_wp2_with (first | (go_at_call 137; refine (sIn _ _ _ _).mono ?_; rintro e w' ⟨rfl, rfl⟩) | (go_at_call 56; refine (iIn _ _ _ _).mono ?_; rintro e w' ⟨rfl, rfl⟩) | (go_at_call 59; refine (iAll A n c xs 0 10000 _ hn hx).mono ?_; rintro e w' ⟨rfl, rfl⟩) | go_in | (go_end0; simp only []; go_at_K))
    go_ret
    exact ⟨ret_bool (by simp [salesB, h4]), rfl⟩
def mG (xs : List Int) (d : Nat) (j : Nat) : Int := xs.getD (d + 7 * j) 0
def cntM (n d : Nat) : Nat := (n - d + 6) / 7
def meanR (n : Nat) (xs : List Int) (d : Nat) : Int := sumTo (mG xs d) (cntM n d) / (cntM n d : Nat)
def meanV (n : Nat) (xs : List Int) (d : Int) : Int := if salesB n xs && inB d 0 6 then meanR n xs d.toNat else -1
theorem mean_in {n : Nat} {xs : List Int} (h : salesB n xs = true) (d : Nat) (hd : d ≤ 6) : 0 ≤ meanR n xs d ∧ meanR n xs d ≤ 10000 := by
  obtain ⟨h1, h2, h3⟩ := sales_at h
  have hc : 1 ≤ cntM n d ∧ cntM n d ≤ 21 := by unfold cntM; omega
  have hb := sumTo_bd (mG xs d) 10000 (cntM n d) fun i hi => h3 _ (by unfold cntM at hi; omega)
  unfold meanR
  refine ⟨Int.ediv_nonneg hb.1 (by omega), ?_⟩
  have h5 : sumTo (mG xs d) (cntM n d) / (cntM n d : Nat) ≤ (cntM n d : Nat) * 10000 / (cntM n d : Nat) := Int.ediv_le_ediv (by omega) hb.2
  rw [Int.mul_ediv_cancel_left _ (by omega)] at h5
  exact h5
theorem meanV_in (n : Nat) (xs : List Int) (d : Int) : -1 ≤ meanV n xs d ∧ meanV n xs d ≤ 10000 := by
  unfold meanV
  split
  · rename_i h
    simp only [Bool.and_eq_true] at h
    have h2 := inB_tt h.2
    have := mean_in h.1 d.toNat (by omega)
    omega
  · omega
set_option maxHeartbeats 1000000 in
theorem imeanOn (A : Option Addr) (n c : Nat) (xs : List Int) (d : Nat) (hd : d ≤ 6) (w : World) (hs : salesB n xs = true) (hx : ReadsI w A n xs) : Calls Try.prog 54 #[.slice A n c, .int .i64 (d : Int)] w (Same (i64 (meanR n xs d)) w) := by
  obtain ⟨s1, s2, s3⟩ := sales_at hs
  have HS := Lib.hid s3
  clear s3 hs
  go_enter Try.func54, Try.ntmps54
  go_wp2
  go_loop [5, 6, 7] (fun s m i => ∃ j : Nat, j ≤ cntM n d ∧ i = .int .i64 ((d + 7 * j : Nat) : Int) ∧ s = .int .i64 (sumTo (mG xs d) j) ∧ m = .int .i64 j) (fun _ m _ => cntM n d - (intOf m).toNat)
  case atStart => exact ⟨0, Nat.zero_le _, rfl, rfl, rfl⟩
  case round =>
    obtain ⟨j, hj, rfl, rfl, rfl⟩ := hrel
    have hc : 1 ≤ cntM n d ∧ cntM n d ≤ 21 ∧ (d + 7 * j < n ↔ j < cntM n d) := by unfold cntM; omega
    obtain ⟨c1, c2, c3⟩ := hc
    obtain ⟨b1, b2⟩ := sumTo_bd (mG xs d) 10000 j fun i hi => HS.out _ (by unfold cntM at *; omega)
    by_cases hlt : j < cntM n d
    · have hkn : d + 7 * j < n := c3.2 hlt
      have HU := Lib.hid (sumTo_succ (mG xs d) j)
      obtain ⟨a, rfl, ha⟩ := hx.2 (d + 7 * j) hkn
      obtain ⟨x1, x2⟩ := HS.out (d + 7 * j) hkn
      have HG : Hid (mG xs d j = xs.getD (d + 7 * j) 0) := Lib.hid rfl
      have hk' : ((d + 7 * j : Nat) : Int) < n := by omega
      generalize hk : d + 7 * j = k at *
      have HK := Lib.hid hk
      have hk9 : k ≤ 140 := by omega
      generalize xs.getD k 0 = x at ha x1 x2 HG
      have hj21 : j ≤ 21 := by omega
      have HLT : Hid (j + 1 ≤ cntM n d) := Lib.hid hlt
      clear hk hlt c3
      go_wp2_with (first | (go_at_call 137; refine (sIn _ _ _ _).mono ?_; rintro e w' ⟨rfl, rfl⟩) | (go_at_call 56; refine (iIn _ _ _ _).mono ?_; rintro e w' ⟨rfl, rfl⟩) | go_in | (go_end0; simp only []; go_at_K))
      go_round
      case rel => exact ⟨j + 1, HLT.out, v_int (by have := HK.out; omega), v_int (by rw [HU.out, HG.out]), v_int (by omega)⟩
      case measure => have := HLT.out; simp [intOf]; omega
    · have hj' : j = cntM n d := by omega
      have hk' : ¬ ((d + 7 * j : Nat) : Int) < n := by omega
      have hj0 : (j : Int) ≠ 0 := by omega
      have hj21 : j ≤ 21 := by omega
      generalize hk : d + 7 * j = k at *
      clear hk
      have HJ := Lib.hid hj'
      have HV : Hid (meanR n xs d = sumTo (mG xs d) j / (j : Nat)) := Lib.hid (by rw [hj']; rfl)
      clear hj' hlt c3
      go_wp2_with (first | (go_at_call 137; refine (sIn _ _ _ _).mono ?_; rintro e w' ⟨rfl, rfl⟩) | (go_at_call 56; refine (iIn _ _ _ _).mono ?_; rintro e w' ⟨rfl, rfl⟩) | go_in | (go_end0; simp only []; go_at_K))
      go_ret
      exact ⟨ret_int HV.out.symm, rfl⟩
theorem iMeanOf (A : Option Addr) (n c : Nat) (xs : List Int) (d : Int) (w : World) (hn : n ≤ maxLen) (hx : ReadsI w A n xs) : Calls Try.prog 13 #[.slice A n c, .int .i64 d] w (Same (i64 (meanV n xs d)) w) := by
  cases h1 : salesB n xs
  · have HV : Hid (meanV n xs d = -1) := Lib.hid (by simp [meanV, h1])
    go_enter Try.func13, Try.ntmps13
    go_wp2_with (first | (go_at_call 137; refine (sIn _ _ _ _).mono ?_; rintro e w' ⟨rfl, rfl⟩) | (go_at_call 56; refine (iIn _ _ _ _).mono ?_; rintro e w' ⟨rfl, rfl⟩) | (go_at_call 16; refine (iSalesOk A n c xs _ hn hx).mono ?_; rintro e w' ⟨rfl, rfl⟩) | go_in | (go_end0; simp only []; go_at_K))
    go_ret
    exact ⟨ret_int HV.out.symm, rfl⟩
  cases h2 : inB d 0 6
  · have HV : Hid (meanV n xs d = -1) := Lib.hid (by simp [meanV, h2])
    go_enter Try.func13, Try.ntmps13
    go_wp2_with (first | (go_at_call 137; refine (sIn _ _ _ _).mono ?_; rintro e w' ⟨rfl, rfl⟩) | (go_at_call 56; refine (iIn _ _ _ _).mono ?_; rintro e w' ⟨rfl, rfl⟩) | (go_at_call 16; refine (iSalesOk A n c xs _ hn hx).mono ?_; rintro e w' ⟨rfl, rfl⟩) | go_in | (go_end0; simp only []; go_at_K))
    go_ret
    exact ⟨ret_int HV.out.symm, rfl⟩
  have HV : Hid (meanV n xs d = meanR n xs d.toNat) := Lib.hid (by simp [meanV, h1, h2])
  obtain ⟨d1, d2⟩ := inB_tt h2
  obtain ⟨d, rfl⟩ : ∃ m : Nat, d = m := ⟨d.toNat, by omega⟩
  go_enter Try.func13, Try.ntmps13
  go_wp2_with (first | (go_at_call 137; refine (sIn _ _ _ _).mono ?_; rintro e w' ⟨rfl, rfl⟩) | (go_at_call 56; refine (iIn _ _ _ _).mono ?_; rintro e w' ⟨rfl, rfl⟩) | (go_at_call 16; refine (iSalesOk A n c xs _ hn hx).mono ?_; rintro e w' ⟨rfl, rfl⟩) | (go_at_call 54; refine (imeanOn A n c xs d (by omega) _ h1 hx).mono ?_; rintro e w' ⟨rfl, rfl⟩) | go_in | (go_end0; simp only []; go_at_K))
  go_ret
  exact ⟨ret_int (by rw [HV.out]; rfl), rfl⟩
theorem iNextSales (A : Option Addr) (n c : Nat) (xs : List Int) (w : World) (hn : n ≤ maxLen) (hx : ReadsI w A n xs) : Calls Try.prog 12 #[.slice A n c] w (Same (i64 (meanV n xs ((n : Int) % 7))) w) := by
  have hn' := hn
  unfold maxLen at hn'
  go_enter Try.func12, Try.ntmps12
  go_wp2_with (first | (go_at_call 137; refine (sIn _ _ _ _).mono ?_; rintro e w' ⟨rfl, rfl⟩) | (go_at_call 56; refine (iIn _ _ _ _).mono ?_; rintro e w' ⟨rfl, rfl⟩) | (go_at_call 13; refine (iMeanOf A n c xs _ _ hn hx).mono ?_; rintro e w' ⟨rfl, rfl⟩) | go_in | (go_end0; simp only []; go_at_K))
  go_ret
  exact ⟨rfl, rfl⟩
end Go.Proofs.Ytolblfcpiddmbaa
