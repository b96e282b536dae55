/- Chapter 14: SalesOk, MeanOf, NextSales, BusiestDay. -/
import Derived.Test.YtlilmpclkhmkoabAll
import Derived.Test.YtlilmpclkhmkoabGi
import Derived.Test.YtlilmpclkhmkoabIntI
namespace Go.Proofs.Ytlilmpclkhmkoab
open Go.ChangeShapes Go.WideShapes Go.ChangeAt Go.RowKit
set_option linter.unusedVariables false
set_option linter.unusedSimpArgs false

def salesB (n : Nat) (xs : List Int) : Bool := inB n 7 140 && allIn xs 0 10000 n
theorem sales_at {n : Nat} {xs : List Int} (h : salesB n xs = true) : 7 ≤ n ∧ n ≤ 140 ∧ ∀ i, i < n → 0 ≤ xs.getD i 0 ∧ xs.getD i 0 ≤ 10000 := by
  simp only [salesB, Bool.and_eq_true] at h
  have h1 := inB_tt h.1
  exact ⟨by omega, by omega, allIn_at h.2⟩
set_option maxHeartbeats 1000000 in
theorem sSalesOk (A : Option Addr) (n c : Nat) (xs : List Int) (w : World) (hn : n ≤ maxLen) (hx : ReadsI w A n xs) : Calls Try.prog 17 #[.slice A n c] w (Same (.bool (salesB n xs)) w) := by
  unfold maxLen at hn
  go_enter Try.func17, Try.ntmps17
  go_wp2
  go_loop [3] (fun i => ∃ k : Nat, k ≤ n ∧ i = .int .i64 k ∧ (∀ i, i < k → inAt xs 0 10000 i = true)) (fun i => n - (intOf i).toNat)
  case atStart => exact ⟨0, Nat.zero_le _, rfl, fun i hi => absurd hi (Nat.not_lt_zero _)⟩
  case round =>
    obtain ⟨k, hk, rfl, ho⟩ := hrel
    have HO := Lib.hid ho
    clear ho
    by_cases hlt : k < n
    · obtain ⟨a, rfl, ha⟩ := hx.2 k hlt
      have HK : Hid (inAt xs 0 10000 k = inB (xs.getD k 0) 0 10000) := Lib.hid rfl
      generalize xs.getD k 0 = x at ha HK
      cases h1 : inB x 0 10000
      · have HF : Hid ((salesB n xs) = false) := Lib.hid (by simp [salesB, allIn_f k hlt (by rw [HK.out]; exact h1)])
        go_wp2_with (first | (go_at_call 32; refine (sIn _ _ _ _).mono ?_; rintro e w' ⟨rfl, rfl⟩) | (go_at_call 28; refine (iIn _ _ _ _).mono ?_; rintro e w' ⟨rfl, rfl⟩) | go_in | (go_end0; simp only []; go_at_K))
        go_ret
        exact ⟨ret_bool HF.out.symm, rfl⟩
      · have HT : Hid (inAt xs 0 10000 k = true) := Lib.hid (by rw [HK.out]; exact h1)
        go_wp2_with (first | (go_at_call 32; refine (sIn _ _ _ _).mono ?_; rintro e w' ⟨rfl, rfl⟩) | (go_at_call 28; refine (iIn _ _ _ _).mono ?_; rintro e w' ⟨rfl, rfl⟩) | go_in | (go_end0; simp only []; go_at_K))
        go_round
        case rel => exact ⟨k + 1, by omega, by go_num, fun i hi => by
            by_cases e : i = k
            · subst e; exact HT.out
            · exact HO.out i (by omega)⟩
        case measure => simp [intOf]; omega
    · obtain rfl : k = n := by omega
      have HT : Hid (allIn xs 0 10000 k = true) := Lib.hid (allIn_t HO.out)
      cases h4 : inB k 7 140
      all_goals
        go_wp2_with (first | (go_at_call 32; refine (sIn _ _ _ _).mono ?_; rintro e w' ⟨rfl, rfl⟩) | (go_at_call 28; refine (iIn _ _ _ _).mono ?_; rintro e w' ⟨rfl, rfl⟩) | go_in | (go_end0; simp only []; go_at_K))
        go_ret
        exact ⟨ret_bool (by rw [salesB, HT.out, h4]; rfl), rfl⟩
theorem iSalesOk (A : Option Addr) (n c : Nat) (xs : List Int) (w : World) (hn : n ≤ maxLen) (hx : ReadsI w A n xs) : Calls Try.prog 16 #[.slice A n c] w (Same (.bool (salesB n xs)) w) := by
  cases h4 : inB n 7 140
  all_goals
    go_enter Try.func16, Try.ntmps16
    go_wp2_with (first | (go_at_call 32; refine (sIn _ _ _ _).mono ?_; rintro e w' ⟨rfl, rfl⟩) | (go_at_call 28; refine (iIn _ _ _ _).mono ?_; rintro e w' ⟨rfl, rfl⟩) | (go_at_call 31; refine (iAll A n c xs 0 10000 _ hn hx).mono ?_; rintro e w' ⟨rfl, rfl⟩) | go_in | (go_end0; simp only []; go_at_K))
    go_ret
    exact ⟨ret_bool (by simp [salesB, h4]), rfl⟩
def mG (xs : List Int) (d : Nat) (j : Nat) : Int := xs.getD (d + 7 * j) 0
def cntM (n d : Nat) : Nat := (n - d + 6) / 7
def meanR (n : Nat) (xs : List Int) (d : Nat) : Int := sumTo (mG xs d) (cntM n d) / (cntM n d : Nat)
def meanV (n : Nat) (xs : List Int) (d : Int) : Int := if salesB n xs && inB d 0 6 then meanR n xs d.toNat else -1
theorem mean_in {n : Nat} {xs : List Int} (h : salesB n xs = true) (d : Nat) (hd : d ≤ 6) : 0 ≤ meanR n xs d ∧ meanR n xs d ≤ 10000 := by
  obtain ⟨h1, h2, h3⟩ := sales_at h
  have hc : 1 ≤ cntM n d ∧ cntM n d ≤ 21 := by unfold cntM; omega
  have hb := sumTo_bd (mG xs d) 10000 (cntM n d) fun i hi => h3 _ (by unfold cntM at hi; omega)
  unfold meanR
  refine ⟨Int.ediv_nonneg hb.1 (by omega), ?_⟩
  have h5 : sumTo (mG xs d) (cntM n d) / (cntM n d : Nat) ≤ (cntM n d : Nat) * 10000 / (cntM n d : Nat) := Int.ediv_le_ediv (by omega) hb.2
  rw [Int.mul_ediv_cancel_left _ (by omega)] at h5
  exact h5
theorem meanV_in (n : Nat) (xs : List Int) (d : Int) : -1 ≤ meanV n xs d ∧ meanV n xs d ≤ 10000 := by
  unfold meanV
  split
  · rename_i h
    simp only [Bool.and_eq_true] at h
    have h2 := inB_tt h.2
    have := mean_in h.1 d.toNat (by omega)
    omega
  · omega
set_option maxHeartbeats 1000000 in
theorem imeanOn (A : Option Addr) (n c : Nat) (xs : List Int) (d : Nat) (hd : d ≤ 6) (w : World) (hs : salesB n xs = true) (hx : ReadsI w A n xs) : Calls Try.prog 26 #[.slice A n c, .int .i64 (d : Int)] w (Same (i64 (meanR n xs d)) w) := by
  obtain ⟨s1, s2, s3⟩ := sales_at hs
  have HS := Lib.hid s3
  clear s3 hs
  go_enter Try.func26, Try.ntmps26
  go_wp2
  go_loop [5, 6, 7] (fun s m i => ∃ j : Nat, j ≤ cntM n d ∧ i = .int .i64 ((d + 7 * j : Nat) : Int) ∧ s = .int .i64 (sumTo (mG xs d) j) ∧ m = .int .i64 j) (fun _ m _ => cntM n d - (intOf m).toNat)
  case atStart => exact ⟨0, Nat.zero_le _, rfl, rfl, rfl⟩
  case round =>
    obtain ⟨j, hj, rfl, rfl, rfl⟩ := hrel
    have hc : 1 ≤ cntM n d ∧ cntM n d ≤ 21 ∧ (d + 7 * j < n ↔ j < cntM n d) := by unfold cntM; omega
    obtain ⟨c1, c2, c3⟩ := hc
    obtain ⟨b1, b2⟩ := sumTo_bd (mG xs d) 10000 j fun i hi => HS.out _ (by unfold cntM at *; omega)
    by_cases hlt : j < cntM n d
    · have hkn : d + 7 * j < n := c3.2 hlt
      have HU := Lib.hid (sumTo_succ (mG xs d) j)
      obtain ⟨a, rfl, ha⟩ := hx.2 (d + 7 * j) hkn
      obtain ⟨x1, x2⟩ := HS.out (d + 7 * j) hkn
      have HG : Hid (mG xs d j = xs.getD (d + 7 * j) 0) := Lib.hid rfl
      have hk' : ((d + 7 * j : Nat) : Int) < n := by omega
      generalize hk : d + 7 * j = k at *
      have HK := Lib.hid hk
      have hk9 : k ≤ 140 := by omega
      generalize xs.getD k 0 = x at ha x1 x2 HG
      have hj21 : j ≤ 21 := by omega
      have HLT : Hid (j + 1 ≤ cntM n d) := Lib.hid hlt
      clear hk hlt c3
      go_wp2_with (first | (go_at_call 32; refine (sIn _ _ _ _).mono ?_; rintro e w' ⟨rfl, rfl⟩) | (go_at_call 28; refine (iIn _ _ _ _).mono ?_; rintro e w' ⟨rfl, rfl⟩) | go_in | (go_end0; simp only []; go_at_K))
      go_round
      case rel => exact ⟨j + 1, HLT.out, v_int (by have := HK.out; omega), v_int (by rw [HU.out, HG.out]), v_int (by omega)⟩
      case measure => have := HLT.out; simp [intOf]; omega
    · have hj' : j = cntM n d := by omega
      have hk' : ¬ ((d + 7 * j : Nat) : Int) < n := by omega
      have hj0 : (j : Int) ≠ 0 := by omega
      have hj21 : j ≤ 21 := by omega
      generalize hk : d + 7 * j = k at *
      clear hk
      have HJ := Lib.hid hj'
      have HV : Hid (meanR n xs d = sumTo (mG xs d) j / (j : Nat)) := Lib.hid (by rw [hj']; rfl)
      clear hj' hlt c3
      go_wp2_with (first | (go_at_call 32; refine (sIn _ _ _ _).mono ?_; rintro e w' ⟨rfl, rfl⟩) | (go_at_call 28; refine (iIn _ _ _ _).mono ?_; rintro e w' ⟨rfl, rfl⟩) | go_in | (go_end0; simp only []; go_at_K))
      go_ret
      exact ⟨ret_int HV.out.symm, rfl⟩
theorem iMeanOf (A : Option Addr) (n c : Nat) (xs : List Int) (d : Int) (w : World) (hn : n ≤ maxLen) (hx : ReadsI w A n xs) : Calls Try.prog 13 #[.slice A n c, .int .i64 d] w (Same (i64 (meanV n xs d)) w) := by
  cases h1 : salesB n xs
  · have HV : Hid (meanV n xs d = -1) := Lib.hid (by simp [meanV, h1])
    go_enter Try.func13, Try.ntmps13
    go_wp2_with (first | (go_at_call 32; refine (sIn _ _ _ _).mono ?_; rintro e w' ⟨rfl, rfl⟩) | (go_at_call 28; refine (iIn _ _ _ _).mono ?_; rintro e w' ⟨rfl, rfl⟩) | (go_at_call 16; refine (iSalesOk A n c xs _ hn hx).mono ?_; rintro e w' ⟨rfl, rfl⟩) | go_in | (go_end0; simp only []; go_at_K))
    go_ret
    exact ⟨ret_int HV.out.symm, rfl⟩
  cases h2 : inB d 0 6
  · have HV : Hid (meanV n xs d = -1) := Lib.hid (by simp [meanV, h2])
    go_enter Try.func13, Try.ntmps13
    go_wp2_with (first | (go_at_call 32; refine (sIn _ _ _ _).mono ?_; rintro e w' ⟨rfl, rfl⟩) | (go_at_call 28; refine (iIn _ _ _ _).mono ?_; rintro e w' ⟨rfl, rfl⟩) | (go_at_call 16; refine (iSalesOk A n c xs _ hn hx).mono ?_; rintro e w' ⟨rfl, rfl⟩) | go_in | (go_end0; simp only []; go_at_K))
    go_ret
    exact ⟨ret_int HV.out.symm, rfl⟩
  have HV : Hid (meanV n xs d = meanR n xs d.toNat) := Lib.hid (by simp [meanV, h1, h2])
  obtain ⟨d1, d2⟩ := inB_tt h2
  obtain ⟨d, rfl⟩ : ∃ m : Nat, d = m := ⟨d.toNat, by omega⟩
  go_enter Try.func13, Try.ntmps13
  go_wp2_with (first | (go_at_call 32; refine (sIn _ _ _ _).mono ?_; rintro e w' ⟨rfl, rfl⟩) | (go_at_call 28; refine (iIn _ _ _ _).mono ?_; rintro e w' ⟨rfl, rfl⟩) | (go_at_call 16; refine (iSalesOk A n c xs _ hn hx).mono ?_; rintro e w' ⟨rfl, rfl⟩) | (go_at_call 26; refine (imeanOn A n c xs d (by omega) _ h1 hx).mono ?_; rintro e w' ⟨rfl, rfl⟩) | go_in | (go_end0; simp only []; go_at_K))
  go_ret
  exact ⟨ret_int (by rw [HV.out]; rfl), rfl⟩
set_option maxHeartbeats 1000000 in
theorem sMeanOf (A : Option Addr) (n c : Nat) (xs : List Int) (d : Int) (w : World) (hn : n ≤ maxLen) (hx : ReadsI w A n xs) : Calls Try.prog 20 #[.slice A n c, .int .i64 d] w (Same (i64 (meanV n xs d)) w) := by
  cases h1 : salesB n xs
  · have HV : Hid (meanV n xs d = -1) := Lib.hid (by simp [meanV, h1])
    go_enter Try.func20, Try.ntmps20
    go_wp2_with (first | (go_at_call 32; refine (sIn _ _ _ _).mono ?_; rintro e w' ⟨rfl, rfl⟩) | (go_at_call 28; refine (iIn _ _ _ _).mono ?_; rintro e w' ⟨rfl, rfl⟩) | (go_at_call 17; refine (sSalesOk A n c xs _ hn hx).mono ?_; rintro e w' ⟨rfl, rfl⟩) | go_in | (go_end0; simp only []; go_at_K))
    go_ret
    exact ⟨ret_int HV.out.symm, rfl⟩
  cases h2 : inB d 0 6
  · have HV : Hid (meanV n xs d = -1) := Lib.hid (by simp [meanV, h2])
    go_enter Try.func20, Try.ntmps20
    go_wp2_with (first | (go_at_call 32; refine (sIn _ _ _ _).mono ?_; rintro e w' ⟨rfl, rfl⟩) | (go_at_call 28; refine (iIn _ _ _ _).mono ?_; rintro e w' ⟨rfl, rfl⟩) | (go_at_call 17; refine (sSalesOk A n c xs _ hn hx).mono ?_; rintro e w' ⟨rfl, rfl⟩) | go_in | (go_end0; simp only []; go_at_K))
    go_ret
    exact ⟨ret_int HV.out.symm, rfl⟩
  have HV0 : Hid (meanV n xs d = meanR n xs d.toNat) := Lib.hid (by simp [meanV, h1, h2])
  obtain ⟨d1, d2⟩ := inB_tt h2
  obtain ⟨d, rfl⟩ : ∃ m : Nat, d = m := ⟨d.toNat, by omega⟩
  obtain ⟨s1, s2, s3⟩ := sales_at h1
  have HS := Lib.hid s3
  clear s3
  go_enter Try.func20, Try.ntmps20
  go_wp2_with (first | (go_at_call 32; refine (sIn _ _ _ _).mono ?_; rintro e w' ⟨rfl, rfl⟩) | (go_at_call 28; refine (iIn _ _ _ _).mono ?_; rintro e w' ⟨rfl, rfl⟩) | (go_at_call 17; refine (sSalesOk A n c xs _ hn hx).mono ?_; rintro e w' ⟨rfl, rfl⟩) | go_in | (go_end0; simp only []; go_at_K))
  clear h1 h2
  go_loop [5, 6, 7] (fun s m i => ∃ j : Nat, j ≤ cntM n d ∧ i = .int .i64 ((d + 7 * j : Nat) : Int) ∧ s = .int .i64 (sumTo (mG xs d) j) ∧ m = .int .i64 j) (fun _ m _ => cntM n d - (intOf m).toNat)
  case atStart => exact ⟨0, Nat.zero_le _, rfl, rfl, rfl⟩
  case round =>
    obtain ⟨j, hj, rfl, rfl, rfl⟩ := hrel
    have hc : 1 ≤ cntM n d ∧ cntM n d ≤ 21 ∧ (d + 7 * j < n ↔ j < cntM n d) := by unfold cntM; omega
    obtain ⟨c1, c2, c3⟩ := hc
    obtain ⟨b1, b2⟩ := sumTo_bd (mG xs d) 10000 j fun i hi => HS.out _ (by unfold cntM at *; omega)
    by_cases hlt : j < cntM n d
    · have hkn : d + 7 * j < n := c3.2 hlt
      have HU := Lib.hid (sumTo_succ (mG xs d) j)
      obtain ⟨a, rfl, ha⟩ := hx.2 (d + 7 * j) hkn
      obtain ⟨x1, x2⟩ := HS.out (d + 7 * j) hkn
      have HG : Hid (mG xs d j = xs.getD (d + 7 * j) 0) := Lib.hid rfl
      have hk' : ((d + 7 * j : Nat) : Int) < n := by omega
      generalize hk : d + 7 * j = k at *
      have HK := Lib.hid hk
      have hk9 : k ≤ 140 := by omega
      generalize xs.getD k 0 = x at ha x1 x2 HG
      have hj21 : j ≤ 21 := by omega
      have HLT : Hid (j + 1 ≤ cntM n d) := Lib.hid hlt
      clear hk hlt c3
      go_wp2_with (first | (go_at_call 32; refine (sIn _ _ _ _).mono ?_; rintro e w' ⟨rfl, rfl⟩) | (go_at_call 28; refine (iIn _ _ _ _).mono ?_; rintro e w' ⟨rfl, rfl⟩) | go_in | (go_end0; simp only []; go_at_K))
      go_round
      case rel => exact ⟨j + 1, HLT.out, v_int (by have := HK.out; omega), v_int (by rw [HU.out, HG.out]), v_int (by omega)⟩
      case measure => have := HLT.out; simp [intOf]; omega
    · have hj' : j = cntM n d := by omega
      have hk' : ¬ ((d + 7 * j : Nat) : Int) < n := by omega
      have hj0 : (j : Int) ≠ 0 := by omega
      have hj21 : j ≤ 21 := by omega
      generalize hk : d + 7 * j = k at *
      clear hk
      have HJ := Lib.hid hj'
      have HV : Hid (meanR n xs d = sumTo (mG xs d) j / (j : Nat)) := Lib.hid (by rw [hj']; rfl)
      clear hj' hlt c3
      go_wp2_with (first | (go_at_call 32; refine (sIn _ _ _ _).mono ?_; rintro e w' ⟨rfl, rfl⟩) | (go_at_call 28; refine (iIn _ _ _ _).mono ?_; rintro e w' ⟨rfl, rfl⟩) | go_in | (go_end0; simp only []; go_at_K))
      go_ret
      exact ⟨ret_int (by rw [HV0.out]; exact HV.out.symm), rfl⟩
theorem sNextSales (A : Option Addr) (n c : Nat) (xs : List Int) (w : World) (hn : n ≤ maxLen) (hx : ReadsI w A n xs) : Calls Try.prog 21 #[.slice A n c] w (Same (i64 (meanV n xs ((n : Int) % 7))) w) := by
  have hn' := hn
  unfold maxLen at hn'
  go_enter Try.func21, Try.ntmps21
  go_wp2_with (first | (go_at_call 32; refine (sIn _ _ _ _).mono ?_; rintro e w' ⟨rfl, rfl⟩) | (go_at_call 28; refine (iIn _ _ _ _).mono ?_; rintro e w' ⟨rfl, rfl⟩) | (go_at_call 20; refine (sMeanOf A n c xs _ _ hn hx).mono ?_; rintro e w' ⟨rfl, rfl⟩) | go_in | (go_end0; simp only []; go_at_K))
  go_ret
  exact ⟨rfl, rfl⟩
theorem iNextSales (A : Option Addr) (n c : Nat) (xs : List Int) (w : World) (hn : n ≤ maxLen) (hx : ReadsI w A n xs) : Calls Try.prog 12 #[.slice A n c] w (Same (i64 (meanV n xs ((n : Int) % 7))) w) := by
  have hn' := hn
  unfold maxLen at hn'
  go_enter Try.func12, Try.ntmps12
  go_wp2_with (first | (go_at_call 32; refine (sIn _ _ _ _).mono ?_; rintro e w' ⟨rfl, rfl⟩) | (go_at_call 28; refine (iIn _ _ _ _).mono ?_; rintro e w' ⟨rfl, rfl⟩) | (go_at_call 13; refine (iMeanOf A n c xs _ _ hn hx).mono ?_; rintro e w' ⟨rfl, rfl⟩) | go_in | (go_end0; simp only []; go_at_K))
  go_ret
  exact ⟨rfl, rfl⟩
end Go.Proofs.Ytlilmpclkhmkoab
