/- Chapter 14: SalesOk, MeanOf, NextSales, BusiestDay. -/
import Derived.Test.YtlilmpclkhmkoacAll
import Derived.Test.YtlilmpclkhmkoacGi
import Derived.Test.YtlilmpclkhmkoacIntI
namespace Go.Proofs.Ytlilmpclkhmkoac
open Go.ChangeShapes Go.WideShapes Go.ChangeAt Go.RowKit
set_option linter.unusedVariables false
set_option linter.unusedSimpArgs false

def salesB (n : Nat) (xs : List Int) : Bool := inB n 7 140 && allIn xs 0 10000 n
theorem sales_at {n : Nat} {xs : List Int} (h : salesB n xs = true) : 7 ≤ n ∧ n ≤ 140 ∧ ∀ i, i < n → 0 ≤ xs.getD i 0 ∧ xs.getD i 0 ≤ 10000 := by
  simp only [salesB, Bool.and_eq_true] at h
  have h1 := inB_tt h.1
  exact ⟨by omega, by omega, allIn_at h.2⟩
set_option maxHeartbeats 1000000 in
theorem sSalesOk (A : Option Addr) (n c : Nat) (xs : List Int) (w : World) (hn : n ≤ maxLen) (hx : ReadsI w A n xs) : Calls Try.prog 28 #[.slice A n c] w (Same (.bool (salesB n xs)) w) := by
  unfold maxLen at hn
  go_enter Try.func28, Try.ntmps28
  go_wp2
  go_loop [3] (fun i => ∃ k : Nat, k ≤ n ∧ i = .int .i64 k ∧ (∀ i, i < k → inAt xs 0 10000 i = true)) (fun i => n - (intOf i).toNat)
  case atStart => exact ⟨0, Nat.zero_le _, rfl, fun i hi => absurd hi (Nat.not_lt_zero _)⟩
  case round =>
    obtain ⟨k, hk, rfl, ho⟩ := hrel
    have HO := Lib.hid ho
    clear ho
    by_cases hlt : k < n
    · obtain ⟨a, rfl, ha⟩ := hx.2 k hlt
      have HK : Hid (inAt xs 0 10000 k = inB (xs.getD k 0) 0 10000) := Lib.hid rfl
      generalize xs.getD k 0 = x at ha HK
      cases h1 : inB x 0 10000
      · have HF : Hid ((salesB n xs) = false) := Lib.hid (by simp [salesB, allIn_f k hlt (by rw [HK.out]; exact h1)])
        go_wp2_with (first | (go_at_call 39; refine (sIn _ _ _ _).mono ?_; rintro e w' ⟨rfl, rfl⟩) | (go_at_call 38; refine (iIn _ _ _ _).mono ?_; rintro e w' ⟨rfl, rfl⟩) | go_in | (go_end0; simp only []; go_at_K))
        go_ret
        exact ⟨ret_bool HF.out.symm, rfl⟩
      · have HT : Hid (inAt xs 0 10000 k = true) := Lib.hid (by rw [HK.out]; exact h1)
        go_wp2_with (first | (go_at_call 39; refine (sIn _ _ _ _).mono ?_; rintro e w' ⟨rfl, rfl⟩) | (go_at_call 38; refine (iIn _ _ _ _).mono ?_; rintro e w' ⟨rfl, rfl⟩) | go_in | (go_end0; simp only []; go_at_K))
        go_round
        case rel => exact ⟨k + 1, by omega, by go_num, fun i hi => by
            by_cases e : i = k
            · subst e; exact HT.out
            · exact HO.out i (by omega)⟩
        case measure => simp [intOf]; omega
    · obtain rfl : k = n := by omega
      have HT : Hid (allIn xs 0 10000 k = true) := Lib.hid (allIn_t HO.out)
      cases h4 : inB k 7 140
      all_goals
        go_wp2_with (first | (go_at_call 39; refine (sIn _ _ _ _).mono ?_; rintro e w' ⟨rfl, rfl⟩) | (go_at_call 38; refine (iIn _ _ _ _).mono ?_; rintro e w' ⟨rfl, rfl⟩) | go_in | (go_end0; simp only []; go_at_K))
        go_ret
        exact ⟨ret_bool (by rw [salesB, HT.out, h4]; rfl), rfl⟩
theorem iSalesOk (A : Option Addr) (n c : Nat) (xs : List Int) (w : World) (hn : n ≤ maxLen) (hx : ReadsI w A n xs) : Calls Try.prog 30 #[.slice A n c] w (Same (.bool (salesB n xs)) w) := by
  cases h4 : inB n 7 140
  all_goals
    go_enter Try.func30, Try.ntmps30
    go_wp2_with (first | (go_at_call 39; refine (sIn _ _ _ _).mono ?_; rintro e w' ⟨rfl, rfl⟩) | (go_at_call 38; refine (iIn _ _ _ _).mono ?_; rintro e w' ⟨rfl, rfl⟩) | (go_at_call 43; refine (iAll A n c xs 0 10000 _ hn hx).mono ?_; rintro e w' ⟨rfl, rfl⟩) | go_in | (go_end0; simp only []; go_at_K))
    go_ret
    exact ⟨ret_bool (by simp [salesB, h4]), rfl⟩
def mG (xs : List Int) (d : Nat) (j : Nat) : Int := xs.getD (d + 7 * j) 0
def cntM (n d : Nat) : Nat := (n - d + 6) / 7
def meanR (n : Nat) (xs : List Int) (d : Nat) : Int := sumTo (mG xs d) (cntM n d) / (cntM n d : Nat)
def meanV (n : Nat) (xs : List Int) (d : Int) : Int := if salesB n xs && inB d 0 6 then meanR n xs d.toNat else -1
theorem mean_in {n : Nat} {xs : List Int} (h : salesB n xs = true) (d : Nat) (hd : d ≤ 6) : 0 ≤ meanR n xs d ∧ meanR n xs d ≤ 10000 := by
  obtain ⟨h1, h2, h3⟩ := sales_at h
  have hc : 1 ≤ cntM n d ∧ cntM n d ≤ 21 := by unfold cntM; omega
  have hb := sumTo_bd (mG xs d) 10000 (cntM n d) fun i hi => h3 _ (by unfold cntM at hi; omega)
  unfold meanR
  refine ⟨Int.ediv_nonneg hb.1 (by omega), ?_⟩
  have h5 : sumTo (mG xs d) (cntM n d) / (cntM n d : Nat) ≤ (cntM n d : Nat) * 10000 / (cntM n d : Nat) := Int.ediv_le_ediv (by omega) hb.2
  rw [Int.mul_ediv_cancel_left _ (by omega)] at h5
  exact h5
theorem meanV_in (n : Nat) (xs : List Int) (d : Int) : -1 ≤ meanV n xs d ∧ meanV n xs d ≤ 10000 := by
  unfold meanV
  split
  · rename_i h
    simp only [Bool.and_eq_true] at h
    have h2 := inB_tt h.2
    have := mean_in h.1 d.toNat (by omega)
    omega
  · omega
end Go.Proofs.Ytlilmpclkhmkoac
