/- Chapter 32: LengthsOk. -/
import Derived.Test.YthadanmiomeehabAll
namespace Go.Proofs.Ythadanmiomeehab
open Go.ChangeShapes Go.WideShapes Go.ChangeAt Go.RowKit
set_option linter.unusedVariables false
set_option linter.unusedSimpArgs false
set_option maxHeartbeats 2000000

def lenB (n : Nat) (xs : List Int) (s : Int) : Bool := allIn xs 1 s n && inB s 1 200 && decide (n ≤ 12)
theorem len_at {n : Nat} {xs : List Int} {s : Int} (h : lenB n xs s = true) : n ≤ 12 ∧ 1 ≤ s ∧ s ≤ 200 ∧ ∀ i, i < n → 1 ≤ xs.getD i 0 ∧ xs.getD i 0 ≤ s := by
  simp only [lenB, Bool.and_eq_true, decide_eq_true_eq] at h
  have := inB_tt h.1.2
  exact ⟨h.2, this.1, this.2, allIn_at h.1.1⟩
set_option maxHeartbeats 1000000 in
theorem sLengthsOk (A : Option Addr) (n c : Nat) (xs : List Int) (s : Int) (w : World) (hn : n ≤ maxLen) (hx : ReadsI w A n xs) : Calls Try.prog 45 #[.slice A n c, .int .i64 s] w (Same (.bool (lenB n xs s)) w) := by
  unfold maxLen at hn
  go_enter Try.func45, Try.ntmps45
  go_wp2
  go_loop [5] (fun i => ∃ k : Nat, k ≤ n ∧ i = .int .i64 k ∧ (∀ i, i < k → inAt xs 1 s i = true)) (fun i => n - (intOf i).toNat)
  case atStart => exact ⟨0, Nat.zero_le _, rfl, fun i hi => absurd hi (Nat.not_lt_zero _)⟩
  case round =>
    obtain ⟨k, hk, rfl, ho⟩ := hrel
    have HO := Lib.hid ho
    clear ho
    by_cases hlt : k < n
    · obtain ⟨a, rfl, ha⟩ := hx.2 k hlt
      have HK : Hid (inAt xs 1 s k = inB (xs.getD k 0) 1 s) := Lib.hid rfl
      generalize xs.getD k 0 = x at ha HK
      cases h1 : inB x 1 s
      · have HF : Hid ((lenB n xs s) = false) := Lib.hid (by simp [lenB, allIn_f k hlt (by rw [HK.out]; exact h1)])
        go_wp2_with (first | (go_at_call 46; refine (sIn _ _ _ _).mono ?_; rintro e w' ⟨rfl, rfl⟩) | (go_at_call 56; refine (iIn _ _ _ _).mono ?_; rintro e w' ⟨rfl, rfl⟩) | go_in | (go_end0; simp only []; go_at_K))
        go_ret
        exact ⟨ret_bool HF.out.symm, rfl⟩
      · have HT : Hid (inAt xs 1 s k = true) := Lib.hid (by rw [HK.out]; exact h1)
        go_wp2_with (first | (go_at_call 46; refine (sIn _ _ _ _).mono ?_; rintro e w' ⟨rfl, rfl⟩) | (go_at_call 56; refine (iIn _ _ _ _).mono ?_; rintro e w' ⟨rfl, rfl⟩) | go_in | (go_end0; simp only []; go_at_K))
        go_round
        case rel => exact ⟨k + 1, by omega, by go_num, fun i hi => by
            by_cases e : i = k
            · subst e; exact HT.out
            · exact HO.out i (by omega)⟩
        case measure => simp [intOf]; omega
    · obtain rfl : k = n := by omega
      have HT : Hid (allIn xs 1 s k = true) := Lib.hid (allIn_t HO.out)
      cases h1 : inB s 1 200
      · have HV : Hid (lenB k xs s = false) := Lib.hid (by simp [lenB, h1])
        go_wp2_with (first | (go_at_call 46; refine (sIn _ _ _ _).mono ?_; rintro e w' ⟨rfl, rfl⟩) | (go_at_call 56; refine (iIn _ _ _ _).mono ?_; rintro e w' ⟨rfl, rfl⟩))
        go_ret
        exact ⟨ret_bool HV.out.symm, rfl⟩
      have HV : Hid (lenB k xs s = decide (k ≤ 12)) := Lib.hid (by simp [lenB, h1, HT.out])
      by_cases h12 : k ≤ 12
      all_goals
        go_wp2_with (first | (go_at_call 46; refine (sIn _ _ _ _).mono ?_; rintro e w' ⟨rfl, rfl⟩) | (go_at_call 56; refine (iIn _ _ _ _).mono ?_; rintro e w' ⟨rfl, rfl⟩))
        go_ret
        exact ⟨ret_bool (by rw [HV.out]; simp [h12]; try omega), rfl⟩
theorem iLengthsOk (A : Option Addr) (n c : Nat) (xs : List Int) (s : Int) (w : World) (hn : n ≤ maxLen) (hx : ReadsI w A n xs) : Calls Try.prog 47 #[.slice A n c, .int .i64 s] w (Same (.bool (lenB n xs s)) w) := by
  have hn' := hn
  unfold maxLen at hn
  cases h1 : inB s 1 200
  · have HV : Hid (lenB n xs s = false) := Lib.hid (by simp [lenB, h1])
    go_enter Try.func47, Try.ntmps47
    go_wp2_with (first | (go_at_call 46; refine (sIn _ _ _ _).mono ?_; rintro e w' ⟨rfl, rfl⟩) | (go_at_call 56; refine (iIn _ _ _ _).mono ?_; rintro e w' ⟨rfl, rfl⟩))
    go_ret
    exact ⟨ret_bool HV.out.symm, rfl⟩
  by_cases h12 : n ≤ 12
  · have HV : Hid (lenB n xs s = allIn xs 1 s n) := Lib.hid (by simp [lenB, h1, h12])
    go_enter Try.func47, Try.ntmps47
    go_wp2_with (first | (go_at_call 46; refine (sIn _ _ _ _).mono ?_; rintro e w' ⟨rfl, rfl⟩) | (go_at_call 56; refine (iIn _ _ _ _).mono ?_; rintro e w' ⟨rfl, rfl⟩) | (go_at_call 53; (with_reducible refine (iAll A n c xs 1 s _ hn' hx).mono ?_); rintro e w' ⟨rfl, rfl⟩))
    go_ret
    exact ⟨ret_bool HV.out.symm, rfl⟩
  · have HV : Hid (lenB n xs s = false) := Lib.hid (by simp [lenB, h12])
    have h13 : 12 < n := by omega
    go_enter Try.func47, Try.ntmps47
    go_wp2_with (first | (go_at_call 46; refine (sIn _ _ _ _).mono ?_; rintro e w' ⟨rfl, rfl⟩) | (go_at_call 56; refine (iIn _ _ _ _).mono ?_; rintro e w' ⟨rfl, rfl⟩))
    go_ret
    exact ⟨ret_bool HV.out.symm, rfl⟩
end Go.Proofs.Ythadanmiomeehab
