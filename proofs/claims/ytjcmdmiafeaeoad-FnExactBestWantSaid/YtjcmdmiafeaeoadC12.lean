/- Chapter 12: PiecesOk, SpreadOf. -/
import Derived.Test.YtjcmdmiafeaeoadAll
namespace Go.Proofs.Ytjcmdmiafeaeoad
open Go.ChangeShapes Go.WideShapes Go.ChangeAt Go.RowKit
set_option linter.unusedVariables false
set_option linter.unusedSimpArgs false

def piecesB (n : Nat) (xs : List Int) : Bool := decide (n ≤ 40) && allIn xs 1 5000 n
theorem pieces_at {n : Nat} {xs : List Int} (h : piecesB n xs = true) : n ≤ 40 ∧ ∀ i, i < n → 1 ≤ xs.getD i 0 ∧ xs.getD i 0 ≤ 5000 := by
  simp only [piecesB, Bool.and_eq_true, decide_eq_true_eq] at h
  exact ⟨h.1, allIn_at h.2⟩
set_option maxHeartbeats 1000000 in
theorem sPiecesOk (A : Option Addr) (n c : Nat) (xs : List Int) (w : World) (hn : n ≤ maxLen) (hx : ReadsI w A n xs) : Calls Try.prog 11 #[.slice A n c] w (Same (.bool (piecesB n xs)) w) := by
  unfold maxLen at hn
  go_enter Try.func11, Try.ntmps11
  go_wp2
  go_loop [3] (fun i => ∃ k : Nat, k ≤ n ∧ i = .int .i64 k ∧ (∀ i, i < k → inAt xs 1 5000 i = true)) (fun i => n - (intOf i).toNat)
  case atStart => exact ⟨0, Nat.zero_le _, rfl, fun i hi => absurd hi (Nat.not_lt_zero _)⟩
  case round =>
    obtain ⟨k, hk, rfl, ho⟩ := hrel
    have HO := Lib.hid ho
    clear ho
    by_cases hlt : k < n
    · obtain ⟨a, rfl, ha⟩ := hx.2 k hlt
      have HK : Hid (inAt xs 1 5000 k = inB (xs.getD k 0) 1 5000) := Lib.hid rfl
      generalize xs.getD k 0 = x at ha HK
      cases h1 : inB x 1 5000
      · have HF : Hid ((piecesB n xs) = false) := Lib.hid (by simp [piecesB, allIn_f k hlt (by rw [HK.out]; exact h1)])
        go_wp2_with (first | (go_at_call 12; refine (sIn _ _ _ _).mono ?_; rintro e w' ⟨rfl, rfl⟩) | (go_at_call 20; refine (iIn _ _ _ _).mono ?_; rintro e w' ⟨rfl, rfl⟩) | go_in | (go_end0; simp only []; go_at_K))
        go_ret
        exact ⟨ret_bool HF.out.symm, rfl⟩
      · have HT : Hid (inAt xs 1 5000 k = true) := Lib.hid (by rw [HK.out]; exact h1)
        go_wp2_with (first | (go_at_call 12; refine (sIn _ _ _ _).mono ?_; rintro e w' ⟨rfl, rfl⟩) | (go_at_call 20; refine (iIn _ _ _ _).mono ?_; rintro e w' ⟨rfl, rfl⟩) | go_in | (go_end0; simp only []; go_at_K))
        go_round
        case rel => exact ⟨k + 1, by omega, by go_num, fun i hi => by
            by_cases e : i = k
            · subst e; exact HT.out
            · exact HO.out i (by omega)⟩
        case measure => simp [intOf]; omega
    · obtain rfl : k = n := by omega
      have HT : Hid (allIn xs 1 5000 k = true) := Lib.hid (allIn_t HO.out)
      by_cases h4 : k ≤ 40
      · go_wp2
        go_ret
        exact ⟨ret_bool (by rw [piecesB, HT.out]; simp; omega), rfl⟩
      · have h4' : 40 < k := by omega
        go_wp2
        go_ret
        exact ⟨ret_bool (by rw [piecesB, HT.out]; simp; omega), rfl⟩
theorem iPiecesOk (A : Option Addr) (n c : Nat) (xs : List Int) (w : World) (hn : n ≤ maxLen) (hx : ReadsI w A n xs) : Calls Try.prog 14 #[.slice A n c] w (Same (.bool (piecesB n xs)) w) := by
  by_cases h4 : n ≤ 40
  · go_enter Try.func14, Try.ntmps14
    go_wp2_with fail
    refine (iAll A n c xs 1 5000 _ hn hx).mono ?_
    rintro _ _ ⟨rfl, rfl⟩
    go_wp2
    go_ret
    exact ⟨ret_bool (by simp [piecesB, h4]), rfl⟩
  · have h4' : 40 < n := by omega
    unfold maxLen at hn
    go_enter Try.func14, Try.ntmps14
    go_wp2
    go_ret
    exact ⟨ret_bool (by simp [piecesB, h4]), rfl⟩
end Go.Proofs.Ytjcmdmiafeaeoad
