/- Chapter 16: NeedsNoCleaning. -/
import Derived.Test.YtkciaoignkondaaAll
import Derived.Test.YtkciaoignkondaaBits
import Derived.Test.YtkciaoignkondaaIntE
import Derived.Test.YtkciaoignkondaaQuiet
import Derived.BigQuiet
import Derived.Deep.QuietTactic
namespace Go.Proofs.Ytkciaoignkondaa
open Go.ChangeShapes Go.WideShapes Go.ChangeAt Go.RowKit
set_option linter.unusedVariables false
set_option linter.unusedSimpArgs false

def doughsB (n : Nat) (xs : List Int) (m : Int) : Bool := allIn xs 0 255 n && decide ((n : Int) ≤ m)
theorem ithingsOk (A : Option Addr) (n c : Nat) (xs : List Int) (w : World) (hn : n ≤ maxLen) (hx : ReadsI w A n xs) : Calls Try.prog 39 #[.slice A n c] w (Same (.bool (allIn xs 0 255 n)) w) := by
  go_enter Try.func39, Try.ntmps39
  go_wp2_with fail
  refine (iAll A n c xs 0 255 _ hn hx).mono ?_
  rintro _ _ ⟨rfl, rfl⟩
  go_wp2
  go_ret
  exact ⟨ret_bool rfl, rfl⟩
set_option maxHeartbeats 1000000 in
theorem sl16Ok (A : Option Addr) (n c : Nat) (xs : List Int) (m : Int) (w : World) (hn : n ≤ maxLen) (hx : ReadsI w A n xs) : Calls Try.prog 38 #[.slice A n c, .int .i64 m] w (Same (.bool (doughsB n xs m)) w) := by
  unfold maxLen at hn
  go_enter Try.func38, Try.ntmps38
  go_wp2
  go_loop [5] (fun i => ∃ k : Nat, k ≤ n ∧ i = .int .i64 k ∧ (∀ i, i < k → inAt xs 0 255 i = true)) (fun i => n - (intOf i).toNat)
  case atStart => exact ⟨0, Nat.zero_le _, rfl, fun i hi => absurd hi (Nat.not_lt_zero _)⟩
  case round =>
    obtain ⟨k, hk, rfl, ho⟩ := hrel
    have HO := Lib.hid ho
    clear ho
    by_cases hlt : k < n
    · obtain ⟨a, rfl, ha⟩ := hx.2 k hlt
      have HK : Hid (inAt xs 0 255 k = inB (xs.getD k 0) 0 255) := Lib.hid rfl
      generalize xs.getD k 0 = x at ha HK
      cases h1 : inB x 0 255
      · have HF : Hid ((doughsB n xs m) = false) := Lib.hid (by simp [doughsB, allIn_f k hlt (by rw [HK.out]; exact h1)])
        go_wp2_with (first | (go_at_call 40; refine (sIn _ _ _ _).mono ?_; rintro e w' ⟨rfl, rfl⟩) | (go_at_call 42; refine (iIn _ _ _ _).mono ?_; rintro e w' ⟨rfl, rfl⟩) | go_in | (go_end0; simp only []; go_at_K))
        go_ret
        exact ⟨ret_bool HF.out.symm, rfl⟩
      · have HT : Hid (inAt xs 0 255 k = true) := Lib.hid (by rw [HK.out]; exact h1)
        go_wp2_with (first | (go_at_call 40; refine (sIn _ _ _ _).mono ?_; rintro e w' ⟨rfl, rfl⟩) | (go_at_call 42; refine (iIn _ _ _ _).mono ?_; rintro e w' ⟨rfl, rfl⟩) | go_in | (go_end0; simp only []; go_at_K))
        go_round
        case rel => exact ⟨k + 1, by omega, by go_num, fun i hi => by
            by_cases e : i = k
            · subst e; exact HT.out
            · exact HO.out i (by omega)⟩
        case measure => simp [intOf]; omega
    · obtain rfl : k = n := by omega
      have HT : Hid (allIn xs 0 255 k = true) := Lib.hid (allIn_t HO.out)
      by_cases h4 : (k : Int) ≤ m
      all_goals
        go_wp2
        go_ret
        exact ⟨ret_bool (by rw [doughsB, HT.out]; simp [h4]), rfl⟩
def pairB (xs : List Int) (i k : Nat) : Bool := hasB (xs.getD i 0) (xs.getD k 0) || hasB (xs.getD k 0) (xs.getD i 0)
def rowB (xs : List Int) (i : Nat) : Bool := allOk (pairB xs i) i
def needsB (n : Nat) (xs : List Int) : Bool := doughsB n xs 8 && allOk (rowB xs) n
theorem doughs_at {n : Nat} {xs : List Int} {m : Int} (h : doughsB n xs m = true) : (n : Int) ≤ m ∧ ∀ i, i < n → 0 ≤ xs.getD i 0 ∧ xs.getD i 0 ≤ 255 := by
  simp only [doughsB, Bool.and_eq_true, decide_eq_true_eq] at h
  exact ⟨h.2, allIn_at h.1⟩
theorem needs_f {n : Nat} {xs : List Int} (i k : Nat) (hi : i < n) (hk : k < i) (h : pairB xs i k = false) : needsB n xs = false := by
  rw [needsB, allOk_f _ _ i hi (show rowB xs i = false from allOk_f _ _ k hk h), Bool.and_false]
end Go.Proofs.Ytkciaoignkondaa
