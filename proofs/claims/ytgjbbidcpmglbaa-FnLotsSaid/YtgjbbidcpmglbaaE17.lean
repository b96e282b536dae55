/- Chapter 17: BreadsOf, LotsOf: the values, the model. -/
import Derived.Test.YtgjbbidcpmglbaaC17
import Derived.Test.YtgjbbidcpmglbaaOwnI
import Derived.Test.YtgjbbidcpmglbaaIdx
namespace Go.Proofs.Ytgjbbidcpmglbaa
open Go.ChangeShapes Go.WideShapes Go.ChangeAt Go.RowKit
set_option linter.unusedVariables false
set_option linter.unusedSimpArgs false
set_option maxHeartbeats 2000000

/-- a lot and a bread are named together among the first uses -/
def hasU (xs : List UseR) (l b : Int) : Nat → Bool
  | 0 => false
  | k + 1 => hasU xs l b k || (decide ((xs.getD k z17).f0 = l) && decide ((xs.getD k z17).f1 = b))
theorem hasU_succ (xs : List UseR) (l b : Int) (k : Nat) : hasU xs l b (k + 1) = (hasU xs l b k || (decide ((xs.getD k z17).f0 = l) && decide ((xs.getD k z17).f1 = b))) := rfl
theorem hasU_iff {xs : List UseR} {l b : Int} {n : Nat} : hasU xs l b n = true ↔ ∃ k, k < n ∧ (xs.getD k z17).f0 = l ∧ (xs.getD k z17).f1 = b := by
  induction n with
  | zero => simp [hasU]
  | succ n ih =>
    rw [hasU_succ, Bool.or_eq_true, ih, Bool.and_eq_true, decide_eq_true_eq, decide_eq_true_eq]
    constructor
    · rintro (⟨k, hk, h⟩ | h)
      · exact ⟨k, by omega, h⟩
      · exact ⟨n, by omega, h⟩
    · rintro ⟨k, hk, h⟩
      by_cases e : k = n
      · subst e; exact .inr h
      · exact .inl ⟨k, by omega, h⟩
theorem hasU_in {xs : List UseR} {l b : Int} {n : Nat} (hs : ∀ i, i < n → useB (xs.getD i z17).f0 (xs.getD i z17).f1 (xs.getD i z17).f2 = true) (h : hasU xs l b n = true) : 1 ≤ l ∧ l ≤ 50 ∧ 1 ≤ b ∧ b ≤ 50 := by
  obtain ⟨k, hk, rfl, rfl⟩ := hasU_iff.1 h
  have := use_in (hs k hk)
  omega
def brP (n : Nat) (xs : List UseR) (l : Int) (b : Nat) : Bool := hasU xs l b n
def loP (n : Nat) (xs : List UseR) (b : Int) (l : Nat) : Bool := hasU xs l b n
def BreadsOfL (n : Nat) (xs : List UseR) (l : Int) : List Int := if usesB n xs then idxTo (brP n xs l) 51 else []
def LotsOfL (n : Nat) (xs : List UseR) (b : Int) : List Int := if usesB n xs then idxTo (loP n xs b) 51 else []
theorem BreadsOfL_len (n : Nat) (xs : List UseR) (l : Int) : (BreadsOfL n xs l).length ≤ 51 := by
  unfold BreadsOfL; split
  · exact idxTo_len _ _
  · simp
theorem LotsOfL_len (n : Nat) (xs : List UseR) (l : Int) : (LotsOfL n xs l).length ≤ 51 := by
  unfold LotsOfL; split
  · exact idxTo_len _ _
  · simp
end Go.Proofs.Ytgjbbidcpmglbaa
