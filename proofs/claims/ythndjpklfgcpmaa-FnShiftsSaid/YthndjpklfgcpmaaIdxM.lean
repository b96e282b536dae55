/- The indices with a property: what is among them (no dump). -/
import Derived.Test.YthndjpklfgcpmaaIdx
namespace Go.Proofs.Ythndjpklfgcpmaa
set_option linter.unusedVariables false
theorem idxTo_pair (p : Nat → Bool) (k : Nat) : (idxTo p k).Pairwise (· < ·) := by
  induction k with
  | zero => exact List.Pairwise.nil
  | succ k ih =>
    cases h : p k
    · rw [idxTo_f h]; exact ih
    · rw [idxTo_t h]
      refine List.pairwise_append.2 ⟨ih, List.pairwise_singleton _ _, fun a ha b hb => ?_⟩
      have := idxTo_mem p k a ha
      simp at hb; omega
theorem mem_idxTo (p : Nat → Bool) (k : Nat) (x : Int) : x ∈ idxTo p k ↔ 0 ≤ x ∧ x < k ∧ p x.toNat = true := by
  induction k with
  | zero => simp [idxTo]; omega
  | succ k ih =>
    cases h : p k
    · rw [idxTo_f h, ih]
      constructor
      · rintro ⟨h1, h2, h3⟩; exact ⟨h1, by omega, h3⟩
      · rintro ⟨h1, h2, h3⟩
        refine ⟨h1, ?_, h3⟩
        by_cases e : x.toNat = k
        · rw [e, h] at h3; cases h3
        · omega
    · rw [idxTo_t h, List.mem_append, ih]
      constructor
      · rintro (⟨h1, h2, h3⟩ | h1)
        · exact ⟨h1, by omega, h3⟩
        · simp at h1; subst h1; exact ⟨by omega, by omega, by simpa using h⟩
      · rintro ⟨h1, h2, h3⟩
        by_cases e : x.toNat = k
        · right; simp; omega
        · left; exact ⟨h1, by omega, h3⟩
end Go.Proofs.Ythndjpklfgcpmaa
