/- The numbers of the law FnWarms. -/
import Derived.Test.YtfnkbbiphloaeaaC18
namespace Go.Proofs.Ytfnkbbiphloaeaa
set_option linter.unusedVariables false
set_option linter.unusedSimpArgs false

theorem warm_water {w f r g : Int} (hw : 15 ≤ w ∧ w ≤ 34) (hf : 0 ≤ f ∧ f ≤ 29) (hr : 0 ≤ r ∧ r ≤ 29) (hg : 0 ≤ g ∧ g ≤ 9) : waterV w f r g = 3 * w - f - r - g := by
  have : ok18 w f r g (-20) 60 = true := by simp [ok18, inB]; omega
  simp [waterV, this]
theorem warm_heat {w f r g : Int} (hw : 15 ≤ w ∧ w ≤ 34) (hf : 0 ≤ f ∧ f ≤ 29) (hr : 0 ≤ r ∧ r ≤ 29) (hg : 0 ≤ g ∧ g ≤ 9) : doughHV (3 * w - f - r - g) f r g = w := by
  have : ok18 (3 * w - f - r - g) f r g (-200) 200 = true := by simp [ok18, inB]; omega
  simp [doughHV, this]; omega
theorem warm_reach {w f r g : Int} (hw : 15 ≤ w ∧ w ≤ 34) (hf : -20 ≤ f ∧ f ≤ 60) (hr : 0 ≤ r ∧ r ≤ 29) (hg : 0 ≤ g ∧ g ≤ 9) : reachB w f r g = decide (1 ≤ 3 * w - f - r - g ∧ 3 * w - f - r - g ≤ 60) := by
  have : ok18 w f r g (-20) 60 = true := by simp [ok18, inB]; omega
  simp [reachB, waterV, this, inB]
theorem warm_ice {t m i : Int} (ht : 0 ≤ t ∧ t ≤ 24) (hm : 0 ≤ m ∧ m ≤ 5100) (hi : i = iceV t m) :
    0 ≤ i ∧ i ≤ m ∧ (20 ≤ t → i = 0) ∧ (t < 20 → (20 - t) * (m - i) ≤ 80 * i ∧ (0 < i → 80 * (i - 1) < (20 - t) * (m - i + 1))) := by
  have e1 : inB t 0 60 = true := by simp [inB]; omega
  have e2 : inB m 0 100000 = true := by simp [inB]; omega
  simp only [iceV, e1, e2, Bool.and_self, if_true] at hi
  have h : t = 0 ∨ t = 1 ∨ t = 2 ∨ t = 3 ∨ t = 4 ∨ t = 5 ∨ t = 6 ∨ t = 7 ∨ t = 8 ∨ t = 9 ∨ t = 10 ∨ t = 11 ∨ t = 12 ∨ t = 13 ∨ t = 14 ∨ t = 15 ∨ t = 16 ∨ t = 17 ∨ t = 18 ∨ t = 19 ∨ 20 ≤ t := by omega
  rcases h with rfl | rfl | rfl | rfl | rfl | rfl | rfl | rfl | rfl | rfl | rfl | rfl | rfl | rfl | rfl | rfl | rfl | rfl | rfl | rfl | h
  all_goals first
    | (rw [if_pos h] at hi; subst hi; refine ⟨by omega, by omega, fun _ => rfl, fun h' => by omega⟩)
    | (rw [if_neg (by omega)] at hi
       simp only [Int.reduceSub, Int.reduceAdd, Int.reduceMul] at hi ⊢
       refine ⟨by omega, by omega, fun h' => by omega, fun _ => ⟨by omega, fun _ => by omega⟩⟩)
theorem hot_spec (a c d : Int) : ∀ n : Nat, (hotN a c d n = -1000 ∧ ∀ j : Nat, j < n → reachB a ((j : Int) - 20) c d = false) ∨
    (∃ j : Nat, j < n ∧ hotN a c d n = (j : Int) - 20 ∧ reachB a ((j : Int) - 20) c d = true ∧ ∀ i : Nat, j < i → i < n → reachB a ((i : Int) - 20) c d = false)
  | 0 => .inl ⟨rfl, fun j hj => absurd hj (Nat.not_lt_zero _)⟩
  | n + 1 => by
    cases h : reachB a ((n : Int) - 20) c d
    · have e : hotN a c d (n + 1) = hotN a c d n := by simp [hotN, h]
      rw [e]
      rcases hot_spec a c d n with ⟨h1, h2⟩ | ⟨j, hj, h1, h2, h3⟩
      · refine .inl ⟨h1, fun j hj => ?_⟩
        by_cases hjn : j = n
        · rw [hjn]; exact h
        · exact h2 j (by omega)
      · refine .inr ⟨j, by omega, h1, h2, fun i hi hin => ?_⟩
        by_cases hjn : i = n
        · rw [hjn]; exact h
        · exact h3 i hi (by omega)
    · exact .inr ⟨n, by omega, by simp [hotN, h], h, fun i hi hin => by omega⟩
/-- what the law asks of the hottest flour -/
theorem warm_hot {w f r g k : Int} (hw : 15 ≤ w ∧ w ≤ 34) (hf : 0 ≤ f ∧ f ≤ 29) (hr : 0 ≤ r ∧ r ≤ 29) (hg : 0 ≤ g ∧ g ≤ 9) (hk : k = hotN w r g 81) :
    (reachB w f r g = true → f ≤ k) ∧ (k = -1000 ∨ (-20 ≤ k ∧ k ≤ 60 ∧ reachB w k r g = true ∧ (k = 60 ∨ reachB w (k + 1) r g = false))) := by
  rcases hot_spec w r g 81 with ⟨h1, h2⟩ | ⟨j, hj, h1, h2, h3⟩
  · refine ⟨fun h => ?_, .inl (by rw [hk, h1])⟩
    have := h2 (f + 20).toNat (by omega)
    rw [show (((f + 20).toNat : Nat) : Int) - 20 = f by omega, h] at this
    exact absurd this (by simp)
  · have hkj : k = (j : Int) - 20 := by rw [hk, h1]
    refine ⟨fun h => ?_, .inr ⟨by omega, by omega, by rw [hkj]; exact h2, ?_⟩⟩
    · by_cases hfk : f ≤ k
      · exact hfk
      · have := h3 (f + 20).toNat (by omega) (by omega)
        rw [show (((f + 20).toNat : Nat) : Int) - 20 = f by omega, h] at this
        exact absurd this (by simp)
    · by_cases h60 : k = 60
      · exact .inl h60
      · refine .inr ?_
        have := h3 (j + 1) (by omega) (by omega)
        rw [hkj, ← this]
        congr 1
        omega
end Go.Proofs.Ytfnkbbiphloaeaa
