/- Chapter 9: the numbers of FnTrays. -/
import Derived.Test.YtcaelhkpboeboaaP09
namespace Go.Proofs.Ytcaelhkpboeboaa
open Go.ChangeShapes Go.WideShapes Go.ChangeAt Go.RowKit
set_option linter.unusedVariables false
set_option linter.unusedSimpArgs false

theorem rows_ok {l a g : Int} (hl : 1 ≤ l ∧ l ≤ 1000) (ha : 1 ≤ a ∧ a ≤ 500) (hg : 0 ≤ g ∧ g ≤ 100) : rowsV l a g = (l + g) / (a + g) := by
  unfold rowsV; rw [inB_t hl, inB_t ha, inB_t hg]; rfl
theorem rows_fact {l a g : Int} (hl : 1 ≤ l ∧ l ≤ 1000) (ha : 1 ≤ a ∧ a ≤ 500) (hg : 0 ≤ g ∧ g ≤ 100) : 0 ≤ rowsV l a g ∧ rowsV l a g * (a + g) ≤ l + g ∧ l + g < (rowsV l a g + 1) * (a + g) := by
  rw [rows_ok hl ha hg]
  refine ⟨Int.ediv_nonneg (by omega) (by omega), Int.ediv_mul_le _ (by omega), ?_⟩
  have := Int.lt_ediv_add_one_mul_self (l + g) (show 0 < a + g by omega)
  exact this
theorem rows_ge {l a g : Int} (hl : 1 ≤ l ∧ l ≤ 1000) (ha : 1 ≤ a ∧ a ≤ 500) (hg : 0 ≤ g ∧ g ≤ 100) : 3 ≤ rowsV l a g ↔ 3 * a + 2 * g ≤ l := by
  rw [rows_ok hl ha hg, Int.le_ediv_iff_mul_le (by omega)]
  omega
theorem rows_one {l a g : Int} (hl : 1 ≤ l ∧ l ≤ 1000) (ha : 1 ≤ a ∧ a ≤ 500) (hg : 0 ≤ g ∧ g ≤ 100) :
    (0 < rowsV l a g → rowsV l a g * a + (rowsV l a g - 1) * g ≤ l) ∧ l < (rowsV l a g + 1) * a + rowsV l a g * g ∧ (0 ≤ rowsV l a g * a ∧ rowsV l a g * a ≤ 1100) ∧ (-100 ≤ (rowsV l a g - 1) * g ∧ (rowsV l a g - 1) * g ≤ 1100) ∧ (0 ≤ (rowsV l a g + 1) * a ∧ (rowsV l a g + 1) * a ≤ 2000) ∧ (0 ≤ rowsV l a g * g ∧ rowsV l a g * g ≤ 1100) := by
  obtain ⟨h0, h1, h2⟩ := rows_fact hl ha hg
  generalize rowsV l a g = n at h0 h1 h2
  have e1 : n * (a + g) = n * a + n * g := Int.mul_add _ _ _
  have e2 : (n + 1) * (a + g) = n * a + n * g + a + g := by rw [Int.add_mul, e1]; omega
  have e3 : (n - 1) * g = n * g - g := by rw [Int.sub_mul]; omega
  have e4 : (n + 1) * a = n * a + a := by rw [Int.add_mul]; omega
  have p1 : 0 ≤ n * a := Int.mul_nonneg h0 (by omega)
  have p2 : 0 ≤ n * g := Int.mul_nonneg h0 (by omega)
  rw [e3, e4]
  rw [e1] at h1
  rw [e2] at h2
  omega
theorem place_fact {l a g : Int} (hl : 1 ≤ l ∧ l ≤ 1000) (ha : 1 ≤ a ∧ a ≤ 500) (hg : 0 ≤ g ∧ g ≤ 100) (k : Nat) (hk : (k : Int) < rowsV l a g) : 0 ≤ (k : Int) * (a + g) ∧ (k : Int) * (a + g) + a ≤ l := by
  obtain ⟨h0, h1, h2⟩ := rows_fact hl ha hg
  have h3 : ((k : Int) + 1) * (a + g) ≤ rowsV l a g * (a + g) := Int.mul_le_mul_of_nonneg_right (by omega) (by omega)
  rw [Int.add_mul] at h3
  have h4 : 0 ≤ (k : Int) * (a + g) := Int.mul_nonneg (by omega) (by omega)
  omega
theorem tray_swap (l y a b g : Int) : trayV y l a b g = trayV l y a b g := by
  unfold trayV
  rw [Int.mul_comm (rowsV y a g), Int.mul_comm (rowsV y b g), Int.max_comm]
  congr 1
  apply propext
  omega
theorem tray_turn (l y a b g : Int) : trayV l y b a g = trayV l y a b g := by
  unfold trayV
  rw [Int.max_comm]
  congr 1
  apply propext
  omega
theorem tray_fact {l y a b g : Int} (hl : 1 ≤ l ∧ l ≤ 1000) (hy : 1 ≤ y ∧ y ≤ 1000) (ha : 1 ≤ a ∧ a ≤ 500) (hb : 1 ≤ b ∧ b ≤ 500) (hg : 0 ≤ g ∧ g ≤ 100) : 0 ≤ trayV l y a b g ∧ rowsV l a g * rowsV y b g ≤ trayV l y a b g := by
  have h1 := (rows_fact hl ha hg).1
  have h2 := (rows_fact hy hb hg).1
  have h3 := (rows_fact hl hb hg).1
  have h4 := (rows_fact hy ha hg).1
  have h5 : 0 ≤ rowsV l a g * rowsV y b g := Int.mul_nonneg h1 h2
  unfold trayV
  rw [if_neg (by omega)]
  omega
theorem trays_pos {n l y a b g : Int} (h : 0 < trayV l y a b g) (hn : 0 ≤ n ∧ n ≤ 255) : 0 ≤ traysV n l y a b g ∧ traysV n l y a b g ≤ 300 ∧ n ≤ traysV n l y a b g * trayV l y a b g ∧ (traysV n l y a b g - 1) * trayV l y a b g < max n 1 ∧ traysV n l y a b g * trayV l y a b g ≤ 3000000 ∧ -3000000 ≤ (traysV n l y a b g - 1) * trayV l y a b g := by
  have ht := (tray_in l y a b g).2
  have e : traysV n l y a b g = (n + trayV l y a b g - 1) / trayV l y a b g := by unfold traysV; rw [if_pos ⟨by omega, inB_t ⟨by omega, by omega⟩⟩]
  rw [e]
  generalize trayV l y a b g = t at h ht
  have h1 := Int.ediv_mul_le (n + t - 1) (b := t) (by omega)
  have h2 := Int.lt_ediv_add_one_mul_self (n + t - 1) (show 0 < t by omega)
  have h3 : 0 ≤ (n + t - 1) / t := Int.ediv_nonneg (by omega) (by omega)
  have h4 : (n + t - 1) / t ≤ 300 := by
    apply Int.lt_add_one_iff.1
    apply Int.ediv_lt_of_lt_mul (by omega)
    omega
  generalize (n + t - 1) / t = q at h1 h2 h3 h4
  rw [Int.add_mul] at h2
  rw [Int.sub_mul]
  omega
theorem trays_zero {n l y a b g : Int} (h : trayV l y a b g ≤ 0) : traysV n l y a b g = -1 := by unfold traysV; rw [if_neg (by omega)]
theorem lastG_at (p : Int → Bool) : ∀ k : Nat, (lastG p k = -1 ∧ ∀ j : Nat, j < k → p j = false) ∨ (∃ j : Nat, j < k ∧ lastG p k = j ∧ p j = true ∧ ∀ i : Nat, j < i → i < k → p i = false)
  | 0 => .inl ⟨rfl, fun j hj => absurd hj (Nat.not_lt_zero _)⟩
  | k + 1 => by
    cases e : p k
    · have he : lastG p (k + 1) = lastG p k := by simp [lastG, e]
      rcases lastG_at p k with ⟨h1, h2⟩ | ⟨j, h0, h1, h2, h3⟩
      · refine .inl ⟨by rw [he, h1], fun j hj => ?_⟩
        by_cases ej : j = k
        · subst ej; exact e
        · exact h2 j (by omega)
      · refine .inr ⟨j, by omega, by rw [he, h1], h2, fun i hi hik => ?_⟩
        by_cases ei : i = k
        · subst ei; exact e
        · exact h3 i hi (by omega)
    · exact .inr ⟨k, by omega, by simp [lastG, e], e, fun i hi hik => by omega⟩
theorem widest_fact {l a : Int} (hl : 1 ≤ l ∧ l ≤ 1000) (ha : 1 ≤ a ∧ a ≤ 500) :
    (widestV l a 3 = -1 ∧ l < 3 * a) ∨ (0 ≤ widestV l a 3 ∧ widestV l a 3 ≤ 100 ∧ 3 * a ≤ l ∧ 3 ≤ rowsV l a (widestV l a 3) ∧ (widestV l a 3 = 100 ∨ rowsV l a (widestV l a 3 + 1) < 3)) := by
  have e : widestV l a 3 = lastG (gapP l a 3) 101 := by unfold widestV; rw [if_pos (inB_t ⟨by omega, by omega⟩)]
  rw [e]
  rcases lastG_at (gapP l a 3) 101 with ⟨h1, h2⟩ | ⟨j, h0, h1, h2, h3⟩
  · refine .inl ⟨h1, ?_⟩
    have h := h2 0 (by omega)
    unfold gapP at h
    have h' : ¬ 3 ≤ rowsV l a 0 := by simpa using h
    rw [rows_ge hl ha ⟨by omega, by omega⟩] at h'
    omega
  · refine .inr ⟨by omega, by omega, ?_, ?_, ?_⟩
    · have h' : 3 ≤ rowsV l a j := by unfold gapP at h2; simpa using h2
      rw [rows_ge hl ha ⟨by omega, by omega⟩] at h'
      omega
    · rw [h1]; unfold gapP at h2; simpa using h2
    · rw [h1]
      by_cases e1 : j = 100
      · exact .inl (by omega)
      · refine .inr ?_
        have h := h3 (j + 1) (by omega) (by omega)
        unfold gapP at h
        have h' : ¬ 3 ≤ rowsV l a ((j + 1 : Nat) : Int) := by simpa using h
        have e2 : ((j + 1 : Nat) : Int) = (j : Int) + 1 := by omega
        rw [e2] at h'
        omega
theorem rows_80 : rowsV 80 20 10 = 3 := by decide
end Go.Proofs.Ytcaelhkpboeboaa
