/- The law FnPowers: the pure facts. -/
import Derived.Test.YthndjpklfgcpmaaP26
namespace Go.Proofs.Ythndjpklfgcpmaa
open Go.ChangeShapes Go.WideShapes Go.ChangeAt Go.RowKit
set_option linter.unusedVariables false
set_option linter.unusedSimpArgs false
set_option maxHeartbeats 2000000

theorem wmx_ex (f : Nat → Int) (a j : Nat) (hj : 0 < j) (h : ∀ i, i < j → 0 ≤ f (a + i)) : ∃ i, i < j ∧ wmx f a j = f (a + i) := by
  induction j with
  | zero => omega
  | succ j ih =>
    rw [wmx_succ]
    by_cases e : j = 0
    · subst e
      have := h 0 (by omega)
      exact ⟨0, by omega, by show max 0 _ = _; omega⟩
    · obtain ⟨i, hi, he⟩ := ih (by omega) fun i hi => h i (by omega)
      by_cases hc : f (a + j) ≤ wmx f a j
      · exact ⟨i, by omega, by rw [← he]; omega⟩
      · exact ⟨j, by omega, by omega⟩
theorem getD_appM (xs : List MachineR) (z : MachineR) (i : Nat) (h : i < xs.length) : (xs ++ [z]).getD i z26 = xs.getD i z26 := by
  rw [List.getD_eq_getElem?_getD, List.getD_eq_getElem?_getD, List.getElem?_append_left h]
theorem getD_last (xs : List MachineR) (z : MachineR) : (xs ++ [z]).getD xs.length z26 = z := by
  rw [List.getD_eq_getElem?_getD]; simp
/-- the power with one machine more -/
theorem pwF_app (xs : List MachineR) (z : MachineR) (u : Nat) : pwF (xs ++ [z]) (xs.length + 1) u = pwF xs xs.length u + if z.f0 ≤ (u : Int) ∧ (u : Int) < z.f1 then z.f2 else 0 := by
  unfold pwF
  rw [sumTo_succ, sumTo_congr _ (pwG xs (u : Int)) _ fun i hi => by unfold pwG; rw [getD_appM _ _ _ hi]]
  congr 1
  unfold pwG
  rw [getD_last]
theorem mach_app {xs : List MachineR} {z : MachineR} (h : machB xs.length xs = true) (hz : maB z.f0 z.f1 z.f2 = true) (hn : xs.length + 1 ≤ 12) : machB (xs.length + 1) (xs ++ [z]) = true := by
  obtain ⟨h1, h2⟩ := mach_at h
  simp only [machB, Bool.and_eq_true, decide_eq_true_eq]
  refine ⟨allOk_t _ _ fun i hi => ?_, hn⟩
  unfold maK
  by_cases e : i = xs.length
  · subst e; rw [getD_last]; exact hz
  · rw [getD_appM _ _ _ (by omega)]; exact h2 i (by omega)
theorem peak_app {xs : List MachineR} (f m : Nat) (W : Int) (h : machB xs.length xs = true) (hn : xs.length + 1 ≤ 12) (hm : 0 < m) (hf : f + m ≤ 1440) (hW : 0 ≤ W)
    (hk : machB (xs.length + 1) (xs ++ [⟨(f : Int), ((f + m : Nat) : Int), W⟩]) = true) :
    pwF (xs ++ [⟨(f : Int), ((f + m : Nat) : Int), W⟩]) (xs.length + 1) (amax (pwF (xs ++ [⟨(f : Int), ((f + m : Nat) : Int), W⟩]) (xs.length + 1)) 1440) = stF xs xs.length m W f := by
  have ha := pwF_app xs ⟨(f : Int), ((f + m : Nat) : Int), W⟩
  have h0 := pw_all h
  simp only at ha
  generalize pwF (xs ++ [⟨(f : Int), ((f + m : Nat) : Int), W⟩]) (xs.length + 1) = F at *
  unfold stF
  generalize pwF xs xs.length = G at *
  have m1 := amax_max F 1440
  have m2 := amax_max G 1440
  have l1 := amax_lt F 1440 (by omega)
  have l2 := amax_lt G 1440 (by omega)
  obtain ⟨i, hi, he⟩ := wmx_ex G f m hm fun i _ => (h0 _).1
  have w1 := wmx_le G f m
  generalize amax F 1440 = a at *
  generalize amax G 1440 = b at *
  have hup : F a ≤ max (G b) (wmx G f m + W) := by
    rw [ha]
    split
    · rename_i hc
      have := w1 (a - f) (by omega)
      rw [show f + (a - f) = a by omega] at this
      omega
    · have := m2 a l1; omega
  have d1 : G b ≤ F a := by
    have h1 := m1 b l2
    have h2 : G b ≤ F b := by rw [ha]; split <;> omega
    omega
  have d2 : wmx G f m + W ≤ F a := by
    have h1 := m1 (f + i) (by omega)
    have h2 : F (f + i) = G (f + i) + W := by rw [ha, if_pos (by omega)]
    omega
  omega
theorem start_le {xs : List MachineR} {n : Nat} (m : Nat) (W : Int) (s : Nat) (hm : m ≤ 1440) (hs : s + m ≤ 1440) : stF xs n m W (amin (stF xs n m W) (1440 - m + 1)) ≤ stF xs n m W s :=
  amin_le _ _ s (by omega)
theorem ovr_none (f : Nat → Int) (M : Int) (k : Nat) (h : ∀ i, i < k → f i ≤ M) : ovr f M k = 0 := by
  induction k with
  | zero => rfl
  | succ k ih => rw [ovr_succ, if_neg (by have := h k (by omega); omega), ih fun i hi => h i (by omega)]
theorem ovr_some (f : Nat → Int) (M : Int) (k i : Nat) (hi : i < k) (h : M < f i) : 0 < ovr f M k := by
  induction k with
  | zero => omega
  | succ k ih =>
    rw [ovr_succ]
    have h1 := (ovr_in f M k).1
    by_cases e : i = k
    · subst e; rw [if_pos h]; omega
    · have := ih (by omega)
      split <;> omega
end Go.Proofs.Ythndjpklfgcpmaa
