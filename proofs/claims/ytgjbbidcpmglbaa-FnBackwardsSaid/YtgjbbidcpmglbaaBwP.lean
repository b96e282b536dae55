/- FnBackwards: the plain facts. -/
import Derived.Test.YtgjbbidcpmglbaaM06
import Derived.Test.YtgjbbidcpmglbaaK06
import Derived.Test.YtgjbbidcpmglbaaT06
namespace Go.Proofs.Ytgjbbidcpmglbaa
open Go.ChangeShapes Go.WideShapes Go.ChangeAt Go.RowKit
set_option linter.unusedVariables false
set_option linter.unusedSimpArgs false
set_option maxHeartbeats 2000000

abbrev PSt (xs : List StepR) (n : Nat) : Prop := ∀ i, i < n → (fun v : StepR => (1 ≤ v.f0 ∧ v.f0 ≤ 30) ∧ 0 ≤ v.f1 ∧ v.f1 ≤ 78) (xs.getD i ⟨0, 0⟩)
theorem steps_ok {n : Nat} {xs : List StepR} (hn : n ≤ 5) (hx : PSt xs n) : stepsB n xs = true := by
  unfold stepsB
  rw [decide_eq_true (by omega), allOk_t _ _ fun i hi => by have := hx i hi; simp only [] at this; unfold stOk stepB; rw [inB_t (by omega), inB_t (by omega)]; rfl]
  rfl
theorem ok_ok {n : Nat} {xs : List StepR} (hn : n ≤ 5) (hx : PSt xs n) {r : Int} (h0 : 0 ≤ r) (h1 : r ≤ 1440) : okB n xs r = true := by
  unfold okB; rw [steps_ok hn hx, inB_t ⟨h0, h1⟩]; rfl
theorem ovl_symm (p q x y : Int) : ovl p q x y = ovl q p y x := by unfold ovl; omega
theorem ovl_nn (p q x y : Int) : 0 ≤ ovl p q x y := by unfold ovl; omega
theorem sum_add (f g : Nat → Int) : ∀ n, sumTo (fun i => f i + g i) n = sumTo f n + sumTo g n
  | 0 => rfl
  | n + 1 => by rw [sumTo_succ, sumTo_succ, sumTo_succ, sum_add f g n]; omega
theorem sum_zero (f : Nat → Int) (n : Nat) (h : ∀ i, i < n → f i = 0) : sumTo f n = 0 := by
  induction n with
  | zero => rfl
  | succ n ih => rw [sumTo_succ, ih fun i hi => h i (by omega), h n (by omega)]; rfl
theorem sum_swap (f : Nat → Nat → Int) (m : Nat) : ∀ n, sumTo (fun i => sumTo (f i) m) n = sumTo (fun k => sumTo (fun i => f i k) n) m
  | 0 => (sum_zero _ m fun i _ => rfl).symm
  | n + 1 => by
    rw [sumTo_succ, sum_swap f m n, ← sum_add]
    exact sumTo_congr _ _ m fun k _ => (sumTo_succ _ n).symm
theorem sum_one (f : Nat → Int) (v : Int) : ∀ (n i : Nat), i < n → f i = v → (∀ k, k < n → k ≠ i → f k = 0) → sumTo f n = v
  | n + 1, i, hi, hv, h => by
    rw [sumTo_succ]
    by_cases e : i = n
    · subst e
      rw [sum_zero f i fun k hk => h k (by omega) (by omega), hv]; omega
    · rw [sum_one f v n i (by omega) hv fun k hk hne => h k (by omega) hne, h n (by omega) (by omega)]; omega
theorem ov_sum (p x : Int) (hx : 0 ≤ x) (q y : Nat → Int) : ∀ m, (∀ k, k < m → 0 ≤ y k ∧ q k + y k ≤ q (k + 1)) → sumTo (fun k => ovl p (q k) x (y k)) m ≤ max 0 (min (p + x) (q m) - p)
  | 0, _ => by show (0 : Int) ≤ _; omega
  | m + 1, h => by
    have ih := ov_sum p x hx q y m fun k hk => h k (by omega)
    have h1 := h m (by omega)
    rw [sumTo_succ]
    unfold ovl at ih ⊢
    omega
theorem stV_succ (n : Nat) (xs : List StepR) (r : Int) (k : Nat) : stV n xs r (k + 1) = stV n xs r k + (xs.getD k ⟨0, 0⟩).f0 + (xs.getD k ⟨0, 0⟩).f1 := by
  unfold stV; rw [sumTo_succ]; unfold stG; omega
theorem stV_end (n : Nat) (xs : List StepR) (r : Int) : stV n xs r n = r := by unfold stV; omega
theorem stG_in {xs : List StepR} : ∀ n : Nat, PSt xs n → 0 ≤ sumTo (stG xs) n ∧ sumTo (stG xs) n ≤ 108 * n
  | 0, _ => by simp [sumTo]
  | n + 1, h => by
    have ih := stG_in n fun i hi => h i (by omega)
    have h1 := h n (by omega)
    simp only [] at h1
    rw [sumTo_succ]
    unfold stG at ih ⊢
    push_cast
    omega
def minF (xs : List StepR) (i : Nat) : Int := (xs.getD i ⟨0, 0⟩).f0
theorem min_in {xs : List StepR} : ∀ n : Nat, PSt xs n → 0 ≤ sumTo (minF xs) n ∧ sumTo (minF xs) n ≤ 30 * n
  | 0, _ => by simp [sumTo]
  | n + 1, h => by
    have ih := min_in n fun i hi => h i (by omega)
    have h1 := h n (by omega)
    simp only [] at h1
    rw [sumTo_succ]
    unfold minF at ih ⊢
    push_cast
    omega
theorem sum_le (f g : Nat → Int) : ∀ n, (∀ i, i < n → f i ≤ g i) → sumTo f n ≤ sumTo g n
  | 0, _ => Int.le_refl _
  | n + 1, h => by rw [sumTo_succ, sumTo_succ]; have := sum_le f g n fun i hi => h i (by omega); have := h n (by omega); omega
theorem clash_form {n m : Nat} {xs ys : List StepR} (hn : n ≤ 5) (hx : PSt xs n) (hm : m ≤ 5) (hy : PSt ys m) {ra rb : Int} (h0 : 0 ≤ ra ∧ ra ≤ 1440) (h1 : 0 ≤ rb ∧ rb ≤ 1440) : clashV n xs m ys ra rb = sumTo (clI n xs ra m ys rb) n := by
  unfold clashV; rw [ok_ok hn hx h0.1 h0.2, ok_ok hm hy h1.1 h1.2]; rfl
theorem clash_symm {n m : Nat} {xs ys : List StepR} (hn : n ≤ 5) (hx : PSt xs n) (hm : m ≤ 5) (hy : PSt ys m) {ra rb : Int} (h0 : 0 ≤ ra ∧ ra ≤ 1440) (h1 : 0 ≤ rb ∧ rb ≤ 1440) : clashV m ys n xs rb ra = clashV n xs m ys ra rb := by
  rw [clash_form hn hx hm hy h0 h1, clash_form hm hy hn hx h1 h0]
  unfold clI
  rw [sum_swap (ovG m ys rb n xs ra) n m]
  refine sumTo_congr _ _ n fun i _ => sumTo_congr _ _ m fun k _ => ?_
  unfold ovG
  exact ovl_symm _ _ _ _
theorem clash_in {n m : Nat} {xs ys : List StepR} (hn : n ≤ 5) (hx : PSt xs n) (hm : m ≤ 5) (hy : PSt ys m) {ra rb : Int} (h0 : 0 ≤ ra ∧ ra ≤ 1440) (h1 : 0 ≤ rb ∧ rb ≤ 1440) : 0 ≤ clashV n xs m ys ra rb ∧ clashV n xs m ys ra rb ≤ sumTo (minF xs) n := by
  rw [clash_form hn hx hm hy h0 h1]
  constructor
  · rw [show (0 : Int) = sumTo (fun _ => 0) n from (sum_zero _ n fun _ _ => rfl).symm]
    refine sum_le _ _ n fun i _ => ?_
    unfold clI
    rw [show (0 : Int) = sumTo (fun _ => 0) m from (sum_zero _ m fun _ _ => rfl).symm]
    exact sum_le _ _ m fun k _ => ovl_nn _ _ _ _
  · refine sum_le _ _ n fun i hi => ?_
    have hxi := hx i hi
    simp only [] at hxi
    have h := ov_sum (stV n xs ra i) (xs.getD i ⟨0, 0⟩).f0 (by omega) (stV m ys rb) (fun k => (ys.getD k ⟨0, 0⟩).f0) m fun k hk => by
      have := hy k hk
      simp only [] at this
      rw [stV_succ]
      omega
    unfold clI minF
    refine Int.le_trans h ?_
    omega
theorem stV_mono {n : Nat} {xs : List StepR} {r : Int} (N : Nat) (hx : PSt xs N) : ∀ (b a : Nat), a < b → b ≤ N → stV n xs r a + (xs.getD a ⟨0, 0⟩).f0 ≤ stV n xs r b
  | b + 1, a, hab, hb => by
    rw [stV_succ]
    have hb' := hx b (by omega)
    simp only [] at hb'
    by_cases e : a = b
    · subst e; omega
    · have := stV_mono (n := n) (r := r) N hx b a (by omega) (by omega)
      omega
theorem clash_self {n : Nat} {xs : List StepR} (hn : n ≤ 5) (hx : PSt xs n) {r : Int} (h0 : 0 ≤ r ∧ r ≤ 1440) : clashV n xs n xs r r = sumTo (minF xs) n := by
  rw [clash_form hn hx hn hx h0 h0]
  refine sumTo_congr _ _ n fun i hi => ?_
  have hxi := hx i hi
  simp only [] at hxi
  unfold clI minF
  refine sum_one _ _ n i hi ?_ fun k hk hne => ?_
  · unfold ovG ovl; omega
  · have hxk := hx k hk
    simp only [] at hxk
    unfold ovG ovl
    rcases Nat.lt_or_gt_of_ne hne with h | h
    · have := stV_mono (n := n) (r := r) n hx i k h (by omega); omega
    · have := stV_mono (n := n) (r := r) n hx k i h (by omega); omega
theorem first_or (p : Int → Bool) : ∀ (k : Nat) (g : Int), (firstOr p k g = -1 ∧ ∀ s, g ≤ s → s < g + k → p s = false) ∨ (g ≤ firstOr p k g ∧ firstOr p k g < g + k ∧ p (firstOr p k g) = true ∧ ∀ s, g ≤ s → s < firstOr p k g → p s = false)
  | 0, g => .inl ⟨rfl, fun s h0 h1 => by omega⟩
  | k + 1, g => by
    by_cases h : p g = true
    · right
      rw [firstOr, if_pos h]
      exact ⟨Int.le_refl _, by omega, h, fun s h0 h1 => by omega⟩
    · have hf : p g = false := by simpa using h
      rw [firstOr, if_neg h]
      rcases first_or p k (g + 1) with ⟨h1, h2⟩ | ⟨h1, h2, h3, h4⟩
      · left
        refine ⟨h1, fun s h0 h5 => ?_⟩
        by_cases e : s = g
        · subst e; exact hf
        · exact h2 s (by omega) (by omega)
      · right
        refine ⟨by omega, by omega, h3, fun s h0 h5 => ?_⟩
        by_cases e : s = g
        · subst e; exact hf
        · exact h4 s (by omega) h5
theorem back_law {n m : Nat} {xs ys : List StepR} (hn : n ≤ 5) (hm : m ≤ 5) (hx : PSt xs n) (hy : PSt ys m) {q : Int} (hq : 0 ≤ q ∧ q ≤ 510) :
    ∃ N c l all : Int, stepsB n xs = true ∧ wholeV n xs = N ∧ (0 ≤ N ∧ N ≤ 540) ∧ StartL n xs 600 = stL n xs 600 n ∧ stV n xs 600 0 = 600 - N ∧ clashV n xs m ys 600 q = c ∧ (0 ≤ c ∧ c ≤ all) ∧ clashV m ys n xs q 600 = c ∧ clashV n xs n xs 600 600 = all ∧ sumTo (minF xs) n = all ∧ (0 ≤ all ∧ all ≤ 150) ∧
      shiftV n xs m ys 600 = l ∧ (-1 ≤ l ∧ l ≤ 600) ∧ (0 ≤ l → clashV n xs m ys 600 (600 - l) = 0) ∧ (0 < l → ∃ u, clashV n xs m ys 600 (600 - l + 1) = u ∧ 0 < u ∧ u ≤ 150) ∧ (l < 0 → ∃ u, clashV n xs m ys 600 0 = u ∧ 0 < u ∧ u ≤ 150) := by
  have hS := stG_in n hx
  have hM := min_in n hx
  have hn9 : (n : Int) ≤ 5 := by omega
  have hC := fun (rb : Int) (h0 : 0 ≤ rb) (h1 : rb ≤ 1440) => clash_in hn hx hm hy (ra := 600) (by omega) (rb := rb) ⟨h0, h1⟩
  have hL : shiftV n xs m ys 600 = firstOr (shP n xs m ys 600) 601 0 := by
    unfold shiftV; rw [ok_ok hn hx (by omega) (by omega), steps_ok hm hy]; rfl
  have hf := first_or (shP n xs m ys 600) 601 0
  rw [← hL] at hf
  obtain ⟨l, hl⟩ : ∃ l, shiftV n xs m ys 600 = l := ⟨_, rfl⟩
  rw [hl] at hf
  have hne : ∀ s : Int, 0 ≤ s → s ≤ 600 → shP n xs m ys 600 s = false → 0 < clashV n xs m ys 600 (600 - s) := fun s h0 h1 hp => by
    have := (hC (600 - s) (by omega) (by omega)).1
    unfold shP at hp
    have h2 : ¬ clashV n xs m ys 600 (600 - s) = 0 := by simpa using hp
    omega
  refine ⟨_, _, l, _, steps_ok hn hx, by unfold wholeV; rw [if_pos (steps_ok hn hx)], by omega, by unfold StartL; rw [if_pos (ok_ok hn hx (by omega) (by omega))], by unfold stV; show 600 - _ + 0 = _; omega, rfl, hC q hq.1 (by omega), clash_symm hn hx hm hy (by omega) (by omega), clash_self hn hx (by omega), rfl, by omega, hl, ?_, fun h => ?_, fun h => ⟨_, rfl, ?_, ?_⟩, fun h => ⟨_, rfl, ?_, ?_⟩⟩
  · rcases hf with ⟨h1, _⟩ | ⟨h1, h2, _⟩ <;> omega
  · rcases hf with ⟨h1, _⟩ | ⟨h1, h2, h3, _⟩
    · omega
    · unfold shP at h3; simpa using h3
  · rcases hf with ⟨h1, _⟩ | ⟨h1, h2, h3, h4⟩
    · omega
    · have := hne (l - 1) (by omega) (by omega) (h4 (l - 1) (by omega) (by omega))
      rwa [show (600 : Int) - (l - 1) = 600 - l + 1 by omega] at this
  · rcases hf with ⟨h1, _⟩ | ⟨h1, h2, h3, h4⟩
    · omega
    · have := (hC (600 - l + 1) (by omega) (by omega)).2; omega
  · rcases hf with ⟨h1, h2⟩ | ⟨h1, _⟩
    · have := hne 600 (by omega) (by omega) (h2 600 (by omega) (by omega))
      rwa [show (600 : Int) - 600 = 0 by omega] at this
    · omega
  · have := (hC 0 (by omega) (by omega)).2; omega
end Go.Proofs.Ytgjbbidcpmglbaa
