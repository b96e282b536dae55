/- Chapter 26: the powers of a day, their greatest, the best start: what both compute. -/
import Derived.Test.YthndjpklfgcpmaaD26
import Derived.Test.YthndjpklfgcpmaaGi
namespace Go.Proofs.Ythndjpklfgcpmaa
open Go.ChangeShapes Go.WideShapes Go.ChangeAt Go.RowKit
set_option linter.unusedVariables false
set_option linter.unusedSimpArgs false
set_option maxHeartbeats 2000000

/-- the first N values of f -/
def fL (f : Nat → Int) (N : Nat) : List Int := (List.range N).map f
theorem fL_len (f : Nat → Int) (N : Nat) : (fL f N).length = N := by simp [fL]
theorem fL_s (f : Nat → Int) (N : Nat) : fL f (N + 1) = fL f N ++ [f N] := by simp [fL, List.range_succ]
theorem fL_at (f : Nat → Int) (N : Nat) (i : Nat) (h : i < N) : (fL f N).getD i 0 = f i := by
  rw [List.getD_eq_getElem?_getD]; simp [fL, h]
/-- the greatest of f from place a on, of j values; 0 of none -/
def wmx (f : Nat → Int) (a : Nat) : Nat → Int
  | 0 => 0
  | j + 1 => max (wmx f a j) (f (a + j))
theorem wmx_succ (f : Nat → Int) (a j : Nat) : wmx f a (j + 1) = max (wmx f a j) (f (a + j)) := rfl
theorem wmx_nn (f : Nat → Int) (a j : Nat) : 0 ≤ wmx f a j := by
  induction j with
  | zero => exact Int.le_refl _
  | succ j ih => rw [wmx_succ]; omega
theorem wmx_le (f : Nat → Int) (a j : Nat) : ∀ i, i < j → f (a + i) ≤ wmx f a j := by
  induction j with
  | zero => intro i hi; omega
  | succ j ih =>
    intro i hi
    rw [wmx_succ]
    by_cases e : i = j
    · subst e; omega
    · have := ih i (by omega); omega
theorem wmx_lub (f : Nat → Int) (a j : Nat) (M : Int) (h0 : 0 ≤ M) (h : ∀ i, i < j → f (a + i) ≤ M) : wmx f a j ≤ M := by
  induction j with
  | zero => exact h0
  | succ j ih =>
    rw [wmx_succ]
    have h1 := ih fun i hi => h i (by omega)
    have h2 := h j (by omega)
    omega
theorem wmx_peak (f : Nat → Int) (N : Nat) (hN : 0 < N) (h : ∀ i, i < N → 0 ≤ f i) : wmx f 0 N = f (amax f N) := by
  have h1 := wmx_lub f 0 N (f (amax f N)) (h _ (amax_lt f N hN)) fun i hi => by rw [Nat.zero_add]; exact amax_max f N i hi
  have h2 := wmx_le f 0 N (amax f N) (amax_lt f N hN)
  rw [Nat.zero_add] at h2
  omega
/-- the greatest of g 0 .. g k -/
def lmx (g : Nat → Int) : Nat → Int
  | 0 => g 0
  | k + 1 => max (lmx g k) (g (k + 1))
theorem lmx_succ (g : Nat → Int) (k : Nat) : lmx g (k + 1) = max (lmx g k) (g (k + 1)) := rfl
theorem lmx_wmx (f g : Nat → Int) (a : Nat) (k : Nat) (h : ∀ i, i ≤ k → g i = f (a + i)) (h0 : ∀ i, i ≤ k → 0 ≤ f (a + i)) : lmx g k = wmx f a (k + 1) := by
  induction k with
  | zero => rw [wmx_succ]; show g 0 = max 0 (f (a + 0)); have := h 0 (by omega); have := h0 0 (by omega); omega
  | succ k ih => rw [wmx_succ, lmx_succ, ih (fun i hi => h i (by omega)) (fun i hi => h0 i (by omega)), h (k + 1) (by omega)]
/-- the least of g 0 .. g k -/
def lmn (g : Nat → Int) : Nat → Int
  | 0 => g 0
  | k + 1 => min (lmn g k) (g (k + 1))
theorem lmn_succ (g : Nat → Int) (k : Nat) : lmn g (k + 1) = min (lmn g k) (g (k + 1)) := rfl
theorem lmn_le (g : Nat → Int) (k : Nat) : ∀ i, i ≤ k → lmn g k ≤ g i := by
  induction k with
  | zero => intro i hi; obtain rfl : i = 0 := (by omega); exact Int.le_refl _
  | succ k ih =>
    intro i hi
    rw [lmn_succ]
    by_cases e : i = k + 1
    · subst e; omega
    · have := ih i (by omega); omega
theorem lmn_ex (g : Nat → Int) (k : Nat) : ∃ i, i ≤ k ∧ lmn g k = g i := by
  induction k with
  | zero => exact ⟨0, Nat.le_refl _, rfl⟩
  | succ k ih =>
    obtain ⟨i, hi, h⟩ := ih
    rw [lmn_succ]
    by_cases e : g (k + 1) < lmn g k
    · exact ⟨k + 1, Nat.le_refl _, by omega⟩
    · exact ⟨i, by omega, by omega⟩
/-- the first place of the least -/
def amin (g : Nat → Int) (k : Nat) : Nat := amax (fun i => - g i) k
theorem amin_succ (g : Nat → Int) (k : Nat) : amin g (k + 1) = if g k < g (amin g k) then k else amin g k := by
  unfold amin
  rw [amax_succ]
  by_cases h : g k < g (amax (fun i => - g i) k)
  · rw [if_pos (by omega), if_pos h]
  · rw [if_neg (by omega), if_neg h]
theorem amin_eq (g : Nat → Int) (k m : Nat) (hm : m ≤ k) (h1 : g m = lmn g k) (h2 : ∀ i, i < m → g i ≠ lmn g k) : amin g (k + 1) = m := by
  refine amax_eq _ _ _ (by omega) (fun i hi => ?_) (fun i hi => ?_)
  · have := lmn_le g k i (by omega); show - g i ≤ - g m; omega
  · have := lmn_le g k i (by omega); have := h2 i hi; show - g i < - g m; omega
theorem amin_lt (g : Nat → Int) (k : Nat) (h : 0 < k) : amin g k < k := amax_lt _ _ h
theorem amin_le (g : Nat → Int) (k : Nat) : ∀ i, i < k → g (amin g k) ≤ g i := fun i hi => by
  have := amax_max (fun i => - g i) k i hi
  unfold amin
  omega
/-- how many of f 0 .. f (k - 1) are more than M -/
def ovr (f : Nat → Int) (M : Int) : Nat → Int
  | 0 => 0
  | k + 1 => if M < f k then ovr f M k + 1 else ovr f M k
theorem ovr_succ (f : Nat → Int) (M : Int) (k : Nat) : ovr f M (k + 1) = if M < f k then ovr f M k + 1 else ovr f M k := rfl
theorem ovr_in (f : Nat → Int) (M : Int) (k : Nat) : 0 ≤ ovr f M k ∧ ovr f M k ≤ k := by
  induction k with
  | zero => exact ⟨Int.le_refl _, by simp [ovr]⟩
  | succ k ih => rw [ovr_succ]; split <;> omega
theorem ovr_congr (f g : Nat → Int) (M : Int) (k : Nat) (h : ∀ i, i < k → f i = g i) : ovr f M k = ovr g M k := by
  induction k with
  | zero => rfl
  | succ k ih => rw [ovr_succ, ovr_succ, ih fun i hi => h i (by omega), h k (by omega)]

def peakM (n : Nat) (xs : List MachineR) : Int := if machB n xs then (amax (pwF xs n) 1440 : Nat) else -1
def peakW (n : Nat) (xs : List MachineR) : Int := if machB n xs then pwF xs n (amax (pwF xs n) 1440) else -1
def overV (n : Nat) (xs : List MachineR) (M : Int) : Int := if machB n xs && inB M 0 1000000 then ovr (pwF xs n) M 1440 else -1
/-- the peak with a further machine from f on -/
def stF (xs : List MachineR) (n : Nat) (m : Nat) (W : Int) (f : Nat) : Int := max (pwF xs n (amax (pwF xs n) 1440)) (wmx (pwF xs n) f m + W)
def startB (n : Nat) (xs : List MachineR) (m W : Int) : Bool := machB n xs && !decide (n = 12) && inB m 1 1440 && inB W 1 10000
def startV (n : Nat) (xs : List MachineR) (m W : Int) : Int := if startB n xs m W then (amin (stF xs n m.toNat W) (1440 - m.toNat + 1) : Nat) else -1
theorem pw_all {n : Nat} {xs : List MachineR} (h : machB n xs = true) (u : Nat) : 0 ≤ pwF xs n u ∧ pwF xs n u ≤ 120000 := by
  obtain ⟨h1, h2⟩ := mach_at h
  have := pwF_in (u := u) (Nat.le_refl n) h2
  omega
end Go.Proofs.Ythndjpklfgcpmaa
