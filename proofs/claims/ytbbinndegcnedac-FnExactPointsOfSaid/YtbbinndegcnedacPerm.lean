/- Rows that hold each index once (no dump but the words). -/
import Derived.Test.YtbbinndegcnedacOrd
import Derived.Test.YtbbinndegcnedacSum
import Derived.Test.YtbbinndegcnedacBits
import Derived.Deep.Slices
namespace Go.Proofs.Ytbbinndegcnedac
open Go.ChangeShapes Go.WideShapes Go.ChangeAt Go.RowKit
set_option linter.unusedVariables false
set_option maxHeartbeats 1000000
theorem inj_surj : ∀ (n : Nat) (f : Nat → Nat), (∀ i, i < n → f i < n) → (∀ i j, i < n → j < n → f i = f j → i = j) → ∀ v, v < n → ∃ i, i < n ∧ f i = v := by
  intro n
  induction n with
  | zero => intro f _ _ v hv; omega
  | succ n ih =>
    intro f hf hinj v hv
    have hfn := hf n (by omega)
    have h1 := ih (fun i => if f i = n then f n else f i) (fun i hi => by
      have h2 := hf i (by omega)
      have h3 : f i ≠ f n := fun e => by have := hinj i n (by omega) (by omega) e; omega
      (try simp only)
      split <;> omega) (fun i j hi hj he => by
      have h3 : f i ≠ f n := fun e => by have := hinj i n (by omega) (by omega) e; omega
      have h4 : f j ≠ f n := fun e => by have := hinj j n (by omega) (by omega) e; omega
      (try simp only at he)
      split at he <;> split at he
      · exact hinj i j (by omega) (by omega) (by omega)
      · exact absurd he.symm h4
      · exact absurd he h3
      · exact hinj i j (by omega) (by omega) he)
    by_cases e : v = f n
    · exact ⟨n, by omega, e.symm⟩
    by_cases e2 : v = n
    · have h5 : f n < n := by omega
      obtain ⟨i, hi, hv2⟩ := h1 (f n) h5
      (try simp only at hv2)
      split at hv2
      · exact ⟨i, by omega, by omega⟩
      · have := hinj i n (by omega) (by omega) hv2
        omega
    · obtain ⟨i, hi, hv2⟩ := h1 v (by omega)
      (try simp only at hv2)
      split at hv2
      · exact absurd hv2.symm e
      · exact ⟨i, by omega, hv2⟩
theorem surj_inj (n : Nat) (f : Nat → Nat) (hf : ∀ i, i < n → f i < n) (hs : ∀ v, v < n → ∃ i, i < n ∧ f i = v) : ∀ i j, i < n → j < n → f i = f j → i = j := by
  obtain ⟨g, hg⟩ := Deep.choose_lt hs
  have h1 := inj_surj n g (fun v hv => (hg v hv).1) (fun a b ha hb he => by
    have h1 := (hg a ha).2
    have h2 := (hg b hb).2
    rw [he] at h1
    omega)
  intro i j hi hj he
  obtain ⟨a, ha, hia⟩ := h1 i hi
  obtain ⟨b, hb, hjb⟩ := h1 j hj
  have e1 := (hg a ha).2
  have e2 := (hg b hb).2
  rw [hia] at e1
  rw [hjb] at e2
  have : a = b := by omega
  subst this
  omega
theorem seen_iff (os : List Int) (k : Nat) (v : Int) : seenB os k v = true ↔ ∃ i, i < k ∧ os.getD i 0 = v := by
  induction k with
  | zero => simp [seenB]
  | succ k ih =>
    rw [seenB, Bool.or_eq_true, ih]
    simp only [beq_iff_eq]
    constructor
    · rintro (h | ⟨i, hi, h⟩)
      · exact ⟨k, by omega, h⟩
      · exact ⟨i, by omega, h⟩
    · rintro ⟨i, hi, h⟩
      by_cases e : i = k
      · subst e; exact Or.inl h
      · exact Or.inr ⟨i, by omega, h⟩
theorem ord_inj {n : Nat} {os : List Int} (h : allOk (ordOk n os) n = true) : (∀ i, i < n → 0 ≤ os.getD i 0 ∧ os.getD i 0 < n) ∧ ∀ i j, i < n → j < n → os.getD i 0 = os.getD j 0 → i = j := by
  have h1 : ∀ i, i < n → (0 ≤ os.getD i 0 ∧ os.getD i 0 < n) ∧ ∀ j, j < i → os.getD j 0 ≠ os.getD i 0 := fun i hi => by
    have h := allOk_at _ _ h i hi
    simp only [ordOk, Bool.and_eq_true, Bool.not_eq_true'] at h
    have h2 := inB_tt h.1
    refine ⟨by omega, fun j hj he => ?_⟩
    have := (seen_iff os i (os.getD i 0)).2 ⟨j, hj, he⟩
    rw [h.2] at this; cases this
  refine ⟨fun i hi => (h1 i hi).1, fun i j hi hj he => ?_⟩
  rcases Nat.lt_trichotomy i j with h | h | h
  · exact absurd he ((h1 j hj).2 i h)
  · exact h
  · exact absurd he.symm ((h1 i hi).2 j h)
theorem ord_of {n : Nat} {os : List Int} (h1 : ∀ i, i < n → 0 ≤ os.getD i 0 ∧ os.getD i 0 < n) (h2 : ∀ i j, i < n → j < n → os.getD i 0 = os.getD j 0 → i = j) : allOk (ordOk n os) n = true := by
  refine allOk_t _ _ fun i hi => ?_
  have := h1 i hi
  simp only [ordOk, Bool.and_eq_true, Bool.not_eq_true']
  refine ⟨inB_t (by omega), ?_⟩
  cases hs : seenB os i (os.getD i 0)
  · rfl
  · obtain ⟨j, hj, he⟩ := (seen_iff _ _ _).1 hs
    have := h2 j i (by omega) hi he
    omega
/-! a set of numbers below 6 as a sum of powers of 2 -/
def orN (s x : Nat) : Nat := if s.testBit x then s else s + 2 ^ x
theorem orN_bits : ∀ (s : Fin 64) (x : Fin 6), orN s x < 64 ∧ bits .or .i64 ((s : Nat) : Int) ((2 ^ (x : Nat) : Nat) : Int) = ((orN s x : Nat) : Int) ∧ ∀ y : Fin 6, (orN s x).testBit y = (s.val.testBit y || decide (y = x)) := by decide +kernel
theorem full_bits : ∀ (s : Fin 64) (n : Fin 7), (s : Nat) < 2 ^ (n : Nat) → ((s : Nat) = 2 ^ (n : Nat) - 1 ↔ ∀ y : Fin 6, (y : Nat) < n → s.val.testBit y = true) := by decide +kernel
theorem less_bits : ∀ (s : Fin 64) (n : Fin 7), (∀ y : Fin 6, s.val.testBit y = true → (y : Nat) < n) → (s : Nat) < 2 ^ (n : Nat) := by decide +kernel
def setTo (xs : List Int) : Nat → Nat
  | 0 => 0
  | k + 1 => orN (setTo xs k) (xs.getD k 0).toNat
theorem setTo_in {xs : List Int} {k : Nat} (h : ∀ i, i < k → 0 ≤ xs.getD i 0 ∧ xs.getD i 0 < 6) : setTo xs k < 64 ∧ ∀ y : Nat, y < 6 → ((setTo xs k).testBit y = true ↔ ∃ i, i < k ∧ xs.getD i 0 = (y : Int)) := by
  induction k with
  | zero => exact ⟨by simp [setTo], fun y hy => by simp [setTo]⟩
  | succ k ih =>
    obtain ⟨h1, h2⟩ := ih fun i hi => h i (by omega)
    have hk := h k (by omega)
    have hx : (xs.getD k 0).toNat < 6 := by omega
    obtain ⟨b1, b2, b3⟩ := orN_bits ⟨setTo xs k, h1⟩ ⟨(xs.getD k 0).toNat, hx⟩
    rw [setTo]
    refine ⟨b1, fun y hy => ?_⟩
    have := b3 ⟨y, hy⟩
    (try simp only at this)
    rw [this, Bool.or_eq_true, h2 y hy]
    simp only [decide_eq_true_eq, Fin.mk.injEq]
    constructor
    · rintro (⟨i, hi, he⟩ | he)
      · exact ⟨i, by omega, he⟩
      · exact ⟨k, by omega, by omega⟩
    · rintro ⟨i, hi, he⟩
      by_cases e : i = k
      · subst e; right; omega
      · left; exact ⟨i, by omega, he⟩
/-- all bits are there just if the row holds each index once -/
theorem set_full {n : Nat} {xs : List Int} (hn : n ≤ 6) (h : ∀ i, i < n → 0 ≤ xs.getD i 0 ∧ xs.getD i 0 < n) : setTo xs n = 2 ^ n - 1 ↔ allOk (ordOk n xs) n = true := by
  obtain ⟨h1, h2⟩ := setTo_in (xs := xs) (k := n) fun i hi => by have := h i hi; omega
  have hl := less_bits ⟨setTo xs n, h1⟩ ⟨n, by omega⟩ (fun y hy => by
    obtain ⟨i, hi, he⟩ := (h2 y y.2).1 hy
    have := h i hi
    show (y : Nat) < n
    omega)
  have hf := full_bits ⟨setTo xs n, h1⟩ ⟨n, by omega⟩ hl
  (try simp only at hf)
  rw [hf]
  have hF : ∀ i, i < n → (xs.getD i 0).toNat < n := fun i hi => by have := h i hi; omega
  constructor
  · intro hall
    refine ord_of h fun i j hi hj he => ?_
    refine surj_inj n (fun i => (xs.getD i 0).toNat) hF (fun v hv => ?_) i j hi hj (by (try simp only); rw [he])
    obtain ⟨i, hi, he⟩ := (h2 v (by omega)).1 (hall ⟨v, by omega⟩ hv)
    exact ⟨i, hi, by (try simp only); omega⟩
  · intro ho y hy
    obtain ⟨_, hinj⟩ := ord_inj ho
    obtain ⟨i, hi, he⟩ := inj_surj n (fun i => (xs.getD i 0).toNat) hF (fun i j hi hj he => hinj i j hi hj (by
      have a := h i hi
      have b := h j hj
      (try simp only at he)
      omega)) y hy
    have := h i hi
    exact (h2 y y.2).2 ⟨i, hi, by (try simp only at he); omega⟩
end Go.Proofs.Ytbbinndegcnedac
