/- Chapter 11: FoldsFor. -/
import Derived.Test.YtgjbbidcpmglbaaIn
import Derived.Test.YtgjbbidcpmglbaaIntR
import Derived.Test.YtgjbbidcpmglbaaSum
import Derived.Test.YtgjbbidcpmglbaaOwnI
import Derived.Test.YtgjbbidcpmglbaaQuiet
namespace Go.Proofs.Ytgjbbidcpmglbaa
open Go.ChangeShapes Go.WideShapes Go.ChangeAt Go.RowKit
set_option linter.unusedVariables false
set_option linter.unusedSimpArgs false

def strip (p : Nat) : Nat → Nat → Nat
  | 0, n => n
  | f + 1, n => if n % p = 0 then strip p f (n / p) else n
def cnt (p : Nat) : Nat → Nat → Nat
  | 0, _ => 0
  | f + 1, n => if n % p = 0 then cnt p f (n / p) + 1 else 0
theorem strip_no {p n : Nat} (h : ¬ n % p = 0) (f : Nat) : strip p f n = n := by cases f <;> simp [strip, h]
theorem cnt_no {p n : Nat} (h : ¬ n % p = 0) (f : Nat) : cnt p f n = 0 := by cases f <;> simp [cnt, h]
theorem cnt_le (p f n : Nat) : cnt p f n ≤ f := by
  induction f generalizing n with
  | zero => simp [cnt]
  | succ f ih =>
    simp only [cnt]
    split
    · have := ih (n / p); omega
    · omega
theorem strip_le (p f n : Nat) : strip p f n ≤ n := by
  induction f generalizing n with
  | zero => simp [strip]
  | succ f ih =>
    simp only [strip]
    split
    · exact Nat.le_trans (ih (n / p)) (Nat.div_le_self _ _)
    · omega
theorem strip_pos {p : Nat} (hp : 2 ≤ p) (f n : Nat) (h : 1 ≤ n) : 1 ≤ strip p f n := by
  induction f generalizing n with
  | zero => simpa [strip] using h
  | succ f ih =>
    simp only [strip]
    split
    · rename_i hr
      refine ih (n / p) ?_
      have := Nat.div_add_mod n p
      rcases Nat.eq_zero_or_pos (n / p) with h0 | h0
      · rw [h0, hr] at this; omega
      · exact h0
    · exact h
/-- one step of a division that goes out evenly -/
theorem step_ok {p n f : Nat} (hp : 2 ≤ p) (h : 1 ≤ n) (hf : n < 2 ^ f) (hr : n % p = 0) :
    ∃ g, f = g + 1 ∧ 1 ≤ n / p ∧ n / p < n ∧ n / p < 2 ^ g ∧ strip p f n = strip p g (n / p) ∧ cnt p f n = cnt p g (n / p) + 1 := by
  cases f with
  | zero => simp at hf; omega
  | succ g =>
    refine ⟨g, rfl, ?_, Nat.div_lt_self (by omega) (by omega), ?_, by simp [strip, hr], by simp [cnt, hr]⟩
    · have := Nat.div_add_mod n p
      rcases Nat.eq_zero_or_pos (n / p) with h0 | h0
      · rw [h0, hr] at this; omega
      · exact h0
    · have h2 : n / p ≤ n / 2 := Nat.div_le_div_left hp (by decide)
      have : n < 2 * 2 ^ g := by rw [Nat.pow_succ] at hf; omega
      omega
def stN (l : Nat) : Nat → Nat
  | 0 => l
  | j + 1 => strip (4 - j) 14 (stN l j)
def stL (l : Nat) : Nat → List Int
  | 0 => []
  | j + 1 => stL l j ++ List.replicate (cnt (4 - j) 14 (stN l j)) ((4 - j : Nat) : Int)
theorem stN_in {l : Nat} (h1 : 1 ≤ l) (h2 : l ≤ 10000) : ∀ j, j ≤ 3 → 1 ≤ stN l j ∧ stN l j ≤ 10000
  | 0, _ => ⟨h1, h2⟩
  | j + 1, hj => by
      have := stN_in h1 h2 j (by omega)
      exact ⟨strip_pos (by omega) _ _ this.1, Nat.le_trans (strip_le _ _ _) this.2⟩
theorem stL_len (l : Nat) : ∀ j, (stL l j).length ≤ 14 * j
  | 0 => by simp [stL]
  | j + 1 => by
      have := stL_len l j
      have := cnt_le (4 - j) 14 (stN l j)
      simp only [stL, List.length_append, List.length_replicate]
      omega
def sTwos (l : Nat) : Nat := cnt 2 14 l
def sThrees (l : Nat) : Nat := cnt 3 14 (strip 2 14 l)
def sEnd (l : Nat) : Nat := strip 3 14 (strip 2 14 l)
def sL (l : Nat) : List Int := List.replicate (sTwos l / 2) 4 ++ List.replicate (sThrees l) 3 ++ (if sTwos l % 2 = 1 then [2] else [])
def agree (l : Nat) : Bool := (decide (sEnd l = 1) == decide (stN l 3 = 1)) && (decide (sEnd l ≠ 1) || decide (sL l = stL l 3))
theorem agree_all : ∀ a b : Fin 100, agree (a.val * 100 + b.val + 1) = true := by decide +kernel
theorem agree_at {l : Nat} (h1 : 1 ≤ l) (h2 : l ≤ 10000) : agree l = true := by
  have := agree_all ⟨(l - 1) / 100, by omega⟩ ⟨(l - 1) % 100, by omega⟩
  simp only at this
  rwa [show (l - 1) / 100 * 100 + (l - 1) % 100 + 1 = l by omega] at this
def foldsB (l : Int) : Bool := inB l 1 10000 && decide (stN l.toNat 3 = 1)
def FoldsForL (l : Int) : List Int := if foldsB l then stL l.toNat 3 else []
theorem FoldsForL_len (l : Int) : (FoldsForL l).length ≤ 100000 := by
  have := stL_len l.toNat 3
  unfold FoldsForL
  split
  · omega
  · simp
theorem rep_snoc (t : Nat) (x : Int) : List.replicate (t + 1) x = List.replicate t x ++ [x] := List.replicate_succ'
end Go.Proofs.Ytgjbbidcpmglbaa
