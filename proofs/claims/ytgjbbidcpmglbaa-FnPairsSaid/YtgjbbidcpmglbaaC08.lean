/- Chapter 8: HeatCost and CoolAfter. -/
import Derived.Test.YtgjbbidcpmglbaaIn
namespace Go.Proofs.Ytgjbbidcpmglbaa
open Go.ChangeShapes Go.WideShapes Go.ChangeAt Go.RowKit
set_option linter.unusedVariables false
set_option linter.unusedSimpArgs false

def heatV (f t : Int) : Int := if inB f 0 350 && inB t 0 350 then (if f < t then 2 * (t - f) else f - t) else -1
theorem heat_in (f t : Int) : -1 ≤ heatV f t ∧ heatV f t ≤ 700 := by
  unfold heatV
  split
  · rename_i h
    simp only [Bool.and_eq_true] at h
    have h1 := inB_tt h.1
    have h2 := inB_tt h.2
    split <;> omega
  · omega
def coolTo (h : Int) : Nat → Int
  | 0 => h
  | k + 1 => max 20 (coolTo h k - 1 - (coolTo h k - 20) / 50)
theorem coolTo_succ (h : Int) (k : Nat) : coolTo h (k + 1) = max 20 (coolTo h k - 1 - (coolTo h k - 20) / 50) := rfl
theorem coolTo_in (h : Int) (h1 : 20 ≤ h) (h2 : h ≤ 350) (k : Nat) : 20 ≤ coolTo h k ∧ coolTo h k ≤ 350 := by
  induction k with
  | zero => exact ⟨h1, h2⟩
  | succ k ih => rw [coolTo_succ]; omega
def coolV (h n : Int) : Int := if inB h 20 350 && inB n 0 1000 then coolTo h n.toNat else -1
end Go.Proofs.Ytgjbbidcpmglbaa
