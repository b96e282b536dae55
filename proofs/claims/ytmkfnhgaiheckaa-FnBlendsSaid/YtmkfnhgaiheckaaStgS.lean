/- Chapter 27: StrongestFor, the model. -/
import Derived.Test.YtmkfnhgaiheckaaStg
import Derived.Test.YtmkfnhgaiheckaaQuiet
import Derived.BigQuiet
import Derived.Deep.QuietTactic
namespace Go.Proofs.Ytmkfnhgaiheckaa
open Go.ChangeShapes Go.WideShapes Go.ChangeAt Go.RowKit
set_option linter.unusedVariables false
set_option linter.unusedSimpArgs false
set_option maxHeartbeats 2000000

theorem gT_tot {xs : List FlourR} {n : Nat} {tot : Int} (hk : ∀ i, i < n → 0 ≤ kI xs i) (ht : 0 ≤ tot) (r : Nat) : 0 ≤ (sT xs n tot r).1 ∧ (sT xs n tot r).1 ≤ tot := by
  induction r with
  | zero => exact ⟨ht, Int.le_refl _⟩
  | succ r ih =>
    rw [sT]
    split
    · rename_i h
      have hb : (bst xs (sT xs n tot r).2 n).toNat < n := by
        rcases bst_is (xs := xs) (sT xs n tot r).2 n with ⟨h1, _⟩ | ⟨b, h1, h2, _⟩ <;> omega
      have := hk _ hb
      simp only []
      omega
    · exact ih
end Go.Proofs.Ytmkfnhgaiheckaa
