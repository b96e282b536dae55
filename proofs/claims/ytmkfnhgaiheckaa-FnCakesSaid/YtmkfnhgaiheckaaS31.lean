/- Chapter 31: Shares. -/
import Derived.Test.YtmkfnhgaiheckaaK31
namespace Go.Proofs.Ytmkfnhgaiheckaa
open Go.ChangeShapes Go.WideShapes Go.ChangeAt Go.RowKit
set_option linter.unusedVariables false
set_option linter.unusedSimpArgs false
set_option maxHeartbeats 2000000

theorem rowV_of9 {a w : World} {A : Option Addr} {n c : Nat} {zs : List Int} {v : Value} (hl : zs.length = n) (ho : w.ownsRow a.heap.size 3 1 (.slice A n c) n (iv zs)) (hb : Below a.heap.size a w) : RowV zs v a (.returned (.tuple #[.slice A n c, v])) w := by
  subst hl; exact ⟨_, _, rfl, ho, hb⟩
theorem wide9 {n : Nat} {xs : List Int} (hs : ∀ i, i < n → 0 ≤ xs.getD i 0 ∧ xs.getD i 0 ≤ 1000) : ∀ i, i < n → 0 ≤ xs.getD i 0 ∧ xs.getD i 0 ≤ 1000000000 := fun i hi => by have := hs i hi; omega
theorem vq_in {W N : Int} (hW : 0 ≤ W ∧ W ≤ 40000) (hN : 1 ≤ N ∧ N ≤ 10) : 0 ≤ (W + N - 1) / N ∧ (W + N - 1) / N ≤ 40020 := by
  refine ⟨Int.ediv_nonneg (by omega) (by omega), ?_⟩
  have h2 : (W + N - 1) / N ≤ W + N - 1 := Int.ediv_le_self N (by omega)
  omega
theorem own_cap_9 {w : World} {base n c : Nat} {e : TypeId} {A : Option Addr} {xs : List Value} (h : w.ownsRow base e 1 (.slice A n c) n xs) : n ≤ c := by
  rcases h.2 with ⟨h1, h2⟩ | ⟨g, cap, cur, hv, hg, hh, hnc, _⟩
  · omega
  · injection hv with _ _ h3; omega
end Go.Proofs.Ytmkfnhgaiheckaa
