/- The bytes of a drawn law, read ahead. -/
import Derived.Test.YtmkfnhgaiheckaaAt
namespace Go.Proofs.Ytmkfnhgaiheckaa
open Go.ChangeShapes Go.WideShapes Go.ChangeAt Go.RowKit
set_option linter.unusedVariables false
set_option linter.unusedSimpArgs false
set_option maxHeartbeats 2000000

theorem at_all (a : Option Addr) (len cap : Nat) (i : Int) (w : World) (h0 : 0 ≤ i) (h1 : i ≤ 1000) (h : ReadsU w a len) :
    ∃ x : Int, (0 ≤ x ∧ x ≤ 255) ∧ ∀ W, In w.heap.size w W → Calls Try.prog 33 #[.slice a len cap, .int .i64 i] W (Same (.int .i64 x) W) := by
  have hl := h.1
  unfold maxLen at hl
  by_cases e : len = 0
  · subst e
    refine ⟨0, ⟨by omega, by omega⟩, fun W _ => ?_⟩
    go_enter Try.func33, Try.ntmps33
    go_wp2
    go_ret
    exact ⟨rfl, rfl⟩
  · have hz : ((len : Int) == 0) = false := by simp; omega
    have hne : ¬ ((len : Int) = 0) := by omega
    have k0 : 0 ≤ (i * 5 + 1) % (len : Int) := Int.emod_nonneg _ (by omega)
    have k1 : (i * 5 + 1) % (len : Int) < len := Int.emod_lt_of_pos _ (by omega)
    obtain ⟨ad, x, rfl, hc, x0, x1⟩ := h.2 ((i * 5 + 1) % (len : Int)).toNat (by omega)
    refine ⟨x, ⟨x0, x1⟩, fun W hW => ?_⟩
    have hcW := cell_in hc hW
    clear hc
    go_enter Try.func33, Try.ntmps33
    go_wp2
    go_ret
    exact ⟨rfl, rfl⟩
end Go.Proofs.Ytmkfnhgaiheckaa
