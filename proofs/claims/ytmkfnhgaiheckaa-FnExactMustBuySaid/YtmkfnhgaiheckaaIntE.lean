/- The laws' comparison of slices of ints. -/
import Derived.Test.YtmkfnhgaiheckaaIntR
import Derived.Test.YtmkfnhgaiheckaaChecked
import Derived.Deep.QuietTactic
import Derived.BigQuiet
import Derived.Deep.RegionHeld3
namespace Go.Proofs.Ytmkfnhgaiheckaa
open Go.ChangeShapes Go.WideShapes Go.ChangeAt Go.RowKit
set_option linter.unusedVariables false

set_option maxHeartbeats 1000000 in
theorem eqI_c (A B : Option Addr) (n c d : Nat) (xs : List Int) (w : World) (hn : n ≤ maxLen) (hx : ReadsI w A n xs) (hy : ReadsI w B n xs) :
    Calls Try.prog 61 #[.slice A n c, .slice B n d] w (Val (.bool true) w) := by
  unfold maxLen at hn
  go_enter Try.func61, Try.ntmps61
  go_wp2
  go_loopw [5] (fun i wr => ∃ (k q : Nat), k ≤ n ∧ i = .int .i64 k ∧ wr = w.drewN q) (fun i _ => n - (intOf i).toNat)
  case atStart => exact ⟨0, 0, Nat.zero_le _, rfl, rfl⟩
  case round =>
    obtain ⟨k, q, hk, rfl, rfl⟩ := hrel
    by_cases hlt : k < n
    · obtain ⟨a, rfl, ha⟩ := hx.2 k hlt
      obtain ⟨b, rfl, hb⟩ := hy.2 k hlt
      generalize xs.getD k 0 = x at ha hb
      go_wp2
      go_quiet (fail)
      go_wp2
      go_roundw
      case rel => exact ⟨k + 1, _, by omega, by go_num, rfl⟩
      case measure => simp [intOf]; omega
    · go_wp2
      go_ret
      exact ⟨rfl, below_drewN (Below.refl _ _) _⟩

end Go.Proofs.Ytmkfnhgaiheckaa
