/- Sums of rows of numbers, the model's and the program's; a part of a row. -/
import Derived.Test.YtmkfnhgaiheckaaIn
import Derived.Test.YtmkfnhgaiheckaaIntR
import Derived.Test.YtmkfnhgaiheckaaSum
import Derived.Deep.Fields
namespace Go.Proofs.Ytmkfnhgaiheckaa
open Go.ChangeShapes Go.WideShapes Go.ChangeAt Go.RowKit
set_option linter.unusedVariables false
set_option linter.unusedSimpArgs false
set_option maxHeartbeats 2000000

def gI (xs : List Int) (i : Nat) : Int := xs.getD i 0
def lsum (xs : List Int) (n : Nat) : Int := sumTo (gI xs) n
theorem sl02Sum (A : Option Addr) (n c : Nat) (xs : List Int) (w : World) (hn : n ≤ 10000) (hs : ∀ i, i < n → 0 ≤ xs.getD i 0 ∧ xs.getD i 0 ≤ 1000000000) (hx : ReadsI w A n xs) : Calls Try.prog 177 #[.slice A n c] w (Same (i64 (lsum xs n)) w) := by
  have HS := Lib.hid hs
  clear hs
  go_enter Try.func177, Try.ntmps177
  go_wp2
  go_loop [3, 4] (fun s i => ∃ k : Nat, k ≤ n ∧ i = .int .i64 k ∧ s = .int .i64 (lsum xs k)) (fun _ i => n - (intOf i).toNat)
  case atStart => exact ⟨0, Nat.zero_le _, rfl, rfl⟩
  case round =>
    obtain ⟨k, hk, rfl, rfl⟩ := hrel
    have hU : lsum xs (k + 1) = lsum xs k + xs.getD k 0 := sumTo_succ (gI xs) k
    have HU := Lib.hid hU
    clear hU
    have hb : 0 ≤ lsum xs k ∧ lsum xs k ≤ k * 1000000000 := sumTo_bd (gI xs) 1000000000 k fun i hi => HS.out i (by omega)
    obtain ⟨b1, b2⟩ := hb
    by_cases hlt : k < n
    · obtain ⟨a, rfl, ha⟩ := hx.2 k hlt
      obtain ⟨x1, x2⟩ := HS.out k hlt
      generalize xs.getD k 0 = x at *
      generalize lsum xs k = s at *
      go_wp2
      go_round
      case rel => exact ⟨k + 1, by omega, by go_num, v_int HU.out.symm⟩
      case measure => simp [intOf]; omega
    · obtain rfl : k = n := by omega
      go_wp2
      go_ret
      exact ⟨rfl, rfl⟩
theorem isumOf (A : Option Addr) (n c : Nat) (xs : List Int) (w : World) (hn : n ≤ 10000) (hs : ∀ i, i < n → 0 ≤ xs.getD i 0 ∧ xs.getD i 0 ≤ 1000000000) (hx : ReadsI w A n xs) : Calls Try.prog 114 #[.slice A n c] w (Same (i64 (lsum xs n)) w) := by
  have HS := Lib.hid hs
  clear hs
  go_enter Try.func114, Try.ntmps114
  go_wp2
  go_loop [3, 8] (fun s i => ∃ k : Nat, k ≤ n ∧ i = .int .i64 k ∧ s = .int .i64 (lsum xs k)) (fun _ i => n - (intOf i).toNat)
  case atStart => exact ⟨0, Nat.zero_le _, rfl, rfl⟩
  case round =>
    obtain ⟨k, hk, rfl, rfl⟩ := hrel
    have hU : lsum xs (k + 1) = lsum xs k + xs.getD k 0 := sumTo_succ (gI xs) k
    have HU := Lib.hid hU
    clear hU
    have hb : 0 ≤ lsum xs k ∧ lsum xs k ≤ k * 1000000000 := sumTo_bd (gI xs) 1000000000 k fun i hi => HS.out i (by omega)
    obtain ⟨b1, b2⟩ := hb
    by_cases hlt : k < n
    · obtain ⟨a, rfl, ha⟩ := hx.2 k hlt
      obtain ⟨x1, x2⟩ := HS.out k hlt
      generalize xs.getD k 0 = x at *
      generalize lsum xs k = s at *
      go_wp2
      go_round
      case rel => exact ⟨k + 1, by omega, by go_num, v_int HU.out.symm⟩
      case measure => simp [intOf]; omega
    · obtain rfl : k = n := by omega
      go_wp2
      go_ret
      exact ⟨rfl, rfl⟩
theorem reads_seg {w : World} {a : Addr} {n : Nat} {xs : List Int} (h : ReadsI w (some a) n xs) (off m : Nat) (ho : off + m ≤ n) : ReadsI w (some (a.add off)) m ((xs.drop off).take m) := by
  refine ⟨by rw [List.length_take, List.length_drop, h.1]; omega, fun i hi => ?_⟩
  obtain ⟨a', ha, hc⟩ := h.2 (off + i) (by omega)
  obtain rfl := Option.some.inj ha
  refine ⟨_, rfl, ?_⟩
  rw [Deep.add_add, hc]
  simp [List.getD_eq_getElem?_getD, hi]
theorem lsum_in {xs : List Int} {n : Nat} (M : Int) (h : ∀ i, i < n → 0 ≤ xs.getD i 0 ∧ xs.getD i 0 ≤ M) : 0 ≤ lsum xs n ∧ lsum xs n ≤ n * M := sumTo_bd (gI xs) M n h
theorem lsum_succ (xs : List Int) (k : Nat) : lsum xs (k + 1) = lsum xs k + xs.getD k 0 := rfl
end Go.Proofs.Ytmkfnhgaiheckaa
