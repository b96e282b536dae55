/- The laws' has and sameInts. -/
import Derived.Test.YthndjpklfgcpmaaIntR
import Derived.Test.YthndjpklfgcpmaaSum
import Derived.Test.YthndjpklfgcpmaaIdxM
import Derived.Test.YthndjpklfgcpmaaChecked
import Derived.Deep.QuietTactic
import Derived.BigQuiet
namespace Go.Proofs.Ythndjpklfgcpmaa
open Go.ChangeShapes Go.WideShapes Go.ChangeAt Go.RowKit
set_option linter.unusedVariables false
set_option linter.unusedSimpArgs false
set_option maxHeartbeats 2000000

def hasB (xs : List Int) (x : Int) (n : Nat) : Bool := !allOk (fun i => !(xs.getD i 0 == x)) n
theorem has_c (A : Option Addr) (n c : Nat) (xs : List Int) (x : Int) (w : World) (hm : n ≤ 1000) (h : ReadsI w A n xs) :
    Calls Try.prog 32 #[.slice A n c, .int .i64 x] w (Same (.bool (hasB xs x n)) w) := by
  go_enter Try.func32, Try.ntmps32
  go_wp2
  go_loop [5] (fun i => ∃ k : Nat, k ≤ n ∧ i = .int .i64 k ∧ ∀ j, j < k → (xs.getD j 0 == x) = false) (fun i => n - (intOf i).toNat)
  case atStart => exact ⟨0, Nat.zero_le _, rfl, fun j hj => absurd hj (Nat.not_lt_zero j)⟩
  case round =>
    obtain ⟨k, hk, rfl, hj⟩ := hrel
    by_cases hlt : k < n
    · obtain ⟨ad, rfl, hc⟩ := h.2 k hlt
      have HJ := Lib.hid hj
      clear hj
      by_cases he : xs.getD k 0 = x
      · have HV : Hid (hasB xs x n = true) := Lib.hid (by
          unfold hasB
          rw [allOk_f _ _ k hlt (by rw [he]; simp)]
          rfl)
        rw [he] at hc
        go_wp2
        go_ret
        rw [HV.out]
        exact ⟨ret_bool rfl, rfl⟩
      · have he2 : (xs.getD k 0 == x) = false := by simpa using he
        have HE := Lib.hid (fun (j : Nat) (hjk : j = k) => show (xs.getD j 0 == x) = false by subst hjk; exact he2)
        clear he2
        generalize xs.getD k 0 = y at *
        go_wp2
        go_round
        case rel => exact ⟨k + 1, by omega, by go_num, fun j hj => by
          by_cases hjk : j < k
          · exact HJ.out j hjk
          · exact HE.out j (by omega)⟩
        case measure => simp [intOf]; omega
    · obtain rfl : k = n := by omega
      have HV : Hid (hasB xs x k = false) := Lib.hid (by
        unfold hasB
        rw [allOk_t _ _ fun i hi => by rw [hj i hi]; rfl]
        rfl)
      go_wp2
      go_ret
      rw [HV.out]
      exact ⟨ret_bool rfl, rfl⟩
theorem hasB_mem (xs : List Int) (x : Int) (n : Nat) (hn : xs.length = n) : hasB xs x n = decide (x ∈ xs) := by
  subst hn
  unfold hasB
  by_cases h : x ∈ xs
  · obtain ⟨k, hk, e⟩ := List.getElem_of_mem h
    rw [allOk_f _ _ k hk (by rw [List.getD_eq_getElem?_getD, List.getElem?_eq_getElem hk]; simp [e])]
    simp [h]
  · rw [allOk_t _ _ fun i hi => by
      have : xs.getD i 0 ≠ x := fun e => h (by rw [← e, List.getD_eq_getElem?_getD, List.getElem?_eq_getElem hi]; simp)
      simpa using this]
    simp [h]
theorem has_m (A : Option Addr) (n c : Nat) (xs : List Int) (x : Int) (w : World) (hm : n ≤ 1000) (h : ReadsI w A n xs) :
    Calls Try.prog 32 #[.slice A n c, .int .i64 x] w (Same (.bool (decide (x ∈ xs))) w) := by
  have := has_c A n c xs x w hm h
  rw [hasB_mem xs x n h.1] at this
  exact this
theorem getD_mem {xs : List Int} {k : Nat} (h : k < xs.length) : xs.getD k 0 ∈ xs := by
  rw [List.getD_eq_getElem?_getD, List.getElem?_eq_getElem h]
  simp
end Go.Proofs.Ythndjpklfgcpmaa
