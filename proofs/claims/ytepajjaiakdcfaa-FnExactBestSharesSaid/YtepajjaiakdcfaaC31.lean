/- Chapter 31: CakeOk, HalfCut, Chooser. -/
import Derived.Test.YtepajjaiakdcfaaAll
import Derived.Test.YtepajjaiakdcfaaSums
import Derived.Test.YtepajjaiakdcfaaSl
import Derived.Deep.QuietTactic
import Derived.BigQuiet
namespace Go.Proofs.Ytepajjaiakdcfaa
open Go.ChangeShapes Go.WideShapes Go.ChangeAt Go.RowKit
set_option linter.unusedVariables false
set_option linter.unusedSimpArgs false
set_option maxHeartbeats 2000000

def cakeB (n : Nat) (xs : List Int) : Bool := allIn xs 0 1000 n && inB (n : Int) 1 40
theorem cake_at {n : Nat} {xs : List Int} (h : cakeB n xs = true) : 1 ≤ n ∧ n ≤ 40 ∧ ∀ i, i < n → 0 ≤ xs.getD i 0 ∧ xs.getD i 0 ≤ 1000 := by
  simp only [cakeB, Bool.and_eq_true] at h
  have := inB_tt h.2
  exact ⟨by omega, by omega, allIn_at h.1⟩
set_option maxHeartbeats 1000000 in
theorem sCakeOk (A : Option Addr) (n c : Nat) (xs : List Int) (w : World) (hn : n ≤ maxLen) (hx : ReadsI w A n xs) : Calls Try.prog 97 #[.slice A n c] w (Same (.bool (cakeB n xs)) w) := by
  unfold maxLen at hn
  go_enter Try.func97, Try.ntmps97
  go_wp2
  go_loop [3] (fun i => ∃ k : Nat, k ≤ n ∧ i = .int .i64 k ∧ (∀ i, i < k → inAt xs 0 1000 i = true)) (fun i => n - (intOf i).toNat)
  case atStart => exact ⟨0, Nat.zero_le _, rfl, fun i hi => absurd hi (Nat.not_lt_zero _)⟩
  case round =>
    obtain ⟨k, hk, rfl, ho⟩ := hrel
    have HO := Lib.hid ho
    clear ho
    by_cases hlt : k < n
    · obtain ⟨a, rfl, ha⟩ := hx.2 k hlt
      have HK : Hid (inAt xs 0 1000 k = inB (xs.getD k 0) 0 1000) := Lib.hid rfl
      generalize xs.getD k 0 = x at ha HK
      cases h1 : inB x 0 1000
      · have HF : Hid ((cakeB n xs) = false) := Lib.hid (by simp [cakeB, allIn_f k hlt (by rw [HK.out]; exact h1)])
        go_wp2_with (first | (go_at_call 79; refine (sIn _ _ _ _).mono ?_; rintro e w' ⟨rfl, rfl⟩) | (go_at_call 84; refine (iIn _ _ _ _).mono ?_; rintro e w' ⟨rfl, rfl⟩))
        go_ret
        exact ⟨ret_bool HF.out.symm, rfl⟩
      · have HT : Hid (inAt xs 0 1000 k = true) := Lib.hid (by rw [HK.out]; exact h1)
        go_wp2_with (first | (go_at_call 79; refine (sIn _ _ _ _).mono ?_; rintro e w' ⟨rfl, rfl⟩) | (go_at_call 84; refine (iIn _ _ _ _).mono ?_; rintro e w' ⟨rfl, rfl⟩))
        go_round
        case rel => exact ⟨k + 1, by omega, by go_num, fun i hi => by
            by_cases e : i = k
            · subst e; exact HT.out
            · exact HO.out i (by omega)⟩
        case measure => simp [intOf]; omega
    · obtain rfl : k = n := by omega
      have HT : Hid (allIn xs 0 1000 k = true) := Lib.hid (allIn_t HO.out)
      have HV : Hid (cakeB k xs = inB (k : Int) 1 40) := Lib.hid (by simp [cakeB, HT.out])
      go_wp2_with (first | (go_at_call 79; refine (sIn _ _ _ _).mono ?_; rintro e w' ⟨rfl, rfl⟩) | (go_at_call 84; refine (iIn _ _ _ _).mono ?_; rintro e w' ⟨rfl, rfl⟩))
      go_ret
      exact ⟨ret_bool HV.out.symm, rfl⟩
theorem iCakeOk (A : Option Addr) (n c : Nat) (xs : List Int) (w : World) (hn : n ≤ maxLen) (hx : ReadsI w A n xs) : Calls Try.prog 151 #[.slice A n c] w (Same (.bool (cakeB n xs)) w) := by
  have hn' := hn
  unfold maxLen at hn
  cases h1 : inB (n : Int) 1 40
  · have HV : Hid (cakeB n xs = false) := Lib.hid (by simp [cakeB, h1])
    go_enter Try.func151, Try.ntmps151
    go_wp2_with (first | (go_at_call 79; refine (sIn _ _ _ _).mono ?_; rintro e w' ⟨rfl, rfl⟩) | (go_at_call 84; refine (iIn _ _ _ _).mono ?_; rintro e w' ⟨rfl, rfl⟩))
    go_ret
    exact ⟨ret_bool HV.out.symm, rfl⟩
  · have HV : Hid (cakeB n xs = allIn xs 0 1000 n) := Lib.hid (by simp [cakeB, h1])
    go_enter Try.func151, Try.ntmps151
    go_wp2_with (first | (go_at_call 79; refine (sIn _ _ _ _).mono ?_; rintro e w' ⟨rfl, rfl⟩) | (go_at_call 84; refine (iIn _ _ _ _).mono ?_; rintro e w' ⟨rfl, rfl⟩) | (go_at_call 169; (with_reducible refine (iAll A n c xs 0 1000 _ hn' hx).mono ?_); rintro e w' ⟨rfl, rfl⟩))
    go_ret
    exact ⟨ret_bool HV.out.symm, rfl⟩
/-- what the parts ahead of a cut, and those behind it, are worth -/
theorem lsum_take (xs : List Int) (k : Nat) : lsum (xs.take k) k = lsum xs k := sumTo_congr _ _ k fun i hi => by simp [gI, List.getD_eq_getElem?_getD, hi]
theorem lsum_drop (xs : List Int) (k m : Nat) : lsum xs (k + m) = lsum xs k + lsum (xs.drop k) m := by
  induction m with
  | zero => simp [lsum, sumTo]
  | succ m ih =>
    have e : (xs.drop k).getD m 0 = xs.getD (k + m) 0 := by simp [List.getD_eq_getElem?_getD]
    rw [lsum_succ, ← Int.add_assoc, ← ih, e]
    rfl
theorem lsum_rest {xs : List Int} {k n : Nat} (h : k ≤ n) : lsum (xs.drop k) (n - k) = lsum xs n - lsum xs k := by
  have := lsum_drop xs k (n - k)
  rw [show k + (n - k) = n by omega] at this
  omega
def lessV (xs : List Int) (n k : Nat) : Int := min (lsum xs k) (lsum xs n - lsum xs k)
/-- the least cut with the best lesser side among the first k, and what it is worth -/
def hb (xs : List Int) (n : Nat) : Nat → Int × Int
  | 0 => (0, 0)
  | k + 1 => if (hb xs n k).2 < lessV xs n k then ((k : Int), lessV xs n k) else hb xs n k
theorem hb_in (xs : List Int) (n k : Nat) : 0 ≤ (hb xs n k).1 ∧ ((hb xs n k).1 < k ∨ (hb xs n k).1 = 0) ∧ 0 ≤ (hb xs n k).2 := by
  induction k with
  | zero => simp [hb]
  | succ k ih =>
    rw [hb]
    split
    · simp only; omega
    · omega
theorem hb_last {xs : List Int} {n : Nat} (h : 0 ≤ lsum xs n) : hb xs n (n + 1) = hb xs n n := by
  have := hb_in xs n n
  rw [hb, if_neg (by unfold lessV; omega)]
def halfV (n : Nat) (xs : List Int) : Value := if cakeB n xs then .tuple #[.int .i64 (hb xs n n).1, .int .i64 (hb xs n n).2] else .tuple #[.int .i64 (-1), .int .i64 (-1)]
def chooB (n : Nat) (xs : List Int) (m : Nat) (ys : List Int) : Bool := cakeB n xs && cakeB m ys && decide (n = m)
def chooV (n : Nat) (xs : List Int) (m : Nat) (ys : List Int) : Value := if chooB n xs m ys then
    (if lsum ys m - lsum ys (hb xs n n).1.toNat ≤ lsum ys (hb xs n n).1.toNat then .tuple #[.int .i64 (lsum xs n - lsum xs (hb xs n n).1.toNat), .int .i64 (lsum ys (hb xs n n).1.toNat)]
      else .tuple #[.int .i64 (lsum xs (hb xs n n).1.toNat), .int .i64 (lsum ys m - lsum ys (hb xs n n).1.toNat)])
  else .tuple #[.int .i64 (-1), .int .i64 (-1)]
theorem reads_in {w w' : World} {A : Option Addr} {n : Nat} {xs : List Int} (h : ReadsI w A n xs) (hi : In w.heap.size w w') : ReadsI w' A n xs := h.below hi.below (Nat.le_refl _)
theorem isidesOf (A : Option Addr) (n c k : Nat) (w : World) (hk : k ≤ n) (hn : n ≤ c) (hc : c ≤ maxLen) : Calls Try.prog 153 #[.slice A n c, .int .i64 (k : Int)] w (Val (.tuple #[.slice A k k, .slice (loA A n k) (n - k) (n - k)]) w) := by
  unfold maxLen at hc
  have s1 := fun w => sl3a A n c k (by omega) w
  have s2 := fun w => sl3b A n c k hk hn w
  go_enter Try.func153, Try.ntmps153
  go_wp2
  go_quiet (fail)
  go_wp2
  exact bodyPost_ret (v := .tuple #[.slice A k k, .slice (loA A n k) (n - k) (n - k)]) (by simp [results, Try.results153, go_sem]) rfl (Val.mk' rfl (by (repeat (first | exact In.refl _ | assumption | apply In.alloc | apply In.drewN | apply In.drew | (refine In.step ?_ (by assumption)) | (refine In.set_ ?_ (by (try simp) <;> omega) _)))))
end Go.Proofs.Ytepajjaiakdcfaa
