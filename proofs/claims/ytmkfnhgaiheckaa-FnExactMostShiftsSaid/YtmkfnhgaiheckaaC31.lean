/- Chapter 31: CakeOk, HalfCut, Chooser. -/
import Derived.Test.YtmkfnhgaiheckaaAll
import Derived.Test.YtmkfnhgaiheckaaSums
import Derived.Test.YtmkfnhgaiheckaaSl
import Derived.Deep.QuietTactic
import Derived.BigQuiet
namespace Go.Proofs.Ytmkfnhgaiheckaa
open Go.ChangeShapes Go.WideShapes Go.ChangeAt Go.RowKit
set_option linter.unusedVariables false
set_option linter.unusedSimpArgs false
set_option maxHeartbeats 2000000

def cakeB (n : Nat) (xs : List Int) : Bool := allIn xs 0 1000 n && inB (n : Int) 1 40
theorem cake_at {n : Nat} {xs : List Int} (h : cakeB n xs = true) : 1 ≤ n ∧ n ≤ 40 ∧ ∀ i, i < n → 0 ≤ xs.getD i 0 ∧ xs.getD i 0 ≤ 1000 := by
  simp only [cakeB, Bool.and_eq_true] at h
  have := inB_tt h.2
  exact ⟨by omega, by omega, allIn_at h.1⟩
theorem iCakeOk (A : Option Addr) (n c : Nat) (xs : List Int) (w : World) (hn : n ≤ maxLen) (hx : ReadsI w A n xs) : Calls Try.prog 36 #[.slice A n c] w (Same (.bool (cakeB n xs)) w) := by
  have hn' := hn
  unfold maxLen at hn
  cases h1 : inB (n : Int) 1 40
  · have HV : Hid (cakeB n xs = false) := Lib.hid (by simp [cakeB, h1])
    go_enter Try.func36, Try.ntmps36
    go_wp2_with (first | (go_at_call 95; refine (sIn _ _ _ _).mono ?_; rintro e w' ⟨rfl, rfl⟩) | (go_at_call 105; refine (iIn _ _ _ _).mono ?_; rintro e w' ⟨rfl, rfl⟩))
    go_ret
    exact ⟨ret_bool HV.out.symm, rfl⟩
  · have HV : Hid (cakeB n xs = allIn xs 0 1000 n) := Lib.hid (by simp [cakeB, h1])
    go_enter Try.func36, Try.ntmps36
    go_wp2_with (first | (go_at_call 95; refine (sIn _ _ _ _).mono ?_; rintro e w' ⟨rfl, rfl⟩) | (go_at_call 105; refine (iIn _ _ _ _).mono ?_; rintro e w' ⟨rfl, rfl⟩) | (go_at_call 120; (with_reducible refine (iAll A n c xs 0 1000 _ hn' hx).mono ?_); rintro e w' ⟨rfl, rfl⟩))
    go_ret
    exact ⟨ret_bool HV.out.symm, rfl⟩
/-- what the parts ahead of a cut, and those behind it, are worth -/
theorem lsum_take (xs : List Int) (k : Nat) : lsum (xs.take k) k = lsum xs k := sumTo_congr _ _ k fun i hi => by simp [gI, List.getD_eq_getElem?_getD, hi]
theorem lsum_drop (xs : List Int) (k m : Nat) : lsum xs (k + m) = lsum xs k + lsum (xs.drop k) m := by
  induction m with
  | zero => simp [lsum, sumTo]
  | succ m ih =>
    have e : (xs.drop k).getD m 0 = xs.getD (k + m) 0 := by simp [List.getD_eq_getElem?_getD]
    rw [lsum_succ, ← Int.add_assoc, ← ih, e]
    rfl
theorem lsum_rest {xs : List Int} {k n : Nat} (h : k ≤ n) : lsum (xs.drop k) (n - k) = lsum xs n - lsum xs k := by
  have := lsum_drop xs k (n - k)
  rw [show k + (n - k) = n by omega] at this
  omega
def lessV (xs : List Int) (n k : Nat) : Int := min (lsum xs k) (lsum xs n - lsum xs k)
/-- the least cut with the best lesser side among the first k, and what it is worth -/
def hb (xs : List Int) (n : Nat) : Nat → Int × Int
  | 0 => (0, 0)
  | k + 1 => if (hb xs n k).2 < lessV xs n k then ((k : Int), lessV xs n k) else hb xs n k
theorem hb_in (xs : List Int) (n k : Nat) : 0 ≤ (hb xs n k).1 ∧ ((hb xs n k).1 < k ∨ (hb xs n k).1 = 0) ∧ 0 ≤ (hb xs n k).2 := by
  induction k with
  | zero => simp [hb]
  | succ k ih =>
    rw [hb]
    split
    · simp only; omega
    · omega
theorem hb_last {xs : List Int} {n : Nat} (h : 0 ≤ lsum xs n) : hb xs n (n + 1) = hb xs n n := by
  have := hb_in xs n n
  rw [hb, if_neg (by unfold lessV; omega)]
def halfV (n : Nat) (xs : List Int) : Value := if cakeB n xs then .tuple #[.int .i64 (hb xs n n).1, .int .i64 (hb xs n n).2] else .tuple #[.int .i64 (-1), .int .i64 (-1)]
def chooB (n : Nat) (xs : List Int) (m : Nat) (ys : List Int) : Bool := cakeB n xs && cakeB m ys && decide (n = m)
def chooV (n : Nat) (xs : List Int) (m : Nat) (ys : List Int) : Value := if chooB n xs m ys then
    (if lsum ys m - lsum ys (hb xs n n).1.toNat ≤ lsum ys (hb xs n n).1.toNat then .tuple #[.int .i64 (lsum xs n - lsum xs (hb xs n n).1.toNat), .int .i64 (lsum ys (hb xs n n).1.toNat)]
      else .tuple #[.int .i64 (lsum xs (hb xs n n).1.toNat), .int .i64 (lsum ys m - lsum ys (hb xs n n).1.toNat)])
  else .tuple #[.int .i64 (-1), .int .i64 (-1)]
theorem reads_in {w w' : World} {A : Option Addr} {n : Nat} {xs : List Int} (h : ReadsI w A n xs) (hi : In w.heap.size w w') : ReadsI w' A n xs := h.below hi.below (Nat.le_refl _)
theorem isidesOf (A : Option Addr) (n c k : Nat) (w : World) (hk : k ≤ n) (hn : n ≤ c) (hc : c ≤ maxLen) : Calls Try.prog 181 #[.slice A n c, .int .i64 (k : Int)] w (Val (.tuple #[.slice A k k, .slice (loA A n k) (n - k) (n - k)]) w) := by
  unfold maxLen at hc
  have s1 := fun w => sl3a A n c k (by omega) w
  have s2 := fun w => sl3b A n c k hk hn w
  go_enter Try.func181, Try.ntmps181
  go_wp2
  go_quiet (fail)
  go_wp2
  exact bodyPost_ret (v := .tuple #[.slice A k k, .slice (loA A n k) (n - k) (n - k)]) (by simp [results, Try.results181, go_sem]) rfl (Val.mk' rfl (by (repeat (first | exact In.refl _ | assumption | apply In.alloc | apply In.drewN | apply In.drew | (refine In.step ?_ (by assumption)) | (refine In.set_ ?_ (by (try simp) <;> omega) _)))))
theorem iworthOfSides (A : Option Addr) (n c k : Nat) (xs : List Int) (w : World) (hn : n ≤ 10000) (hs : ∀ i, i < n → 0 ≤ xs.getD i 0 ∧ xs.getD i 0 ≤ 1000000000) (hk : k ≤ n) (hc : n ≤ c) (hcm : c ≤ maxLen) (hx : ReadsI w A n xs) :
    Calls Try.prog 112 #[.slice A n c, .int .i64 (k : Int)] w (Val (.tuple #[.int .i64 (lsum xs k), .int .i64 (lsum xs n - lsum xs k)]) w) := by
  have HS1 : Hid (∀ i, i < k → 0 ≤ (xs.take k).getD i 0 ∧ (xs.take k).getD i 0 ≤ 1000000000) := Lib.hid fun i hi => by
    have := hs i (by omega)
    simpa [List.getD_eq_getElem?_getD, hi] using this
  have HS2 : Hid (∀ i, i < n - k → 0 ≤ (xs.drop k).getD i 0 ∧ (xs.drop k).getD i 0 ≤ 1000000000) := Lib.hid fun i hi => by
    have := hs (k + i) (by omega)
    simpa [List.getD_eq_getElem?_getD] using this
  have R1 := Lib.hid (reads_hi hx k hk)
  have R2 := Lib.hid (reads_lo (c := n) hx k hk (Nat.le_refl _))
  clear hs
  go_enter Try.func112, Try.ntmps112
  go_wp2_with fail
  refine (isidesOf A n c k _ hk hc hcm).mono ?_
  rintro _ w1 ⟨rfl, hb1⟩
  have i1 : In w.heap.size w w1 := In.step (by (repeat (first | exact In.refl _ | assumption | apply In.alloc | apply In.drewN | apply In.drew | (refine In.step ?_ (by assumption))))) hb1
  clear hb1
  go_wp2_with fail
  refine (isumOf A k k (xs.take k) _ (by omega) HS1.out (reads_in R1.out i1)).mono ?_
  rintro _ _ ⟨rfl, rfl⟩
  go_wp2_with fail
  refine (isumOf (loA A n k) (n - k) (n - k) (xs.drop k) _ (by omega) HS2.out (reads_in R2.out i1)).mono ?_
  rintro _ _ ⟨rfl, rfl⟩
  go_wp2
  exact bodyPost_ret (v := .tuple #[.int .i64 (lsum xs k), .int .i64 (lsum xs n - lsum xs k)]) (by simp [results, Try.results112, go_sem, lsum_take, lsum_rest hk]) rfl (Val.mk' rfl (by (repeat (first | exact In.refl _ | assumption | apply In.alloc | apply In.drewN | apply In.drew | (refine In.step ?_ (by assumption)) | (refine In.set_ ?_ (by (try simp) <;> omega) _)))))
theorem iHalfCut (A : Option Addr) (n c : Nat) (xs : List Int) (w : World) (hn : n ≤ maxLen) (hcp : n ≤ c) (hcm : c ≤ maxLen) (hx : ReadsI w A n xs) : Calls Try.prog 31 #[.slice A n c] w (Val (halfV n xs) w) := by
  cases h1 : cakeB n xs
  · have HV : Hid (halfV n xs = .tuple #[.int .i64 (-1), .int .i64 (-1)]) := Lib.hid (by simp [halfV, h1])
    go_enter Try.func31, Try.ntmps31
    go_wp2_with fail
    refine (iCakeOk A n c xs _ hn hx).mono ?_
    rintro _ _ ⟨rfl, rfl⟩
    rw [h1]
    go_wp2
    exact bodyPost_ret (v := .tuple #[.int .i64 (-1), .int .i64 (-1)]) (by simp [results, Try.results31, go_sem]) rfl (Val.mk' (by rw [HV.out]) (by (repeat (first | exact In.refl _ | assumption | apply In.alloc | apply In.drewN | apply In.drew | (refine In.step ?_ (by assumption)) | (refine In.set_ ?_ (by (try simp) <;> omega) _)))))
  have HV : Hid (halfV n xs = .tuple #[.int .i64 (hb xs n n).1, .int .i64 (hb xs n n).2]) := Lib.hid (by simp [halfV, h1])
  obtain ⟨n1, n2, hs⟩ := cake_at h1
  have HS := Lib.hid hs
  have HS2 : Hid (∀ i, i < n → 0 ≤ xs.getD i 0 ∧ xs.getD i 0 ≤ 1000000000) := Lib.hid fun i hi => by have := hs i hi; omega
  obtain ⟨t1, t2⟩ := lsum_in (xs := xs) (n := n) 1000 hs
  clear hs
  go_enter Try.func31, Try.ntmps31
  go_wp2_with fail
  refine (iCakeOk A n c xs _ hn hx).mono ?_
  rintro _ _ ⟨rfl, rfl⟩
  rw [h1]
  clear h1
  go_wp2
  go_loopw [4, 5, 14] (fun s t i wr => ∃ k : Nat, k ≤ n ∧ i = .int .i64 k ∧ s = .int .i64 (hb xs n k).1 ∧ t = .int .i64 (hb xs n k).2 ∧ In w.heap.size w wr) (fun _ _ i _ => n - (intOf i).toNat)
  case atStart => exact ⟨0, Nat.zero_le _, rfl, rfl, rfl, by (repeat (first | exact In.refl _ | assumption | apply In.alloc | apply In.drewN | apply In.drew | (refine In.step ?_ (by assumption))))⟩
  case round =>
    obtain ⟨k, hk, rfl, rfl, rfl, hi⟩ := hrel
    have hx' := reads_in hx hi
    have HX' := Lib.hid hx'
    clear hx'
    have HU : Hid (hb xs n (k + 1) = if (hb xs n k).2 < lessV xs n k then ((k : Int), lessV xs n k) else hb xs n k) := Lib.hid rfl
    obtain ⟨p1, p2, p3⟩ := hb_in xs n k
    by_cases hlt : k < n
    · have HL : Hid (lessV xs n k = min (lsum xs k) (lsum xs n - lsum xs k)) := Lib.hid rfl
      have hl1 : 0 ≤ lsum xs k := (lsum_in (xs := xs) (n := k) 1000 fun i hi => HS.out i (by omega)).1
      have hl2 : lsum xs k ≤ lsum xs n := sumTo_mono (gI xs) k n (by omega) fun i hi => (HS.out i hi).1
      go_wp2_with fail
      refine (iworthOfSides A n c k xs _ (by omega) HS2.out (by omega) hcp hcm HX'.out).mono ?_
      rintro _ w1 ⟨rfl, hb1⟩
      generalize hb xs n k = B at *
      obtain ⟨b1, b2⟩ := B
      generalize lsum xs k = l at *
      generalize lsum xs n = T at *
      simp only at p1 p2 p3 HU
      by_cases h1 : T - l < l
      · have hm : lessV xs n k = T - l := by rw [HL.out]; omega
        rw [hm] at HU
        clear hm
        by_cases h2 : b2 < T - l
        all_goals
          go_wp2
          go_roundw
          case rel => exact ⟨k + 1, by omega, by go_num, by rw [HU.out]; first | rw [if_pos (by omega)] | rw [if_neg (by omega)], by rw [HU.out]; first | rw [if_pos (by omega)] | rw [if_neg (by omega)], by (repeat (first | exact In.refl _ | assumption | apply In.alloc | apply In.drewN | apply In.drew | (refine In.step ?_ (by assumption))))⟩
          case measure => simp [intOf]; omega
      · have hm : lessV xs n k = l := by rw [HL.out]; omega
        rw [hm] at HU
        clear hm
        by_cases h2 : b2 < l
        all_goals
          go_wp2
          go_roundw
          case rel => exact ⟨k + 1, by omega, by go_num, by rw [HU.out]; first | rw [if_pos (by omega)] | rw [if_neg (by omega)], by rw [HU.out]; first | rw [if_pos (by omega)] | rw [if_neg (by omega)], by (repeat (first | exact In.refl _ | assumption | apply In.alloc | apply In.drewN | apply In.drew | (refine In.step ?_ (by assumption))))⟩
          case measure => simp [intOf]; omega
    · obtain rfl : k = n := by omega
      go_wp2
      exact bodyPost_ret (v := .tuple #[.int .i64 (hb xs k k).1, .int .i64 (hb xs k k).2]) (by simp [results, Try.results31, go_sem]) rfl (Val.mk' (by rw [HV.out]) (by (repeat (first | exact In.refl _ | assumption | apply In.alloc | apply In.drewN | apply In.drew | (refine In.step ?_ (by assumption)) | (refine In.set_ ?_ (by (try simp) <;> omega) _)))))
end Go.Proofs.Ytmkfnhgaiheckaa
