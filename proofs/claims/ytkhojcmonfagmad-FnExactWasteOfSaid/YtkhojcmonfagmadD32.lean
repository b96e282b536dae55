/- Chapter 32: LeastStrips, WasteOf. -/
import Derived.Test.YtkhojcmonfagmadC32
import Derived.Test.YtkhojcmonfagmadSums
namespace Go.Proofs.Ytkhojcmonfagmad
open Go.ChangeShapes Go.WideShapes Go.ChangeAt Go.RowKit
set_option linter.unusedVariables false
set_option linter.unusedSimpArgs false
set_option maxHeartbeats 2000000

def wasteV (n : Nat) (xs : List Int) (s t : Int) : Int := if lenB n xs s && inB t 0 12 then max (-1) (t * s - lsum xs n) else -1
def longG (xs : List Int) (s : Int) (i : Nat) : Int := if s < 2 * xs.getD i 0 then 1 else 0
def leastV (n : Nat) (xs : List Int) (s : Int) : Int := if lenB n xs s then max (sumTo (longG xs s) n) ((lsum xs n + s - 1) / s) else -1
theorem iroundedUp (n d : Int) (h1 : 0 ≤ n) (h2 : n ≤ 100000000) (h3 : 1 ≤ d) (h4 : d ≤ 1000) (w : World) : Calls Try.prog 31 #[.int .i64 n, .int .i64 d] w (Same (i64 ((n + d - 1) / d)) w) := by
  have hd : d ≠ 0 := by omega
  go_enter Try.func31, Try.ntmps31
  go_wp2
  go_ret
  exact ⟨ret_int rfl, rfl⟩
theorem sWasteOf (A : Option Addr) (n c : Nat) (xs : List Int) (s t : Int) (w : World) (hn : n ≤ maxLen) (hx : ReadsI w A n xs) : Calls Try.prog 17 #[.slice A n c, .int .i64 s, .int .i64 t] w (Same (i64 (wasteV n xs s t)) w) := by
  cases h1 : lenB n xs s
  · have HV : Hid (wasteV n xs s t = -1) := Lib.hid (by simp [wasteV, h1])
    go_enter Try.func17, Try.ntmps17
    go_wp2_with fail
    refine (sLengthsOk A n c xs s _ hn hx).mono ?_
    rintro _ _ ⟨rfl, rfl⟩
    rw [h1]
    go_wp2_with (first | (go_at_call 33; refine (sIn _ _ _ _).mono ?_; rintro e w' ⟨rfl, rfl⟩) | (go_at_call 34; refine (iIn _ _ _ _).mono ?_; rintro e w' ⟨rfl, rfl⟩))
    go_ret
    exact ⟨ret_int HV.out.symm, rfl⟩
  cases h2 : inB t 0 12
  · have HV : Hid (wasteV n xs s t = -1) := Lib.hid (by simp [wasteV, h2])
    go_enter Try.func17, Try.ntmps17
    go_wp2_with fail
    refine (sLengthsOk A n c xs s _ hn hx).mono ?_
    rintro _ _ ⟨rfl, rfl⟩
    rw [h1]
    go_wp2_with (first | (go_at_call 33; refine (sIn _ _ _ _).mono ?_; rintro e w' ⟨rfl, rfl⟩) | (go_at_call 34; refine (iIn _ _ _ _).mono ?_; rintro e w' ⟨rfl, rfl⟩))
    go_ret
    exact ⟨ret_int HV.out.symm, rfl⟩
  have HV : Hid (wasteV n xs s t = max (-1) (t * s - lsum xs n)) := Lib.hid (by simp [wasteV, h1, h2])
  obtain ⟨n12, s1, s2, hs⟩ := len_at h1
  have HS := Lib.hid (fun i hi => (⟨by have := hs i hi; omega, by have := hs i hi; omega⟩ : 0 ≤ xs.getD i 0 ∧ xs.getD i 0 ≤ 1000000000))
  obtain ⟨l1, l2⟩ := lsum_in (xs := xs) (n := n) 200 (fun i hi => ⟨by have := hs i hi; omega, by have := hs i hi; omega⟩)
  obtain ⟨t1, t2⟩ := inB_tt h2
  obtain ⟨m1, m2⟩ := mul_in t1 t2 (show 0 ≤ s by omega) s2
  clear hs
  generalize hp : t * s = p at HV m1 m2
  have HP := Lib.hid hp
  clear hp
  go_enter Try.func17, Try.ntmps17
  go_wp2_with fail
  refine (sLengthsOk A n c xs s _ hn hx).mono ?_
  rintro _ _ ⟨rfl, rfl⟩
  rw [h1]
  have hp := HP.out
  go_wp2_with (first | (go_at_call 33; refine (sIn _ _ _ _).mono ?_; rintro e w' ⟨rfl, rfl⟩) | (go_at_call 34; refine (iIn _ _ _ _).mono ?_; rintro e w' ⟨rfl, rfl⟩))
  refine (sl02Sum A n c xs _ (by omega) HS.out hx).mono ?_
  rintro _ _ ⟨rfl, rfl⟩
  generalize lsum xs n = l at *
  by_cases hc : -1 < p - l
  all_goals
    go_wp2
    go_ret
    exact ⟨ret_int (by rw [HV.out]; omega), rfl⟩
theorem iWasteOf (A : Option Addr) (n c : Nat) (xs : List Int) (s t : Int) (w : World) (hn : n ≤ maxLen) (hx : ReadsI w A n xs) : Calls Try.prog 18 #[.slice A n c, .int .i64 s, .int .i64 t] w (Same (i64 (wasteV n xs s t)) w) := by
  cases h1 : lenB n xs s
  · have HV : Hid (wasteV n xs s t = -1) := Lib.hid (by simp [wasteV, h1])
    go_enter Try.func18, Try.ntmps18
    go_wp2_with fail
    refine (iLengthsOk A n c xs s _ hn hx).mono ?_
    rintro _ _ ⟨rfl, rfl⟩
    rw [h1]
    go_wp2_with (first | (go_at_call 33; refine (sIn _ _ _ _).mono ?_; rintro e w' ⟨rfl, rfl⟩) | (go_at_call 34; refine (iIn _ _ _ _).mono ?_; rintro e w' ⟨rfl, rfl⟩))
    go_ret
    exact ⟨ret_int HV.out.symm, rfl⟩
  cases h2 : inB t 0 12
  · have HV : Hid (wasteV n xs s t = -1) := Lib.hid (by simp [wasteV, h2])
    go_enter Try.func18, Try.ntmps18
    go_wp2_with fail
    refine (iLengthsOk A n c xs s _ hn hx).mono ?_
    rintro _ _ ⟨rfl, rfl⟩
    rw [h1]
    go_wp2_with (first | (go_at_call 33; refine (sIn _ _ _ _).mono ?_; rintro e w' ⟨rfl, rfl⟩) | (go_at_call 34; refine (iIn _ _ _ _).mono ?_; rintro e w' ⟨rfl, rfl⟩))
    go_ret
    exact ⟨ret_int HV.out.symm, rfl⟩
  have HV : Hid (wasteV n xs s t = max (-1) (t * s - lsum xs n)) := Lib.hid (by simp [wasteV, h1, h2])
  obtain ⟨n12, s1, s2, hs⟩ := len_at h1
  have HS := Lib.hid (fun i hi => (⟨by have := hs i hi; omega, by have := hs i hi; omega⟩ : 0 ≤ xs.getD i 0 ∧ xs.getD i 0 ≤ 1000000000))
  obtain ⟨l1, l2⟩ := lsum_in (xs := xs) (n := n) 200 (fun i hi => ⟨by have := hs i hi; omega, by have := hs i hi; omega⟩)
  obtain ⟨t1, t2⟩ := inB_tt h2
  obtain ⟨m1, m2⟩ := mul_in t1 t2 (show 0 ≤ s by omega) s2
  clear hs
  generalize hp : t * s = p at HV m1 m2
  have HP := Lib.hid hp
  clear hp
  go_enter Try.func18, Try.ntmps18
  go_wp2_with fail
  refine (iLengthsOk A n c xs s _ hn hx).mono ?_
  rintro _ _ ⟨rfl, rfl⟩
  rw [h1]
  have hp := HP.out
  go_wp2_with (first | (go_at_call 33; refine (sIn _ _ _ _).mono ?_; rintro e w' ⟨rfl, rfl⟩) | (go_at_call 34; refine (iIn _ _ _ _).mono ?_; rintro e w' ⟨rfl, rfl⟩))
  refine (isumOf A n c xs _ (by omega) HS.out hx).mono ?_
  rintro _ _ ⟨rfl, rfl⟩
  generalize lsum xs n = l at *
  by_cases hc : -1 < p - l
  all_goals
    go_wp2
    go_ret
    exact ⟨ret_int (by rw [HV.out]; omega), rfl⟩
theorem sLeastStrips (A : Option Addr) (n c : Nat) (xs : List Int) (s : Int) (w : World) (hn : n ≤ maxLen) (hx : ReadsI w A n xs) : Calls Try.prog 15 #[.slice A n c, .int .i64 s] w (Same (i64 (leastV n xs s)) w) := by
  cases h1 : lenB n xs s
  · have HV : Hid (leastV n xs s = -1) := Lib.hid (by simp [leastV, h1])
    go_enter Try.func15, Try.ntmps15
    go_wp2_with fail
    refine (sLengthsOk A n c xs s _ hn hx).mono ?_
    rintro _ _ ⟨rfl, rfl⟩
    rw [h1]
    go_wp2
    go_ret
    exact ⟨ret_int HV.out.symm, rfl⟩
  have HV : Hid (leastV n xs s = max (sumTo (longG xs s) n) ((lsum xs n + s - 1) / s)) := Lib.hid (by simp [leastV, h1])
  obtain ⟨n12, s1, s2, hs⟩ := len_at h1
  have HS := Lib.hid (fun i hi => (⟨by have := hs i hi; omega, by have := hs i hi; omega⟩ : 0 ≤ xs.getD i 0 ∧ xs.getD i 0 ≤ 1000000000))
  have HS2 := Lib.hid hs
  obtain ⟨l1, l2⟩ := lsum_in (xs := xs) (n := n) 200 (fun i hi => ⟨by have := hs i hi; omega, by have := hs i hi; omega⟩)
  clear hs
  go_enter Try.func15, Try.ntmps15
  go_wp2_with fail
  refine (sLengthsOk A n c xs s _ hn hx).mono ?_
  rintro _ _ ⟨rfl, rfl⟩
  rw [h1]
  clear h1
  go_wp2
  go_loop [5, 6] (fun m i => ∃ k : Nat, k ≤ n ∧ i = .int .i64 k ∧ m = .int .i64 (sumTo (longG xs s) k)) (fun _ i => n - (intOf i).toNat)
  case atStart => exact ⟨0, Nat.zero_le _, rfl, rfl⟩
  case round =>
    obtain ⟨k, hk, rfl, rfl⟩ := hrel
    have HU := Lib.hid (sumTo_succ (longG xs s) k)
    obtain ⟨b1, b2⟩ := sumTo_bd (longG xs s) 1 k fun i hi => by unfold longG; split <;> omega
    by_cases hlt : k < n
    · obtain ⟨a, rfl, ha⟩ := hx.2 k hlt
      obtain ⟨x1, x2⟩ := HS2.out k hlt
      have HG : Hid (longG xs s k = if s < 2 * xs.getD k 0 then 1 else 0) := Lib.hid rfl
      generalize xs.getD k 0 = x at *
      generalize sumTo (longG xs s) k = m at *
      by_cases hc : s < 2 * x
      all_goals
        go_wp2
        go_round
        case rel => exact ⟨k + 1, by omega, by go_num, v_int (by rw [HU.out, HG.out]; simp [hc])⟩
        case measure => simp [intOf]; omega
    · obtain rfl : k = n := by omega
      have hq1 : 0 ≤ (lsum xs k + s - 1) / s := Int.ediv_nonneg (by omega) (by omega)
      have hs0 : s ≠ 0 := by omega
      go_wp2_with (first | (go_at_call 33; refine (sIn _ _ _ _).mono ?_; rintro e w' ⟨rfl, rfl⟩) | (go_at_call 34; refine (iIn _ _ _ _).mono ?_; rintro e w' ⟨rfl, rfl⟩))
      refine (sl02Sum A k c xs _ (by omega) HS.out hx).mono ?_
      rintro _ _ ⟨rfl, rfl⟩
      generalize lsum xs k = l at *
      generalize sumTo (longG xs s) k = m at *
      skip
      generalize hz : (l + s - 1) / s = z at *
      have hz2 : (l + s - 1) / s = z := hz
      by_cases hc : m < z
      all_goals
        go_wp2
        go_ret
        exact ⟨ret_int (by rw [HV.out]; omega), rfl⟩
theorem iLeastStrips (A : Option Addr) (n c : Nat) (xs : List Int) (s : Int) (w : World) (hn : n ≤ maxLen) (hx : ReadsI w A n xs) : Calls Try.prog 16 #[.slice A n c, .int .i64 s] w (Same (i64 (leastV n xs s)) w) := by
  cases h1 : lenB n xs s
  · have HV : Hid (leastV n xs s = -1) := Lib.hid (by simp [leastV, h1])
    go_enter Try.func16, Try.ntmps16
    go_wp2_with fail
    refine (iLengthsOk A n c xs s _ hn hx).mono ?_
    rintro _ _ ⟨rfl, rfl⟩
    rw [h1]
    go_wp2
    go_ret
    exact ⟨ret_int HV.out.symm, rfl⟩
  have HV : Hid (leastV n xs s = max (sumTo (longG xs s) n) ((lsum xs n + s - 1) / s)) := Lib.hid (by simp [leastV, h1])
  obtain ⟨n12, s1, s2, hs⟩ := len_at h1
  have HS := Lib.hid (fun i hi => (⟨by have := hs i hi; omega, by have := hs i hi; omega⟩ : 0 ≤ xs.getD i 0 ∧ xs.getD i 0 ≤ 1000000000))
  have HS2 := Lib.hid hs
  obtain ⟨l1, l2⟩ := lsum_in (xs := xs) (n := n) 200 (fun i hi => ⟨by have := hs i hi; omega, by have := hs i hi; omega⟩)
  clear hs
  go_enter Try.func16, Try.ntmps16
  go_wp2_with fail
  refine (iLengthsOk A n c xs s _ hn hx).mono ?_
  rintro _ _ ⟨rfl, rfl⟩
  rw [h1]
  clear h1
  go_wp2
  go_loop [5, 14] (fun m i => ∃ k : Nat, k ≤ n ∧ i = .int .i64 k ∧ m = .int .i64 (sumTo (longG xs s) k)) (fun _ i => n - (intOf i).toNat)
  case atStart => exact ⟨0, Nat.zero_le _, rfl, rfl⟩
  case round =>
    obtain ⟨k, hk, rfl, rfl⟩ := hrel
    have HU := Lib.hid (sumTo_succ (longG xs s) k)
    obtain ⟨b1, b2⟩ := sumTo_bd (longG xs s) 1 k fun i hi => by unfold longG; split <;> omega
    by_cases hlt : k < n
    · obtain ⟨a, rfl, ha⟩ := hx.2 k hlt
      obtain ⟨x1, x2⟩ := HS2.out k hlt
      have HG : Hid (longG xs s k = if s < 2 * xs.getD k 0 then 1 else 0) := Lib.hid rfl
      generalize xs.getD k 0 = x at *
      generalize sumTo (longG xs s) k = m at *
      by_cases hc : s < 2 * x
      all_goals
        go_wp2
        go_round
        case rel => exact ⟨k + 1, by omega, by go_num, v_int (by rw [HU.out, HG.out]; simp [hc])⟩
        case measure => simp [intOf]; omega
    · obtain rfl : k = n := by omega
      have hq1 : 0 ≤ (lsum xs k + s - 1) / s := Int.ediv_nonneg (by omega) (by omega)
      have hs0 : s ≠ 0 := by omega
      go_wp2_with (first | (go_at_call 33; refine (sIn _ _ _ _).mono ?_; rintro e w' ⟨rfl, rfl⟩) | (go_at_call 34; refine (iIn _ _ _ _).mono ?_; rintro e w' ⟨rfl, rfl⟩))
      refine (isumOf A k c xs _ (by omega) HS.out hx).mono ?_
      rintro _ _ ⟨rfl, rfl⟩
      generalize lsum xs k = l at *
      generalize sumTo (longG xs s) k = m at *
      go_wp2_with (first | (go_at_call 33; refine (sIn _ _ _ _).mono ?_; rintro e w' ⟨rfl, rfl⟩) | (go_at_call 34; refine (iIn _ _ _ _).mono ?_; rintro e w' ⟨rfl, rfl⟩))
      refine (iroundedUp l s (by omega) (by omega) s1 (by omega) _).mono ?_
      rintro _ _ ⟨rfl, rfl⟩
      generalize hz : (l + s - 1) / s = z at *
      have hz2 : (l + s - 1) / s = z := hz
      by_cases hc : z < m
      all_goals
        go_wp2
        go_ret
        exact ⟨ret_int (by rw [HV.out]; omega), rfl⟩
end Go.Proofs.Ytkhojcmonfagmad
