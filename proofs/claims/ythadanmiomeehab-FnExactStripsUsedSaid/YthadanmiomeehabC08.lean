/- Chapter 8: HeatCost and CoolAfter. -/
import Derived.Test.YthadanmiomeehabIn
namespace Go.Proofs.Ythadanmiomeehab
open Go.ChangeShapes Go.WideShapes Go.ChangeAt Go.RowKit
set_option linter.unusedVariables false
set_option linter.unusedSimpArgs false

def heatV (f t : Int) : Int := if inB f 0 350 && inB t 0 350 then (if f < t then 2 * (t - f) else f - t) else -1
theorem heat_in (f t : Int) : -1 ≤ heatV f t ∧ heatV f t ≤ 700 := by
  unfold heatV
  split
  · rename_i h
    simp only [Bool.and_eq_true] at h
    have h1 := inB_tt h.1
    have h2 := inB_tt h.2
    split <;> omega
  · omega
theorem sHeatCost (f t : Int) (w : World) : Calls Try.prog 35 #[.int .i64 f, .int .i64 t] w (Same (i64 (heatV f t)) w) := by
  cases h1 : inB f 0 350
  · have HV : Hid (heatV f t = -1) := Lib.hid (by simp [heatV, h1])
    go_enter Try.func35, Try.ntmps35
    go_wp2_with (first | (go_at_call 46; refine (sIn _ _ _ _).mono ?_; rintro e w' ⟨rfl, rfl⟩) | (go_at_call 56; refine (iIn _ _ _ _).mono ?_; rintro e w' ⟨rfl, rfl⟩) | go_in | (go_end0; simp only []; go_at_K))
    go_ret
    exact ⟨ret_int HV.out.symm, rfl⟩
  · cases h2 : inB t 0 350
    · have HV : Hid (heatV f t = -1) := Lib.hid (by simp [heatV, h1, h2])
      go_enter Try.func35, Try.ntmps35
      go_wp2_with (first | (go_at_call 46; refine (sIn _ _ _ _).mono ?_; rintro e w' ⟨rfl, rfl⟩) | (go_at_call 56; refine (iIn _ _ _ _).mono ?_; rintro e w' ⟨rfl, rfl⟩) | go_in | (go_end0; simp only []; go_at_K))
      go_ret
      exact ⟨ret_int HV.out.symm, rfl⟩
    · obtain ⟨b1, b2⟩ := inB_tt h1
      obtain ⟨b3, b4⟩ := inB_tt h2
      by_cases h : f < t
      · have HV : Hid (heatV f t = 2 * (t - f)) := Lib.hid (by simp [heatV, h1, h2, h])
        go_enter Try.func35, Try.ntmps35
        go_wp2_with (first | (go_at_call 46; refine (sIn _ _ _ _).mono ?_; rintro e w' ⟨rfl, rfl⟩) | (go_at_call 56; refine (iIn _ _ _ _).mono ?_; rintro e w' ⟨rfl, rfl⟩) | go_in | (go_end0; simp only []; go_at_K))
        go_ret
        exact ⟨ret_int HV.out.symm, rfl⟩
      · have HV : Hid (heatV f t = f - t) := Lib.hid (by simp [heatV, h1, h2, h])
        go_enter Try.func35, Try.ntmps35
        go_wp2_with (first | (go_at_call 46; refine (sIn _ _ _ _).mono ?_; rintro e w' ⟨rfl, rfl⟩) | (go_at_call 56; refine (iIn _ _ _ _).mono ?_; rintro e w' ⟨rfl, rfl⟩) | go_in | (go_end0; simp only []; go_at_K))
        go_ret
        exact ⟨ret_int HV.out.symm, rfl⟩
theorem iHeatCost (f t : Int) (w : World) : Calls Try.prog 58 #[.int .i64 f, .int .i64 t] w (Same (i64 (heatV f t)) w) := by
  cases h1 : inB f 0 350
  · have HV : Hid (heatV f t = -1) := Lib.hid (by simp [heatV, h1])
    go_enter Try.func58, Try.ntmps58
    go_wp2_with (first | (go_at_call 46; refine (sIn _ _ _ _).mono ?_; rintro e w' ⟨rfl, rfl⟩) | (go_at_call 56; refine (iIn _ _ _ _).mono ?_; rintro e w' ⟨rfl, rfl⟩) | go_in | (go_end0; simp only []; go_at_K))
    go_ret
    exact ⟨ret_int HV.out.symm, rfl⟩
  · cases h2 : inB t 0 350
    · have HV : Hid (heatV f t = -1) := Lib.hid (by simp [heatV, h1, h2])
      go_enter Try.func58, Try.ntmps58
      go_wp2_with (first | (go_at_call 46; refine (sIn _ _ _ _).mono ?_; rintro e w' ⟨rfl, rfl⟩) | (go_at_call 56; refine (iIn _ _ _ _).mono ?_; rintro e w' ⟨rfl, rfl⟩) | go_in | (go_end0; simp only []; go_at_K))
      go_ret
      exact ⟨ret_int HV.out.symm, rfl⟩
    · obtain ⟨b1, b2⟩ := inB_tt h1
      obtain ⟨b3, b4⟩ := inB_tt h2
      by_cases h : f < t
      · have HV : Hid (heatV f t = 2 * (t - f)) := Lib.hid (by simp [heatV, h1, h2, h])
        go_enter Try.func58, Try.ntmps58
        go_wp2_with (first | (go_at_call 46; refine (sIn _ _ _ _).mono ?_; rintro e w' ⟨rfl, rfl⟩) | (go_at_call 56; refine (iIn _ _ _ _).mono ?_; rintro e w' ⟨rfl, rfl⟩) | go_in | (go_end0; simp only []; go_at_K))
        go_ret
        exact ⟨ret_int HV.out.symm, rfl⟩
      · have HV : Hid (heatV f t = f - t) := Lib.hid (by simp [heatV, h1, h2, h])
        go_enter Try.func58, Try.ntmps58
        go_wp2_with (first | (go_at_call 46; refine (sIn _ _ _ _).mono ?_; rintro e w' ⟨rfl, rfl⟩) | (go_at_call 56; refine (iIn _ _ _ _).mono ?_; rintro e w' ⟨rfl, rfl⟩) | go_in | (go_end0; simp only []; go_at_K))
        go_ret
        exact ⟨ret_int HV.out.symm, rfl⟩

def coolTo (h : Int) : Nat → Int
  | 0 => h
  | k + 1 => max 20 (coolTo h k - 1 - (coolTo h k - 20) / 50)
theorem coolTo_succ (h : Int) (k : Nat) : coolTo h (k + 1) = max 20 (coolTo h k - 1 - (coolTo h k - 20) / 50) := rfl
theorem coolTo_in (h : Int) (h1 : 20 ≤ h) (h2 : h ≤ 350) (k : Nat) : 20 ≤ coolTo h k ∧ coolTo h k ≤ 350 := by
  induction k with
  | zero => exact ⟨h1, h2⟩
  | succ k ih => rw [coolTo_succ]; omega
def coolV (h n : Int) : Int := if inB h 20 350 && inB n 0 1000 then coolTo h n.toNat else -1
end Go.Proofs.Ythadanmiomeehab
