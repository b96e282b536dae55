/- Chapter 34: MinutesTo, IsBetween. -/
import Derived.Test.YtkhojcmonfagmaaIn
namespace Go.Proofs.Ytkhojcmonfagmaa
open Go.ChangeShapes Go.WideShapes Go.ChangeAt Go.RowKit
set_option linter.unusedVariables false
set_option linter.unusedSimpArgs false
set_option maxHeartbeats 2000000

def minV (f t : Int) : Int := if inB f 0 1439 && inB t 0 1439 then (t - f + 1440) % 1440 else -1
def btwB (m f t : Int) : Bool := inB m 0 1439 && decide (minV f m < minV f t)
theorem minV_in (f t : Int) : -1 ≤ minV f t ∧ minV f t ≤ 1440 := by unfold minV; split <;> omega
theorem sm34 (n : Int) (w : World) : Calls Try.prog 21 #[.int .i64 n] w (Same (.bool (inB n 0 1439)) w) := by
  go_enter Try.func21, Try.ntmps21
  go_wp2_with (first | (go_at_call 35; refine (sIn _ _ _ _).mono ?_; rintro e w' ⟨rfl, rfl⟩) | (go_at_call 37; refine (iIn _ _ _ _).mono ?_; rintro e w' ⟨rfl, rfl⟩))
  go_ret
  exact ⟨rfl, rfl⟩
theorem sMinutesTo (f t : Int) (w : World) : Calls Try.prog 6 #[.int .i64 f, .int .i64 t] w (Same (i64 (minV f t)) w) := by
  cases h1 : inB f 0 1439 <;> cases h2 : inB t 0 1439
  case true.true =>
    obtain ⟨f1, f2⟩ := inB_tt h1
    obtain ⟨t1, t2⟩ := inB_tt h2
    have HV : Hid (minV f t = (t - f + 1440) % 1440) := Lib.hid (by simp [minV, h1, h2])
    go_enter Try.func6, Try.ntmps6
    go_wp2_with (first | (go_at_call 35; refine (sIn _ _ _ _).mono ?_; rintro e w' ⟨rfl, rfl⟩) | (go_at_call 37; refine (iIn _ _ _ _).mono ?_; rintro e w' ⟨rfl, rfl⟩) | (go_at_call 21; (with_reducible refine (sm34 _ _).mono ?_); rintro e w' ⟨rfl, rfl⟩))
    go_ret
    exact ⟨ret_int HV.out.symm, rfl⟩
  all_goals
    have HV : Hid (minV f t = -1) := Lib.hid (by simp [minV, h1, h2])
    go_enter Try.func6, Try.ntmps6
    go_wp2_with (first | (go_at_call 35; refine (sIn _ _ _ _).mono ?_; rintro e w' ⟨rfl, rfl⟩) | (go_at_call 37; refine (iIn _ _ _ _).mono ?_; rintro e w' ⟨rfl, rfl⟩) | (go_at_call 21; (with_reducible refine (sm34 _ _).mono ?_); rintro e w' ⟨rfl, rfl⟩))
    go_ret
    exact ⟨ret_int HV.out.symm, rfl⟩
theorem sIsBetween (m f t : Int) (w : World) : Calls Try.prog 8 #[.int .i64 m, .int .i64 f, .int .i64 t] w (Same (.bool (btwB m f t)) w) := by
  cases h0 : inB m 0 1439 <;> cases h1 : inB f 0 1439 <;> cases h2 : inB t 0 1439
  case true.true.true =>
    have HV : Hid (btwB m f t = decide (minV f m < minV f t)) := Lib.hid (by simp [btwB, h0])
    go_enter Try.func8, Try.ntmps8
    go_wp2_with (first | (go_at_call 35; refine (sIn _ _ _ _).mono ?_; rintro e w' ⟨rfl, rfl⟩) | (go_at_call 37; refine (iIn _ _ _ _).mono ?_; rintro e w' ⟨rfl, rfl⟩) | (go_at_call 21; (with_reducible refine (sm34 _ _).mono ?_); rintro e w' ⟨rfl, rfl⟩) | (go_at_call 6; (with_reducible refine (sMinutesTo _ _ _).mono ?_); rintro e w' ⟨rfl, rfl⟩))
    go_ret
    exact ⟨ret_bool HV.out.symm, rfl⟩
  all_goals
    have HV : Hid (btwB m f t = false) := Lib.hid (by simp [btwB, minV, h0, h1, h2]; try omega)
    go_enter Try.func8, Try.ntmps8
    go_wp2_with (first | (go_at_call 35; refine (sIn _ _ _ _).mono ?_; rintro e w' ⟨rfl, rfl⟩) | (go_at_call 37; refine (iIn _ _ _ _).mono ?_; rintro e w' ⟨rfl, rfl⟩) | (go_at_call 21; (with_reducible refine (sm34 _ _).mono ?_); rintro e w' ⟨rfl, rfl⟩))
    go_ret
    exact ⟨ret_bool HV.out.symm, rfl⟩
theorem im34 (n : Int) (w : World) : Calls Try.prog 22 #[.int .i64 n] w (Same (.bool (inB n 0 1439)) w) := by
  go_enter Try.func22, Try.ntmps22
  go_wp2_with (first | (go_at_call 35; refine (sIn _ _ _ _).mono ?_; rintro e w' ⟨rfl, rfl⟩) | (go_at_call 37; refine (iIn _ _ _ _).mono ?_; rintro e w' ⟨rfl, rfl⟩))
  go_ret
  exact ⟨rfl, rfl⟩
theorem iMinutesTo (f t : Int) (w : World) : Calls Try.prog 7 #[.int .i64 f, .int .i64 t] w (Same (i64 (minV f t)) w) := by
  cases h1 : inB f 0 1439 <;> cases h2 : inB t 0 1439
  case true.true =>
    obtain ⟨f1, f2⟩ := inB_tt h1
    obtain ⟨t1, t2⟩ := inB_tt h2
    have HV : Hid (minV f t = (t - f + 1440) % 1440) := Lib.hid (by simp [minV, h1, h2])
    go_enter Try.func7, Try.ntmps7
    go_wp2_with (first | (go_at_call 35; refine (sIn _ _ _ _).mono ?_; rintro e w' ⟨rfl, rfl⟩) | (go_at_call 37; refine (iIn _ _ _ _).mono ?_; rintro e w' ⟨rfl, rfl⟩) | (go_at_call 22; (with_reducible refine (im34 _ _).mono ?_); rintro e w' ⟨rfl, rfl⟩))
    go_ret
    exact ⟨ret_int HV.out.symm, rfl⟩
  all_goals
    have HV : Hid (minV f t = -1) := Lib.hid (by simp [minV, h1, h2])
    go_enter Try.func7, Try.ntmps7
    go_wp2_with (first | (go_at_call 35; refine (sIn _ _ _ _).mono ?_; rintro e w' ⟨rfl, rfl⟩) | (go_at_call 37; refine (iIn _ _ _ _).mono ?_; rintro e w' ⟨rfl, rfl⟩) | (go_at_call 22; (with_reducible refine (im34 _ _).mono ?_); rintro e w' ⟨rfl, rfl⟩))
    go_ret
    exact ⟨ret_int HV.out.symm, rfl⟩
theorem iIsBetween (m f t : Int) (w : World) : Calls Try.prog 9 #[.int .i64 m, .int .i64 f, .int .i64 t] w (Same (.bool (btwB m f t)) w) := by
  cases h0 : inB m 0 1439
  · have HV : Hid (btwB m f t = false) := Lib.hid (by simp [btwB, h0])
    go_enter Try.func9, Try.ntmps9
    go_wp2_with (first | (go_at_call 35; refine (sIn _ _ _ _).mono ?_; rintro e w' ⟨rfl, rfl⟩) | (go_at_call 37; refine (iIn _ _ _ _).mono ?_; rintro e w' ⟨rfl, rfl⟩) | (go_at_call 22; (with_reducible refine (im34 _ _).mono ?_); rintro e w' ⟨rfl, rfl⟩))
    go_ret
    exact ⟨ret_bool HV.out.symm, rfl⟩
  · have HV : Hid (btwB m f t = decide (minV f m < minV f t)) := Lib.hid (by simp [btwB, h0])
    go_enter Try.func9, Try.ntmps9
    go_wp2_with (first | (go_at_call 35; refine (sIn _ _ _ _).mono ?_; rintro e w' ⟨rfl, rfl⟩) | (go_at_call 37; refine (iIn _ _ _ _).mono ?_; rintro e w' ⟨rfl, rfl⟩) | (go_at_call 22; (with_reducible refine (im34 _ _).mono ?_); rintro e w' ⟨rfl, rfl⟩) | (go_at_call 7; (with_reducible refine (iMinutesTo _ _ _).mono ?_); rintro e w' ⟨rfl, rfl⟩))
    go_ret
    exact ⟨ret_bool HV.out.symm, rfl⟩
end Go.Proofs.Ytkhojcmonfagmaa
