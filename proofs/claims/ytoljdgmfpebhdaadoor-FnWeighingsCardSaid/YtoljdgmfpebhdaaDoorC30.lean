/- Chapter 30: SaltAfter. -/
import Derived.Test.YtoljdgmfpebhdaaDoorIn
namespace Go.Proofs.YtoljdgmfpebhdaaDoor
open Go.ChangeShapes Go.WideShapes Go.ChangeAt Go.RowKit
set_option linter.unusedVariables false
set_option linter.unusedSimpArgs false
set_option maxHeartbeats 2000000

def saltV (g m : Int) : Int := if inB g 1 1000000 && inB m 0 g then m * 1000 / g else -1
theorem iSaltAfter (g m : Int) (w : World) : Calls Tryd.prog 29 #[.int .i64 g, .int .i64 m] w (Same (i64 (saltV g m)) w) := by
  cases h1 : inB g 1 1000000 <;> cases h2 : inB m 0 g
  case true.true =>
    obtain ⟨g1, g2⟩ := inB_tt h1
    obtain ⟨m1, m2⟩ := inB_tt h2
    have hg : g ≠ 0 := by omega
    have HV : Hid (saltV g m = m * 1000 / g) := Lib.hid (by simp [saltV, h1, h2])
    go_enter Tryd.func29, Tryd.ntmps29
    go_wp2_with (first | (go_at_call 30; refine (sIn _ _ _ _).mono ?_; rintro e w' ⟨rfl, rfl⟩) | (go_at_call 37; refine (iIn _ _ _ _).mono ?_; rintro e w' ⟨rfl, rfl⟩))
    go_ret
    exact ⟨ret_int HV.out.symm, rfl⟩
  all_goals
    have HV : Hid (saltV g m = -1) := Lib.hid (by simp [saltV, h1, h2])
    go_enter Tryd.func29, Tryd.ntmps29
    go_wp2_with (first | (go_at_call 30; refine (sIn _ _ _ _).mono ?_; rintro e w' ⟨rfl, rfl⟩) | (go_at_call 37; refine (iIn _ _ _ _).mono ?_; rintro e w' ⟨rfl, rfl⟩))
    go_ret
    exact ⟨ret_int HV.out.symm, rfl⟩
end Go.Proofs.YtoljdgmfpebhdaaDoor
