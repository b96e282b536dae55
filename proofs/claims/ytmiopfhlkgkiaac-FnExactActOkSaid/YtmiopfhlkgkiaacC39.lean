/- Chapter 39: ActOk. -/
import Derived.Test.YtmiopfhlkgkiaacIn
namespace Go.Proofs.Ytmiopfhlkgkiaac
open Go.ChangeShapes Go.WideShapes Go.ChangeAt Go.RowKit
set_option linter.unusedVariables false
set_option linter.unusedSimpArgs false
set_option maxHeartbeats 2000000

def actB (k a b : Int) : Bool := if k = 1 ∨ k = 2 ∨ k = 3 ∨ k = 6 then inB a 0 1000 && (b == 0) else if k = 5 then inB a 0 3 && inB b 0 100000 else if k = 4 then (a == 0) && (b == 0) else false
set_option maxHeartbeats 1000000 in
theorem sActOk (k a b : Int) (w : World) : Calls Try.prog 10 #[.agg #[.int .i64 k, .int .i64 a, .int .i64 b]] w (Val (.bool (actB k a b)) w) := by
  by_cases h5 : k = 5
  · subst h5
    cases h1 : inB a 0 3 <;> cases h2 : inB b 0 100000
    all_goals
      go_enter Try.func10, Try.ntmps10
      go_wp2_with (first | (go_at_call 23; refine (sIn _ _ _ _).mono ?_; rintro e w' ⟨rfl, rfl⟩) | (go_at_call 24; refine (iIn _ _ _ _).mono ?_; rintro e w' ⟨rfl, rfl⟩))
      go_ret
      exact Val.mk' (v_bool (by simp [actB, h1, h2])) (by (repeat (first | exact In.refl _ | assumption | apply In.alloc | apply In.drewN | apply In.drew | (refine In.step ?_ (by assumption)))))
  by_cases h4 : k = 4
  · subst h4
    cases h1 : (a == 0) <;> cases h2 : (b == 0)
    all_goals
      go_enter Try.func10, Try.ntmps10
      go_wp2_with (first | (go_at_call 23; refine (sIn _ _ _ _).mono ?_; rintro e w' ⟨rfl, rfl⟩) | (go_at_call 24; refine (iIn _ _ _ _).mono ?_; rintro e w' ⟨rfl, rfl⟩))
      go_ret
      exact Val.mk' (v_bool (by simp [actB, h1, h2])) (by (repeat (first | exact In.refl _ | assumption | apply In.alloc | apply In.drewN | apply In.drew | (refine In.step ?_ (by assumption)))))
  by_cases hk : k = 1 ∨ k = 2 ∨ k = 3 ∨ k = 6
  · cases h1 : inB a 0 1000 <;> cases h2 : (b == 0)
    all_goals
      have HV : Hid (actB k a b = (inB a 0 1000 && (b == 0))) := Lib.hid (if_pos hk)
      rw [h1, h2] at HV
      rcases hk with rfl | rfl | rfl | rfl
    all_goals
      go_enter Try.func10, Try.ntmps10
      go_wp2_with (first | (go_at_call 23; refine (sIn _ _ _ _).mono ?_; rintro e w' ⟨rfl, rfl⟩) | (go_at_call 24; refine (iIn _ _ _ _).mono ?_; rintro e w' ⟨rfl, rfl⟩))
      go_ret
      exact Val.mk' (v_bool (by rw [HV.out]; rfl)) (by (repeat (first | exact In.refl _ | assumption | apply In.alloc | apply In.drewN | apply In.drew | (refine In.step ?_ (by assumption)))))
  · have HV : Hid (actB k a b = false) := Lib.hid (by unfold actB; rw [if_neg hk, if_neg h5, if_neg h4])
    have k1 : (k == 1) = false := by simp; omega
    have k2 : (k == 2) = false := by simp; omega
    have k3 : (k == 3) = false := by simp; omega
    have k4 : (k == 4) = false := by simp; omega
    have k5 : (k == 5) = false := by simp; omega
    have k6 : (k == 6) = false := by simp; omega
    clear hk h4 h5
    go_enter Try.func10, Try.ntmps10
    go_wp2
    go_ret
    exact Val.mk' (v_bool HV.out.symm) (by (repeat (first | exact In.refl _ | assumption | apply In.alloc | apply In.drewN | apply In.drew | (refine In.step ?_ (by assumption)))))
set_option maxHeartbeats 1000000 in
theorem iActOk (k a b : Int) (w : World) : Calls Try.prog 12 #[.agg #[.int .i64 k, .int .i64 a, .int .i64 b]] w (Val (.bool (actB k a b)) w) := by
  by_cases h5 : k = 5
  · subst h5
    cases h1 : inB a 0 3 <;> cases h2 : inB b 0 100000
    all_goals
      go_enter Try.func12, Try.ntmps12
      go_wp2_with (first | (go_at_call 23; refine (sIn _ _ _ _).mono ?_; rintro e w' ⟨rfl, rfl⟩) | (go_at_call 24; refine (iIn _ _ _ _).mono ?_; rintro e w' ⟨rfl, rfl⟩))
      go_ret
      exact Val.mk' (v_bool (by simp [actB, h1, h2])) (by (repeat (first | exact In.refl _ | assumption | apply In.alloc | apply In.drewN | apply In.drew | (refine In.step ?_ (by assumption)))))
  by_cases h4 : k = 4
  · subst h4
    cases h1 : (a == 0) <;> cases h2 : (b == 0)
    all_goals
      go_enter Try.func12, Try.ntmps12
      go_wp2_with (first | (go_at_call 23; refine (sIn _ _ _ _).mono ?_; rintro e w' ⟨rfl, rfl⟩) | (go_at_call 24; refine (iIn _ _ _ _).mono ?_; rintro e w' ⟨rfl, rfl⟩))
      go_ret
      exact Val.mk' (v_bool (by simp [actB, h1, h2])) (by (repeat (first | exact In.refl _ | assumption | apply In.alloc | apply In.drewN | apply In.drew | (refine In.step ?_ (by assumption)))))
  by_cases hk : k = 1 ∨ k = 2 ∨ k = 3 ∨ k = 6
  · cases h1 : inB a 0 1000 <;> cases h2 : (b == 0)
    all_goals
      have HV : Hid (actB k a b = (inB a 0 1000 && (b == 0))) := Lib.hid (if_pos hk)
      rw [h1, h2] at HV
      rcases hk with rfl | rfl | rfl | rfl
    all_goals
      go_enter Try.func12, Try.ntmps12
      go_wp2_with (first | (go_at_call 23; refine (sIn _ _ _ _).mono ?_; rintro e w' ⟨rfl, rfl⟩) | (go_at_call 24; refine (iIn _ _ _ _).mono ?_; rintro e w' ⟨rfl, rfl⟩))
      go_ret
      exact Val.mk' (v_bool (by rw [HV.out]; rfl)) (by (repeat (first | exact In.refl _ | assumption | apply In.alloc | apply In.drewN | apply In.drew | (refine In.step ?_ (by assumption)))))
  · have HV : Hid (actB k a b = false) := Lib.hid (by unfold actB; rw [if_neg hk, if_neg h5, if_neg h4])
    have k1 : (k == 1) = false := by simp; omega
    have k2 : (k == 2) = false := by simp; omega
    have k3 : (k == 3) = false := by simp; omega
    have k4 : (k == 4) = false := by simp; omega
    have k5 : (k == 5) = false := by simp; omega
    have k6 : (k == 6) = false := by simp; omega
    clear hk h4 h5
    go_enter Try.func12, Try.ntmps12
    go_wp2
    go_ret
    exact Val.mk' (v_bool HV.out.symm) (by (repeat (first | exact In.refl _ | assumption | apply In.alloc | apply In.drewN | apply In.drew | (refine In.step ?_ (by assumption)))))
end Go.Proofs.Ytmiopfhlkgkiaac
