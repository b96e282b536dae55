/- Chapter 7: LoadsOf. -/
import Derived.Test.YtkchjkhcpenpfaeIn
namespace Go.Proofs.Ytkchjkhcpenpfae
open Go.ChangeShapes Go.WideShapes Go.ChangeAt Go.RowKit
set_option linter.unusedVariables false
set_option linter.unusedSimpArgs false

def loadsV (l m r : Int) : Int := if inB l 1 500 && inB m 1 200 && inB r 1 500 then (l + r - 1) / r else -1
theorem sLoadsOf (l m r : Int) (w : World) : Calls Try.prog 22 #[.agg #[.int .i64 l, .int .i64 m], .int .i64 r] w (Val (i64 (loadsV l m r)) w) := by
  cases h1 : inB l 1 500 <;> cases h2 : inB m 1 200 <;> cases h3 : inB r 1 500
  case true.true.true =>
    have HV : Hid (loadsV l m r = (l + r - 1) / r) := Lib.hid (by simp [loadsV, h1, h2, h3])
    obtain ⟨b1, b2⟩ := inB_tt h1
    obtain ⟨b3, b4⟩ := inB_tt h2
    obtain ⟨b5, b6⟩ := inB_tt h3
    go_enter Try.func22, Try.ntmps22
    go_wp2_with (first | (go_at_call 38; refine (sIn _ _ _ _).mono ?_; rintro e w' ⟨rfl, rfl⟩) | (go_at_call 30; refine (iIn _ _ _ _).mono ?_; rintro e w' ⟨rfl, rfl⟩) | go_in | (go_end0; simp only []; go_at_K))
    go_ret
    exact Val.mk' (v_int HV.out.symm) (by (repeat (first | exact In.refl _ | assumption | apply In.alloc | apply In.drewN | apply In.drew | (refine In.step ?_ (by assumption)))))
  all_goals
    have HV : Hid (loadsV l m r = -1) := Lib.hid (by simp [loadsV, h1, h2, h3])
    go_enter Try.func22, Try.ntmps22
    go_wp2_with (first | (go_at_call 38; refine (sIn _ _ _ _).mono ?_; rintro e w' ⟨rfl, rfl⟩) | (go_at_call 30; refine (iIn _ _ _ _).mono ?_; rintro e w' ⟨rfl, rfl⟩) | go_in | (go_end0; simp only []; go_at_K))
    go_ret
    exact Val.mk' (v_int HV.out.symm) (by (repeat (first | exact In.refl _ | assumption | apply In.alloc | apply In.drewN | apply In.drew | (refine In.step ?_ (by assumption)))))
theorem iLoadsOf (l m r : Int) (w : World) : Calls Try.prog 15 #[.agg #[.int .i64 l, .int .i64 m], .int .i64 r] w (Val (i64 (loadsV l m r)) w) := by
  cases h1 : inB l 1 500 <;> cases h2 : inB m 1 200 <;> cases h3 : inB r 1 500
  case true.true.true =>
    have HV : Hid (loadsV l m r = (l + r - 1) / r) := Lib.hid (by simp [loadsV, h1, h2, h3])
    obtain ⟨b1, b2⟩ := inB_tt h1
    obtain ⟨b3, b4⟩ := inB_tt h2
    obtain ⟨b5, b6⟩ := inB_tt h3
    go_enter Try.func15, Try.ntmps15
    go_wp2_with (first | (go_at_call 38; refine (sIn _ _ _ _).mono ?_; rintro e w' ⟨rfl, rfl⟩) | (go_at_call 30; refine (iIn _ _ _ _).mono ?_; rintro e w' ⟨rfl, rfl⟩) | go_in | (go_end0; simp only []; go_at_K))
    go_ret
    exact Val.mk' (v_int HV.out.symm) (by (repeat (first | exact In.refl _ | assumption | apply In.alloc | apply In.drewN | apply In.drew | (refine In.step ?_ (by assumption)))))
  all_goals
    have HV : Hid (loadsV l m r = -1) := Lib.hid (by simp [loadsV, h1, h2, h3])
    go_enter Try.func15, Try.ntmps15
    go_wp2_with (first | (go_at_call 38; refine (sIn _ _ _ _).mono ?_; rintro e w' ⟨rfl, rfl⟩) | (go_at_call 30; refine (iIn _ _ _ _).mono ?_; rintro e w' ⟨rfl, rfl⟩) | go_in | (go_end0; simp only []; go_at_K))
    go_ret
    exact Val.mk' (v_int HV.out.symm) (by (repeat (first | exact In.refl _ | assumption | apply In.alloc | apply In.drewN | apply In.drew | (refine In.step ?_ (by assumption)))))
end Go.Proofs.Ytkchjkhcpenpfae
