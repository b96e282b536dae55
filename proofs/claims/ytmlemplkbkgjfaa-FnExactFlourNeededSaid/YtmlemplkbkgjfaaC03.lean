/- Chapter 3: LoafOk and BakedWeight. -/
import Derived.Test.YtmlemplkbkgjfaaIn
namespace Go.Proofs.Ytmlemplkbkgjfaa
open Go.ChangeShapes Go.WideShapes Go.ChangeAt Go.RowKit
set_option linter.unusedVariables false
set_option linter.unusedSimpArgs false

def loafB (a l : Int) : Bool := inB a 10 5000 && inB l 0 40
def bk (n l : Int) : Int := n - (n * l + 99) / 100
def bakedV (a l n : Int) : Int := if loafB a l && inB n 0 10000 then bk n l else -1
theorem sLoafOk (a l : Int) (w : World) : Calls Try.prog 81 #[.agg #[.int .i64 a, .int .i64 l]] w (Val (.bool (loafB a l)) w) := by
  cases h1 : inB a 10 5000 <;> cases h2 : inB l 0 40
  all_goals
    go_enter Try.func81, Try.ntmps81
    go_wp2_with (first | (go_at_call 82; refine (sIn _ _ _ _).mono ?_; rintro e w' ⟨rfl, rfl⟩) | (go_at_call 85; refine (iIn _ _ _ _).mono ?_; rintro e w' ⟨rfl, rfl⟩) | go_in | (go_end0; simp only []; go_at_K))
    go_ret
    exact Val.mk' (v_bool (by simp [loafB, h1, h2])) (by (repeat (first | exact In.refl _ | assumption | apply In.alloc | apply In.drewN | apply In.drew | (refine In.step ?_ (by assumption)))))
theorem iLoafOk (a l : Int) (w : World) : Calls Try.prog 84 #[.agg #[.int .i64 a, .int .i64 l]] w (Val (.bool (loafB a l)) w) := by
  cases h1 : inB a 10 5000 <;> cases h2 : inB l 0 40
  all_goals
    go_enter Try.func84, Try.ntmps84
    go_wp2_with (first | (go_at_call 82; refine (sIn _ _ _ _).mono ?_; rintro e w' ⟨rfl, rfl⟩) | (go_at_call 85; refine (iIn _ _ _ _).mono ?_; rintro e w' ⟨rfl, rfl⟩) | go_in | (go_end0; simp only []; go_at_K))
    go_ret
    exact Val.mk' (v_bool (by simp [loafB, h1, h2])) (by (repeat (first | exact In.refl _ | assumption | apply In.alloc | apply In.drewN | apply In.drew | (refine In.step ?_ (by assumption)))))
theorem sBakedWeight (a l n : Int) (w : World) : Calls Try.prog 112 #[.agg #[.int .i64 a, .int .i64 l], .int .i64 n] w (Val (i64 (bakedV a l n)) w) := by
  cases h1 : inB a 10 5000
  · have HV : Hid (bakedV a l n = -1) := Lib.hid (by simp [bakedV, loafB, h1])
    go_enter Try.func112, Try.ntmps112
    go_wp2_with (first | (go_at_call 82; refine (sIn _ _ _ _).mono ?_; rintro e w' ⟨rfl, rfl⟩) | (go_at_call 85; refine (iIn _ _ _ _).mono ?_; rintro e w' ⟨rfl, rfl⟩) | go_in | (go_end0; simp only []; go_at_K))
    go_ret
    exact Val.mk' (v_int HV.out.symm) (by (repeat (first | exact In.refl _ | assumption | apply In.alloc | apply In.drewN | apply In.drew | (refine In.step ?_ (by assumption)))))
  cases h2 : inB l 0 40
  · have HV : Hid (bakedV a l n = -1) := Lib.hid (by simp [bakedV, loafB, h1, h2])
    go_enter Try.func112, Try.ntmps112
    go_wp2_with (first | (go_at_call 82; refine (sIn _ _ _ _).mono ?_; rintro e w' ⟨rfl, rfl⟩) | (go_at_call 85; refine (iIn _ _ _ _).mono ?_; rintro e w' ⟨rfl, rfl⟩) | go_in | (go_end0; simp only []; go_at_K))
    go_ret
    exact Val.mk' (v_int HV.out.symm) (by (repeat (first | exact In.refl _ | assumption | apply In.alloc | apply In.drewN | apply In.drew | (refine In.step ?_ (by assumption)))))
  cases h3 : inB n 0 10000
  · have HV : Hid (bakedV a l n = -1) := Lib.hid (by simp [bakedV, loafB, h1, h2, h3])
    go_enter Try.func112, Try.ntmps112
    go_wp2_with (first | (go_at_call 82; refine (sIn _ _ _ _).mono ?_; rintro e w' ⟨rfl, rfl⟩) | (go_at_call 85; refine (iIn _ _ _ _).mono ?_; rintro e w' ⟨rfl, rfl⟩) | go_in | (go_end0; simp only []; go_at_K))
    go_ret
    exact Val.mk' (v_int HV.out.symm) (by (repeat (first | exact In.refl _ | assumption | apply In.alloc | apply In.drewN | apply In.drew | (refine In.step ?_ (by assumption)))))
  have HV : Hid (bakedV a l n = n - (n * l + 99) / 100) := Lib.hid (by simp [bakedV, loafB, h1, h2, h3, bk])
  obtain ⟨b1, b2⟩ := inB_tt h1
  obtain ⟨b3, b4⟩ := inB_tt h2
  obtain ⟨b5, b6⟩ := inB_tt h3
  obtain ⟨b7, b8⟩ := mul_in b5 b6 b3 b4
  go_enter Try.func112, Try.ntmps112
  go_wp2_with (first | (go_at_call 82; refine (sIn _ _ _ _).mono ?_; rintro e w' ⟨rfl, rfl⟩) | (go_at_call 85; refine (iIn _ _ _ _).mono ?_; rintro e w' ⟨rfl, rfl⟩) | go_in | (go_end0; simp only []; go_at_K))
  go_ret
  exact Val.mk' (v_int HV.out.symm) (by (repeat (first | exact In.refl _ | assumption | apply In.alloc | apply In.drewN | apply In.drew | (refine In.step ?_ (by assumption)))))
end Go.Proofs.Ytmlemplkbkgjfaa
