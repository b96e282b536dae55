/- Chapter 2: what its functions answer, the model's and the program's. -/
import Derived.Test.YtmkfnhgaiheckaaVal
import Derived.Test.YtmkfnhgaiheckaaChecked
import Derived.Deep.QuietTactic
import Derived.BigQuiet
import Derived.Deep.RegionHeld3
namespace Go.Proofs.Ytmkfnhgaiheckaa
open Go.ChangeShapes Go.WideShapes Go.ChangeAt Go.RowKit
set_option linter.unusedVariables false
set_option linter.unusedSimpArgs false

def dOk (a b c : Int) : Bool := decide (300 ≤ a ∧ a ≤ 1200 ∧ 0 ≤ b ∧ b ≤ 50 ∧ 0 ≤ c ∧ c ≤ 500)
def wholeV (a b c : Int) : Int := if dOk a b c then 1000 + a + b + c else -1
def flourV (a b c g : Int) : Int := if dOk a b c = true ∧ 0 ≤ g ∧ g ≤ 1000000 then (g * 1000 + (1000 + a + b + c) - 1).tdiv (1000 + a + b + c) else -1
def partV (f p : Int) : Int := if 0 ≤ f ∧ f ≤ 1000000 ∧ 0 ≤ p ∧ p ≤ 2000 then (f * p + 500).tdiv 1000 else -1
def firmV (a b c d e f : Int) : Int := if dOk a b c = true ∧ dOk d e f = true then (if a < d then -1 else if d < a then 1 else 0) else 0

theorem sDoughOk (a b c : Int) (w : World) : Calls Try.prog 188 #[.agg #[.int .i64 a, .int .i64 b, .int .i64 c]] w (Val (.bool (dOk a b c)) w) := by
  go_enter Try.func188, Try.ntmps188
  go_wp2
  all_goals (try (exfalso; simp only [Bool.not_eq_true', Bool.not_eq_false', decide_eq_true_eq, decide_eq_false_iff_not] at *; omega))
  all_goals go_ret
  all_goals first | refine Val.mk' (v_int ?_) (by (repeat (first | exact In.refl _ | assumption | apply In.alloc | apply In.drewN | apply In.drew | (refine In.step ?_ (by assumption))))) | refine Val.mk' (v_bool ?_) (by (repeat (first | exact In.refl _ | assumption | apply In.alloc | apply In.drewN | apply In.drew | (refine In.step ?_ (by assumption)))))
  all_goals try simp_all [dOk]
  all_goals try simp (disch := omega) only [w64]
  all_goals try omega
theorem iok (a b c : Int) (w : World) : Calls Try.prog 192 #[.agg #[.int .i64 a, .int .i64 b, .int .i64 c]] w (Val (.bool (dOk a b c)) w) := by
  go_enter Try.func192, Try.ntmps192
  go_wp2
  all_goals (try (exfalso; simp only [Bool.not_eq_true', Bool.not_eq_false', decide_eq_true_eq, decide_eq_false_iff_not] at *; omega))
  all_goals go_ret
  all_goals first | refine Val.mk' (v_int ?_) (by (repeat (first | exact In.refl _ | assumption | apply In.alloc | apply In.drewN | apply In.drew | (refine In.step ?_ (by assumption))))) | refine Val.mk' (v_bool ?_) (by (repeat (first | exact In.refl _ | assumption | apply In.alloc | apply In.drewN | apply In.drew | (refine In.step ?_ (by assumption)))))
  all_goals try simp_all [dOk]
  all_goals try simp (disch := omega) only [w64]
  all_goals try omega
theorem part_in {f p : Int} (h : 0 ≤ f ∧ f ≤ 1000000 ∧ 0 ≤ p ∧ p ≤ 2000) : wrap64 ((wrap64 (wrap64 (f * p) + 500)).tdiv 1000) = (f * p + 500).tdiv 1000 := by
  have hm := mul_in h.1 h.2.1 h.2.2.1 h.2.2.2
  rw [w64 (x := f * p) (by omega), w64 (x := f * p + 500) (by omega)]
  have ht := tdiv_in (a := f * p + 500) (b := 1000) (by omega) (by omega)
  exact w64 (by omega)
theorem sPartOf (f p : Int) (w : World) : Calls Try.prog 189 #[.int .i64 f, .int .i64 p] w (Val (i64 (partV f p)) w) := by
  go_enter Try.func189, Try.ntmps189
  go_wp2
  all_goals (try (exfalso; simp only [Bool.not_eq_true', Bool.not_eq_false', decide_eq_true_eq, decide_eq_false_iff_not] at *; omega))
  all_goals go_ret
  all_goals first | refine Val.mk' (v_int ?_) (by (repeat (first | exact In.refl _ | assumption | apply In.alloc | apply In.drewN | apply In.drew | (refine In.step ?_ (by assumption))))) | refine Val.mk' (v_bool ?_) (by (repeat (first | exact In.refl _ | assumption | apply In.alloc | apply In.drewN | apply In.drew | (refine In.step ?_ (by assumption)))))
  all_goals try simp_all [partV]
  all_goals try simp (disch := omega) only [w64]
  all_goals try omega
  all_goals exact part_in (by omega)
theorem iPartOf (f p : Int) (w : World) : Calls Try.prog 202 #[.int .i64 f, .int .i64 p] w (Val (i64 (partV f p)) w) := by
  go_enter Try.func202, Try.ntmps202
  go_wp2
  all_goals (try (exfalso; simp only [Bool.not_eq_true', Bool.not_eq_false', decide_eq_true_eq, decide_eq_false_iff_not] at *; omega))
  all_goals go_ret
  all_goals first | refine Val.mk' (v_int ?_) (by (repeat (first | exact In.refl _ | assumption | apply In.alloc | apply In.drewN | apply In.drew | (refine In.step ?_ (by assumption))))) | refine Val.mk' (v_bool ?_) (by (repeat (first | exact In.refl _ | assumption | apply In.alloc | apply In.drewN | apply In.drew | (refine In.step ?_ (by assumption)))))
  all_goals try simp_all [partV]
  all_goals try simp (disch := omega) only [w64]
  all_goals try omega
  all_goals exact part_in (by omega)
end Go.Proofs.Ytmkfnhgaiheckaa
