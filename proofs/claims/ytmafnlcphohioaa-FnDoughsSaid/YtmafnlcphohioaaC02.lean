/- Chapter 2: what its functions answer, the model's and the program's. -/
import Derived.Test.YtmafnlcphohioaaVal
import Derived.Test.YtmafnlcphohioaaChecked
import Derived.Deep.QuietTactic
import Derived.BigQuiet
import Derived.Deep.RegionHeld3
namespace Go.Proofs.Ytmafnlcphohioaa
open Go.ChangeShapes Go.WideShapes Go.ChangeAt Go.RowKit
set_option linter.unusedVariables false
set_option linter.unusedSimpArgs false

def dOk (a b c : Int) : Bool := decide (300 ≤ a ∧ a ≤ 1200 ∧ 0 ≤ b ∧ b ≤ 50 ∧ 0 ≤ c ∧ c ≤ 500)
def wholeV (a b c : Int) : Int := if dOk a b c then 1000 + a + b + c else -1
def flourV (a b c g : Int) : Int := if dOk a b c = true ∧ 0 ≤ g ∧ g ≤ 1000000 then (g * 1000 + (1000 + a + b + c) - 1).tdiv (1000 + a + b + c) else -1
def partV (f p : Int) : Int := if 0 ≤ f ∧ f ≤ 1000000 ∧ 0 ≤ p ∧ p ≤ 2000 then (f * p + 500).tdiv 1000 else -1
def firmV (a b c d e f : Int) : Int := if dOk a b c = true ∧ dOk d e f = true then (if a < d then -1 else if d < a then 1 else 0) else 0

theorem iDoughOk (a b c : Int) (w : World) : Calls Try.prog 31 #[.agg #[.int .i64 a, .int .i64 b, .int .i64 c]] w (Val (.bool (dOk a b c)) w) := by
  go_enter Try.func31, Try.ntmps31
  go_wp2
  all_goals (try (exfalso; simp only [Bool.not_eq_true', Bool.not_eq_false', decide_eq_true_eq, decide_eq_false_iff_not] at *; omega))
  all_goals go_ret
  all_goals first | refine Val.mk' (v_int ?_) (by (repeat (first | exact In.refl _ | assumption | apply In.alloc | apply In.drewN | apply In.drew | (refine In.step ?_ (by assumption))))) | refine Val.mk' (v_bool ?_) (by (repeat (first | exact In.refl _ | assumption | apply In.alloc | apply In.drewN | apply In.drew | (refine In.step ?_ (by assumption)))))
  all_goals try simp_all [dOk]
  all_goals try simp (disch := omega) only [w64]
  all_goals try omega
theorem iok (a b c : Int) (w : World) : Calls Try.prog 64 #[.agg #[.int .i64 a, .int .i64 b, .int .i64 c]] w (Val (.bool (dOk a b c)) w) := by
  go_enter Try.func64, Try.ntmps64
  go_wp2
  all_goals (try (exfalso; simp only [Bool.not_eq_true', Bool.not_eq_false', decide_eq_true_eq, decide_eq_false_iff_not] at *; omega))
  all_goals go_ret
  all_goals first | refine Val.mk' (v_int ?_) (by (repeat (first | exact In.refl _ | assumption | apply In.alloc | apply In.drewN | apply In.drew | (refine In.step ?_ (by assumption))))) | refine Val.mk' (v_bool ?_) (by (repeat (first | exact In.refl _ | assumption | apply In.alloc | apply In.drewN | apply In.drew | (refine In.step ?_ (by assumption)))))
  all_goals try simp_all [dOk]
  all_goals try simp (disch := omega) only [w64]
  all_goals try omega
theorem iWholeParts (a b c : Int) (w : World) : Calls Try.prog 26 #[.agg #[.int .i64 a, .int .i64 b, .int .i64 c]] w (Val (i64 (wholeV a b c)) w) := by
  go_enter Try.func26, Try.ntmps26
  go_wp2
  all_goals (try (exfalso; simp only [Bool.not_eq_true', Bool.not_eq_false', decide_eq_true_eq, decide_eq_false_iff_not] at *; omega))
  all_goals go_ret
  all_goals first | refine Val.mk' (v_int ?_) (by (repeat (first | exact In.refl _ | assumption | apply In.alloc | apply In.drewN | apply In.drew | (refine In.step ?_ (by assumption))))) | refine Val.mk' (v_bool ?_) (by (repeat (first | exact In.refl _ | assumption | apply In.alloc | apply In.drewN | apply In.drew | (refine In.step ?_ (by assumption)))))
  all_goals try simp_all [wholeV, dOk]
  all_goals try simp (disch := omega) only [w64]
  all_goals try omega
theorem iwhole (a b c : Int) (h : dOk a b c = true) (w : World) : Calls Try.prog 65 #[.agg #[.int .i64 a, .int .i64 b, .int .i64 c]] w (Val (i64 (1000 + a + b + c)) w) := by
  simp [dOk] at h
  go_enter Try.func65, Try.ntmps65
  go_wp2
  all_goals (try (exfalso; simp only [Bool.not_eq_true', Bool.not_eq_false', decide_eq_true_eq, decide_eq_false_iff_not] at *; omega))
  all_goals go_ret
  all_goals first | refine Val.mk' (v_int ?_) (by (repeat (first | exact In.refl _ | assumption | apply In.alloc | apply In.drewN | apply In.drew | (refine In.step ?_ (by assumption))))) | refine Val.mk' (v_bool ?_) (by (repeat (first | exact In.refl _ | assumption | apply In.alloc | apply In.drewN | apply In.drew | (refine In.step ?_ (by assumption)))))
  all_goals try simp_all []
  all_goals try simp (disch := omega) only [w64]
  all_goals try omega
theorem part_in {f p : Int} (h : 0 ≤ f ∧ f ≤ 1000000 ∧ 0 ≤ p ∧ p ≤ 2000) : wrap64 ((wrap64 (wrap64 (f * p) + 500)).tdiv 1000) = (f * p + 500).tdiv 1000 := by
  have hm := mul_in h.1 h.2.1 h.2.2.1 h.2.2.2
  rw [w64 (x := f * p) (by omega), w64 (x := f * p + 500) (by omega)]
  have ht := tdiv_in (a := f * p + 500) (b := 1000) (by omega) (by omega)
  exact w64 (by omega)
theorem iPartOf (f p : Int) (w : World) : Calls Try.prog 28 #[.int .i64 f, .int .i64 p] w (Val (i64 (partV f p)) w) := by
  go_enter Try.func28, Try.ntmps28
  go_wp2
  all_goals (try (exfalso; simp only [Bool.not_eq_true', Bool.not_eq_false', decide_eq_true_eq, decide_eq_false_iff_not] at *; omega))
  all_goals go_ret
  all_goals first | refine Val.mk' (v_int ?_) (by (repeat (first | exact In.refl _ | assumption | apply In.alloc | apply In.drewN | apply In.drew | (refine In.step ?_ (by assumption))))) | refine Val.mk' (v_bool ?_) (by (repeat (first | exact In.refl _ | assumption | apply In.alloc | apply In.drewN | apply In.drew | (refine In.step ?_ (by assumption)))))
  all_goals try simp_all [partV]
  all_goals try simp (disch := omega) only [w64]
  all_goals try omega
  all_goals exact part_in (by omega)
set_option maxHeartbeats 1000000 in
theorem iFirmer (a b c d e f : Int) (w : World) : Calls Try.prog 30 #[.agg #[.int .i64 a, .int .i64 b, .int .i64 c], .agg #[.int .i64 d, .int .i64 e, .int .i64 f]] w (Val (i64 (firmV a b c d e f)) w) := by
  go_enter Try.func30, Try.ntmps30
  go_wp2
  all_goals (try (exfalso; simp only [Bool.not_eq_true', Bool.not_eq_false', decide_eq_true_eq, decide_eq_false_iff_not] at *; omega))
  all_goals go_ret
  all_goals first | refine Val.mk' (v_int ?_) (by (repeat (first | exact In.refl _ | assumption | apply In.alloc | apply In.drewN | apply In.drew | (refine In.step ?_ (by assumption))))) | refine Val.mk' (v_bool ?_) (by (repeat (first | exact In.refl _ | assumption | apply In.alloc | apply In.drewN | apply In.drew | (refine In.step ?_ (by assumption)))))
  all_goals try simp_all [firmV, dOk]
  all_goals try simp (disch := omega) only [w64]
  all_goals try omega
theorem iFlourFor (a b c g : Int) (w : World) : Calls Try.prog 25 #[.agg #[.int .i64 a, .int .i64 b, .int .i64 c], .int .i64 g] w (Val (i64 (flourV a b c g)) w) := by
  by_cases hv : dOk a b c = true ∧ 0 ≤ g ∧ g ≤ 1000000
  · have hF : flourV a b c g = _ := if_pos hv
    rw [hF]
    have hd := hv.1
    simp [dOk] at hv
    obtain ⟨⟨h1, h2, h3, h4, h5, h6⟩, h7, h8⟩ := hv
    have e1 : IntKind.i64.wrap (g * 1000) = g * 1000 := IntWalk.i64_in _ (by omega)
    have e2 : IntKind.i64.wrap (g * 1000 + (1000 + a + b + c)) = g * 1000 + (1000 + a + b + c)  := IntWalk.i64_in _ (by omega)
    have e4 : IntKind.i64.wrap (g * 1000 + (1000 + a + b + c) - 1) = g * 1000 + (1000 + a + b + c) - 1 := IntWalk.i64_in _ (by omega)
    have e3 : 1000 + a + b + c ≠ 0 := by omega
    have e5 : (g * 1000 + (1000 + a + b + c) - 1).tdiv (1000 + a + b + c) = (g * 1000 + (1000 + a + b + c) - 1) / (1000 + a + b + c) := Int.tdiv_eq_ediv_of_nonneg (by omega)
    have e6 := tdiv_in (a := g * 1000 + (1000 + a + b + c) - 1) (b := 1000 + a + b + c) (by omega) (by omega)
    go_enter Try.func25, Try.ntmps25
    (go_wp2_with fail; refine (iok a b c _).mono ?_; rintro _ _ ⟨rfl, _⟩)
    rw [hd]
    go_wp2
    go_region_held3 (fun w' => In w.heap.size w w' ∧ w'.heap[w.heap.size]? = some (.cells #[.int .i64 a, .int .i64 b, .int .i64 c] 43 (0, 0)) ∧ w'.cell? ⟨w.heap.size, 0, none⟩ = some (.int .i64 a) ∧ w'.cell? ⟨w.heap.size, 1, none⟩ = some (.int .i64 b) ∧ w'.cell? ⟨w.heap.size, 2, none⟩ = some (.int .i64 c))
      (first
        | assumption
        | exact held3_step hb1 (by assumption)
        | exact held3 (by (repeat (first | exact In.refl _ | assumption | apply In.alloc | apply In.drewN | apply In.drew | (refine In.step ?_ (by assumption))))) (Blk.drew ((Blk.new _ _ _).below (by assumption) (by simp))))
      (first | (go_at_call 65; refine (iwhole a b c hd _).mono ?_; rintro e w1 ⟨rfl, hb1⟩))
    obtain ⟨hi, _⟩ := ‹In w.heap.size w w1 ∧ _›
    rw [e5] at e6 ⊢
    go_wp2
    all_goals (try (exfalso; simp only [Bool.not_eq_true', Bool.not_eq_false', decide_eq_true_eq, decide_eq_false_iff_not] at *; omega))
    all_goals go_ret
    all_goals first | refine Val.mk' (v_int ?_) (by (repeat (first | exact In.refl _ | assumption | apply In.alloc | apply In.drewN | apply In.drew | (refine In.step ?_ (by assumption))))) | refine Val.mk' (v_bool ?_) (by (repeat (first | exact In.refl _ | assumption | apply In.alloc | apply In.drewN | apply In.drew | (refine In.step ?_ (by assumption)))))
    all_goals try simp_all []
    all_goals try simp (disch := omega) only [w64]
    all_goals try omega
    all_goals exact IntWalk.i64_in _ (by omega)
  · have hF : flourV a b c g = _ := if_neg hv
    rw [hF]
    cases hd : dOk a b c
    · go_enter Try.func25, Try.ntmps25
      (go_wp2_with fail; refine (iok a b c _).mono ?_; rintro _ _ ⟨rfl, _⟩)
      rw [hd]
      go_wp2
      all_goals (try (exfalso; simp only [Bool.not_eq_true', Bool.not_eq_false', decide_eq_true_eq, decide_eq_false_iff_not] at *; omega))
      all_goals go_ret
      all_goals first | refine Val.mk' (v_int ?_) (by (repeat (first | exact In.refl _ | assumption | apply In.alloc | apply In.drewN | apply In.drew | (refine In.step ?_ (by assumption))))) | refine Val.mk' (v_bool ?_) (by (repeat (first | exact In.refl _ | assumption | apply In.alloc | apply In.drewN | apply In.drew | (refine In.step ?_ (by assumption)))))
      all_goals try simp_all []
      all_goals try simp (disch := omega) only [w64]
      all_goals try omega
    · have hg : g < 0 ∨ 1000000 < g := by simp [hd] at hv; omega
      rcases hg with hg | hg
      · go_enter Try.func25, Try.ntmps25
        (go_wp2_with fail; refine (iok a b c _).mono ?_; rintro _ _ ⟨rfl, _⟩)
        rw [hd]
        go_wp2
        all_goals (try (exfalso; simp only [Bool.not_eq_true', Bool.not_eq_false', decide_eq_true_eq, decide_eq_false_iff_not] at *; omega))
        all_goals go_ret
        all_goals first | refine Val.mk' (v_int ?_) (by (repeat (first | exact In.refl _ | assumption | apply In.alloc | apply In.drewN | apply In.drew | (refine In.step ?_ (by assumption))))) | refine Val.mk' (v_bool ?_) (by (repeat (first | exact In.refl _ | assumption | apply In.alloc | apply In.drewN | apply In.drew | (refine In.step ?_ (by assumption)))))
        all_goals try simp_all []
        all_goals try simp (disch := omega) only [w64]
        all_goals try omega
      · go_enter Try.func25, Try.ntmps25
        (go_wp2_with fail; refine (iok a b c _).mono ?_; rintro _ _ ⟨rfl, _⟩)
        rw [hd]
        go_wp2
        all_goals (try (exfalso; simp only [Bool.not_eq_true', Bool.not_eq_false', decide_eq_true_eq, decide_eq_false_iff_not] at *; omega))
        all_goals go_ret
        all_goals first | refine Val.mk' (v_int ?_) (by (repeat (first | exact In.refl _ | assumption | apply In.alloc | apply In.drewN | apply In.drew | (refine In.step ?_ (by assumption))))) | refine Val.mk' (v_bool ?_) (by (repeat (first | exact In.refl _ | assumption | apply In.alloc | apply In.drewN | apply In.drew | (refine In.step ?_ (by assumption)))))
        all_goals try simp_all []
        all_goals try simp (disch := omega) only [w64]
        all_goals try omega
end Go.Proofs.Ytmafnlcphohioaa
