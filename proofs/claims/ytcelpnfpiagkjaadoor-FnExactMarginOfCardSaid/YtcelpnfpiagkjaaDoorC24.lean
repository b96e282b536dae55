/- Chapter 24: CostOk, AddCosts, PerLoaf, LargestPart. -/
import Derived.Test.YtcelpnfpiagkjaaDoorAll
import Derived.Test.YtcelpnfpiagkjaaDoorGi
import Derived.Test.YtcelpnfpiagkjaaDoorQuiet
import Derived.StillTailTactics
namespace Go.Proofs.YtcelpnfpiagkjaaDoor
open Go.ChangeShapes Go.WideShapes Go.ChangeAt Go.RowKit
set_option linter.unusedVariables false
set_option linter.unusedSimpArgs false

def costB (a b c : Int) : Bool := inB a 0 100000 && inB b 0 100000 && inB c 0 100000
theorem cost_all (a b c : Int) : allIn [a, b, c] 0 100000 3 = costB a b c := by simp [allIn, allOk, inAt, costB]
theorem cost_in {a b c : Int} (h : costB a b c = true) : 0 ≤ a ∧ a ≤ 100000 ∧ 0 ≤ b ∧ b ≤ 100000 ∧ 0 ≤ c ∧ c ≤ 100000 := by
  simp only [costB, Bool.and_eq_true] at h
  have h1 := inB_tt h.1.1
  have h2 := inB_tt h.1.2
  have h3 := inB_tt h.2
  omega
theorem sCostOk (a b c : Int) (w : World) : Calls Tryd.prog 10 #[.agg #[.int .i64 a, .int .i64 b, .int .i64 c]] w (Val (.bool (costB a b c)) w) := by
  cases h1 : inB a 0 100000 <;> cases h2 : inB b 0 100000 <;> cases h3 : inB c 0 100000
  all_goals
    go_enter Tryd.func10, Tryd.ntmps10
    go_wp2_with (first | (go_at_call 11; refine (sIn _ _ _ _).mono ?_; rintro e w' ⟨rfl, rfl⟩) | (go_at_call 14; refine (iIn _ _ _ _).mono ?_; rintro e w' ⟨rfl, rfl⟩) | go_in | (go_end0; simp only []; go_at_K))
    go_ret
    exact Val.mk' (v_bool (by simp [costB, h1, h2, h3])) (by (repeat (first | exact In.refl _ | assumption | apply In.alloc | apply In.drewN | apply In.drew | (refine In.step ?_ (by assumption)))))
theorem iCostOk (a b c : Int) (w : World) : Calls Tryd.prog 15 #[.agg #[.int .i64 a, .int .i64 b, .int .i64 c]] w (Val (.bool (costB a b c)) w) := by
  go_enter Tryd.func15, Tryd.ntmps15
  go_wp2_with fail
  refine (iAll _ 3 3 [a, b, c] 0 100000 _ (by unfold maxLen; omega) (reads_at _ _ #[.int .i64 a, .int .i64 b, .int .i64 c] [a, b, c] _ (by simp) rfl)).mono ?_
  rintro _ _ ⟨rfl, rfl⟩
  rw [cost_all]
  go_wp2
  go_ret
  exact Val.mk' rfl (by (repeat (first | exact In.refl _ | assumption | apply In.alloc | apply In.drewN | apply In.drew | (refine In.step ?_ (by assumption)))))
def largV (a b c : Int) : Int := if costB a b c then (if b ≤ a ∧ c ≤ a then 0 else if c ≤ b then 1 else 2) else -1
theorem larg_gidx (a b c : Int) : gidx [a, b, c] 3 = if b ≤ a ∧ c ≤ a then 0 else if c ≤ b then 1 else 2 := by
  rw [gidx, if_neg (by decide)]
  by_cases h1 : a < b <;> by_cases h2 : a < c <;> by_cases h3 : b < c
  all_goals
    simp [amax, gF, h1, h2, h3]
  all_goals (try omega)
  all_goals (repeat' split) 
  all_goals (try omega)
def upV (n d : Int) : Int := (n + (d - 1)) / d
theorem up_in {n d : Int} (h1 : 0 ≤ n) (h2 : n ≤ 100000000) (h3 : 1 ≤ d) (h4 : d ≤ 1000) : 0 ≤ upV n d ∧ upV n d ≤ 100001000 := by
  unfold upV
  have e1 : 0 ≤ (n + (d - 1)) / d := Int.ediv_nonneg (by omega) (by omega)
  have e2 := Int.ediv_le_self (a := n + (d - 1)) d (by omega)
  omega
theorem iroundedUp (n d : Int) (h1 : 0 ≤ n) (h2 : n ≤ 100000000) (h3 : 1 ≤ d) (h4 : d ≤ 1000) (w : World) : Calls Tryd.prog 16 #[.int .i64 n, .int .i64 d] w (Same (i64 (upV n d)) w) := by
  have hd : d ≠ 0 := by omega
  have e : n + d - 1 = n + (d - 1) := by omega
  go_enter Tryd.func16, Tryd.ntmps16
  go_wp2
  go_ret
  exact ⟨ret_int (by rw [upV, ← e]), rfl⟩
def perB (a b c n : Int) : Bool := costB a b c && inB n 1 1000
def perV (a b c n : Int) : Value := if perB a b c n then .agg #[.int .i64 (upV a n), .int .i64 (upV b n), .int .i64 (upV c n)] else .agg #[.int .i64 0, .int .i64 0, .int .i64 0]
def addB (a b c d e f : Int) : Bool := costB a b c && costB d e f && costB (a + d) (b + e) (c + f)
def addV (a b c d e f : Int) : Value := if addB a b c d e f then .tuple #[.agg #[.int .i64 (a + d), .int .i64 (b + e), .int .i64 (c + f)], .bool true] else .tuple #[.agg #[.int .i64 0, .int .i64 0, .int .i64 0], .bool false]
end Go.Proofs.YtcelpnfpiagkjaaDoor
