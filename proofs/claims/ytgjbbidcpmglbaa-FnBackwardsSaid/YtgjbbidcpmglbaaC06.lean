/- Chapter 6: StepsOk and WholeTime. -/
import Derived.Test.YtgjbbidcpmglbaaIn
import Derived.Test.YtgjbbidcpmglbaaSStep
import Derived.Test.YtgjbbidcpmglbaaSum
namespace Go.Proofs.Ytgjbbidcpmglbaa
open Go.ChangeShapes Go.WideShapes Go.ChangeAt Go.RowKit
set_option linter.unusedVariables false
set_option linter.unusedSimpArgs false

def stepB (a b : Int) : Bool := inB a 1 300 && inB b 0 1000
def stOk (xs : List StepR) (i : Nat) : Bool := stepB (xs.getD i ⟨0, 0⟩).f0 (xs.getD i ⟨0, 0⟩).f1
def stepsB (n : Nat) (xs : List StepR) : Bool := decide (n ≤ 12) && allOk (stOk xs) n
theorem steps_f {n : Nat} {xs : List StepR} (k : Nat) (hk : k < n) (h : stOk xs k = false) : stepsB n xs = false := by simp [stepsB, allOk_f _ _ k hk h]
theorem steps_n {n : Nat} {xs : List StepR} (h : ∀ i, i < n → stOk xs i = true) : stepsB n xs = decide (n ≤ 12) := by simp [stepsB, allOk_t _ _ h]
theorem iClamp (n a b : Int) (w : World) : Calls Try.prog 69 #[.int .i64 n, .int .i64 a, .int .i64 b] w (Same (i64 (max a (min n b))) w) := by
  go_enter Try.func69, Try.ntmps69
  go_wp2
  all_goals
    go_ret
    exact ⟨ret_int (by omega), rfl⟩
theorem cl_in {x a b : Int} (h : inB x a b = true) : max a (min x b) = x := by have := inB_tt h; omega
theorem cl_out {x a b : Int} (hab : a ≤ b) (h : inB x a b = false) : (x == max a (min x b)) = false := by have := inB_ff h; simp; omega
set_option maxHeartbeats 1000000 in
theorem iStepsOk (A : Option Addr) (n c : Nat) (xs : List StepR) (w : World) (hn : n ≤ maxLen) (hx : ReadsStep w A n xs) : Calls Try.prog 25 #[.slice A n c] w (Val (.bool (stepsB n xs)) w) := by
  unfold maxLen at hn
  by_cases h12 : n ≤ 12
  rotate_left
  · have HF : Hid (stepsB n xs = false) := Lib.hid (by simp [stepsB, h12])
    have h12' : 12 < n := by omega
    go_enter Try.func25, Try.ntmps25
    go_wp2
    go_ret
    exact Val.mk' (v_bool HF.out.symm) (by (repeat (first | exact In.refl _ | assumption | apply In.alloc | apply In.drewN | apply In.drew | (refine In.step ?_ (by assumption)))))
  go_enter Try.func25, Try.ntmps25
  go_wp2
  go_loopw [10] (fun i wr => ∃ k : Nat, k ≤ n ∧ i = .int .i64 k ∧ (∀ i, i < k → stOk xs i = true) ∧ In w.heap.size w wr) (fun i _ => n - (intOf i).toNat)
  case atStart => exact ⟨0, Nat.zero_le _, rfl, fun i hi => absurd hi (Nat.not_lt_zero _), by (repeat (first | exact In.refl _ | assumption | apply In.alloc | apply In.drewN | apply In.drew | (refine In.step ?_ (by assumption))))⟩
  case round =>
    obtain ⟨k, hk, rfl, ho, hi⟩ := hrel
    have HO := Lib.hid ho
    clear ho
    by_cases hlt : k < n
    · obtain ⟨a, rfl, ha0, ha1⟩ := (hx.in_ hi).2 k hlt
      have HK : Hid (stOk xs k = (inB (xs.getD k ⟨0, 0⟩).f0 1 300 && inB (xs.getD k ⟨0, 0⟩).f1 0 1000)) := Lib.hid rfl
      generalize xs.getD k ⟨0, 0⟩ = x at ha0 ha1 HK
      obtain ⟨x0, x1⟩ := x
      simp only at ha0 ha1
      cases h1 : inB x0 1 300
      · have HF : Hid (stepsB n xs = false) := Lib.hid (steps_f k hlt (by rw [HK.out]; simp [h1]))
        have hc := cl_out (by decide) h1
        go_wp2
        go_quiet ((go_at_call 69; exact Calls.quiet_of_same ((iClamp _ _ _ _).mono fun _ _ h => ⟨h.1, h.2.symm⟩)))
        go_wp2
        go_ret
        exact Val.mk' (v_bool HF.out.symm) (by (repeat (first | exact In.refl _ | assumption | apply In.alloc | apply In.drewN | apply In.drew | (refine In.step ?_ (by assumption)))))
      have hc0 : (x0 == max 1 (min x0 300)) = true := by rw [cl_in h1]; simp
      cases h2 : inB x1 0 1000
      · have HF : Hid (stepsB n xs = false) := Lib.hid (steps_f k hlt (by rw [HK.out]; simp [h2]))
        have hc := cl_out (by decide) h2
        go_wp2
        go_quiet ((go_at_call 69; exact Calls.quiet_of_same ((iClamp _ _ _ _).mono fun _ _ h => ⟨h.1, h.2.symm⟩)))
        go_wp2
        go_ret
        exact Val.mk' (v_bool HF.out.symm) (by (repeat (first | exact In.refl _ | assumption | apply In.alloc | apply In.drewN | apply In.drew | (refine In.step ?_ (by assumption)))))
      have hc1 : (x1 == max 0 (min x1 1000)) = true := by rw [cl_in h2]; simp
      have HT : Hid (stOk xs k = true) := Lib.hid (by rw [HK.out]; simp [h1, h2])
      go_wp2
      go_quiet ((go_at_call 69; exact Calls.quiet_of_same ((iClamp _ _ _ _).mono fun _ _ h => ⟨h.1, h.2.symm⟩)))
      go_wp2
      go_roundw
      case rel => exact ⟨k + 1, by omega, by go_num, fun i hi => by
            by_cases e : i = k
            · subst e; exact HT.out
            · exact HO.out i (by omega), by (repeat (first | exact In.refl _ | assumption | apply In.alloc | apply In.drewN | apply In.drew | (refine In.step ?_ (by assumption))))⟩
      case measure => simp [intOf]; omega
    · obtain rfl : k = n := by omega
      go_wp2
      go_ret
      exact Val.mk' (v_bool (by rw [steps_n HO.out]; simp [h12])) (by (repeat (first | exact In.refl _ | assumption | apply In.alloc | apply In.drewN | apply In.drew | (refine In.step ?_ (by assumption)))))
def stG (xs : List StepR) (i : Nat) : Int := (xs.getD i ⟨0, 0⟩).f0 + (xs.getD i ⟨0, 0⟩).f1
def wholeV (n : Nat) (xs : List StepR) : Int := if stepsB n xs = true then sumTo (stG xs) n else -1
theorem steps_at {n : Nat} {xs : List StepR} (h : stepsB n xs = true) : n ≤ 12 ∧ ∀ i, i < n → 1 ≤ (xs.getD i ⟨0, 0⟩).f0 ∧ (xs.getD i ⟨0, 0⟩).f0 ≤ 300 ∧ 0 ≤ (xs.getD i ⟨0, 0⟩).f1 ∧ (xs.getD i ⟨0, 0⟩).f1 ≤ 1000 := by
  simp only [stepsB, Bool.and_eq_true, decide_eq_true_eq] at h
  refine ⟨h.1, fun i hi => ?_⟩
  have h1 := allOk_at _ _ h.2 i hi
  simp only [stOk, stepB, Bool.and_eq_true] at h1
  have h2 := inB_tt h1.1
  have h3 := inB_tt h1.2
  omega
set_option maxHeartbeats 1000000 in
theorem iWholeTime (A : Option Addr) (n c : Nat) (xs : List StepR) (w : World) (hn : n ≤ maxLen) (hx : ReadsStep w A n xs) : Calls Try.prog 22 #[.slice A n c] w (Val (i64 (wholeV n xs)) w) := by
  cases hB : stepsB n xs
  · have HV : Hid (wholeV n xs = -1) := Lib.hid (by simp [wholeV, hB])
    go_enter Try.func22, Try.ntmps22
    go_wp2_with fail
    refine (iStepsOk A n c xs _ hn hx).mono ?_
    rintro _ w1 ⟨rfl, hb1⟩
    rw [hB]
    go_wp2
    go_ret
    exact Val.mk' (v_int HV.out.symm) (by (repeat (first | exact In.refl _ | assumption | apply In.alloc | apply In.drewN | apply In.drew | (refine In.step ?_ (by assumption)))))
  have HV : Hid (wholeV n xs = sumTo (stG xs) n) := Lib.hid (by simp [wholeV, hB])
  obtain ⟨h12, hs⟩ := steps_at hB
  have HS := Lib.hid hs
  clear hs
  go_enter Try.func22, Try.ntmps22
  go_wp2_with fail
  refine (iStepsOk A n c xs _ hn hx).mono ?_
  rintro _ w1 ⟨rfl, hb1⟩
  rw [hB]
  have i1 : In w.heap.size w w1 := In.step (by (repeat (first | exact In.refl _ | assumption | apply In.alloc | apply In.drewN | apply In.drew | (refine In.step ?_ (by assumption))))) hb1
  clear hb1 hB
  go_wp2
  go_loopw [3, 11] (fun s i wr => ∃ k : Nat, k ≤ n ∧ i = .int .i64 k ∧ s = .int .i64 (sumTo (stG xs) k) ∧ In w.heap.size w wr) (fun _ i _ => n - (intOf i).toNat)
  case atStart => exact ⟨0, Nat.zero_le _, rfl, rfl, i1⟩
  case round =>
    clear i1
    obtain ⟨k, hk, rfl, rfl, hi⟩ := hrel
    by_cases hlt : k < n
    · obtain ⟨a, rfl, ha0, ha1⟩ := (hx.in_ hi).2 k hlt
      have HU := Lib.hid (sumTo_succ (stG xs) k)
      have HG : Hid (stG xs k = (xs.getD k ⟨0, 0⟩).f0 + (xs.getD k ⟨0, 0⟩).f1) := Lib.hid rfl
      obtain ⟨b1, b2⟩ := sumTo_bd (stG xs) 1300 k fun i hi => by have := HS.out i (by omega); simp only [stG]; omega
      obtain ⟨d1, d2, d3, d4⟩ := HS.out k hlt
      generalize xs.getD k ⟨0, 0⟩ = x at ha0 ha1 HG d1 d2 d3 d4
      obtain ⟨x0, x1⟩ := x
      simp only at ha0 ha1 d1 d2 d3 d4
      go_wp2
      go_roundw
      case rel => exact ⟨k + 1, by omega, by go_num, v_int (by rw [HU.out, HG.out]), by (repeat (first | exact In.refl _ | assumption | apply In.alloc | apply In.drewN | apply In.drew | (refine In.step ?_ (by assumption))))⟩
      case measure => simp [intOf]; omega
    · obtain rfl : k = n := by omega
      go_wp2
      go_ret
      exact Val.mk' (v_int HV.out.symm) (by (repeat (first | exact In.refl _ | assumption | apply In.alloc | apply In.drewN | apply In.drew | (refine In.step ?_ (by assumption)))))
end Go.Proofs.Ytgjbbidcpmglbaa
