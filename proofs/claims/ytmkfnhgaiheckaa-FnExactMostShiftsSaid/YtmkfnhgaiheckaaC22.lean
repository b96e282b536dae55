/- Chapter 22: ShiftsOk. -/
import Derived.Test.YtmkfnhgaiheckaaIn
import Derived.Test.YtmkfnhgaiheckaaSShift
import Derived.Test.YtmkfnhgaiheckaaSum
import Derived.Test.YtmkfnhgaiheckaaQuiet
import Derived.Deep.RegionHeld3
import Derived.BigQuiet
import Derived.Deep.QuietTactic
namespace Go.Proofs.Ytmkfnhgaiheckaa
open Go.ChangeShapes Go.WideShapes Go.ChangeAt Go.RowKit
set_option linter.unusedVariables false
set_option linter.unusedSimpArgs false

/-! cells held while calls go on -/
theorem heldC {B : Nat} {a w' : World} {p q r : Addr} {x y z : Value} (h : In B a w') (k0 : w'.cell? p = some x) (k1 : w'.cell? q = some y) (k2 : w'.cell? r = some z) :
    In B a w' ∧ w'.cell? p = some x ∧ w'.cell? q = some y ∧ w'.cell? r = some z := ⟨h, k0, k1, k2⟩
theorem heldC_step {B : Nat} {a w0 w' : World} {p q r : Addr} {x y z : Value} (hb : Below w0.heap.size w0 w') (h : In B a w0 ∧ w0.cell? p = some x ∧ w0.cell? q = some y ∧ w0.cell? r = some z) :
    In B a w' ∧ w'.cell? p = some x ∧ w'.cell? q = some y ∧ w'.cell? r = some z :=
  ⟨h.1.step hb, (hb.cell (cell_lt h.2.1)).trans h.2.1, (hb.cell (cell_lt h.2.2.1)).trans h.2.2.1, (hb.cell (cell_lt h.2.2.2)).trans h.2.2.2⟩
theorem cell_alloc {w : World} {p : Addr} {v : Value} (h : w.cell? p = some v) (o : Obj) : (w.alloc o).cell? p = some v := (((Below.refl _ w).alloc (Nat.le_refl _) o).cell (cell_lt h)).trans h
def shiftB (a b : Int) : Bool := inB a 0 167 && inB b (a + 1) (a + 12)
abbrev z22 : ShiftR := ⟨0, 0⟩
def shOk (xs : List ShiftR) : Nat → Bool
  | 0 => shiftB (xs.getD 0 z22).f0 (xs.getD 0 z22).f1
  | i + 1 => shiftB (xs.getD (i + 1) z22).f0 (xs.getD (i + 1) z22).f1 && decide ((xs.getD i z22).f1 ≤ (xs.getD (i + 1) z22).f0)
def shiftsB (n : Nat) (xs : List ShiftR) : Bool := decide (n ≤ 14) && allOk (shOk xs) n
theorem shift_in {a b : Int} (h : shiftB a b = true) : 0 ≤ a ∧ a ≤ 167 ∧ a + 1 ≤ b ∧ b ≤ a + 12 := by
  simp only [shiftB, Bool.and_eq_true] at h
  have h1 := inB_tt h.1
  have h2 := inB_tt h.2
  omega
theorem shOk_shift {xs : List ShiftR} {i : Nat} (h : shOk xs i = true) : shiftB (xs.getD i z22).f0 (xs.getD i z22).f1 = true := by
  cases i with
  | zero => exact h
  | succ i => simp only [shOk, Bool.and_eq_true] at h; exact h.1
theorem shOk_f {xs : List ShiftR} {i : Nat} (h : shiftB (xs.getD i z22).f0 (xs.getD i z22).f1 = false) : shOk xs i = false := by
  cases i with
  | zero => exact h
  | succ i => rw [shOk, h]; rfl
theorem shifts_at {n : Nat} {xs : List ShiftR} (h : shiftsB n xs = true) : n ≤ 14 ∧ ∀ i, i < n → shOk xs i = true := by
  simp only [shiftsB, Bool.and_eq_true, decide_eq_true_eq] at h
  exact ⟨h.1, allOk_at _ _ h.2⟩
theorem shifts_f {n : Nat} {xs : List ShiftR} (k : Nat) (hk : k < n) (h : shOk xs k = false) : shiftsB n xs = false := by simp [shiftsB, allOk_f _ _ k hk h]
theorem shifts_n {n : Nat} {xs : List ShiftR} (h : ∀ i, i < n → shOk xs i = true) : shiftsB n xs = decide (n ≤ 14) := by simp [shiftsB, allOk_t _ _ h]
theorem sl22Ok (a b : Int) (w : World) : Calls Try.prog 140 #[.agg #[.int .i64 a, .int .i64 b]] w (Val (.bool (shiftB a b)) w) := by
  cases h1 : inB a 0 167
  · go_enter Try.func140, Try.ntmps140
    go_wp2_with fail
    refine (sIn _ _ _ _).mono ?_
    rintro e w' ⟨rfl, rfl⟩
    rw [h1]
    go_wp2
    go_ret
    exact Val.mk' (v_bool (by simp [shiftB, h1])) (by (repeat (first | exact In.refl _ | assumption | apply In.alloc | apply In.drewN | apply In.drew | (refine In.step ?_ (by assumption)))))
  obtain ⟨b1, b2⟩ := inB_tt h1
  go_enter Try.func140, Try.ntmps140
  go_wp2_with fail
  refine (sIn _ _ _ _).mono ?_
  rintro e w' ⟨rfl, rfl⟩
  rw [h1]
  go_wp2_with fail
  refine (sIn _ _ _ _).mono ?_
  rintro e w' ⟨rfl, rfl⟩
  cases h2 : inB b (a + 1) (a + 12)
  all_goals
    go_wp2
    go_ret
    exact Val.mk' (v_bool (by simp [shiftB, h1, h2])) (by (repeat (first | exact In.refl _ | assumption | apply In.alloc | apply In.drewN | apply In.drew | (refine In.step ?_ (by assumption)))))
theorem ishiftOk (a b : Int) (w : World) : Calls Try.prog 142 #[.agg #[.int .i64 a, .int .i64 b]] w (Val (.bool (shiftB a b)) w) := by
  cases h1 : inB a 0 167
  · go_enter Try.func142, Try.ntmps142
    go_wp2_with fail
    refine (iIn _ _ _ _).mono ?_
    rintro e w' ⟨rfl, rfl⟩
    rw [h1]
    go_wp2
    go_ret
    exact Val.mk' (v_bool (by simp [shiftB, h1])) (by (repeat (first | exact In.refl _ | assumption | apply In.alloc | apply In.drewN | apply In.drew | (refine In.step ?_ (by assumption)))))
  obtain ⟨b1, b2⟩ := inB_tt h1
  go_enter Try.func142, Try.ntmps142
  go_wp2_with fail
  refine (iIn _ _ _ _).mono ?_
  rintro e w' ⟨rfl, rfl⟩
  rw [h1]
  go_wp2_with fail
  refine (iIn _ _ _ _).mono ?_
  rintro e w' ⟨rfl, rfl⟩
  cases h2 : inB b (a + 1) (a + 12)
  all_goals
    go_wp2
    go_ret
    exact Val.mk' (v_bool (by simp [shiftB, h1, h2])) (by (repeat (first | exact In.refl _ | assumption | apply In.alloc | apply In.drewN | apply In.drew | (refine In.step ?_ (by assumption)))))
def endV (xs : List ShiftR) : Nat → Int
  | 0 => 0
  | i + 1 => (xs.getD i z22).f1
theorem shOk_end {xs : List ShiftR} {i : Nat} (h : shiftB (xs.getD i z22).f0 (xs.getD i z22).f1 = true) : shOk xs i = decide (endV xs i ≤ (xs.getD i z22).f0) := by
  cases i with
  | zero => have := shift_in h; rw [shOk, h, endV]; exact (decide_eq_true this.1).symm
  | succ i => rw [shOk, h, endV]; simp
end Go.Proofs.Ytmkfnhgaiheckaa
