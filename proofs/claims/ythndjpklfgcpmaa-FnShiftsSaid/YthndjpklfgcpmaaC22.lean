/- Chapter 22: ShiftsOk. -/
import Derived.Test.YthndjpklfgcpmaaIn
import Derived.Test.YthndjpklfgcpmaaSShift
import Derived.Test.YthndjpklfgcpmaaSum
import Derived.Test.YthndjpklfgcpmaaQuiet
import Derived.Deep.RegionHeld3
import Derived.BigQuiet
import Derived.Deep.QuietTactic
namespace Go.Proofs.Ythndjpklfgcpmaa
open Go.ChangeShapes Go.WideShapes Go.ChangeAt Go.RowKit
set_option linter.unusedVariables false
set_option linter.unusedSimpArgs false

/-! cells held while calls go on -/
theorem heldC {B : Nat} {a w' : World} {p q r : Addr} {x y z : Value} (h : In B a w') (k0 : w'.cell? p = some x) (k1 : w'.cell? q = some y) (k2 : w'.cell? r = some z) :
    In B a w' ∧ w'.cell? p = some x ∧ w'.cell? q = some y ∧ w'.cell? r = some z := ⟨h, k0, k1, k2⟩
theorem heldC_step {B : Nat} {a w0 w' : World} {p q r : Addr} {x y z : Value} (hb : Below w0.heap.size w0 w') (h : In B a w0 ∧ w0.cell? p = some x ∧ w0.cell? q = some y ∧ w0.cell? r = some z) :
    In B a w' ∧ w'.cell? p = some x ∧ w'.cell? q = some y ∧ w'.cell? r = some z :=
  ⟨h.1.step hb, (hb.cell (cell_lt h.2.1)).trans h.2.1, (hb.cell (cell_lt h.2.2.1)).trans h.2.2.1, (hb.cell (cell_lt h.2.2.2)).trans h.2.2.2⟩
theorem cell_alloc {w : World} {p : Addr} {v : Value} (h : w.cell? p = some v) (o : Obj) : (w.alloc o).cell? p = some v := (((Below.refl _ w).alloc (Nat.le_refl _) o).cell (cell_lt h)).trans h
def shiftB (a b : Int) : Bool := inB a 0 167 && inB b (a + 1) (a + 12)
abbrev z22 : ShiftR := ⟨0, 0⟩
def shOk (xs : List ShiftR) : Nat → Bool
  | 0 => shiftB (xs.getD 0 z22).f0 (xs.getD 0 z22).f1
  | i + 1 => shiftB (xs.getD (i + 1) z22).f0 (xs.getD (i + 1) z22).f1 && decide ((xs.getD i z22).f1 ≤ (xs.getD (i + 1) z22).f0)
def shiftsB (n : Nat) (xs : List ShiftR) : Bool := decide (n ≤ 14) && allOk (shOk xs) n
theorem shift_in {a b : Int} (h : shiftB a b = true) : 0 ≤ a ∧ a ≤ 167 ∧ a + 1 ≤ b ∧ b ≤ a + 12 := by
  simp only [shiftB, Bool.and_eq_true] at h
  have h1 := inB_tt h.1
  have h2 := inB_tt h.2
  omega
theorem shOk_shift {xs : List ShiftR} {i : Nat} (h : shOk xs i = true) : shiftB (xs.getD i z22).f0 (xs.getD i z22).f1 = true := by
  cases i with
  | zero => exact h
  | succ i => simp only [shOk, Bool.and_eq_true] at h; exact h.1
theorem shOk_f {xs : List ShiftR} {i : Nat} (h : shiftB (xs.getD i z22).f0 (xs.getD i z22).f1 = false) : shOk xs i = false := by
  cases i with
  | zero => exact h
  | succ i => rw [shOk, h]; rfl
theorem shifts_at {n : Nat} {xs : List ShiftR} (h : shiftsB n xs = true) : n ≤ 14 ∧ ∀ i, i < n → shOk xs i = true := by
  simp only [shiftsB, Bool.and_eq_true, decide_eq_true_eq] at h
  exact ⟨h.1, allOk_at _ _ h.2⟩
theorem shifts_f {n : Nat} {xs : List ShiftR} (k : Nat) (hk : k < n) (h : shOk xs k = false) : shiftsB n xs = false := by simp [shiftsB, allOk_f _ _ k hk h]
theorem shifts_n {n : Nat} {xs : List ShiftR} (h : ∀ i, i < n → shOk xs i = true) : shiftsB n xs = decide (n ≤ 14) := by simp [shiftsB, allOk_t _ _ h]
theorem ishiftOk (a b : Int) (w : World) : Calls Try.prog 63 #[.agg #[.int .i64 a, .int .i64 b]] w (Val (.bool (shiftB a b)) w) := by
  cases h1 : inB a 0 167
  · go_enter Try.func63, Try.ntmps63
    go_wp2_with fail
    refine (iIn _ _ _ _).mono ?_
    rintro e w' ⟨rfl, rfl⟩
    rw [h1]
    go_wp2
    go_ret
    exact Val.mk' (v_bool (by simp [shiftB, h1])) (by (repeat (first | exact In.refl _ | assumption | apply In.alloc | apply In.drewN | apply In.drew | (refine In.step ?_ (by assumption)))))
  obtain ⟨b1, b2⟩ := inB_tt h1
  go_enter Try.func63, Try.ntmps63
  go_wp2_with fail
  refine (iIn _ _ _ _).mono ?_
  rintro e w' ⟨rfl, rfl⟩
  rw [h1]
  go_wp2_with fail
  refine (iIn _ _ _ _).mono ?_
  rintro e w' ⟨rfl, rfl⟩
  cases h2 : inB b (a + 1) (a + 12)
  all_goals
    go_wp2
    go_ret
    exact Val.mk' (v_bool (by simp [shiftB, h1, h2])) (by (repeat (first | exact In.refl _ | assumption | apply In.alloc | apply In.drewN | apply In.drew | (refine In.step ?_ (by assumption)))))
def endV (xs : List ShiftR) : Nat → Int
  | 0 => 0
  | i + 1 => (xs.getD i z22).f1
theorem shOk_end {xs : List ShiftR} {i : Nat} (h : shiftB (xs.getD i z22).f0 (xs.getD i z22).f1 = true) : shOk xs i = decide (endV xs i ≤ (xs.getD i z22).f0) := by
  cases i with
  | zero => have := shift_in h; rw [shOk, h, endV]; exact (decide_eq_true this.1).symm
  | succ i => rw [shOk, h, endV]; simp
set_option maxHeartbeats 2000000 in
theorem iShiftsOk (A : Option Addr) (n c : Nat) (xs : List ShiftR) (w : World) (hn : n ≤ maxLen) (hx : ReadsShift w A n xs) : Calls Try.prog 34 #[.slice A n c] w (Val (.bool (shiftsB n xs)) w) := by
  unfold maxLen at hn
  by_cases h14 : n ≤ 14
  rotate_left
  · have HV : Hid (shiftsB n xs = false) := Lib.hid (by simp [shiftsB, h14])
    have h14' : 14 < n := by omega
    go_enter Try.func34, Try.ntmps34
    go_wp2
    go_ret
    exact Val.mk' (v_bool HV.out.symm) (by (repeat (first | exact In.refl _ | assumption | apply In.alloc | apply In.drewN | apply In.drew | (refine In.step ?_ (by assumption)))))
  go_enter Try.func34, Try.ntmps34
  go_wp2
  go_loopw [3, 11] (fun e i wr => ∃ k : Nat, k ≤ n ∧ i = .int .i64 k ∧ e = .int .i64 (endV xs k) ∧ (∀ i, i < k → shOk xs i = true) ∧ In w.heap.size w wr) (fun _ i _ => n - (intOf i).toNat)
  case atStart => exact ⟨0, Nat.zero_le _, rfl, rfl, fun i hi => absurd hi (Nat.not_lt_zero _), by (repeat (first | exact In.refl _ | assumption | apply In.alloc | apply In.drewN | apply In.drew | (refine In.step ?_ (by assumption))))⟩
  case round =>
    obtain ⟨k, hk, rfl, rfl, ho, hi⟩ := hrel
    have HO := Lib.hid ho
    clear ho
    by_cases hlt : k < n
    · obtain ⟨a, rfl, ha0, ha1⟩ := (hx.in_ hi).2 k hlt
      have HF := Lib.hid (fun h => shOk_f (xs := xs) (i := k) h)
      have HT := Lib.hid (fun h => shOk_end (xs := xs) (i := k) h)
      have HE : Hid (endV xs (k + 1) = (xs.getD k z22).f1) := Lib.hid rfl
      have HFALSE := Lib.hid (fun h => shifts_f (n := n) (xs := xs) k hlt h)
      generalize endV xs k = e at *
      generalize xs.getD k z22 = x at *
      obtain ⟨x0, x1⟩ := x
      simp only at ha0 ha1
      have q0 : Blk (wr.alloc (.cells #[.int .i64 x0, .int .i64 x1] 41)) wr.heap.size 41 #[.int .i64 x0, .int .i64 x1] := Blk.new wr _ _
      cases h1 : shiftB x0 x1
      · have HV : Hid (shiftsB n xs = false) := Lib.hid (HFALSE.out (HF.out h1))
        clear HF HT HFALSE
        go_wp2_with fail
        refine (ishiftOk x0 x1 _).mono ?_
        rintro _ w2 ⟨rfl, hb2⟩
        rw [h1]
        go_wp2
        go_ret
        exact Val.mk' (v_bool HV.out.symm) (by (repeat (first | exact In.refl _ | assumption | apply In.alloc | apply In.drewN | apply In.drew | (refine In.step ?_ (by assumption)))))
      · have hs := HT.out h1
        by_cases hle : x0 < e
        · have HV : Hid (shiftsB n xs = false) := Lib.hid (HFALSE.out (by rw [hs]; simp; omega))
          clear HF HT HFALSE hs
          go_wp2_with fail
          refine (ishiftOk x0 x1 _).mono ?_
          rintro _ w2 ⟨rfl, hb2⟩
          rw [h1]
          have i2 : In w.heap.size w w2 := In.step (by (repeat (first | exact In.refl _ | assumption | apply In.alloc | apply In.drewN | apply In.drew | (refine In.step ?_ (by assumption))))) hb2
          have k2 := Blk.step q0 hb2
          have c0 : w2.cell? ⟨wr.heap.size, 0, none⟩ = some (.int .i64 x0) := k2.cell 0
          have c1 : w2.cell? ⟨wr.heap.size, 1, none⟩ = some (.int .i64 x1) := k2.cell 1
          have l2 := k2.lt
          clear hb2 q0
          go_wp2
          go_ret
          exact Val.mk' (v_bool HV.out.symm) (by (repeat (first | exact In.refl _ | assumption | apply In.alloc | apply In.drewN | apply In.drew | (refine In.step ?_ (by assumption)))))
        · have HK : Hid (shOk xs k = true) := Lib.hid (by rw [hs]; simp; omega)
          clear HF HT HFALSE hs
          go_wp2_with fail
          refine (ishiftOk x0 x1 _).mono ?_
          rintro _ w2 ⟨rfl, hb2⟩
          rw [h1]
          have i2 : In w.heap.size w w2 := In.step (by (repeat (first | exact In.refl _ | assumption | apply In.alloc | apply In.drewN | apply In.drew | (refine In.step ?_ (by assumption))))) hb2
          have k2 := Blk.step q0 hb2
          have c0 : w2.cell? ⟨wr.heap.size, 0, none⟩ = some (.int .i64 x0) := k2.cell 0
          have c1 : w2.cell? ⟨wr.heap.size, 1, none⟩ = some (.int .i64 x1) := k2.cell 1
          have l2 := k2.lt
          clear hb2 q0
          go_wp2
          go_roundw
          case rel => exact ⟨k + 1, by omega, by go_num, v_int HE.out.symm, fun i hi => by
              by_cases e : i = k
              · subst e; exact HK.out
              · exact HO.out i (by omega), by (repeat (first | exact In.refl _ | assumption | apply In.alloc | apply In.drewN | apply In.drew | (refine In.step ?_ (by assumption))))⟩
          case measure => simp [intOf]; omega
    · obtain rfl : k = n := by omega
      go_wp2
      go_ret
      exact Val.mk' (v_bool (by rw [shifts_n HO.out]; simp [h14])) (by (repeat (first | exact In.refl _ | assumption | apply In.alloc | apply In.drewN | apply In.drew | (refine In.step ?_ (by assumption)))))
end Go.Proofs.Ythndjpklfgcpmaa
