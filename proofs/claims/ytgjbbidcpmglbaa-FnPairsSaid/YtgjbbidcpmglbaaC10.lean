/- Chapter 10: BreadOk, CommonHeat, CanShare. -/
import Derived.Test.YtgjbbidcpmglbaaIn
import Derived.Test.YtgjbbidcpmglbaaSBread
import Derived.Test.YtgjbbidcpmglbaaSum
import Derived.Deep.QuietTactic
import Derived.BigQuiet
import Derived.RegionTactic
import Derived.BigRegion
namespace Go.Proofs.Ytgjbbidcpmglbaa
open Go.ChangeShapes Go.WideShapes Go.ChangeAt Go.RowKit
set_option linter.unusedVariables false
set_option linter.unusedSimpArgs false

abbrev z10 : BreadR := ⟨0, 0, 0⟩
def breadB (a b c : Int) : Bool := inB b 100 350 && inB a 100 b && inB c 1 200
theorem bread_in {a b c : Int} (h : breadB a b c = true) : 100 ≤ a ∧ a ≤ b ∧ b ≤ 350 ∧ 1 ≤ c ∧ c ≤ 200 := by
  simp only [breadB, Bool.and_eq_true] at h
  have h1 := inB_tt h.1.1
  have h2 := inB_tt h.1.2
  have h3 := inB_tt h.2
  omega
theorem bread_iff (a b c : Int) : breadB a b c = (inB a 100 b && decide (b ≤ 350) && inB c 1 200) := by
  simp only [breadB, inB]
  by_cases h1 : 100 ≤ a <;> by_cases h2 : a ≤ b <;> by_cases h3 : b ≤ 350 <;> simp [h1, h2, h3]
  omega
theorem iBreadOk (a b c : Int) (w : World) : Calls Try.prog 31 #[.agg #[.int .i64 a, .int .i64 b, .int .i64 c]] w (Val (.bool (breadB a b c)) w) := by
  cases h1 : inB a 100 b
  · go_enter Try.func31, Try.ntmps31
    go_wp2_with fail
    refine (iIn _ _ _ _).mono ?_
    rintro _ _ ⟨rfl, rfl⟩
    rw [h1]
    go_wp2
    go_ret
    exact Val.mk' (v_bool (by rw [bread_iff, h1]; rfl)) (by (repeat (first | exact In.refl _ | assumption | apply In.alloc | apply In.drewN | apply In.drew | (refine In.step ?_ (by assumption)))))
  by_cases h2 : b ≤ 350
  · cases h3 : inB c 1 200
    all_goals
      go_enter Try.func31, Try.ntmps31
      go_wp2_with fail
      refine (iIn _ _ _ _).mono ?_
      rintro _ _ ⟨rfl, rfl⟩
      rw [h1]
      go_wp2_with (first | (go_at_call 66; refine (iIn _ _ _ _).mono ?_; rintro e w' ⟨rfl, rfl⟩) | go_in | (go_end0; simp only []; go_at_K))
      go_ret
      exact Val.mk' (v_bool (by rw [bread_iff, h1, h3]; simp [h2])) (by (repeat (first | exact In.refl _ | assumption | apply In.alloc | apply In.drewN | apply In.drew | (refine In.step ?_ (by assumption)))))
  · go_enter Try.func31, Try.ntmps31
    go_wp2_with fail
    refine (iIn _ _ _ _).mono ?_
    rintro _ _ ⟨rfl, rfl⟩
    rw [h1]
    go_wp2
    go_ret
    exact Val.mk' (v_bool (by rw [bread_iff, h1]; simp [show ¬ b ≤ 350 by omega])) (by (repeat (first | exact In.refl _ | assumption | apply In.alloc | apply In.drewN | apply In.drew | (refine In.step ?_ (by assumption)))))
def brOk (xs : List BreadR) (i : Nat) : Bool := breadB (xs.getD i z10).f0 (xs.getD i z10).f1 (xs.getD i z10).f2
def breadsB (n : Nat) (xs : List BreadR) : Bool := decide (n ≤ 10) && allOk (brOk xs) n
theorem breads_f {n : Nat} {xs : List BreadR} (k : Nat) (hk : k < n) (h : brOk xs k = false) : breadsB n xs = false := by simp [breadsB, allOk_f _ _ k hk h]
theorem breads_n {n : Nat} {xs : List BreadR} (h : ∀ i, i < n → brOk xs i = true) : breadsB n xs = decide (n ≤ 10) := by simp [breadsB, allOk_t _ _ h]
theorem breads_at {n : Nat} {xs : List BreadR} (h : breadsB n xs = true) : n ≤ 10 ∧ ∀ i, i < n → 100 ≤ (xs.getD i z10).f0 ∧ (xs.getD i z10).f0 ≤ (xs.getD i z10).f1 ∧ (xs.getD i z10).f1 ≤ 350 ∧ 1 ≤ (xs.getD i z10).f2 ∧ (xs.getD i z10).f2 ≤ 200 := by
  simp only [breadsB, Bool.and_eq_true, decide_eq_true_eq] at h
  exact ⟨h.1, fun i hi => bread_in (allOk_at _ _ h.2 i hi)⟩
set_option maxHeartbeats 1000000 in
theorem ibreadsOk (A : Option Addr) (n c : Nat) (xs : List BreadR) (w : World) (hn : n ≤ maxLen) (hx : ReadsBread w A n xs) : Calls Try.prog 71 #[.slice A n c] w (Val (.bool (breadsB n xs)) w) := by
  unfold maxLen at hn
  by_cases h10 : n ≤ 10
  rotate_left
  · have HF : Hid (breadsB n xs = false) := Lib.hid (by simp [breadsB, h10])
    have h10' : 10 < n := by omega
    go_enter Try.func71, Try.ntmps71
    go_wp2
    go_ret
    exact Val.mk' (v_bool HF.out.symm) (by (repeat (first | exact In.refl _ | assumption | apply In.alloc | apply In.drewN | apply In.drew | (refine In.step ?_ (by assumption)))))
  go_enter Try.func71, Try.ntmps71
  go_wp2
  go_loopw [10] (fun i wr => ∃ k : Nat, k ≤ n ∧ i = .int .i64 k ∧ (∀ i, i < k → brOk xs i = true) ∧ In w.heap.size w wr) (fun i _ => n - (intOf i).toNat)
  case atStart => exact ⟨0, Nat.zero_le _, rfl, fun i hi => absurd hi (Nat.not_lt_zero _), by (repeat (first | exact In.refl _ | assumption | apply In.alloc | apply In.drewN | apply In.drew | (refine In.step ?_ (by assumption))))⟩
  case round =>
    obtain ⟨k, hk, rfl, ho, hi⟩ := hrel
    have HO := Lib.hid ho
    clear ho
    by_cases hlt : k < n
    · obtain ⟨a, rfl, ha0, ha1, ha2⟩ := (hx.in_ hi).2 k hlt
      have HK : Hid (brOk xs k = breadB (xs.getD k z10).f0 (xs.getD k z10).f1 (xs.getD k z10).f2) := Lib.hid rfl
      generalize xs.getD k z10 = x at ha0 ha1 ha2 HK
      obtain ⟨x0, x1, x2⟩ := x
      simp only at ha0 ha1 ha2 HK
      go_wp2_with fail
      refine (iBreadOk x0 x1 x2 _).mono ?_
      rintro _ w2 ⟨rfl, hb2⟩
      have i2 : In w.heap.size w w2 := In.step (by (repeat (first | exact In.refl _ | assumption | apply In.alloc | apply In.drewN | apply In.drew | (refine In.step ?_ (by assumption))))) hb2
      clear hb2
      cases h1 : breadB x0 x1 x2
      · have HF : Hid (breadsB n xs = false) := Lib.hid (breads_f k hlt (by rw [HK.out]; exact h1))
        go_wp2
        go_ret
        exact Val.mk' (v_bool HF.out.symm) (by (repeat (first | exact In.refl _ | assumption | apply In.alloc | apply In.drewN | apply In.drew | (refine In.step ?_ (by assumption)))))
      have HT : Hid (brOk xs k = true) := Lib.hid (by rw [HK.out]; exact h1)
      go_wp2
      go_roundw
      case rel => exact ⟨k + 1, by omega, by go_num, fun i hi => by
            by_cases e : i = k
            · subst e; exact HT.out
            · exact HO.out i (by omega), by (repeat (first | exact In.refl _ | assumption | apply In.alloc | apply In.drewN | apply In.drew | (refine In.step ?_ (by assumption))))⟩
      case measure => simp [intOf]; omega
    · obtain rfl : k = n := by omega
      go_wp2
      go_ret
      exact Val.mk' (v_bool (by rw [breads_n HO.out]; simp [h10])) (by (repeat (first | exact In.refl _ | assumption | apply In.alloc | apply In.drewN | apply In.drew | (refine In.step ?_ (by assumption)))))
def lowT (xs : List BreadR) : Nat → Int
  | 0 => 100
  | k + 1 => max (lowT xs k) (xs.getD k z10).f0
def highT (xs : List BreadR) : Nat → Int
  | 0 => 350
  | k + 1 => min (highT xs k) (xs.getD k z10).f1
theorem lowT_succ (xs : List BreadR) (k : Nat) : lowT xs (k + 1) = max (lowT xs k) (xs.getD k z10).f0 := rfl
theorem highT_succ (xs : List BreadR) (k : Nat) : highT xs (k + 1) = min (highT xs k) (xs.getD k z10).f1 := rfl
def commB (n : Nat) (xs : List BreadR) : Bool := breadsB n xs && !(decide (n = 0)) && decide (lowT xs n ≤ highT xs n)
def commonV (n : Nat) (xs : List BreadR) : Value := if commB n xs then .tuple #[.int .i64 (lowT xs n), .int .i64 (highT xs n), .bool true] else .tuple #[.int .i64 0, .int .i64 0, .bool false]
set_option maxHeartbeats 2000000 in
theorem iCommonHeat (A : Option Addr) (n c : Nat) (xs : List BreadR) (w : World) (hn : n ≤ maxLen) (hx : ReadsBread w A n xs) : Calls Try.prog 32 #[.slice A n c] w (Val (commonV n xs) w) := by
  cases hB : breadsB n xs
  · have HV : Hid (commonV n xs = .tuple #[.int .i64 0, .int .i64 0, .bool false]) := Lib.hid (by simp [commonV, commB, hB])
    by_cases h0 : n = 0
    · have h0' : (n : Int) = 0 := by omega
      go_enter Try.func32, Try.ntmps32
      go_wp2
      exact bodyPost_ret (v := .tuple #[.int .i64 0, .int .i64 0, .bool false]) (by simp [results, Try.results32, go_sem]) rfl (Val.mk' (by rw [HV.out]) (by (repeat (first | exact In.refl _ | assumption | apply In.alloc | apply In.drewN | apply In.drew | (refine In.step ?_ (by assumption))))))
    have h0' : ¬ (n : Int) = 0 := by omega
    go_enter Try.func32, Try.ntmps32
    go_wp2_with fail
    refine (ibreadsOk A n c xs _ hn hx).mono ?_
    rintro _ w1 ⟨rfl, hb1⟩
    have i1 : In w.heap.size w w1 := In.step (by (repeat (first | exact In.refl _ | assumption | apply In.alloc | apply In.drewN | apply In.drew | (refine In.step ?_ (by assumption))))) hb1
    clear hb1
    rw [hB]
    go_wp2
    exact bodyPost_ret (v := .tuple #[.int .i64 0, .int .i64 0, .bool false]) (by simp [results, Try.results32, go_sem]) rfl (Val.mk' (by rw [HV.out]) (by (repeat (first | exact In.refl _ | assumption | apply In.alloc | apply In.drewN | apply In.drew | (refine In.step ?_ (by assumption))))))
  by_cases h0 : n = 0
  · subst h0
    have HV : Hid (commonV 0 xs = .tuple #[.int .i64 0, .int .i64 0, .bool false]) := Lib.hid (by simp [commonV, commB])
    go_enter Try.func32, Try.ntmps32
    go_wp2
    exact bodyPost_ret (v := .tuple #[.int .i64 0, .int .i64 0, .bool false]) (by simp [results, Try.results32, go_sem]) rfl (Val.mk' (by rw [HV.out]) (by (repeat (first | exact In.refl _ | assumption | apply In.alloc | apply In.drewN | apply In.drew | (refine In.step ?_ (by assumption))))))
  have h0' : ((n : Int) == 0) = false := by simp; omega
  obtain ⟨n10, hs⟩ := breads_at hB
  have HC : Hid (commB n xs = decide (lowT xs n ≤ highT xs n)) := Lib.hid (by simp [commB, hB, h0])
  go_enter Try.func32, Try.ntmps32
  go_wp2_with fail
  refine (ibreadsOk A n c xs _ hn hx).mono ?_
  rintro _ w1 ⟨rfl, hb1⟩
  have i1 : In w.heap.size w w1 := In.step (by (repeat (first | exact In.refl _ | assumption | apply In.alloc | apply In.drewN | apply In.drew | (refine In.step ?_ (by assumption))))) hb1
  clear hb1
  rw [hB]
  clear hB
  go_wp2
  go_loopw [5, 6, 19] (fun s t i wr => ∃ k : Nat, k ≤ n ∧ i = .int .i64 k ∧ s = .int .i64 (lowT xs k) ∧ t = .int .i64 (highT xs k) ∧ In w.heap.size w wr) (fun _ _ i _ => n - (intOf i).toNat)
  case atStart => exact ⟨0, Nat.zero_le _, rfl, rfl, rfl, i1⟩
  case round =>
    clear i1
    obtain ⟨k, hk, rfl, rfl, rfl, hi⟩ := hrel
    by_cases hlt : k < n
    · obtain ⟨a, rfl, ha0, ha1, ha2⟩ := (hx.in_ hi).2 k hlt
      have HL := Lib.hid (lowT_succ xs k)
      have HH := Lib.hid (highT_succ xs k)
      generalize xs.getD k z10 = x at *
      generalize lowT xs k = l at *
      generalize highT xs k = h at *
      obtain ⟨x0, x1, x2⟩ := x
      simp only at ha0 ha1 ha2 HL HH
      by_cases g1 : l < x0 <;> by_cases g2 : x1 < h
      all_goals
        go_wp2
        go_quiet (fail)
        go_wp2
        go_roundw
        case rel => exact ⟨k + 1, by omega, by go_num, v_int (by rw [HL.out]; omega), v_int (by rw [HH.out]; omega), by (repeat (first | exact In.refl _ | assumption | apply In.alloc | apply In.drewN | apply In.drew | (refine In.step ?_ (by assumption))))⟩
        case measure => simp [intOf]; omega
    · obtain rfl : k = n := by omega
      by_cases hg : highT xs k < lowT xs k
      · have HV : Hid (commonV k xs = .tuple #[.int .i64 0, .int .i64 0, .bool false]) := Lib.hid (by rw [commonV, HC.out]; simp [show ¬ lowT xs k ≤ highT xs k by omega])
        go_wp2
        exact bodyPost_ret (v := .tuple #[.int .i64 0, .int .i64 0, .bool false]) (by simp [results, Try.results32, go_sem]) rfl (Val.mk' (by rw [HV.out]) (by (repeat (first | exact In.refl _ | assumption | apply In.alloc | apply In.drewN | apply In.drew | (refine In.step ?_ (by assumption))))))
      · have HV : Hid (commonV k xs = .tuple #[.int .i64 (lowT xs k), .int .i64 (highT xs k), .bool true]) := Lib.hid (by rw [commonV, HC.out]; simp [show lowT xs k ≤ highT xs k by omega])
        go_wp2
        exact bodyPost_ret (v := .tuple #[.int .i64 (lowT xs k), .int .i64 (highT xs k), .bool true]) (by simp [results, Try.results32, go_sem]) rfl (Val.mk' (by rw [HV.out]) (by (repeat (first | exact In.refl _ | assumption | apply In.alloc | apply In.drewN | apply In.drew | (refine In.step ?_ (by assumption))))))
end Go.Proofs.Ytgjbbidcpmglbaa
