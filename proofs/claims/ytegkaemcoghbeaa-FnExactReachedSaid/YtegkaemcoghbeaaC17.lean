/- Chapter 17: UsesOk, UsedOf. -/
import Derived.Test.YtegkaemcoghbeaaIn
import Derived.Test.YtegkaemcoghbeaaSUse
import Derived.Test.YtegkaemcoghbeaaSum
import Derived.Test.YtegkaemcoghbeaaQuiet
import Derived.Deep.RegionHeld3
import Derived.BigQuiet
import Derived.Deep.QuietTactic
namespace Go.Proofs.Ytegkaemcoghbeaa
open Go.ChangeShapes Go.WideShapes Go.ChangeAt Go.RowKit
set_option linter.unusedVariables false
set_option linter.unusedSimpArgs false

def useB (a b c : Int) : Bool := inB a 1 50 && inB b 1 50 && inB c 1 100000
abbrev z17 : UseR := ⟨0, 0, 0⟩
def uOk (xs : List UseR) (i : Nat) : Bool := useB (xs.getD i z17).f0 (xs.getD i z17).f1 (xs.getD i z17).f2
def usesB (n : Nat) (xs : List UseR) : Bool := decide (n ≤ 60) && allOk (uOk xs) n
theorem uses_f {n : Nat} {xs : List UseR} (k : Nat) (hk : k < n) (h : uOk xs k = false) : usesB n xs = false := by simp [usesB, allOk_f _ _ k hk h]
theorem uses_n {n : Nat} {xs : List UseR} (h : ∀ i, i < n → uOk xs i = true) : usesB n xs = decide (n ≤ 60) := by simp [usesB, allOk_t _ _ h]
theorem uses_at {n : Nat} {xs : List UseR} (h : usesB n xs = true) : n ≤ 60 ∧ ∀ i, i < n → useB (xs.getD i z17).f0 (xs.getD i z17).f1 (xs.getD i z17).f2 = true := by
  simp only [usesB, Bool.and_eq_true, decide_eq_true_eq] at h
  exact ⟨h.1, fun i hi => allOk_at _ _ h.2 i hi⟩
theorem use_in {a b c : Int} (h : useB a b c = true) : 1 ≤ a ∧ a ≤ 50 ∧ 1 ≤ b ∧ b ≤ 50 ∧ 1 ≤ c ∧ c ≤ 100000 := by
  simp only [useB, Bool.and_eq_true] at h
  have h1 := inB_tt h.1.1
  have h2 := inB_tt h.1.2
  have h3 := inB_tt h.2
  omega
theorem ibadU (a b c : Int) (w : World) : Calls Try.prog 66 #[.agg #[.int .i64 a, .int .i64 b, .int .i64 c]] w (Val (.bool (!useB a b c)) w) := by
  cases h1 : inB a 1 50 <;> cases h2 : inB b 1 50 <;> cases h3 : inB c 1 100000
  all_goals
    go_enter Try.func66, Try.ntmps66
    go_wp2_with (first | (go_at_call 46; refine (sIn _ _ _ _).mono ?_; rintro e w' ⟨rfl, rfl⟩) | (go_at_call 48; refine (iIn _ _ _ _).mono ?_; rintro e w' ⟨rfl, rfl⟩) | go_in | (go_end0; simp only []; go_at_K))
    go_ret
    exact Val.mk' (v_bool (by simp [useB, h1, h2, h3])) (by (repeat (first | exact In.refl _ | assumption | apply In.alloc | apply In.drewN | apply In.drew | (refine In.step ?_ (by assumption)))))
set_option maxHeartbeats 2000000 in
theorem sUsesOk (A : Option Addr) (n c : Nat) (xs : List UseR) (w : World) (hn : n ≤ maxLen) (hx : ReadsUse w A n xs) : Calls Try.prog 38 #[.slice A n c] w (Val (.bool (usesB n xs)) w) := by
  unfold maxLen at hn
  go_enter Try.func38, Try.ntmps38
  go_wp2
  go_loopw [3] (fun i wr => ∃ k : Nat, k ≤ n ∧ i = .int .i64 k ∧ (∀ i, i < k → uOk xs i = true) ∧ In w.heap.size w wr) (fun i _ => n - (intOf i).toNat)
  case atStart => exact ⟨0, Nat.zero_le _, rfl, fun i hi => absurd hi (Nat.not_lt_zero _), by (repeat (first | exact In.refl _ | assumption | apply In.alloc | apply In.drewN | apply In.drew | (refine In.step ?_ (by assumption))))⟩
  case round =>
    obtain ⟨k, hk, rfl, ho, hi⟩ := hrel
    have HO := Lib.hid ho
    clear ho
    by_cases hlt : k < n
    · obtain ⟨a, rfl, ha0, ha1, ha2⟩ := (hx.in_ hi).2 k hlt
      have HK : Hid (uOk xs k = useB (xs.getD k z17).f0 (xs.getD k z17).f1 (xs.getD k z17).f2) := Lib.hid rfl
      generalize xs.getD k z17 = x at ha0 ha1 ha2 HK
      obtain ⟨x0, x1, x2⟩ := x
      simp only at ha0 ha1 ha2 HK
      cases h1 : inB x0 1 50 <;> cases h2 : inB x1 1 50 <;> cases h3 : inB x2 1 100000
      case true.true.true =>
        have HT : Hid (uOk xs k = true) := Lib.hid (by rw [HK.out]; simp [useB, h1, h2, h3])
        go_wp2_with (first | (go_at_call 46; refine (sIn _ _ _ _).mono ?_; rintro e w' ⟨rfl, rfl⟩) | (go_at_call 48; refine (iIn _ _ _ _).mono ?_; rintro e w' ⟨rfl, rfl⟩) | go_in | (go_end0; simp only []; go_at_K))
        go_roundw
        case rel => exact ⟨k + 1, by omega, by go_num, fun i hi => by
              by_cases e : i = k
              · subst e; exact HT.out
              · exact HO.out i (by omega), by (repeat (first | exact In.refl _ | assumption | apply In.alloc | apply In.drewN | apply In.drew | (refine In.step ?_ (by assumption))))⟩
        case measure => simp [intOf]; omega
      all_goals
        have HF : Hid (usesB n xs = false) := Lib.hid (uses_f k hlt (by rw [HK.out]; simp [useB, h1, h2, h3]))
        go_wp2_with (first | (go_at_call 46; refine (sIn _ _ _ _).mono ?_; rintro e w' ⟨rfl, rfl⟩) | (go_at_call 48; refine (iIn _ _ _ _).mono ?_; rintro e w' ⟨rfl, rfl⟩) | go_in | (go_end0; simp only []; go_at_K))
        go_ret
        exact Val.mk' (v_bool HF.out.symm) (by (repeat (first | exact In.refl _ | assumption | apply In.alloc | apply In.drewN | apply In.drew | (refine In.step ?_ (by assumption)))))
    · obtain rfl : k = n := by omega
      go_wp2
      go_ret
      exact Val.mk' (v_bool (by rw [uses_n HO.out]; simp; omega)) (by (repeat (first | exact In.refl _ | assumption | apply In.alloc | apply In.drewN | apply In.drew | (refine In.step ?_ (by assumption)))))
/-- the first bad one, or -1 -/
def BadU (xs : List UseR) (n : Nat) (w : World) (e : Ending) (w' : World) : Prop := ∃ r : Int, e = .returned (.int .i64 r) ∧ -1 ≤ r ∧ r ≤ 20000000 ∧ (r < 0 ↔ allOk (uOk xs) n = true) ∧ Below w.heap.size w w'
set_option maxHeartbeats 1000000 in
theorem iIndexU (A : Option Addr) (n c : Nat) (xs : List UseR) (w : World) (hn : n ≤ 10000000) (hx : ReadsUse w A n xs) :
    Calls Try.prog 76 #[.slice A n c, .func (Fn.func 66) #[] #[]] w (BadU xs n w) := by
  go_enter Try.func76, Try.ntmps76
  go_wp2
  go_loopw [8] (fun i wr => ∃ k : Nat, k ≤ n ∧ i = .int .i64 k ∧ (∀ i, i < k → uOk xs i = true) ∧ In w.heap.size w wr) (fun i _ => n - (intOf i).toNat)
  case atStart => exact ⟨0, Nat.zero_le _, rfl, fun i hi => absurd hi (Nat.not_lt_zero _), by (repeat (first | exact In.refl _ | assumption | apply In.alloc | apply In.drewN | apply In.drew | (refine In.step ?_ (by assumption))))⟩
  case round =>
    obtain ⟨k, hk, rfl, ho, hi⟩ := hrel
    have HO := Lib.hid ho
    clear ho
    by_cases hlt : k < n
    · obtain ⟨a, rfl, ha0, ha1, ha2⟩ := (hx.in_ hi).2 k hlt
      have HK : Hid (uOk xs k = useB (xs.getD k z17).f0 (xs.getD k z17).f1 (xs.getD k z17).f2) := Lib.hid rfl
      generalize xs.getD k z17 = x at ha0 ha1 ha2 HK
      obtain ⟨x0, x1, x2⟩ := x
      simp only at ha0 ha1 ha2 HK
      cases h1 : useB x0 x1 x2
      · have HF : Hid (allOk (uOk xs) n = false) := Lib.hid (allOk_f _ _ k hlt (by rw [HK.out]; exact h1))
        go_wp2_with fail
        refine (ibadU x0 x1 x2 _).mono ?_
        rintro _ w1 ⟨rfl, hb1⟩
        rw [h1]
        go_wp2
        go_ret
        exact ⟨k, rfl, by omega, by omega, by rw [HF.out]; simp, In.below (by (repeat (first | exact In.refl _ | assumption | apply In.alloc | apply In.drewN | apply In.drew | (refine In.step ?_ (by assumption)))))⟩
      have HT : Hid (uOk xs k = true) := Lib.hid (by rw [HK.out]; exact h1)
      go_wp2_with fail
      refine (ibadU x0 x1 x2 _).mono ?_
      rintro _ w1 ⟨rfl, hb1⟩
      rw [h1]
      go_wp2
      go_roundw
      case rel => exact ⟨k + 1, by omega, by go_num, fun i hi => by
            by_cases e : i = k
            · subst e; exact HT.out
            · exact HO.out i (by omega), by (repeat (first | exact In.refl _ | assumption | apply In.alloc | apply In.drewN | apply In.drew | (refine In.step ?_ (by assumption))))⟩
      case measure => simp [intOf]; omega
    · obtain rfl : k = n := by omega
      go_wp2
      go_ret
      exact ⟨-1, rfl, by omega, by omega, by rw [allOk_t _ _ HO.out]; simp, In.below (by (repeat (first | exact In.refl _ | assumption | apply In.alloc | apply In.drewN | apply In.drew | (refine In.step ?_ (by assumption)))))⟩
theorem iUsesOk (A : Option Addr) (n c : Nat) (xs : List UseR) (w : World) (hn : n ≤ maxLen) (hx : ReadsUse w A n xs) : Calls Try.prog 40 #[.slice A n c] w (Val (.bool (usesB n xs)) w) := by
  unfold maxLen at hn
  by_cases h10 : n ≤ 60
  · go_enter Try.func40, Try.ntmps40
    go_wp2_with (first | (go_at_call 76; refine (iIndexU A n c xs _ (by omega) hx).mono ?_; rintro _ w1 ⟨r, rfl, h1, h2, h3, hb1⟩) | go_in)
    all_goals
      go_ret
      refine Val.mk' (v_bool ?_) (by (repeat (first | exact In.refl _ | assumption | apply In.alloc | apply In.drewN | apply In.drew | (refine In.step ?_ (by assumption)))))
      cases e : allOk (uOk xs) n <;> simp_all [usesB] <;> omega
  · have HF : Hid (usesB n xs = false) := Lib.hid (by simp [usesB, h10])
    have h10' : 60 < n := by omega
    go_enter Try.func40, Try.ntmps40
    go_wp2
    go_ret
    exact Val.mk' (v_bool HF.out.symm) (by (repeat (first | exact In.refl _ | assumption | apply In.alloc | apply In.drewN | apply In.drew | (refine In.step ?_ (by assumption)))))
/-! UsedOf -/
def usG (xs : List UseR) (l : Int) (i : Nat) : Int := if (xs.getD i z17).f0 = l then (xs.getD i z17).f2 else 0
def usedV (n : Nat) (xs : List UseR) (l : Int) : Int := if usesB n xs then sumTo (usG xs l) n else -1
theorem usG_in (xs : List UseR) (l : Int) (i : Nat) (h : useB (xs.getD i z17).f0 (xs.getD i z17).f1 (xs.getD i z17).f2 = true) : 0 ≤ usG xs l i ∧ usG xs l i ≤ 100000 := by
  have := use_in h
  unfold usG; split <;> omega
end Go.Proofs.Ytegkaemcoghbeaa
