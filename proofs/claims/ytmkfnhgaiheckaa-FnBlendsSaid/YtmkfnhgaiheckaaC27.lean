/- Chapter 27: FloursOk, StrengthOf, BlendCost. -/
import Derived.Test.YtmkfnhgaiheckaaIn
import Derived.Test.YtmkfnhgaiheckaaSums
import Derived.Test.YtmkfnhgaiheckaaSFlour
import Derived.Deep.QuietTactic
import Derived.BigQuiet
import Derived.IntWalk
namespace Go.Proofs.Ytmkfnhgaiheckaa
open Go.ChangeShapes Go.WideShapes Go.ChangeAt Go.RowKit
set_option linter.unusedVariables false
set_option linter.unusedSimpArgs false
set_option maxHeartbeats 2000000

abbrev z27 : FlourR := ⟨0, 0, 0⟩
def flB (a b c : Int) : Bool := inB a 50 500 && inB b 1 100 && inB c 0 100
theorem fl_in {a b c : Int} (h : flB a b c = true) : 50 ≤ a ∧ a ≤ 500 ∧ 1 ≤ b ∧ b ≤ 100 ∧ 0 ≤ c ∧ c ≤ 100 := by
  simp only [flB, Bool.and_eq_true] at h
  have h1 := inB_tt h.1.1
  have h2 := inB_tt h.1.2
  have h3 := inB_tt h.2
  omega
def flK (xs : List FlourR) (i : Nat) : Bool := flB (xs.getD i z27).f0 (xs.getD i z27).f1 (xs.getD i z27).f2
def floursB (n : Nat) (xs : List FlourR) : Bool := allOk (flK xs) n && inB (n : Int) 1 5
theorem flours_at {n : Nat} {xs : List FlourR} (h : floursB n xs = true) : 1 ≤ n ∧ n ≤ 5 ∧ ∀ i, i < n → flB (xs.getD i z27).f0 (xs.getD i z27).f1 (xs.getD i z27).f2 = true := by
  simp only [floursB, Bool.and_eq_true] at h
  have := inB_tt h.2
  exact ⟨by omega, by omega, fun i hi => allOk_at _ _ h.1 i hi⟩
theorem i27s (n : Int) (w : World) : Calls Try.prog 106 #[.int .i64 n] w (Same (.bool (inB n 50 500)) w) := by
  go_enter Try.func106, Try.ntmps106
  go_wp2_with (first | (go_at_call 95; refine (sIn _ _ _ _).mono ?_; rintro e w' ⟨rfl, rfl⟩) | (go_at_call 105; refine (iIn _ _ _ _).mono ?_; rintro e w' ⟨rfl, rfl⟩))
  go_ret
  exact ⟨rfl, rfl⟩
set_option maxHeartbeats 2000000 in
theorem sFloursOk (A : Option Addr) (n c : Nat) (xs : List FlourR) (w : World) (hn : n ≤ maxLen) (hx : ReadsFlour w A n xs) : Calls Try.prog 101 #[.slice A n c] w (Val (.bool (floursB n xs)) w) := by
  unfold maxLen at hn
  go_enter Try.func101, Try.ntmps101
  go_wp2
  go_loopw [3] (fun i wr => ∃ k : Nat, k ≤ n ∧ i = .int .i64 k ∧ (∀ i, i < k → flK xs i = true) ∧ In w.heap.size w wr) (fun i _ => n - (intOf i).toNat)
  case atStart => exact ⟨0, Nat.zero_le _, rfl, fun i hi => absurd hi (Nat.not_lt_zero _), by (repeat (first | exact In.refl _ | assumption | apply In.alloc | apply In.drewN | apply In.drew | (refine In.step ?_ (by assumption))))⟩
  case round =>
    obtain ⟨k, hk, rfl, ho, hi⟩ := hrel
    have HO := Lib.hid ho
    clear ho
    by_cases hlt : k < n
    · have HA : (flK xs k = false → (floursB n xs) = false) := fun h => by simp [floursB, allOk_f _ _ k hlt h]
      have HA := Lib.hid HA
      obtain ⟨a, rfl, ha0, ha1, ha2⟩ := (hx.in_ hi).2 k hlt
      have HK : Hid (flK xs k = flB (xs.getD k z27).f0 (xs.getD k z27).f1 (xs.getD k z27).f2) := Lib.hid rfl
      generalize xs.getD k z27 = x at *
      obtain ⟨x0, x1, x2⟩ := x
      simp only at ha0 ha1 ha2 HK
      cases h1 : inB x0 50 500 <;> cases h2 : inB x1 1 100 <;> cases h3 : inB x2 0 100
      case true.true.true =>
        have HT : Hid (flK xs k = true) := Lib.hid (by rw [HK.out]; simp [flB, h1, h2, h3])
        clear HA
        go_wp2_with (first | (go_at_call 95; refine (sIn _ _ _ _).mono ?_; rintro e w' ⟨rfl, rfl⟩) | (go_at_call 105; refine (iIn _ _ _ _).mono ?_; rintro e w' ⟨rfl, rfl⟩))
        go_roundw
        case rel => exact ⟨k + 1, by omega, by go_num, fun i hi => by
                by_cases e : i = k
                · subst e; exact HT.out
                · exact HO.out i (by omega), by (repeat (first | exact In.refl _ | assumption | apply In.alloc | apply In.drewN | apply In.drew | (refine In.step ?_ (by assumption))))⟩
        case measure => simp [intOf]; omega
      all_goals
        have HF : Hid ((floursB n xs) = false) := Lib.hid (HA.out (by rw [HK.out]; simp [flB, h1, h2, h3]))
        clear HA
        go_wp2_with (first | (go_at_call 95; refine (sIn _ _ _ _).mono ?_; rintro e w' ⟨rfl, rfl⟩) | (go_at_call 105; refine (iIn _ _ _ _).mono ?_; rintro e w' ⟨rfl, rfl⟩))
        go_ret
        exact Val.mk' (v_bool HF.out.symm) (by (repeat (first | exact In.refl _ | assumption | apply In.alloc | apply In.drewN | apply In.drew | (refine In.step ?_ (by assumption)))))
    · obtain rfl : k = n := by omega
      have HT : Hid (allOk (flK xs) k = true) := Lib.hid (allOk_t _ _ HO.out)
      have HV : Hid (floursB k xs = inB (k : Int) 1 5) := Lib.hid (by simp [floursB, HT.out])
      go_wp2_with (first | (go_at_call 95; refine (sIn _ _ _ _).mono ?_; rintro e w' ⟨rfl, rfl⟩) | (go_at_call 105; refine (iIn _ _ _ _).mono ?_; rintro e w' ⟨rfl, rfl⟩))
      go_ret
      exact Val.mk' (v_bool HV.out.symm) (by (repeat (first | exact In.refl _ | assumption | apply In.alloc | apply In.drewN | apply In.drew | (refine In.step ?_ (by assumption)))))
theorem iFloursOk (A : Option Addr) (n c : Nat) (xs : List FlourR) (w : World) (hn : n ≤ maxLen) (hx : ReadsFlour w A n xs) : Calls Try.prog 41 #[.slice A n c] w (Val (.bool (floursB n xs)) w) := by
  unfold maxLen at hn
  cases h0 : inB (n : Int) 1 5
  · have HV : Hid (floursB n xs = false) := Lib.hid (by simp [floursB, h0])
    go_enter Try.func41, Try.ntmps41
    go_wp2_with (first | (go_at_call 95; refine (sIn _ _ _ _).mono ?_; rintro e w' ⟨rfl, rfl⟩) | (go_at_call 105; refine (iIn _ _ _ _).mono ?_; rintro e w' ⟨rfl, rfl⟩))
    go_ret
    exact Val.mk' (v_bool HV.out.symm) (by (repeat (first | exact In.refl _ | assumption | apply In.alloc | apply In.drewN | apply In.drew | (refine In.step ?_ (by assumption)))))
  go_enter Try.func41, Try.ntmps41
  go_wp2_with (first | (go_at_call 95; refine (sIn _ _ _ _).mono ?_; rintro e w' ⟨rfl, rfl⟩) | (go_at_call 105; refine (iIn _ _ _ _).mono ?_; rintro e w' ⟨rfl, rfl⟩))
  go_loopw [11] (fun i wr => ∃ k : Nat, k ≤ n ∧ i = .int .i64 k ∧ (∀ i, i < k → flK xs i = true) ∧ In w.heap.size w wr) (fun i _ => n - (intOf i).toNat)
  case atStart => exact ⟨0, Nat.zero_le _, rfl, fun i hi => absurd hi (Nat.not_lt_zero _), by (repeat (first | exact In.refl _ | assumption | apply In.alloc | apply In.drewN | apply In.drew | (refine In.step ?_ (by assumption))))⟩
  case round =>
    obtain ⟨k, hk, rfl, ho, hi⟩ := hrel
    have HO := Lib.hid ho
    clear ho
    by_cases hlt : k < n
    · have HA : (flK xs k = false → (floursB n xs) = false) := fun h => by simp [floursB, allOk_f _ _ k hlt h]
      have HA := Lib.hid HA
      obtain ⟨a, rfl, ha0, ha1, ha2⟩ := (hx.in_ hi).2 k hlt
      have HK : Hid (flK xs k = flB (xs.getD k z27).f0 (xs.getD k z27).f1 (xs.getD k z27).f2) := Lib.hid rfl
      generalize xs.getD k z27 = x at *
      obtain ⟨x0, x1, x2⟩ := x
      simp only at ha0 ha1 ha2 HK
      cases h1 : inB x0 50 500 <;> cases h2 : inB x1 1 100 <;> cases h3 : inB x2 0 100
      case true.true.true =>
        have HT : Hid (flK xs k = true) := Lib.hid (by rw [HK.out]; simp [flB, h1, h2, h3])
        clear HA
        go_wp2_with (first | (go_at_call 95; refine (sIn _ _ _ _).mono ?_; rintro e w' ⟨rfl, rfl⟩) | (go_at_call 105; refine (iIn _ _ _ _).mono ?_; rintro e w' ⟨rfl, rfl⟩) | (go_at_call 106; (with_reducible refine (i27s _ _).mono ?_); rintro e w' ⟨rfl, rfl⟩))
        go_roundw
        case rel => exact ⟨k + 1, by omega, by go_num, fun i hi => by
                by_cases e : i = k
                · subst e; exact HT.out
                · exact HO.out i (by omega), by (repeat (first | exact In.refl _ | assumption | apply In.alloc | apply In.drewN | apply In.drew | (refine In.step ?_ (by assumption))))⟩
        case measure => simp [intOf]; omega
      all_goals
        have HF : Hid ((floursB n xs) = false) := Lib.hid (HA.out (by rw [HK.out]; simp [flB, h1, h2, h3]))
        clear HA
        go_wp2_with (first | (go_at_call 95; refine (sIn _ _ _ _).mono ?_; rintro e w' ⟨rfl, rfl⟩) | (go_at_call 105; refine (iIn _ _ _ _).mono ?_; rintro e w' ⟨rfl, rfl⟩) | (go_at_call 106; (with_reducible refine (i27s _ _).mono ?_); rintro e w' ⟨rfl, rfl⟩))
        go_ret
        exact Val.mk' (v_bool HF.out.symm) (by (repeat (first | exact In.refl _ | assumption | apply In.alloc | apply In.drewN | apply In.drew | (refine In.step ?_ (by assumption)))))
    · obtain rfl : k = n := by omega
      have HT : Hid (allOk (flK xs) k = true) := Lib.hid (allOk_t _ _ HO.out)
      have HV : Hid (floursB k xs = true) := Lib.hid (by simp [floursB, HT.out, h0])
      go_wp2
      go_ret
      exact Val.mk' (v_bool HV.out.symm) (by (repeat (first | exact In.refl _ | assumption | apply In.alloc | apply In.drewN | apply In.drew | (refine In.step ?_ (by assumption)))))
def kiK (xs : List FlourR) (ys : List Int) (i : Nat) : Bool := inB (ys.getD i 0) 0 (xs.getD i z27).f2
def kilB (n : Nat) (xs : List FlourR) (m : Nat) (ys : List Int) : Bool := floursB n xs && decide (m = n) && allOk (kiK xs ys) n
theorem kil_at {n m : Nat} {xs : List FlourR} {ys : List Int} (h : kilB n xs m ys = true) : m = n ∧ floursB n xs = true ∧ ∀ i, i < n → 0 ≤ ys.getD i 0 ∧ ys.getD i 0 ≤ (xs.getD i z27).f2 := by
  simp only [kilB, Bool.and_eq_true, decide_eq_true_eq] at h
  exact ⟨h.1.2, h.1.1, fun i hi => inB_tt (allOk_at _ _ h.2 i hi)⟩
theorem sl27Ok (A : Option Addr) (n c : Nat) (xs : List FlourR) (B : Option Addr) (m d : Nat) (ys : List Int) (w : World) (hn : n ≤ maxLen) (hx : ReadsFlour w A n xs) (hm : m ≤ maxLen) (hy : ReadsI w B m ys) : Calls Try.prog 176 #[.slice A n c, .slice B m d] w (Val (.bool (kilB n xs m ys)) w) := by
  have hn' := hn
  unfold maxLen at hn hm
  cases h0 : floursB n xs
  · have HV : Hid (kilB n xs m ys = false) := Lib.hid (by simp [kilB, h0])
    go_enter Try.func176, Try.ntmps176
    go_wp2_with fail
    refine (sFloursOk A n c xs _ hn' hx).mono ?_
    rintro _ w1 ⟨rfl, hb1⟩
    rw [h0]
    go_wp2
    go_ret
    exact Val.mk' (v_bool HV.out.symm) (by (repeat (first | exact In.refl _ | assumption | apply In.alloc | apply In.drewN | apply In.drew | (refine In.step ?_ (by assumption)))))
  by_cases hmn : m = n
  case neg =>
    have HV : Hid (kilB n xs m ys = false) := Lib.hid (by simp [kilB, hmn])
    have hne : ((m : Int) == (n : Int)) = false := by simp; omega
    have hne2 : ((m : Int) != (n : Int)) = true := by simp; omega
    clear hmn
    go_enter Try.func176, Try.ntmps176
    go_wp2_with fail
    refine (sFloursOk A n c xs _ hn' hx).mono ?_
    rintro _ w1 ⟨rfl, hb1⟩
    rw [h0]
    go_wp2
    go_ret
    exact Val.mk' (v_bool HV.out.symm) (by (repeat (first | exact In.refl _ | assumption | apply In.alloc | apply In.drewN | apply In.drew | (refine In.step ?_ (by assumption)))))
  subst hmn
  have HA : Hid (∀ k, k < m → kiK xs ys k = false → kilB m xs m ys = false) := Lib.hid fun k hk h => by simp [kilB, allOk_f _ _ k hk h]
  have HF := Lib.hid (flours_at h0)
  go_enter Try.func176, Try.ntmps176
  go_wp2_with fail
  refine (sFloursOk A m c xs _ hn' hx).mono ?_
  rintro _ w1 ⟨rfl, hb1⟩
  have i1 : In w.heap.size w w1 := In.step (by (repeat (first | exact In.refl _ | assumption | apply In.alloc | apply In.drewN | apply In.drew | (refine In.step ?_ (by assumption))))) hb1
  rw [h0]
  clear hb1
  go_wp2
  go_loopw [5] (fun i wr => ∃ k : Nat, k ≤ m ∧ i = .int .i64 k ∧ (∀ i, i < k → kiK xs ys i = true) ∧ In w.heap.size w wr) (fun i _ => m - (intOf i).toNat)
  case atStart => exact ⟨0, Nat.zero_le _, rfl, fun i hi => absurd hi (Nat.not_lt_zero _), by (repeat (first | exact In.refl _ | assumption | apply In.alloc | apply In.drewN | apply In.drew | (refine In.step ?_ (by assumption))))⟩
  case round =>
    clear i1
    obtain ⟨k, hk, rfl, ho, hi⟩ := hrel
    have HO := Lib.hid ho
    clear ho
    by_cases hlt : k < m
    · have HA1 := Lib.hid (HA.out k hlt)
      have HK : Hid (kiK xs ys k = inB (ys.getD k 0) 0 (xs.getD k z27).f2) := Lib.hid rfl
      obtain ⟨b, rfl, hb⟩ := (hy.below hi.below (Nat.le_refl _)).2 k hlt
      obtain ⟨a, rfl, ha0, ha1, ha2⟩ := (hx.in_ hi).2 k hlt
      generalize xs.getD k z27 = x at *
      obtain ⟨x0, x1, x2⟩ := x
      simp only at ha0 ha1 ha2 HK
      generalize ys.getD k 0 = y at *
      cases h1 : inB y 0 x2
      · have HV : Hid (kilB m xs m ys = false) := Lib.hid (HA1.out (by rw [HK.out]; exact h1))
        clear HA1
        go_wp2
        skip
        go_quiet ((first | (go_at_call 95; with_reducible exact Calls.quiet_of_same ((sInE h1 _).mono fun _ _ h => h.q))))
        go_wp2
        go_ret
        exact Val.mk' (v_bool HV.out.symm) (by (repeat (first | exact In.refl _ | assumption | apply In.alloc | apply In.drewN | apply In.drew | (refine In.step ?_ (by assumption)))))
      · have HT : Hid (kiK xs ys k = true) := Lib.hid (by rw [HK.out]; exact h1)
        clear HA1
        go_wp2
        skip
        go_quiet ((first | (go_at_call 95; with_reducible exact Calls.quiet_of_same ((sInE h1 _).mono fun _ _ h => h.q))))
        go_wp2
        go_roundw
        case rel => exact ⟨k + 1, by omega, by go_num, fun i hi => by
            by_cases e : i = k
            · subst e; exact HT.out
            · exact HO.out i (by omega), by (repeat (first | exact In.refl _ | assumption | apply In.alloc | apply In.drewN | apply In.drew | (refine In.step ?_ (by assumption))))⟩
        case measure => simp [intOf]; omega
    · obtain rfl : k = m := by omega
      have HV : Hid (kilB k xs k ys = true) := Lib.hid (by simp [kilB, h0, allOk_t _ _ HO.out])
      go_wp2
      go_ret
      exact Val.mk' (v_bool HV.out.symm) (by (repeat (first | exact In.refl _ | assumption | apply In.alloc | apply In.drewN | apply In.drew | (refine In.step ?_ (by assumption)))))
theorem ikilosOk (A : Option Addr) (n c : Nat) (xs : List FlourR) (B : Option Addr) (m d : Nat) (ys : List Int) (w : World) (hn : n ≤ maxLen) (hx : ReadsFlour w A n xs) (hm : m ≤ maxLen) (hy : ReadsI w B m ys) : Calls Try.prog 122 #[.slice A n c, .slice B m d] w (Val (.bool (kilB n xs m ys)) w) := by
  have hn' := hn
  unfold maxLen at hn hm
  cases h0 : floursB n xs
  · have HV : Hid (kilB n xs m ys = false) := Lib.hid (by simp [kilB, h0])
    go_enter Try.func122, Try.ntmps122
    go_wp2_with fail
    refine (iFloursOk A n c xs _ hn' hx).mono ?_
    rintro _ w1 ⟨rfl, hb1⟩
    rw [h0]
    go_wp2
    go_ret
    exact Val.mk' (v_bool HV.out.symm) (by (repeat (first | exact In.refl _ | assumption | apply In.alloc | apply In.drewN | apply In.drew | (refine In.step ?_ (by assumption)))))
  by_cases hmn : m = n
  case neg =>
    have HV : Hid (kilB n xs m ys = false) := Lib.hid (by simp [kilB, hmn])
    have hne : ((m : Int) == (n : Int)) = false := by simp; omega
    have hne2 : ((m : Int) != (n : Int)) = true := by simp; omega
    clear hmn
    go_enter Try.func122, Try.ntmps122
    go_wp2_with fail
    refine (iFloursOk A n c xs _ hn' hx).mono ?_
    rintro _ w1 ⟨rfl, hb1⟩
    rw [h0]
    go_wp2
    go_ret
    exact Val.mk' (v_bool HV.out.symm) (by (repeat (first | exact In.refl _ | assumption | apply In.alloc | apply In.drewN | apply In.drew | (refine In.step ?_ (by assumption)))))
  subst hmn
  have HA : Hid (∀ k, k < m → kiK xs ys k = false → kilB m xs m ys = false) := Lib.hid fun k hk h => by simp [kilB, allOk_f _ _ k hk h]
  have HF := Lib.hid (flours_at h0)
  go_enter Try.func122, Try.ntmps122
  go_wp2_with fail
  refine (iFloursOk A m c xs _ hn' hx).mono ?_
  rintro _ w1 ⟨rfl, hb1⟩
  have i1 : In w.heap.size w w1 := In.step (by (repeat (first | exact In.refl _ | assumption | apply In.alloc | apply In.drewN | apply In.drew | (refine In.step ?_ (by assumption))))) hb1
  rw [h0]
  clear hb1
  go_wp2
  go_loopw [19] (fun i wr => ∃ k : Nat, k ≤ m ∧ i = .int .i64 k ∧ (∀ i, i < k → kiK xs ys i = true) ∧ In w.heap.size w wr) (fun i _ => m - (intOf i).toNat)
  case atStart => exact ⟨0, Nat.zero_le _, rfl, fun i hi => absurd hi (Nat.not_lt_zero _), by (repeat (first | exact In.refl _ | assumption | apply In.alloc | apply In.drewN | apply In.drew | (refine In.step ?_ (by assumption))))⟩
  case round =>
    clear i1
    obtain ⟨k, hk, rfl, ho, hi⟩ := hrel
    have HO := Lib.hid ho
    clear ho
    by_cases hlt : k < m
    · have HA1 := Lib.hid (HA.out k hlt)
      have HK : Hid (kiK xs ys k = inB (ys.getD k 0) 0 (xs.getD k z27).f2) := Lib.hid rfl
      obtain ⟨b, rfl, hb⟩ := (hy.below hi.below (Nat.le_refl _)).2 k hlt
      obtain ⟨a, rfl, ha0, ha1, ha2⟩ := (hx.in_ hi).2 k hlt
      generalize xs.getD k z27 = x at *
      obtain ⟨x0, x1, x2⟩ := x
      simp only at ha0 ha1 ha2 HK
      generalize ys.getD k 0 = y at *
      cases h1 : inB y 0 x2
      · have HV : Hid (kilB m xs m ys = false) := Lib.hid (HA1.out (by rw [HK.out]; exact h1))
        clear HA1
        go_wp2
        have hb2 : (wr.alloc (.cells #[.int .i64 x0, .int .i64 x1, .int .i64 x2] 56)).cell? (b.add k) = some (.int .i64 y) := cell_in hb (by (repeat (first | exact In.refl _ | assumption | apply In.alloc | apply In.drewN | apply In.drew | (refine In.step ?_ (by assumption)))))
        go_quiet ((first | (go_at_call 105; with_reducible exact Calls.quiet_of_same ((iInE h1 _).mono fun _ _ h => h.q))))
        go_wp2
        go_ret
        exact Val.mk' (v_bool HV.out.symm) (by (repeat (first | exact In.refl _ | assumption | apply In.alloc | apply In.drewN | apply In.drew | (refine In.step ?_ (by assumption)))))
      · have HT : Hid (kiK xs ys k = true) := Lib.hid (by rw [HK.out]; exact h1)
        clear HA1
        go_wp2
        have hb2 : (wr.alloc (.cells #[.int .i64 x0, .int .i64 x1, .int .i64 x2] 56)).cell? (b.add k) = some (.int .i64 y) := cell_in hb (by (repeat (first | exact In.refl _ | assumption | apply In.alloc | apply In.drewN | apply In.drew | (refine In.step ?_ (by assumption)))))
        go_quiet ((first | (go_at_call 105; with_reducible exact Calls.quiet_of_same ((iInE h1 _).mono fun _ _ h => h.q))))
        go_wp2
        go_roundw
        case rel => exact ⟨k + 1, by omega, by go_num, fun i hi => by
            by_cases e : i = k
            · subst e; exact HT.out
            · exact HO.out i (by omega), by (repeat (first | exact In.refl _ | assumption | apply In.alloc | apply In.drewN | apply In.drew | (refine In.step ?_ (by assumption))))⟩
        case measure => simp [intOf]; omega
    · obtain rfl : k = m := by omega
      have HV : Hid (kilB k xs k ys = true) := Lib.hid (by simp [kilB, h0, allOk_t _ _ HO.out])
      go_wp2
      go_ret
      exact Val.mk' (v_bool HV.out.symm) (by (repeat (first | exact In.refl _ | assumption | apply In.alloc | apply In.drewN | apply In.drew | (refine In.step ?_ (by assumption)))))
def stG (xs : List FlourR) (ys : List Int) (i : Nat) : Int := (xs.getD i z27).f0 * ys.getD i 0
def coG (xs : List FlourR) (ys : List Int) (i : Nat) : Int := (xs.getD i z27).f1 * ys.getD i 0
def strengthV (n : Nat) (xs : List FlourR) (m : Nat) (ys : List Int) : Int := if kilB n xs m ys && !(lsum ys m == 0) then sumTo (stG xs ys) n / lsum ys n else -1
def costV27 (n : Nat) (xs : List FlourR) (m : Nat) (ys : List Int) : Int := if kilB n xs m ys then sumTo (coG xs ys) n else -1
theorem kg_in {a b c y : Int} (h : flB a b c = true) (h1 : 0 ≤ y) (h2 : y ≤ c) : 0 ≤ a * y ∧ a * y ≤ 50000 ∧ 0 ≤ b * y ∧ b * y ≤ 10000 := by
  have hb := fl_in h
  have m1 := mul_in (a := a) (b := y) (A := 500) (B := 100) (by omega) (by omega) (by omega) (by omega)
  have m2 := mul_in (a := b) (b := y) (A := 100) (B := 100) (by omega) (by omega) (by omega) (by omega)
  omega
theorem sStrengthOf (A : Option Addr) (n c : Nat) (xs : List FlourR) (B : Option Addr) (m d : Nat) (ys : List Int) (w : World) (hn : n ≤ maxLen) (hx : ReadsFlour w A n xs) (hm : m ≤ maxLen) (hy : ReadsI w B m ys) : Calls Try.prog 102 #[.slice A n c, .slice B m d] w (Val (i64 (strengthV n xs m ys)) w) := by
  cases h0 : kilB n xs m ys
  · have HV : Hid (strengthV n xs m ys = -1) := Lib.hid (by simp [strengthV, h0])
    go_enter Try.func102, Try.ntmps102
    go_wp2_with fail
    refine (sl27Ok A n c xs B m d ys _ hn hx hm hy).mono ?_
    rintro _ w1 ⟨rfl, hb1⟩
    rw [h0]
    go_wp2
    go_ret
    exact Val.mk' (v_int HV.out.symm) (by (repeat (first | exact In.refl _ | assumption | apply In.alloc | apply In.drewN | apply In.drew | (refine In.step ?_ (by assumption)))))
  obtain ⟨hmn, hf, hk0⟩ := kil_at h0
  subst hmn
  obtain ⟨n1, n2, hfl⟩ := flours_at hf
  have HG : Hid (∀ i, i < m → 0 ≤ stG xs ys i ∧ stG xs ys i ≤ 50000) := Lib.hid fun i hi => by
    have h1 := hk0 i hi
    have := kg_in (hfl i hi) h1.1 h1.2
    exact ⟨this.1, this.2.1⟩
  have HS : Hid (∀ i, i < m → 0 ≤ ys.getD i 0 ∧ ys.getD i 0 ≤ 1000000000) := Lib.hid fun i hi => by
    have h1 := hk0 i hi
    have := fl_in (hfl i hi)
    omega
  obtain ⟨l1, l2⟩ := lsum_in (xs := ys) (n := m) 100 (fun i hi => by
    have h1 := hk0 i hi
    have := fl_in (hfl i hi)
    omega)
  clear hk0 hfl hf
  cases hz : (lsum ys m == 0 : Bool)
  case true =>
    have HV : Hid (strengthV m xs m ys = -1) := Lib.hid (by simp [strengthV, hz])
    go_enter Try.func102, Try.ntmps102
    go_wp2_with fail
    refine (sl27Ok A m c xs B m d ys _ hn hx hm hy).mono ?_
    rintro _ w1 ⟨rfl, hb1⟩
    rw [h0]
    have i1 : In w.heap.size w w1 := In.step (by (repeat (first | exact In.refl _ | assumption | apply In.alloc | apply In.drewN | apply In.drew | (refine In.step ?_ (by assumption))))) hb1
    clear hb1
    go_wp2_with fail
    refine (sl02Sum B m d ys _ (by omega) HS.out (hy.below i1.below (Nat.le_refl _))).mono ?_
    rintro _ _ ⟨rfl, rfl⟩
    go_wp2
    go_ret
    exact Val.mk' (v_int HV.out.symm) (by (repeat (first | exact In.refl _ | assumption | apply In.alloc | apply In.drewN | apply In.drew | (refine In.step ?_ (by assumption)))))
  have HV : Hid (strengthV m xs m ys = sumTo (stG xs ys) m / lsum ys m) := Lib.hid (by simp [strengthV, hz, h0])
  have hz' : ¬ lsum ys m = 0 := by simpa using hz
  go_enter Try.func102, Try.ntmps102
  go_wp2_with fail
  refine (sl27Ok A m c xs B m d ys _ hn hx hm hy).mono ?_
  rintro _ w1 ⟨rfl, hb1⟩
  rw [h0]
  have i1 : In w.heap.size w w1 := In.step (by (repeat (first | exact In.refl _ | assumption | apply In.alloc | apply In.drewN | apply In.drew | (refine In.step ?_ (by assumption))))) hb1
  clear hb1
  go_wp2_with fail
  refine (sl02Sum B m d ys _ (by omega) HS.out (hy.below i1.below (Nat.le_refl _))).mono ?_
  rintro _ _ ⟨rfl, rfl⟩
  clear h0
  go_wp2
  go_loopw [5, 6] (fun s i wr => ∃ k : Nat, k ≤ m ∧ i = .int .i64 k ∧ s = .int .i64 (sumTo (stG xs ys) k) ∧ In w.heap.size w wr) (fun _ i _ => m - (intOf i).toNat)
  case atStart => exact ⟨0, Nat.zero_le _, rfl, rfl, by (repeat (first | exact In.refl _ | assumption | apply In.alloc | apply In.drewN | apply In.drew | (refine In.step ?_ (by assumption))))⟩
  case round =>
    clear i1
    obtain ⟨k, hk, rfl, rfl, hi⟩ := hrel
    have HU := Lib.hid (sumTo_succ (stG xs ys) k)
    obtain ⟨d1, d2⟩ := sumTo_bd (stG xs ys) 50000 k fun i hi => (HG.out i (by omega))
    by_cases hlt : k < m
    · have hg := HG.out k hlt
      have HGk : Hid (stG xs ys k = (xs.getD k z27).f0 * ys.getD k 0) := Lib.hid rfl
      obtain ⟨b, rfl, hb⟩ := (hy.below hi.below (Nat.le_refl _)).2 k hlt
      rw [HGk.out] at hg
      obtain ⟨a, rfl, ha0, ha1, ha2⟩ := (hx.in_ hi).2 k hlt
      generalize xs.getD k z27 = x at *
      obtain ⟨x0, x1, x2⟩ := x
      simp only at ha0 ha1 ha2 HGk hg
      generalize ys.getD k 0 = y at *
      generalize sumTo (stG xs ys) k = s at *
      have W2 : IntKind.i64.wrap (x0 * y) = x0 * y := IntWalk.i64_in _ (by omega)
      have W3 : IntKind.i64.wrap (s + x0 * y) = s + x0 * y := IntWalk.i64_in _ (by omega)
      go_wp2
      skip
      go_quiet (fail)
      clear W2 W3
      go_wp2
      go_roundw
      case rel => exact ⟨k + 1, by omega, by go_num, v_int (by rw [HU.out, HGk.out]), by (repeat (first | exact In.refl _ | assumption | apply In.alloc | apply In.drewN | apply In.drew | (refine In.step ?_ (by assumption))))⟩
      case measure => simp [intOf]; omega
    · obtain rfl : k = m := by omega
      have hq : 0 ≤ sumTo (stG xs ys) k / lsum ys k := Int.ediv_nonneg d1 l1
      go_wp2_with fail
      refine (sl02Sum B k d ys _ (by omega) HS.out (hy.below hi.below (Nat.le_refl _))).mono ?_
      rintro _ _ ⟨rfl, rfl⟩
      go_wp2
      go_ret
      exact Val.mk' (v_int HV.out.symm) (by (repeat (first | exact In.refl _ | assumption | apply In.alloc | apply In.drewN | apply In.drew | (refine In.step ?_ (by assumption)))))
theorem sBlendCost (A : Option Addr) (n c : Nat) (xs : List FlourR) (B : Option Addr) (m d : Nat) (ys : List Int) (w : World) (hn : n ≤ maxLen) (hx : ReadsFlour w A n xs) (hm : m ≤ maxLen) (hy : ReadsI w B m ys) : Calls Try.prog 103 #[.slice A n c, .slice B m d] w (Val (i64 (costV27 n xs m ys)) w) := by
  cases h0 : kilB n xs m ys
  · have HV : Hid (costV27 n xs m ys = -1) := Lib.hid (by simp [costV27, h0])
    go_enter Try.func103, Try.ntmps103
    go_wp2_with fail
    refine (sl27Ok A n c xs B m d ys _ hn hx hm hy).mono ?_
    rintro _ w1 ⟨rfl, hb1⟩
    rw [h0]
    go_wp2
    go_ret
    exact Val.mk' (v_int HV.out.symm) (by (repeat (first | exact In.refl _ | assumption | apply In.alloc | apply In.drewN | apply In.drew | (refine In.step ?_ (by assumption)))))
  obtain ⟨hmn, hf, hk0⟩ := kil_at h0
  subst hmn
  obtain ⟨n1, n2, hfl⟩ := flours_at hf
  have HG : Hid (∀ i, i < m → 0 ≤ coG xs ys i ∧ coG xs ys i ≤ 10000) := Lib.hid fun i hi => by
    have h1 := hk0 i hi
    have := kg_in (hfl i hi) h1.1 h1.2
    exact ⟨this.2.2.1, this.2.2.2⟩
  have HV : Hid (costV27 m xs m ys = sumTo (coG xs ys) m) := Lib.hid (by simp [costV27, h0])
  clear hk0 hfl hf
  go_enter Try.func103, Try.ntmps103
  go_wp2_with fail
  refine (sl27Ok A m c xs B m d ys _ hn hx hm hy).mono ?_
  rintro _ w1 ⟨rfl, hb1⟩
  rw [h0]
  have i1 : In w.heap.size w w1 := In.step (by (repeat (first | exact In.refl _ | assumption | apply In.alloc | apply In.drewN | apply In.drew | (refine In.step ?_ (by assumption))))) hb1
  clear hb1 h0
  go_wp2
  go_loopw [5, 6] (fun s i wr => ∃ k : Nat, k ≤ m ∧ i = .int .i64 k ∧ s = .int .i64 (sumTo (coG xs ys) k) ∧ In w.heap.size w wr) (fun _ i _ => m - (intOf i).toNat)
  case atStart => exact ⟨0, Nat.zero_le _, rfl, rfl, by (repeat (first | exact In.refl _ | assumption | apply In.alloc | apply In.drewN | apply In.drew | (refine In.step ?_ (by assumption))))⟩
  case round =>
    clear i1
    obtain ⟨k, hk, rfl, rfl, hi⟩ := hrel
    have HU := Lib.hid (sumTo_succ (coG xs ys) k)
    obtain ⟨d1, d2⟩ := sumTo_bd (coG xs ys) 10000 k fun i hi => (HG.out i (by omega))
    by_cases hlt : k < m
    · have hg := HG.out k hlt
      have HGk : Hid (coG xs ys k = (xs.getD k z27).f1 * ys.getD k 0) := Lib.hid rfl
      obtain ⟨b, rfl, hb⟩ := (hy.below hi.below (Nat.le_refl _)).2 k hlt
      rw [HGk.out] at hg
      obtain ⟨a, rfl, ha0, ha1, ha2⟩ := (hx.in_ hi).2 k hlt
      generalize xs.getD k z27 = x at *
      obtain ⟨x0, x1, x2⟩ := x
      simp only at ha0 ha1 ha2 HGk hg
      generalize ys.getD k 0 = y at *
      generalize sumTo (coG xs ys) k = s at *
      have W2 : IntKind.i64.wrap (x1 * y) = x1 * y := IntWalk.i64_in _ (by omega)
      have W3 : IntKind.i64.wrap (s + x1 * y) = s + x1 * y := IntWalk.i64_in _ (by omega)
      go_wp2
      skip
      go_quiet (fail)
      clear W2 W3
      go_wp2
      go_roundw
      case rel => exact ⟨k + 1, by omega, by go_num, v_int (by rw [HU.out, HGk.out]), by (repeat (first | exact In.refl _ | assumption | apply In.alloc | apply In.drewN | apply In.drew | (refine In.step ?_ (by assumption))))⟩
      case measure => simp [intOf]; omega
    · obtain rfl : k = m := by omega
      go_wp2
      go_ret
      exact Val.mk' (v_int HV.out.symm) (by (repeat (first | exact In.refl _ | assumption | apply In.alloc | apply In.drewN | apply In.drew | (refine In.step ?_ (by assumption)))))
theorem iStrengthOf (A : Option Addr) (n c : Nat) (xs : List FlourR) (B : Option Addr) (m d : Nat) (ys : List Int) (w : World) (hn : n ≤ maxLen) (hx : ReadsFlour w A n xs) (hm : m ≤ maxLen) (hy : ReadsI w B m ys) : Calls Try.prog 38 #[.slice A n c, .slice B m d] w (Val (i64 (strengthV n xs m ys)) w) := by
  cases h0 : kilB n xs m ys
  · have HV : Hid (strengthV n xs m ys = -1) := Lib.hid (by simp [strengthV, h0])
    go_enter Try.func38, Try.ntmps38
    go_wp2_with fail
    refine (ikilosOk A n c xs B m d ys _ hn hx hm hy).mono ?_
    rintro _ w1 ⟨rfl, hb1⟩
    rw [h0]
    go_wp2
    go_ret
    exact Val.mk' (v_int HV.out.symm) (by (repeat (first | exact In.refl _ | assumption | apply In.alloc | apply In.drewN | apply In.drew | (refine In.step ?_ (by assumption)))))
  obtain ⟨hmn, hf, hk0⟩ := kil_at h0
  subst hmn
  obtain ⟨n1, n2, hfl⟩ := flours_at hf
  have HG : Hid (∀ i, i < m → 0 ≤ stG xs ys i ∧ stG xs ys i ≤ 50000) := Lib.hid fun i hi => by
    have h1 := hk0 i hi
    have := kg_in (hfl i hi) h1.1 h1.2
    exact ⟨this.1, this.2.1⟩
  have HS : Hid (∀ i, i < m → 0 ≤ ys.getD i 0 ∧ ys.getD i 0 ≤ 1000000000) := Lib.hid fun i hi => by
    have h1 := hk0 i hi
    have := fl_in (hfl i hi)
    omega
  obtain ⟨l1, l2⟩ := lsum_in (xs := ys) (n := m) 100 (fun i hi => by
    have h1 := hk0 i hi
    have := fl_in (hfl i hi)
    omega)
  clear hk0 hfl hf
  cases hz : (lsum ys m == 0 : Bool)
  case true =>
    have HV : Hid (strengthV m xs m ys = -1) := Lib.hid (by simp [strengthV, hz])
    go_enter Try.func38, Try.ntmps38
    go_wp2_with fail
    refine (ikilosOk A m c xs B m d ys _ hn hx hm hy).mono ?_
    rintro _ w1 ⟨rfl, hb1⟩
    rw [h0]
    have i1 : In w.heap.size w w1 := In.step (by (repeat (first | exact In.refl _ | assumption | apply In.alloc | apply In.drewN | apply In.drew | (refine In.step ?_ (by assumption))))) hb1
    clear hb1
    go_wp2_with fail
    refine (isumOf B m d ys _ (by omega) HS.out (hy.below i1.below (Nat.le_refl _))).mono ?_
    rintro _ _ ⟨rfl, rfl⟩
    go_wp2
    go_ret
    exact Val.mk' (v_int HV.out.symm) (by (repeat (first | exact In.refl _ | assumption | apply In.alloc | apply In.drewN | apply In.drew | (refine In.step ?_ (by assumption)))))
  have HV : Hid (strengthV m xs m ys = sumTo (stG xs ys) m / lsum ys m) := Lib.hid (by simp [strengthV, hz, h0])
  have hz' : ¬ lsum ys m = 0 := by simpa using hz
  go_enter Try.func38, Try.ntmps38
  go_wp2_with fail
  refine (ikilosOk A m c xs B m d ys _ hn hx hm hy).mono ?_
  rintro _ w1 ⟨rfl, hb1⟩
  rw [h0]
  have i1 : In w.heap.size w w1 := In.step (by (repeat (first | exact In.refl _ | assumption | apply In.alloc | apply In.drewN | apply In.drew | (refine In.step ?_ (by assumption))))) hb1
  clear hb1
  go_wp2_with fail
  refine (isumOf B m d ys _ (by omega) HS.out (hy.below i1.below (Nat.le_refl _))).mono ?_
  rintro _ _ ⟨rfl, rfl⟩
  clear h0
  go_wp2
  go_loopw [5, 19] (fun s i wr => ∃ k : Nat, k ≤ m ∧ i = .int .i64 k ∧ s = .int .i64 (sumTo (stG xs ys) k) ∧ In w.heap.size w wr) (fun _ i _ => m - (intOf i).toNat)
  case atStart => exact ⟨0, Nat.zero_le _, rfl, rfl, by (repeat (first | exact In.refl _ | assumption | apply In.alloc | apply In.drewN | apply In.drew | (refine In.step ?_ (by assumption))))⟩
  case round =>
    clear i1
    obtain ⟨k, hk, rfl, rfl, hi⟩ := hrel
    have HU := Lib.hid (sumTo_succ (stG xs ys) k)
    obtain ⟨d1, d2⟩ := sumTo_bd (stG xs ys) 50000 k fun i hi => (HG.out i (by omega))
    by_cases hlt : k < m
    · have hg := HG.out k hlt
      have HGk : Hid (stG xs ys k = (xs.getD k z27).f0 * ys.getD k 0) := Lib.hid rfl
      obtain ⟨b, rfl, hb⟩ := (hy.below hi.below (Nat.le_refl _)).2 k hlt
      rw [HGk.out] at hg
      obtain ⟨a, rfl, ha0, ha1, ha2⟩ := (hx.in_ hi).2 k hlt
      generalize xs.getD k z27 = x at *
      obtain ⟨x0, x1, x2⟩ := x
      simp only at ha0 ha1 ha2 HGk hg
      generalize ys.getD k 0 = y at *
      generalize sumTo (stG xs ys) k = s at *
      have W2 : IntKind.i64.wrap (x0 * y) = x0 * y := IntWalk.i64_in _ (by omega)
      have W3 : IntKind.i64.wrap (s + x0 * y) = s + x0 * y := IntWalk.i64_in _ (by omega)
      go_wp2
      have hb2 : (wr.alloc (.cells #[.int .i64 x0, .int .i64 x1, .int .i64 x2] 56)).cell? (b.add k) = some (.int .i64 y) := cell_in hb (by (repeat (first | exact In.refl _ | assumption | apply In.alloc | apply In.drewN | apply In.drew | (refine In.step ?_ (by assumption)))))
      go_quiet (fail)
      clear W2 W3
      go_wp2
      go_roundw
      case rel => exact ⟨k + 1, by omega, by go_num, v_int (by rw [HU.out, HGk.out]), by (repeat (first | exact In.refl _ | assumption | apply In.alloc | apply In.drewN | apply In.drew | (refine In.step ?_ (by assumption))))⟩
      case measure => simp [intOf]; omega
    · obtain rfl : k = m := by omega
      have hq : 0 ≤ sumTo (stG xs ys) k / lsum ys k := Int.ediv_nonneg d1 l1
      go_wp2_with fail
      refine (isumOf B k d ys _ (by omega) HS.out (hy.below hi.below (Nat.le_refl _))).mono ?_
      rintro _ _ ⟨rfl, rfl⟩
      go_wp2
      go_ret
      exact Val.mk' (v_int HV.out.symm) (by (repeat (first | exact In.refl _ | assumption | apply In.alloc | apply In.drewN | apply In.drew | (refine In.step ?_ (by assumption)))))
theorem iBlendCost (A : Option Addr) (n c : Nat) (xs : List FlourR) (B : Option Addr) (m d : Nat) (ys : List Int) (w : World) (hn : n ≤ maxLen) (hx : ReadsFlour w A n xs) (hm : m ≤ maxLen) (hy : ReadsI w B m ys) : Calls Try.prog 39 #[.slice A n c, .slice B m d] w (Val (i64 (costV27 n xs m ys)) w) := by
  cases h0 : kilB n xs m ys
  · have HV : Hid (costV27 n xs m ys = -1) := Lib.hid (by simp [costV27, h0])
    go_enter Try.func39, Try.ntmps39
    go_wp2_with fail
    refine (ikilosOk A n c xs B m d ys _ hn hx hm hy).mono ?_
    rintro _ w1 ⟨rfl, hb1⟩
    rw [h0]
    go_wp2
    go_ret
    exact Val.mk' (v_int HV.out.symm) (by (repeat (first | exact In.refl _ | assumption | apply In.alloc | apply In.drewN | apply In.drew | (refine In.step ?_ (by assumption)))))
  obtain ⟨hmn, hf, hk0⟩ := kil_at h0
  subst hmn
  obtain ⟨n1, n2, hfl⟩ := flours_at hf
  have HG : Hid (∀ i, i < m → 0 ≤ coG xs ys i ∧ coG xs ys i ≤ 10000) := Lib.hid fun i hi => by
    have h1 := hk0 i hi
    have := kg_in (hfl i hi) h1.1 h1.2
    exact ⟨this.2.2.1, this.2.2.2⟩
  have HV : Hid (costV27 m xs m ys = sumTo (coG xs ys) m) := Lib.hid (by simp [costV27, h0])
  clear hk0 hfl hf
  go_enter Try.func39, Try.ntmps39
  go_wp2_with fail
  refine (ikilosOk A m c xs B m d ys _ hn hx hm hy).mono ?_
  rintro _ w1 ⟨rfl, hb1⟩
  rw [h0]
  have i1 : In w.heap.size w w1 := In.step (by (repeat (first | exact In.refl _ | assumption | apply In.alloc | apply In.drewN | apply In.drew | (refine In.step ?_ (by assumption))))) hb1
  clear hb1 h0
  go_wp2
  go_loopw [5, 14] (fun s i wr => ∃ k : Nat, k ≤ m ∧ i = .int .i64 k ∧ s = .int .i64 (sumTo (coG xs ys) k) ∧ In w.heap.size w wr) (fun _ i _ => m - (intOf i).toNat)
  case atStart => exact ⟨0, Nat.zero_le _, rfl, rfl, by (repeat (first | exact In.refl _ | assumption | apply In.alloc | apply In.drewN | apply In.drew | (refine In.step ?_ (by assumption))))⟩
  case round =>
    clear i1
    obtain ⟨k, hk, rfl, rfl, hi⟩ := hrel
    have HU := Lib.hid (sumTo_succ (coG xs ys) k)
    obtain ⟨d1, d2⟩ := sumTo_bd (coG xs ys) 10000 k fun i hi => (HG.out i (by omega))
    by_cases hlt : k < m
    · have hg := HG.out k hlt
      have HGk : Hid (coG xs ys k = (xs.getD k z27).f1 * ys.getD k 0) := Lib.hid rfl
      obtain ⟨b, rfl, hb⟩ := (hy.below hi.below (Nat.le_refl _)).2 k hlt
      rw [HGk.out] at hg
      obtain ⟨a, rfl, ha0, ha1, ha2⟩ := (hx.in_ hi).2 k hlt
      generalize xs.getD k z27 = x at *
      obtain ⟨x0, x1, x2⟩ := x
      simp only at ha0 ha1 ha2 HGk hg
      generalize ys.getD k 0 = y at *
      generalize sumTo (coG xs ys) k = s at *
      have W2 : IntKind.i64.wrap (x1 * y) = x1 * y := IntWalk.i64_in _ (by omega)
      have W3 : IntKind.i64.wrap (s + x1 * y) = s + x1 * y := IntWalk.i64_in _ (by omega)
      go_wp2
      have hb2 : (wr.alloc (.cells #[.int .i64 x0, .int .i64 x1, .int .i64 x2] 56)).cell? (b.add k) = some (.int .i64 y) := cell_in hb (by (repeat (first | exact In.refl _ | assumption | apply In.alloc | apply In.drewN | apply In.drew | (refine In.step ?_ (by assumption)))))
      go_quiet (fail)
      clear W2 W3
      go_wp2
      go_roundw
      case rel => exact ⟨k + 1, by omega, by go_num, v_int (by rw [HU.out, HGk.out]), by (repeat (first | exact In.refl _ | assumption | apply In.alloc | apply In.drewN | apply In.drew | (refine In.step ?_ (by assumption))))⟩
      case measure => simp [intOf]; omega
    · obtain rfl : k = m := by omega
      go_wp2
      go_ret
      exact Val.mk' (v_int HV.out.symm) (by (repeat (first | exact In.refl _ | assumption | apply In.alloc | apply In.drewN | apply In.drew | (refine In.step ?_ (by assumption)))))
end Go.Proofs.Ytmkfnhgaiheckaa
