/- Chapter 26: MachinesOk, EnergyOf. -/
import Derived.Test.YthndjpklfgcpmaaIn
import Derived.Test.YthndjpklfgcpmaaSum
import Derived.Test.YthndjpklfgcpmaaSMachine
import Derived.Deep.QuietTactic
import Derived.BigQuiet
import Derived.IntWalk
namespace Go.Proofs.Ythndjpklfgcpmaa
open Go.ChangeShapes Go.WideShapes Go.ChangeAt Go.RowKit
set_option linter.unusedVariables false
set_option linter.unusedSimpArgs false
set_option maxHeartbeats 2000000

abbrev z26 : MachineR := ⟨0, 0, 0⟩
def maB (a b c : Int) : Bool := inB a 0 1439 && inB b (a + 1) 1440 && inB c 1 10000
theorem ma_in {a b c : Int} (h : maB a b c = true) : 0 ≤ a ∧ a ≤ 1439 ∧ a + 1 ≤ b ∧ b ≤ 1440 ∧ 1 ≤ c ∧ c ≤ 10000 := by
  simp only [maB, Bool.and_eq_true] at h
  have h1 := inB_tt h.1.1
  have h2 := inB_tt h.1.2
  have h3 := inB_tt h.2
  omega
def maK (xs : List MachineR) (i : Nat) : Bool := maB (xs.getD i z26).f0 (xs.getD i z26).f1 (xs.getD i z26).f2
def machB (n : Nat) (xs : List MachineR) : Bool := allOk (maK xs) n && decide (n ≤ 12)
theorem mach_at {n : Nat} {xs : List MachineR} (h : machB n xs = true) : n ≤ 12 ∧ ∀ i, i < n → maB (xs.getD i z26).f0 (xs.getD i z26).f1 (xs.getD i z26).f2 = true := by
  simp only [machB, Bool.and_eq_true, decide_eq_true_eq] at h
  exact ⟨h.2, fun i hi => allOk_at _ _ h.1 i hi⟩
theorem i26m (n : Int) (w : World) : Calls Try.prog 76 #[.int .i64 n] w (Same (.bool (inB n 0 1439)) w) := by
  go_enter Try.func76, Try.ntmps76
  go_wp2_with (first | (go_at_call 48; refine (sIn _ _ _ _).mono ?_; rintro e w' ⟨rfl, rfl⟩) | (go_at_call 50; refine (iIn _ _ _ _).mono ?_; rintro e w' ⟨rfl, rfl⟩))
  go_ret
  exact ⟨rfl, rfl⟩
theorem i26w (n : Int) (w : World) : Calls Try.prog 71 #[.int .i64 n] w (Same (.bool (inB n 1 10000)) w) := by
  go_enter Try.func71, Try.ntmps71
  go_wp2_with (first | (go_at_call 48; refine (sIn _ _ _ _).mono ?_; rintro e w' ⟨rfl, rfl⟩) | (go_at_call 50; refine (iIn _ _ _ _).mono ?_; rintro e w' ⟨rfl, rfl⟩))
  go_ret
  exact ⟨rfl, rfl⟩
set_option maxHeartbeats 2000000 in
theorem sMachinesOk (A : Option Addr) (n c : Nat) (xs : List MachineR) (w : World) (hn : n ≤ maxLen) (hx : ReadsMachine w A n xs) : Calls Try.prog 65 #[.slice A n c] w (Val (.bool (machB n xs)) w) := by
  unfold maxLen at hn
  go_enter Try.func65, Try.ntmps65
  go_wp2
  go_loopw [3] (fun i wr => ∃ k : Nat, k ≤ n ∧ i = .int .i64 k ∧ (∀ i, i < k → maK xs i = true) ∧ In w.heap.size w wr) (fun i _ => n - (intOf i).toNat)
  case atStart => exact ⟨0, Nat.zero_le _, rfl, fun i hi => absurd hi (Nat.not_lt_zero _), by (repeat (first | exact In.refl _ | assumption | apply In.alloc | apply In.drewN | apply In.drew | (refine In.step ?_ (by assumption))))⟩
  case round =>
    obtain ⟨k, hk, rfl, ho, hi⟩ := hrel
    have HO := Lib.hid ho
    clear ho
    by_cases hlt : k < n
    · have HA : (maK xs k = false → (machB n xs) = false) := fun h => by simp [machB, allOk_f _ _ k hlt h]
      have HA := Lib.hid HA
      obtain ⟨a, rfl, ha0, ha1, ha2⟩ := (hx.in_ hi).2 k hlt
      have HK : Hid (maK xs k = maB (xs.getD k z26).f0 (xs.getD k z26).f1 (xs.getD k z26).f2) := Lib.hid rfl
      generalize xs.getD k z26 = x at *
      obtain ⟨x0, x1, x2⟩ := x
      simp only at ha0 ha1 ha2 HK
      cases h1 : inB x0 0 1439
      · have HF : Hid ((machB n xs) = false) := Lib.hid (HA.out (by rw [HK.out]; simp [maB, h1]))
        clear HA
        go_wp2
        go_quiet ((first | (go_at_call 48; first | with_reducible exact Calls.quiet_of_same ((sInE h1 _).mono fun _ _ h => h.q) | with_reducible exact Calls.quiet_of_same ((sInE h2 _).mono fun _ _ h => h.q) | with_reducible exact Calls.quiet_of_same ((sInE h3 _).mono fun _ _ h => h.q))))
        go_wp2
        go_ret
        exact Val.mk' (v_bool HF.out.symm) (by (repeat (first | exact In.refl _ | assumption | apply In.alloc | apply In.drewN | apply In.drew | (refine In.step ?_ (by assumption)))))
      obtain ⟨x01, x02⟩ := inB_tt h1
      have W1 : IntKind.i64.wrap (x0 + 1) = x0 + 1 := IntWalk.i64_in _ (by omega)
      cases h2 : inB x1 (x0 + 1) 1440 <;> cases h3 : inB x2 1 10000
      case true.true =>
        have HT : Hid (maK xs k = true) := Lib.hid (by rw [HK.out]; simp [maB, h1, h2, h3])
        clear HA
        go_wp2
        go_quiet ((first | (go_at_call 48; first | with_reducible exact Calls.quiet_of_same ((sInE h1 _).mono fun _ _ h => h.q) | with_reducible exact Calls.quiet_of_same ((sInE h2 _).mono fun _ _ h => h.q) | with_reducible exact Calls.quiet_of_same ((sInE h3 _).mono fun _ _ h => h.q))))
        go_wp2
        go_roundw
        case rel => exact ⟨k + 1, by omega, by go_num, fun i hi => by
                by_cases e : i = k
                · subst e; exact HT.out
                · exact HO.out i (by omega), by (repeat (first | exact In.refl _ | assumption | apply In.alloc | apply In.drewN | apply In.drew | (refine In.step ?_ (by assumption))))⟩
        case measure => simp [intOf]; omega
      all_goals
        have HF : Hid ((machB n xs) = false) := Lib.hid (HA.out (by rw [HK.out]; simp [maB, h1, h2, h3]))
        clear HA
        go_wp2
        go_quiet ((first | (go_at_call 48; first | with_reducible exact Calls.quiet_of_same ((sInE h1 _).mono fun _ _ h => h.q) | with_reducible exact Calls.quiet_of_same ((sInE h2 _).mono fun _ _ h => h.q) | with_reducible exact Calls.quiet_of_same ((sInE h3 _).mono fun _ _ h => h.q))))
        go_wp2
        go_ret
        exact Val.mk' (v_bool HF.out.symm) (by (repeat (first | exact In.refl _ | assumption | apply In.alloc | apply In.drewN | apply In.drew | (refine In.step ?_ (by assumption)))))
    · obtain rfl : k = n := by omega
      have HT : Hid (allOk (maK xs) k = true) := Lib.hid (allOk_t _ _ HO.out)
      have HV : Hid (machB k xs = decide (k ≤ 12)) := Lib.hid (by simp [machB, HT.out])
      by_cases h12 : k ≤ 12
      all_goals
        go_wp2
        go_ret
        exact Val.mk' (v_bool (by rw [HV.out]; simp [h12]; try omega)) (by (repeat (first | exact In.refl _ | assumption | apply In.alloc | apply In.drewN | apply In.drew | (refine In.step ?_ (by assumption)))))
theorem iMachinesOk (A : Option Addr) (n c : Nat) (xs : List MachineR) (w : World) (hn : n ≤ maxLen) (hx : ReadsMachine w A n xs) : Calls Try.prog 47 #[.slice A n c] w (Val (.bool (machB n xs)) w) := by
  unfold maxLen at hn
  by_cases h12 : n ≤ 12
  case neg =>
    have HV : Hid (machB n xs = false) := Lib.hid (by simp [machB, h12])
    have h13 : 12 < n := by omega
    go_enter Try.func47, Try.ntmps47
    go_wp2
    go_ret
    exact Val.mk' (v_bool HV.out.symm) (by (repeat (first | exact In.refl _ | assumption | apply In.alloc | apply In.drewN | apply In.drew | (refine In.step ?_ (by assumption)))))
  go_enter Try.func47, Try.ntmps47
  go_wp2
  go_loopw [10] (fun i wr => ∃ k : Nat, k ≤ n ∧ i = .int .i64 k ∧ (∀ i, i < k → maK xs i = true) ∧ In w.heap.size w wr) (fun i _ => n - (intOf i).toNat)
  case atStart => exact ⟨0, Nat.zero_le _, rfl, fun i hi => absurd hi (Nat.not_lt_zero _), by (repeat (first | exact In.refl _ | assumption | apply In.alloc | apply In.drewN | apply In.drew | (refine In.step ?_ (by assumption))))⟩
  case round =>
    obtain ⟨k, hk, rfl, ho, hi⟩ := hrel
    have HO := Lib.hid ho
    clear ho
    by_cases hlt : k < n
    · have HA : (maK xs k = false → (machB n xs) = false) := fun h => by simp [machB, allOk_f _ _ k hlt h]
      have HA := Lib.hid HA
      obtain ⟨a, rfl, ha0, ha1, ha2⟩ := (hx.in_ hi).2 k hlt
      have HK : Hid (maK xs k = maB (xs.getD k z26).f0 (xs.getD k z26).f1 (xs.getD k z26).f2) := Lib.hid rfl
      generalize xs.getD k z26 = x at *
      obtain ⟨x0, x1, x2⟩ := x
      simp only at ha0 ha1 ha2 HK
      cases h1 : inB x0 0 1439
      · have HF : Hid ((machB n xs) = false) := Lib.hid (HA.out (by rw [HK.out]; simp [maB, h1]))
        clear HA
        go_wp2_with (first | (go_at_call 48; refine (sIn _ _ _ _).mono ?_; rintro e w' ⟨rfl, rfl⟩) | (go_at_call 50; refine (iIn _ _ _ _).mono ?_; rintro e w' ⟨rfl, rfl⟩) | (go_at_call 76; (with_reducible refine (i26m _ _).mono ?_); rintro e w' ⟨rfl, rfl⟩) | (go_at_call 71; (with_reducible refine (i26w _ _).mono ?_); rintro e w' ⟨rfl, rfl⟩))
        go_ret
        exact Val.mk' (v_bool HF.out.symm) (by (repeat (first | exact In.refl _ | assumption | apply In.alloc | apply In.drewN | apply In.drew | (refine In.step ?_ (by assumption)))))
      obtain ⟨x01, x02⟩ := inB_tt h1
      cases h2 : inB x1 (x0 + 1) 1440 <;> cases h3 : inB x2 1 10000
      case true.true =>
        have HT : Hid (maK xs k = true) := Lib.hid (by rw [HK.out]; simp [maB, h1, h2, h3])
        clear HA
        go_wp2_with (first | (go_at_call 48; refine (sIn _ _ _ _).mono ?_; rintro e w' ⟨rfl, rfl⟩) | (go_at_call 50; refine (iIn _ _ _ _).mono ?_; rintro e w' ⟨rfl, rfl⟩) | (go_at_call 76; (with_reducible refine (i26m _ _).mono ?_); rintro e w' ⟨rfl, rfl⟩) | (go_at_call 71; (with_reducible refine (i26w _ _).mono ?_); rintro e w' ⟨rfl, rfl⟩))
        go_roundw
        case rel => exact ⟨k + 1, by omega, by go_num, fun i hi => by
                by_cases e : i = k
                · subst e; exact HT.out
                · exact HO.out i (by omega), by (repeat (first | exact In.refl _ | assumption | apply In.alloc | apply In.drewN | apply In.drew | (refine In.step ?_ (by assumption))))⟩
        case measure => simp [intOf]; omega
      all_goals
        have HF : Hid ((machB n xs) = false) := Lib.hid (HA.out (by rw [HK.out]; simp [maB, h1, h2, h3]))
        clear HA
        go_wp2_with (first | (go_at_call 48; refine (sIn _ _ _ _).mono ?_; rintro e w' ⟨rfl, rfl⟩) | (go_at_call 50; refine (iIn _ _ _ _).mono ?_; rintro e w' ⟨rfl, rfl⟩) | (go_at_call 76; (with_reducible refine (i26m _ _).mono ?_); rintro e w' ⟨rfl, rfl⟩) | (go_at_call 71; (with_reducible refine (i26w _ _).mono ?_); rintro e w' ⟨rfl, rfl⟩))
        go_ret
        exact Val.mk' (v_bool HF.out.symm) (by (repeat (first | exact In.refl _ | assumption | apply In.alloc | apply In.drewN | apply In.drew | (refine In.step ?_ (by assumption)))))
    · obtain rfl : k = n := by omega
      have HT : Hid (allOk (maK xs) k = true) := Lib.hid (allOk_t _ _ HO.out)
      have HV : Hid (machB k xs = true) := Lib.hid (by simp [machB, HT.out, h12])
      go_wp2
      go_ret
      exact Val.mk' (v_bool HV.out.symm) (by (repeat (first | exact In.refl _ | assumption | apply In.alloc | apply In.drewN | apply In.drew | (refine In.step ?_ (by assumption)))))
def enG (xs : List MachineR) (i : Nat) : Int := (xs.getD i z26).f2 * ((xs.getD i z26).f1 - (xs.getD i z26).f0)
def energyV (n : Nat) (xs : List MachineR) : Int := if machB n xs then sumTo (enG xs) n else -1
theorem en_in {a b c : Int} (h : maB a b c = true) : 0 ≤ b - a ∧ b - a ≤ 1440 ∧ 0 ≤ c * (b - a) ∧ c * (b - a) ≤ 14400000 := by
  have hb := ma_in h
  have m := mul_in (a := c) (b := b - a) (A := 10000) (B := 1440) (by omega) (by omega) (by omega) (by omega)
  omega
theorem iEnergyOf (A : Option Addr) (n c : Nat) (xs : List MachineR) (w : World) (hn : n ≤ maxLen) (hx : ReadsMachine w A n xs) : Calls Try.prog 46 #[.slice A n c] w (Val (i64 (energyV n xs)) w) := by
  cases hB : machB n xs
  · have HV : Hid (energyV n xs = -1) := Lib.hid (by simp [energyV, hB])
    go_enter Try.func46, Try.ntmps46
    go_wp2_with fail
    refine (iMachinesOk A n c xs _ hn hx).mono ?_
    rintro _ w1 ⟨rfl, hb1⟩
    rw [hB]
    go_wp2
    go_ret
    exact Val.mk' (v_int HV.out.symm) (by (repeat (first | exact In.refl _ | assumption | apply In.alloc | apply In.drewN | apply In.drew | (refine In.step ?_ (by assumption)))))
  have HV : Hid (energyV n xs = sumTo (enG xs) n) := Lib.hid (by simp [energyV, hB])
  obtain ⟨h12, hs⟩ := mach_at hB
  have HS := Lib.hid hs
  clear hs
  go_enter Try.func46, Try.ntmps46
  go_wp2_with fail
  refine (iMachinesOk A n c xs _ hn hx).mono ?_
  rintro _ w1 ⟨rfl, hb1⟩
  have i1 : In w.heap.size w w1 := In.step (by (repeat (first | exact In.refl _ | assumption | apply In.alloc | apply In.drewN | apply In.drew | (refine In.step ?_ (by assumption))))) hb1
  rw [hB]
  clear hb1 hB
  go_wp2
  go_loopw [3, 11] (fun s i wr => ∃ k : Nat, k ≤ n ∧ i = .int .i64 k ∧ s = .int .i64 (sumTo (enG xs) k) ∧ In w.heap.size w wr) (fun _ i _ => n - (intOf i).toNat)
  case atStart => exact ⟨0, Nat.zero_le _, rfl, rfl, by (repeat (first | exact In.refl _ | assumption | apply In.alloc | apply In.drewN | apply In.drew | (refine In.step ?_ (by assumption))))⟩
  case round =>
    clear i1
    obtain ⟨k, hk, rfl, rfl, hi⟩ := hrel
    by_cases hlt : k < n
    · have HU := Lib.hid (sumTo_succ (enG xs) k)
      obtain ⟨d1, d2⟩ := sumTo_bd (enG xs) 14400000 k fun i hi => (en_in (HS.out i (by omega))).2.2
      have hB := HS.out k hlt
      have HG : Hid (enG xs k = (xs.getD k z26).f2 * ((xs.getD k z26).f1 - (xs.getD k z26).f0)) := Lib.hid rfl
      obtain ⟨a, rfl, ha0, ha1, ha2⟩ := (hx.in_ hi).2 k hlt
      generalize xs.getD k z26 = x at *
      obtain ⟨x0, x1, x2⟩ := x
      simp only at ha0 ha1 ha2 HG hB
      obtain ⟨e1, e2, e3, e4⟩ := en_in hB
      obtain ⟨b1, b2, b3, b4, b5, b6⟩ := ma_in hB
      generalize sumTo (enG xs) k = s at *
      clear hB
      go_wp2
      go_roundw
      case rel => exact ⟨k + 1, by omega, by go_num, v_int (by rw [HU.out, HG.out]), by (repeat (first | exact In.refl _ | assumption | apply In.alloc | apply In.drewN | apply In.drew | (refine In.step ?_ (by assumption))))⟩
      case measure => simp [intOf]; omega
    · obtain rfl : k = n := by omega
      go_wp2
      go_ret
      exact Val.mk' (v_int HV.out.symm) (by (repeat (first | exact In.refl _ | assumption | apply In.alloc | apply In.drewN | apply In.drew | (refine In.step ?_ (by assumption)))))
end Go.Proofs.Ythndjpklfgcpmaa
