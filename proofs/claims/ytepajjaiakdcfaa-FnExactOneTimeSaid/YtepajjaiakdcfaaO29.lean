/- Chapter 29: OneTime: the specification. -/
import Derived.Test.YtepajjaiakdcfaaC29
import Derived.Test.YtepajjaiakdcfaaSFrozen
import Derived.Test.YtepajjaiakdcfaaSum
import Derived.Deep.QuietTactic
import Derived.BigQuiet
import Derived.RegionTactic
import Derived.BigRegion
namespace Go.Proofs.Ytepajjaiakdcfaa
open Go.ChangeShapes Go.WideShapes Go.ChangeAt Go.RowKit
set_option linter.unusedVariables false
set_option linter.unusedSimpArgs false
set_option maxHeartbeats 2000000

abbrev z29 : FrozenR := ⟨0, 0⟩
def frK (xs : List FrozenR) (i : Nat) : Bool := frB (xs.getD i z29).f0 (xs.getD i z29).f1
def ok29 (n : Nat) (xs : List FrozenR) (q : Int) : Bool := allOk (frK xs) n && (decide (n ≤ 20) && inB q (-48) 1000)
theorem ok29_f {n : Nat} {xs : List FrozenR} {q : Int} (k : Nat) (hk : k < n) (h : frK xs k = false) : ok29 n xs q = false := by simp [ok29, allOk_f _ _ k hk h]
theorem ok29_n {n : Nat} {xs : List FrozenR} {q : Int} (h : ∀ i, i < n → frK xs i = true) : ok29 n xs q = (decide (n ≤ 20) && inB q (-48) 1000) := by simp [ok29, allOk_t _ _ h]
theorem ok29_at {n : Nat} {xs : List FrozenR} {q : Int} (h : ok29 n xs q = true) : n ≤ 20 ∧ (-48 ≤ q ∧ q ≤ 1000) ∧ ∀ i, i < n → frK xs i = true := by
  simp only [ok29, Bool.and_eq_true, decide_eq_true_eq] at h
  exact ⟨h.2.1, inB_tt h.2.2, fun i hi => allOk_at _ _ h.1 i hi⟩
def lowO (xs : List FrozenR) (q : Int) : Nat → Int
  | 0 => -2000
  | k + 1 => max (lowO xs q k) (q - (xs.getD k z29).f0 - (xs.getD k z29).f1)
def highO (xs : List FrozenR) (q : Int) : Nat → Int
  | 0 => 2000
  | k + 1 => min (highO xs q k) (q - (xs.getD k z29).f0)
theorem lowO_succ (xs : List FrozenR) (q : Int) (k : Nat) : lowO xs q (k + 1) = max (lowO xs q k) (q - (xs.getD k z29).f0 - (xs.getD k z29).f1) := rfl
theorem highO_succ (xs : List FrozenR) (q : Int) (k : Nat) : highO xs q (k + 1) = min (highO xs q k) (q - (xs.getD k z29).f0) := rfl
theorem lhO_in {n : Nat} {xs : List FrozenR} {q : Int} (h : ok29 n xs q = true) : ∀ k, k ≤ n → -2000 ≤ lowO xs q k ∧ lowO xs q k ≤ 2000 ∧ -2000 ≤ highO xs q k ∧ highO xs q k ≤ 2000
  | 0, _ => by simp [lowO, highO]
  | k + 1, hk => by
    have ih := lhO_in h k (by omega)
    obtain ⟨_, h2, h3⟩ := ok29_at h
    have h4 := fr_in (h3 k (by omega))
    rw [lowO_succ, highO_succ]
    omega
def oneB (n : Nat) (xs : List FrozenR) (q : Int) : Bool := ok29 n xs q && !(decide (n = 0)) && decide (lowO xs q n ≤ highO xs q n)
def oneV (n : Nat) (xs : List FrozenR) (q : Int) : Value := if oneB n xs q then .tuple #[.int .i64 (highO xs q n), .bool true] else .tuple #[.int .i64 0, .bool false]
set_option maxHeartbeats 4000000 in
theorem sl29Ok (A : Option Addr) (n c : Nat) (xs : List FrozenR) (q : Int) (w : World) (hn : n ≤ maxLen) (hx : ReadsFrozen w A n xs) : Calls Try.prog 88 #[.slice A n c, .int .i64 q] w (Val (.bool (ok29 n xs q)) w) := by
  unfold maxLen at hn
  go_enter Try.func88, Try.ntmps88
  go_wp2
  go_loopw [5] (fun i wr => ∃ k : Nat, k ≤ n ∧ i = .int .i64 k ∧ (∀ i, i < k → frK xs i = true) ∧ In w.heap.size w wr) (fun i _ => n - (intOf i).toNat)
  case atStart => exact ⟨0, Nat.zero_le _, rfl, fun i hi => absurd hi (Nat.not_lt_zero _), by (repeat (first | exact In.refl _ | assumption | apply In.alloc | apply In.drewN | apply In.drew | (refine In.step ?_ (by assumption))))⟩
  case round =>
    obtain ⟨k, hk, rfl, ho, hi⟩ := hrel
    have HO := Lib.hid ho
    clear ho
    by_cases hlt : k < n
    · obtain ⟨a, rfl, ha0, ha1⟩ := (hx.in_ hi).2 k hlt
      have HK : Hid (frK xs k = frB (xs.getD k z29).f0 (xs.getD k z29).f1) := Lib.hid rfl
      generalize xs.getD k z29 = x at ha0 ha1 HK
      obtain ⟨x0, x1⟩ := x
      simp only at ha0 ha1 HK
      go_wp2_with fail
      refine (sFrozenOk x0 x1 _).mono ?_
      rintro _ w2 ⟨rfl, hb2⟩
      have i2 : In w.heap.size w w2 := In.step (by (repeat (first | exact In.refl _ | assumption | apply In.alloc | apply In.drewN | apply In.drew | (refine In.step ?_ (by assumption))))) hb2
      clear hb2
      cases h1 : frB x0 x1
      · have HF : Hid (ok29 n xs q = false) := Lib.hid (ok29_f k hlt (by rw [HK.out]; exact h1))
        go_wp2
        go_ret
        exact Val.mk' (v_bool HF.out.symm) (by (repeat (first | exact In.refl _ | assumption | apply In.alloc | apply In.drewN | apply In.drew | (refine In.step ?_ (by assumption)))))
      have HT : Hid (frK xs k = true) := Lib.hid (by rw [HK.out]; exact h1)
      go_wp2
      go_roundw
      case rel => exact ⟨k + 1, by omega, by go_num, fun i hi => by
            by_cases e : i = k
            · subst e; exact HT.out
            · exact HO.out i (by omega), by (repeat (first | exact In.refl _ | assumption | apply In.alloc | apply In.drewN | apply In.drew | (refine In.step ?_ (by assumption))))⟩
      case measure => simp [intOf]; omega
    · obtain rfl : k = n := by omega
      have HV := Lib.hid (ok29_n (q := q) HO.out)
      by_cases h20 : k ≤ 20
      · have h20' : (k : Int) ≤ 20 := by omega
        go_wp2_with (first | (go_at_call 79; refine (sIn _ _ _ _).mono ?_; rintro e w' ⟨rfl, rfl⟩) | (go_at_call 84; refine (iIn _ _ _ _).mono ?_; rintro e w' ⟨rfl, rfl⟩))
        go_ret
        exact Val.mk' (v_bool (by rw [HV.out]; simp [h20])) (by (repeat (first | exact In.refl _ | assumption | apply In.alloc | apply In.drewN | apply In.drew | (refine In.step ?_ (by assumption)))))
      · have h20' : ¬ (k : Int) ≤ 20 := by omega
        have h20'' : (20 : Int) < (k : Int) := by omega
        go_wp2_with (first | (go_at_call 79; refine (sIn _ _ _ _).mono ?_; rintro e w' ⟨rfl, rfl⟩) | (go_at_call 84; refine (iIn _ _ _ _).mono ?_; rintro e w' ⟨rfl, rfl⟩))
        go_ret
        exact Val.mk' (v_bool (by rw [HV.out]; simp [h20])) (by (repeat (first | exact In.refl _ | assumption | apply In.alloc | apply In.drewN | apply In.drew | (refine In.step ?_ (by assumption)))))
set_option maxHeartbeats 4000000 in
theorem sOneTime (A : Option Addr) (n c : Nat) (xs : List FrozenR) (q : Int) (w : World) (hn : n ≤ maxLen) (hx : ReadsFrozen w A n xs) : Calls Try.prog 21 #[.slice A n c, .int .i64 q] w (Val (oneV n xs q) w) := by
  cases hB : ok29 n xs q
  · have HV : Hid (oneV n xs q = .tuple #[.int .i64 0, .bool false]) := Lib.hid (by simp [oneV, oneB, hB])
    go_enter Try.func21, Try.ntmps21
    go_wp2_with fail
    refine (sl29Ok A n c xs q _ hn hx).mono ?_
    rintro _ w1 ⟨rfl, hb1⟩
    have i1 : In w.heap.size w w1 := In.step (by (repeat (first | exact In.refl _ | assumption | apply In.alloc | apply In.drewN | apply In.drew | (refine In.step ?_ (by assumption))))) hb1
    clear hb1
    rw [hB]
    go_wp2
    exact bodyPost_ret (v := .tuple #[.int .i64 0, .bool false]) (by simp [results, Try.results21, go_sem]) rfl (Val.mk' (by rw [HV.out]) (by (repeat (first | exact In.refl _ | assumption | apply In.alloc | apply In.drewN | apply In.drew | (refine In.step ?_ (by assumption))))))
  by_cases h0 : n = 0
  · subst h0
    have HV : Hid (oneV 0 xs q = .tuple #[.int .i64 0, .bool false]) := Lib.hid (by simp [oneV, oneB])
    go_enter Try.func21, Try.ntmps21
    go_wp2_with fail
    refine (sl29Ok A 0 c xs q _ hn hx).mono ?_
    rintro _ w1 ⟨rfl, hb1⟩
    have i1 : In w.heap.size w w1 := In.step (by (repeat (first | exact In.refl _ | assumption | apply In.alloc | apply In.drewN | apply In.drew | (refine In.step ?_ (by assumption))))) hb1
    clear hb1
    rw [hB]
    go_wp2
    exact bodyPost_ret (v := .tuple #[.int .i64 0, .bool false]) (by simp [results, Try.results21, go_sem]) rfl (Val.mk' (by rw [HV.out]) (by (repeat (first | exact In.refl _ | assumption | apply In.alloc | apply In.drewN | apply In.drew | (refine In.step ?_ (by assumption))))))
  have h0' : ((n : Int) == 0) = false := by simp; omega
  obtain ⟨n20, hq, hs⟩ := ok29_at hB
  have HS := Lib.hid hs
  have HIN := Lib.hid (lhO_in hB)
  have HC : Hid (oneB n xs q = decide (lowO xs q n ≤ highO xs q n)) := Lib.hid (by simp [oneB, hB, h0])
  go_enter Try.func21, Try.ntmps21
  go_wp2_with fail
  refine (sl29Ok A n c xs q _ hn hx).mono ?_
  rintro _ w1 ⟨rfl, hb1⟩
  have i1 : In w.heap.size w w1 := In.step (by (repeat (first | exact In.refl _ | assumption | apply In.alloc | apply In.drewN | apply In.drew | (refine In.step ?_ (by assumption))))) hb1
  clear hb1
  rw [hB]
  clear hB hs
  go_wp2
  go_loopw [6, 7, 8, 9, 10, 11] (fun s t i a5 a6 a7 wr => ∃ k : Nat, k ≤ n ∧ i = .int .i64 k ∧ s = .int .i64 (lowO xs q k) ∧ t = .int .i64 (highO xs q k) ∧ In w.heap.size w wr) (fun _ _ i _ _ _ _ => n - (intOf i).toNat)
  case atStart => exact ⟨0, Nat.zero_le _, rfl, rfl, rfl, i1⟩
  case round =>
    clear i1
    obtain ⟨k, hk, rfl, rfl, rfl, hi⟩ := hrel
    by_cases hlt : k < n
    · obtain ⟨a, rfl, ha0, ha1⟩ := (hx.in_ hi).2 k hlt
      have HL := Lib.hid (lowO_succ xs q k)
      have HH := Lib.hid (highO_succ xs q k)
      have hf := HS.out k hlt
      unfold frK at hf
      have hbd := HIN.out k hk
      generalize xs.getD k z29 = x at *
      generalize lowO xs q k = l at *
      generalize highO xs q k = h at *
      obtain ⟨x0, x1⟩ := x
      simp only at ha0 ha1 HL HH hf
      have hx01 := fr_in hf
      have HV : Hid (outV x0 x1 q = .tuple #[.int .i64 (q - x0 - x1), .int .i64 (q - x0), .bool true]) := Lib.hid (by unfold outV outB; rw [hf, inB_t hq]; rfl)
      clear hf
      go_wp2_with fail
      refine (sOutAt x0 x1 q _).mono ?_
      rintro _ w2 ⟨rfl, hb2⟩
      rw [HV.out]
      have i2 : In w.heap.size w w2 := In.step (by (repeat (first | exact In.refl _ | assumption | apply In.alloc | apply In.drewN | apply In.drew | (refine In.step ?_ (by assumption))))) hb2
      clear hb2
      by_cases g1 : l < q - x0 - x1 <;> by_cases g2 : q - x0 < h
      all_goals
        go_wp2
        go_roundw
        case rel => exact ⟨k + 1, by omega, by go_num, v_int (by rw [HL.out]; omega), v_int (by rw [HH.out]; omega), by (repeat (first | exact In.refl _ | assumption | apply In.alloc | apply In.drewN | apply In.drew | (refine In.step ?_ (by assumption))))⟩
        case measure => simp [intOf]; omega
    · obtain rfl : k = n := by omega
      by_cases hg : highO xs q k < lowO xs q k
      · have HV : Hid (oneV k xs q = .tuple #[.int .i64 0, .bool false]) := Lib.hid (by rw [oneV, HC.out]; simp [show ¬ lowO xs q k ≤ highO xs q k by omega])
        go_wp2
        exact bodyPost_ret (v := .tuple #[.int .i64 0, .bool false]) (by simp [results, Try.results21, go_sem]) rfl (Val.mk' (by rw [HV.out]) (by (repeat (first | exact In.refl _ | assumption | apply In.alloc | apply In.drewN | apply In.drew | (refine In.step ?_ (by assumption))))))
      · have HV : Hid (oneV k xs q = .tuple #[.int .i64 (highO xs q k), .bool true]) := Lib.hid (by rw [oneV, HC.out]; simp [show lowO xs q k ≤ highO xs q k by omega])
        go_wp2
        exact bodyPost_ret (v := .tuple #[.int .i64 (highO xs q k), .bool true]) (by simp [results, Try.results21, go_sem]) rfl (Val.mk' (by rw [HV.out]) (by (repeat (first | exact In.refl _ | assumption | apply In.alloc | apply In.drewN | apply In.drew | (refine In.step ?_ (by assumption))))))
end Go.Proofs.Ytepajjaiakdcfaa
