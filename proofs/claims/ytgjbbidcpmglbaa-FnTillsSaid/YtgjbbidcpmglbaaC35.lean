/- Chapter 35: SlipOk, WrongSlips, canCount. -/
import Derived.Test.YtgjbbidcpmglbaaAll
import Derived.Test.YtgjbbidcpmglbaaSum
import Derived.Test.YtgjbbidcpmglbaaSSlip
import Derived.Test.YtgjbbidcpmglbaaIntR
import Derived.Test.YtgjbbidcpmglbaaIdx
namespace Go.Proofs.Ytgjbbidcpmglbaa
open Go.ChangeShapes Go.WideShapes Go.ChangeAt Go.RowKit
set_option linter.unusedVariables false
set_option linter.unusedSimpArgs false
set_option maxHeartbeats 2000000

abbrev z35 : SlipR := ⟨0, 0, 0⟩
def amB (a b c : Int) : Bool := inB a 0 100000 && inB b 0 100000 && inB c 0 100000
theorem am_all (a b c : Int) : allIn [a, b, c] 0 100000 3 = amB a b c := by simp [allIn, allOk, inAt, amB]
theorem am_in {a b c : Int} (h : amB a b c = true) : 0 ≤ a ∧ a ≤ 100000 ∧ 0 ≤ b ∧ b ≤ 100000 ∧ 0 ≤ c ∧ c ≤ 100000 := by
  simp only [amB, Bool.and_eq_true] at h
  have h1 := inB_tt h.1.1
  have h2 := inB_tt h.1.2
  have h3 := inB_tt h.2
  omega
def slipB (a b c : Int) : Bool := amB a b c && (b - c == a)
theorem iamountsOk (a b c : Int) (w : World) : Calls Try.prog 65 #[.agg #[.int .i64 a, .int .i64 b, .int .i64 c]] w (Val (.bool (amB a b c)) w) := by
  go_enter Try.func65, Try.ntmps65
  go_wp2_with fail
  refine (iAll _ 3 3 [a, b, c] 0 100000 _ (by unfold maxLen; omega) (reads_at _ _ #[.int .i64 a, .int .i64 b, .int .i64 c] [a, b, c] _ (by simp) rfl)).mono ?_
  rintro _ _ ⟨rfl, rfl⟩
  rw [am_all]
  go_wp2
  go_ret
  exact Val.mk' rfl (by (repeat (first | exact In.refl _ | assumption | apply In.alloc | apply In.drewN | apply In.drew | (refine In.step ?_ (by assumption)))))
theorem iSlipOk (a b c : Int) (w : World) : Calls Try.prog 17 #[.agg #[.int .i64 a, .int .i64 b, .int .i64 c]] w (Val (.bool (slipB a b c)) w) := by
  cases h1 : amB a b c
  · go_enter Try.func17, Try.ntmps17
    go_wp2_with (first | (go_at_call 66; refine (iIn _ _ _ _).mono ?_; rintro e w' ⟨rfl, rfl⟩))
    refine (iamountsOk a b c _).mono ?_
    rintro _ w_1 ⟨rfl, hb_1⟩
    rw [h1]
    have i_1 : In w.heap.size w w_1 := In.step (by (repeat (first | exact In.refl _ | assumption | apply In.alloc | apply In.drewN | apply In.drew | (refine In.step ?_ (by assumption))))) hb_1
    have k_1_A : Blk w_1 (w.heap.size) 33 #[.int .i64 a, .int .i64 b, .int .i64 c] := Blk.step (by (with_reducible (repeat (first | assumption | exact Blk.new' (by simp) | apply Blk.drewN | apply Blk.drew | apply Blk.alloc | (refine Blk.far ?_ (by (try simp) <;> omega) _))))) hb_1
    have c_1_A_0 : w_1.cell? ⟨w.heap.size, 0, none⟩ = some (.int .i64 a) := k_1_A.cell 0
    have c_1_A_1 : w_1.cell? ⟨w.heap.size, 1, none⟩ = some (.int .i64 b) := k_1_A.cell 1
    have c_1_A_2 : w_1.cell? ⟨w.heap.size, 2, none⟩ = some (.int .i64 c) := k_1_A.cell 2
    have l_1_A := k_1_A.lt
    go_wp2
    go_ret
    exact Val.mk' (v_bool (by simp [slipB, h1])) (by (repeat (first | exact In.refl _ | assumption | apply In.alloc | apply In.drewN | apply In.drew | (refine In.step ?_ (by assumption)) | (refine In.set_ ?_ (by (try simp) <;> omega) _))))
  obtain ⟨a1, a2, b1, b2, c1, c2⟩ := am_in h1
  go_enter Try.func17, Try.ntmps17
  go_wp2_with (first | (go_at_call 66; refine (iIn _ _ _ _).mono ?_; rintro e w' ⟨rfl, rfl⟩))
  refine (iamountsOk a b c _).mono ?_
  rintro _ w_1 ⟨rfl, hb_1⟩
  rw [h1]
  have i_1 : In w.heap.size w w_1 := In.step (by (repeat (first | exact In.refl _ | assumption | apply In.alloc | apply In.drewN | apply In.drew | (refine In.step ?_ (by assumption))))) hb_1
  have k_1_A : Blk w_1 (w.heap.size) 33 #[.int .i64 a, .int .i64 b, .int .i64 c] := Blk.step (by (with_reducible (repeat (first | assumption | exact Blk.new' (by simp) | apply Blk.drewN | apply Blk.drew | apply Blk.alloc | (refine Blk.far ?_ (by (try simp) <;> omega) _))))) hb_1
  have c_1_A_0 : w_1.cell? ⟨w.heap.size, 0, none⟩ = some (.int .i64 a) := k_1_A.cell 0
  have c_1_A_1 : w_1.cell? ⟨w.heap.size, 1, none⟩ = some (.int .i64 b) := k_1_A.cell 1
  have c_1_A_2 : w_1.cell? ⟨w.heap.size, 2, none⟩ = some (.int .i64 c) := k_1_A.cell 2
  have l_1_A := k_1_A.lt
  go_wp2
  go_ret
  exact Val.mk' (v_bool (by simp [slipB, h1])) (by (repeat (first | exact In.refl _ | assumption | apply In.alloc | apply In.drewN | apply In.drew | (refine In.step ?_ (by assumption)) | (refine In.set_ ?_ (by (try simp) <;> omega) _))))
def amK (xs : List SlipR) (i : Nat) : Bool := amB (xs.getD i z35).f0 (xs.getD i z35).f1 (xs.getD i z35).f2
def slK (xs : List SlipR) (i : Nat) : Bool := slipB (xs.getD i z35).f0 (xs.getD i z35).f1 (xs.getD i z35).f2
def cntB (n : Nat) (xs : List SlipR) (st : Int) : Bool := allOk (amK xs) n && decide (n ≤ 60) && inB st 0 100000
theorem cnt_at {n : Nat} {xs : List SlipR} {st : Int} (h : cntB n xs st = true) : n ≤ 60 ∧ 0 ≤ st ∧ st ≤ 100000 ∧ ∀ i, i < n → amB (xs.getD i z35).f0 (xs.getD i z35).f1 (xs.getD i z35).f2 = true := by
  simp only [cntB, Bool.and_eq_true, decide_eq_true_eq] at h
  have := inB_tt h.2
  exact ⟨h.1.2, this.1, this.2, fun i hi => allOk_at _ _ h.1.1 i hi⟩
theorem icanCount (A : Option Addr) (n c : Nat) (xs : List SlipR) (st : Int) (w : World) (hn : n ≤ maxLen) (hx : ReadsSlip w A n xs) : Calls Try.prog 63 #[.slice A n c, .int .i64 st] w (Val (.bool (cntB n xs st)) w) := by
  unfold maxLen at hn
  by_cases h60 : n ≤ 60
  case neg =>
    have HV : Hid (cntB n xs st = false) := Lib.hid (by simp [cntB, h60])
    have h61 : 60 < n := by omega
    go_enter Try.func63, Try.ntmps63
    go_wp2_with (first | (go_at_call 66; refine (iIn _ _ _ _).mono ?_; rintro e w' ⟨rfl, rfl⟩) | go_in | (go_end0; simp only []; go_at_K))
    go_ret
    exact Val.mk' (v_bool HV.out.symm) (by (repeat (first | exact In.refl _ | assumption | apply In.alloc | apply In.drewN | apply In.drew | (refine In.step ?_ (by assumption)))))
  cases hst : inB st 0 100000
  · have HV : Hid (cntB n xs st = false) := Lib.hid (by simp [cntB, hst])
    go_enter Try.func63, Try.ntmps63
    go_wp2_with (first | (go_at_call 66; refine (iIn _ _ _ _).mono ?_; rintro e w' ⟨rfl, rfl⟩) | go_in | (go_end0; simp only []; go_at_K))
    go_ret
    exact Val.mk' (v_bool HV.out.symm) (by (repeat (first | exact In.refl _ | assumption | apply In.alloc | apply In.drewN | apply In.drew | (refine In.step ?_ (by assumption)))))
  go_enter Try.func63, Try.ntmps63
  go_wp2_with (first | (go_at_call 66; refine (iIn _ _ _ _).mono ?_; rintro e w' ⟨rfl, rfl⟩) | go_in | (go_end0; simp only []; go_at_K))
  go_loopw [17] (fun i wr => ∃ k : Nat, k ≤ n ∧ i = .int .i64 k ∧ (∀ i, i < k → amK xs i = true) ∧ In w.heap.size w wr) (fun i _ => n - (intOf i).toNat)
  case atStart => exact ⟨0, Nat.zero_le _, rfl, fun i hi => absurd hi (Nat.not_lt_zero _), by (repeat (first | exact In.refl _ | assumption | apply In.alloc | apply In.drewN | apply In.drew | (refine In.step ?_ (by assumption))))⟩
  case round =>
    obtain ⟨k, hk, rfl, ho, hi⟩ := hrel
    have HO := Lib.hid ho
    clear ho
    by_cases hlt : k < n
    · have HA : (amK xs k = false → (cntB n xs st) = false) := fun h => by simp [cntB, allOk_f _ _ k hlt h]
      have HA := Lib.hid HA
      obtain ⟨a, rfl, ha0, ha1, ha2⟩ := (hx.in_ hi).2 k hlt
      have HK : Hid (amK xs k = amB (xs.getD k z35).f0 (xs.getD k z35).f1 (xs.getD k z35).f2) := Lib.hid rfl
      generalize xs.getD k z35 = x at *
      obtain ⟨x0, x1, x2⟩ := x
      simp only at ha0 ha1 ha2 HK
      cases h1 : amB x0 x1 x2
      · have HF : Hid ((cntB n xs st) = false) := Lib.hid (HA.out (by rw [HK.out]; exact h1))
        go_wp2_with (first | (go_at_call 66; refine (iIn _ _ _ _).mono ?_; rintro e w' ⟨rfl, rfl⟩))
        refine (iamountsOk x0 x1 x2 _).mono ?_
        rintro _ w1 ⟨rfl, hb1⟩
        rw [h1]
        go_wp2
        go_ret
        exact Val.mk' (v_bool HF.out.symm) (by (repeat (first | exact In.refl _ | assumption | apply In.alloc | apply In.drewN | apply In.drew | (refine In.step ?_ (by assumption)))))
      · have HT : Hid (amK xs k = true) := Lib.hid (by rw [HK.out]; exact h1)
        go_wp2_with (first | (go_at_call 66; refine (iIn _ _ _ _).mono ?_; rintro e w' ⟨rfl, rfl⟩))
        refine (iamountsOk x0 x1 x2 _).mono ?_
        rintro _ w1 ⟨rfl, hb1⟩
        rw [h1]
        go_wp2
        go_roundw
        case rel => exact ⟨k + 1, by omega, by go_num, fun i hi => by
              by_cases e : i = k
              · subst e; exact HT.out
              · exact HO.out i (by omega), by (repeat (first | exact In.refl _ | assumption | apply In.alloc | apply In.drewN | apply In.drew | (refine In.step ?_ (by assumption))))⟩
        case measure => simp [intOf]; omega
    · obtain rfl : k = n := by omega
      have HT : Hid (allOk (amK xs) k = true) := Lib.hid (allOk_t _ _ HO.out)
      have HV : Hid (cntB k xs st = true) := Lib.hid (by simp [cntB, HT.out, h60, hst])
      go_wp2
      go_ret
      exact Val.mk' (v_bool HV.out.symm) (by (repeat (first | exact In.refl _ | assumption | apply In.alloc | apply In.drewN | apply In.drew | (refine In.step ?_ (by assumption)))))
def wrongV (n : Nat) (xs : List SlipR) : List Int := if n ≤ 60 then idxTo (fun i => !slK xs i) n else []
end Go.Proofs.Ytgjbbidcpmglbaa
