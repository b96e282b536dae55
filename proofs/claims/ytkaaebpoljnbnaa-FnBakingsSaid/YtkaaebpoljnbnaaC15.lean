/- Chapter 15: OddsOk, SoldOutWeight. -/
import Derived.Test.YtkaaebpoljnbnaaAll
import Derived.Test.YtkaaebpoljnbnaaSOdds
import Derived.Test.YtkaaebpoljnbnaaSum
import Derived.Deep.QuietTactic
import Derived.BigQuiet
namespace Go.Proofs.Ytkaaebpoljnbnaa
open Go.ChangeShapes Go.WideShapes Go.ChangeAt Go.RowKit
set_option linter.unusedVariables false
set_option linter.unusedSimpArgs false

abbrev z15 : OddsR := ⟨0, 0⟩
def oddB (a b : Int) : Bool := inB a 0 1000 && inB b 1 100
def odOk (xs : List OddsR) (i : Nat) : Bool := oddB (xs.getD i z15).f0 (xs.getD i z15).f1
def oddsB (n : Nat) (xs : List OddsR) : Bool := inB n 1 20 && allOk (odOk xs) n
theorem odds_f {n : Nat} {xs : List OddsR} (k : Nat) (hk : k < n) (h : odOk xs k = false) : oddsB n xs = false := by simp [oddsB, allOk_f _ _ k hk h]
theorem odds_n {n : Nat} {xs : List OddsR} (h : ∀ i, i < n → odOk xs i = true) : oddsB n xs = inB n 1 20 := by simp [oddsB, allOk_t _ _ h]
theorem odds_at {n : Nat} {xs : List OddsR} (h : oddsB n xs = true) : 1 ≤ n ∧ n ≤ 20 ∧ ∀ i, i < n → 0 ≤ (xs.getD i z15).f0 ∧ (xs.getD i z15).f0 ≤ 1000 ∧ 1 ≤ (xs.getD i z15).f1 ∧ (xs.getD i z15).f1 ≤ 100 := by
  simp only [oddsB, Bool.and_eq_true] at h
  have h0 := inB_tt h.1
  refine ⟨by omega, by omega, fun i hi => ?_⟩
  have h1 := allOk_at _ _ h.2 i hi
  simp only [odOk, oddB, Bool.and_eq_true] at h1
  have h2 := inB_tt h1.1
  have h3 := inB_tt h1.2
  omega
set_option maxHeartbeats 1000000 in
theorem iOddsOk (A : Option Addr) (n c : Nat) (xs : List OddsR) (w : World) (hn : n ≤ maxLen) (hx : ReadsOdds w A n xs) : Calls Try.prog 29 #[.slice A n c] w (Val (.bool (oddsB n xs)) w) := by
  unfold maxLen at hn
  cases h3 : inB n 1 20
  · have HF : Hid (oddsB n xs = false) := Lib.hid (by simp [oddsB, h3])
    go_enter Try.func29, Try.ntmps29
    go_wp2_with (first | (go_at_call 45; refine (sIn _ _ _ _).mono ?_; rintro e w' ⟨rfl, rfl⟩) | (go_at_call 40; refine (iIn _ _ _ _).mono ?_; rintro e w' ⟨rfl, rfl⟩) | go_in | (go_end0; simp only []; go_at_K))
    go_ret
    exact Val.mk' (v_bool HF.out.symm) (by (repeat (first | exact In.refl _ | assumption | apply In.alloc | apply In.drewN | apply In.drew | (refine In.step ?_ (by assumption)))))
  go_enter Try.func29, Try.ntmps29
  go_wp2_with (first | (go_at_call 45; refine (sIn _ _ _ _).mono ?_; rintro e w' ⟨rfl, rfl⟩) | (go_at_call 40; refine (iIn _ _ _ _).mono ?_; rintro e w' ⟨rfl, rfl⟩) | go_in | (go_end0; simp only []; go_at_K))
  go_loopw [11] (fun i wr => ∃ k : Nat, k ≤ n ∧ i = .int .i64 k ∧ (∀ i, i < k → odOk xs i = true) ∧ In w.heap.size w wr) (fun i _ => n - (intOf i).toNat)
  case atStart => exact ⟨0, Nat.zero_le _, rfl, fun i hi => absurd hi (Nat.not_lt_zero _), by (repeat (first | exact In.refl _ | assumption | apply In.alloc | apply In.drewN | apply In.drew | (refine In.step ?_ (by assumption))))⟩
  case round =>
    obtain ⟨k, hk, rfl, ho, hi⟩ := hrel
    have HO := Lib.hid ho
    clear ho
    by_cases hlt : k < n
    · obtain ⟨a, rfl, ha0, ha1⟩ := (hx.in_ hi).2 k hlt
      have HK : Hid (odOk xs k = (inB (xs.getD k z15).f0 0 1000 && inB (xs.getD k z15).f1 1 100)) := Lib.hid rfl
      generalize xs.getD k z15 = x at ha0 ha1 HK
      obtain ⟨x0, x1⟩ := x
      simp only at ha0 ha1 HK
      cases h1 : inB x0 0 1000
      · have HF : Hid (oddsB n xs = false) := Lib.hid (odds_f k hlt (by rw [HK.out]; simp [h1]))
        go_wp2_with (first | (go_at_call 45; refine (sIn _ _ _ _).mono ?_; rintro e w' ⟨rfl, rfl⟩) | (go_at_call 40; refine (iIn _ _ _ _).mono ?_; rintro e w' ⟨rfl, rfl⟩) | go_in | (go_end0; simp only []; go_at_K))
        go_ret
        exact Val.mk' (v_bool HF.out.symm) (by (repeat (first | exact In.refl _ | assumption | apply In.alloc | apply In.drewN | apply In.drew | (refine In.step ?_ (by assumption)))))
      cases h2 : inB x1 1 100
      · have HF : Hid (oddsB n xs = false) := Lib.hid (odds_f k hlt (by rw [HK.out]; simp [h2]))
        go_wp2_with (first | (go_at_call 45; refine (sIn _ _ _ _).mono ?_; rintro e w' ⟨rfl, rfl⟩) | (go_at_call 40; refine (iIn _ _ _ _).mono ?_; rintro e w' ⟨rfl, rfl⟩) | go_in | (go_end0; simp only []; go_at_K))
        go_ret
        exact Val.mk' (v_bool HF.out.symm) (by (repeat (first | exact In.refl _ | assumption | apply In.alloc | apply In.drewN | apply In.drew | (refine In.step ?_ (by assumption)))))
      have HT : Hid (odOk xs k = true) := Lib.hid (by rw [HK.out]; simp [h1, h2])
      go_wp2_with (first | (go_at_call 45; refine (sIn _ _ _ _).mono ?_; rintro e w' ⟨rfl, rfl⟩) | (go_at_call 40; refine (iIn _ _ _ _).mono ?_; rintro e w' ⟨rfl, rfl⟩) | go_in | (go_end0; simp only []; go_at_K))
      go_roundw
      case rel => exact ⟨k + 1, by omega, by go_num, fun i hi => by
            by_cases e : i = k
            · subst e; exact HT.out
            · exact HO.out i (by omega), by (repeat (first | exact In.refl _ | assumption | apply In.alloc | apply In.drewN | apply In.drew | (refine In.step ?_ (by assumption))))⟩
      case measure => simp [intOf]; omega
    · obtain rfl : k = n := by omega
      go_wp2
      go_ret
      exact Val.mk' (v_bool (by rw [odds_n HO.out, h3])) (by (repeat (first | exact In.refl _ | assumption | apply In.alloc | apply In.drewN | apply In.drew | (refine In.step ?_ (by assumption)))))
theorem ibakedOk (b : Int) (w : World) : Calls Try.prog 56 #[.int .i64 b] w (Same (.bool (inB b 0 1000)) w) := by
  go_enter Try.func56, Try.ntmps56
  go_wp2_with (first | (go_at_call 45; refine (sIn _ _ _ _).mono ?_; rintro e w' ⟨rfl, rfl⟩) | (go_at_call 40; refine (iIn _ _ _ _).mono ?_; rintro e w' ⟨rfl, rfl⟩) | go_in | (go_end0; simp only []; go_at_K))
  go_ret
  exact ⟨rfl, rfl⟩
def planB (n : Nat) (xs : List OddsR) (g c : Int) : Bool := oddsB n xs && inB g 0 100 && inB c 0 100
theorem plan_all (g d : Int) : allIn [g, d] 0 100 2 = (inB g 0 100 && inB d 0 100) := by simp [allIn, allOk, inAt]
theorem icanPlan (A : Option Addr) (n c : Nat) (xs : List OddsR) (g d : Int) (w : World) (hn : n ≤ maxLen) (hx : ReadsOdds w A n xs) : Calls Try.prog 53 #[.slice A n c, .int .i64 g, .int .i64 d] w (Val (.bool (planB n xs g d)) w) := by
  cases h1 : oddsB n xs
  · go_enter Try.func53, Try.ntmps53
    (go_wp2_with fail; refine (iOddsOk A n c xs _ hn hx).mono ?_; rintro _ _ ⟨rfl, _⟩)
    rw [h1]
    go_wp2
    go_ret
    exact Val.mk' (v_bool (by simp [planB, h1])) (by (repeat (first | exact In.refl _ | assumption | apply In.alloc | apply In.drewN | apply In.drew | (refine In.step ?_ (by assumption)))))
  · go_enter Try.func53, Try.ntmps53
    go_wp2_with fail
    refine (iOddsOk A n c xs _ hn hx).mono ?_
    rintro _ w1 ⟨rfl, hb1⟩
    rw [h1]
    go_wp2_with fail
    refine (iAll _ 2 2 [g, d] 0 100 _ (by unfold maxLen; omega) (reads_at _ _ #[.int .i64 g, .int .i64 d] [g, d] _ rfl rfl)).mono ?_
    rintro _ _ ⟨rfl, rfl⟩
    rw [plan_all]
    cases h2 : inB g 0 100 <;> cases h3 : inB d 0 100
    all_goals
      go_wp2
      go_ret
      exact Val.mk' (v_bool (by simp [planB, h1, h2, h3])) (by (repeat (first | exact In.refl _ | assumption | apply In.alloc | apply In.drewN | apply In.drew | (refine In.step ?_ (by assumption)))))
def ok15 (n : Nat) (xs : List OddsR) (b g d : Int) : Bool := oddsB n xs && inB b 0 1000 && inB g 0 100 && inB d 0 100
def soG (xs : List OddsR) (b : Int) (i : Nat) : Int := if b < (xs.getD i z15).f0 then (xs.getD i z15).f1 else 0
def soV (n : Nat) (xs : List OddsR) (b : Int) : Int := if oddsB n xs && inB b 0 1000 then sumTo (soG xs b) n else -1
theorem soG_in {n : Nat} {xs : List OddsR} (h : oddsB n xs = true) (b : Int) (i : Nat) (hi : i < n) : 0 ≤ soG xs b i ∧ soG xs b i ≤ 100 := by
  have := (odds_at h).2.2 i hi
  unfold soG; split <;> omega
set_option maxHeartbeats 1000000 in
theorem iSoldOutWeight (A : Option Addr) (n c : Nat) (xs : List OddsR) (b : Int) (w : World) (hn : n ≤ maxLen) (hx : ReadsOdds w A n xs) : Calls Try.prog 28 #[.slice A n c, .int .i64 b] w (Val (i64 (soV n xs b)) w) := by
  cases hB : oddsB n xs
  · have HV : Hid (soV n xs b = -1) := Lib.hid (by rw [soV, hB]; rfl)
    go_enter Try.func28, Try.ntmps28
    go_wp2_with fail
    refine (iOddsOk A n c xs _ hn hx).mono ?_
    rintro _ w1 ⟨rfl, hb1⟩
    rw [hB]
    go_wp2
    go_ret
    exact Val.mk' (v_int HV.out.symm) (by (repeat (first | exact In.refl _ | assumption | apply In.alloc | apply In.drewN | apply In.drew | (refine In.step ?_ (by assumption)))))
  cases hC : inB b 0 1000
  · have HV : Hid (soV n xs b = -1) := Lib.hid (by rw [soV, hC]; simp)
    go_enter Try.func28, Try.ntmps28
    go_wp2_with fail
    refine (iOddsOk A n c xs _ hn hx).mono ?_
    rintro _ w1 ⟨rfl, hb1⟩
    rw [hB]
    go_wp2_with (first | (go_at_call 45; refine (sIn _ _ _ _).mono ?_; rintro e w' ⟨rfl, rfl⟩) | (go_at_call 40; refine (iIn _ _ _ _).mono ?_; rintro e w' ⟨rfl, rfl⟩) | (go_at_call 56; refine (ibakedOk b _).mono ?_; rintro e w' ⟨rfl, rfl⟩) | go_in | (go_end0; simp only []; go_at_K))
    go_ret
    exact Val.mk' (v_int HV.out.symm) (by (repeat (first | exact In.refl _ | assumption | apply In.alloc | apply In.drewN | apply In.drew | (refine In.step ?_ (by assumption)))))
  have HV : Hid (soV n xs b = sumTo (soG xs b) n) := Lib.hid (by rw [soV, hB, hC]; rfl)
  have HSG := Lib.hid (fun i hi => soG_in hB b i hi)
  obtain ⟨n1, n2, hs⟩ := odds_at hB
  have HS := Lib.hid hs
  obtain ⟨e1, e2⟩ := inB_tt hC
  clear hs
  go_enter Try.func28, Try.ntmps28
  go_wp2_with fail
  refine (iOddsOk A n c xs _ hn hx).mono ?_
  rintro _ w1 ⟨rfl, hb1⟩
  rw [hB]
  have i1 : In w.heap.size w w1 := In.step (by (repeat (first | exact In.refl _ | assumption | apply In.alloc | apply In.drewN | apply In.drew | (refine In.step ?_ (by assumption))))) hb1
  clear hb1 hB
  go_wp2_with (first | (go_at_call 45; refine (sIn _ _ _ _).mono ?_; rintro e w' ⟨rfl, rfl⟩) | (go_at_call 40; refine (iIn _ _ _ _).mono ?_; rintro e w' ⟨rfl, rfl⟩) | (go_at_call 56; refine (ibakedOk b _).mono ?_; rintro e w' ⟨rfl, rfl⟩) | go_in | (go_end0; simp only []; go_at_K))
  clear hC
  go_loopw [5, 18] (fun s i wr => ∃ k : Nat, k ≤ n ∧ i = .int .i64 k ∧ s = .int .i64 (sumTo (soG xs b) k) ∧ In w.heap.size w wr) (fun _ i _ => n - (intOf i).toNat)
  case atStart => exact ⟨0, Nat.zero_le _, rfl, rfl, i1⟩
  case round =>
    clear i1
    obtain ⟨k, hk, rfl, rfl, hi⟩ := hrel
    have HU := Lib.hid (sumTo_succ (soG xs b) k)
    obtain ⟨b1, b2⟩ := sumTo_bd (soG xs b) 100 k fun i hi => HSG.out i (by omega)
    by_cases hlt : k < n
    · obtain ⟨a, rfl, ha0, ha1⟩ := (hx.in_ hi).2 k hlt
      obtain ⟨d1, d2, d3, d4⟩ := HS.out k hlt
      have HG : Hid (soG xs b k = if b < (xs.getD k z15).f0 then (xs.getD k z15).f1 else 0) := Lib.hid rfl
      generalize xs.getD k z15 = x at *
      generalize sumTo (soG xs b) k = s at *
      obtain ⟨x0, x1⟩ := x
      simp only at ha0 ha1 d1 d2 d3 d4 HG
      by_cases hg : b < x0
      · go_wp2
        go_roundw
        case rel => exact ⟨k + 1, by omega, by go_num, v_int (by rw [HU.out, HG.out, if_pos hg]), by (repeat (first | exact In.refl _ | assumption | apply In.alloc | apply In.drewN | apply In.drew | (refine In.step ?_ (by assumption))))⟩
        case measure => simp [intOf]; omega
      · go_wp2
        go_roundw
        case rel => exact ⟨k + 1, by omega, by go_num, v_int (by rw [HU.out, HG.out, if_neg hg]; simp), by (repeat (first | exact In.refl _ | assumption | apply In.alloc | apply In.drewN | apply In.drew | (refine In.step ?_ (by assumption))))⟩
        case measure => simp [intOf]; omega
    · obtain rfl : k = n := by omega
      go_wp2
      go_ret
      exact Val.mk' (v_int HV.out.symm) (by (repeat (first | exact In.refl _ | assumption | apply In.alloc | apply In.drewN | apply In.drew | (refine In.step ?_ (by assumption)))))
end Go.Proofs.Ytkaaebpoljnbnaa
