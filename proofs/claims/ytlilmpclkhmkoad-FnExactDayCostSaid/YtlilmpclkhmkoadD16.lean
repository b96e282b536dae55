/- Chapter 16: CleanCost. -/
import Derived.Test.YtlilmpclkhmkoadC16
import Derived.Test.YtlilmpclkhmkoadSum
namespace Go.Proofs.Ytlilmpclkhmkoad
open Go.ChangeShapes Go.WideShapes Go.ChangeAt Go.RowKit
set_option linter.unusedVariables false
set_option linter.unusedSimpArgs false

def oneG (x : Int) (i : Nat) : Int := bits .and .i64 (x / 2 ^ i) 1
def cleanV (b a : Int) : Int := if inB b 0 255 && inB a 0 255 then (if hasB a b then 0 else 5 + sumTo (oneG b) 8) else -1
theorem ones_in : ∀ m : Fin 256, ∀ i : Fin 9, 0 ≤ sumTo (oneG (m.val : Int)) i.val ∧ sumTo (oneG (m.val : Int)) i.val ≤ 8 := by decide +kernel
theorem one_in : ∀ m : Fin 256, ∀ i : Fin 8, 0 ≤ oneG (m.val : Int) i.val ∧ oneG (m.val : Int) i.val ≤ 1 := by decide +kernel
set_option maxRecDepth 100000 in
theorem iOnes (x : Int) (w : World) (h0 : 0 ≤ x) (h1 : x ≤ 255) : Calls Try.prog 46 #[.int .u64 x] w (Same (.int .i64 (sumTo (oneG x) 8)) w) := by
  go_enter Try.func46, Try.ntmps46
  go_wp2
  go_ret
  refine ⟨ret_int ?_, rfl⟩
  obtain ⟨m, rfl⟩ : ∃ m : Fin 256, x = (m.val : Int) := ⟨⟨x.toNat, by omega⟩, by simp; omega⟩
  clear h0 h1
  revert m
  decide +kernel
theorem allIn2 (b a : Int) : allIn [b, a] 0 255 2 = (inB b 0 255 && inB a 0 255) := by simp [allIn, allOk, inAt]
set_option maxHeartbeats 2000000 in
theorem sCleanCost (b a : Int) (w : World) : Calls Try.prog 22 #[.int .i64 b, .int .i64 a] w (Val (i64 (cleanV b a)) w) := by
  cases h1 : inB b 0 255 <;> cases h2 : inB a 0 255
  case true.true =>
    obtain ⟨b1, b2⟩ := inB_tt h1
    obtain ⟨b3, b4⟩ := inB_tt h2
    have HV : Hid (cleanV b a = if hasB a b then 0 else 5 + sumTo (oneG b) 8) := Lib.hid (by simp [cleanV, h1, h2])
    have HH : Hid (hasB a b = decide (bits .or .i64 b a = a)) := Lib.hid (hasB_or' (by omega))
    have HS : Hid (∀ i : Fin 9, 0 ≤ sumTo (oneG b) i.val ∧ sumTo (oneG b) i.val ≤ 8) := Lib.hid (by
      have := ones_in ⟨b.toNat, by omega⟩
      rwa [show ((⟨b.toNat, by omega⟩ : Fin 256).val : Int) = b by simp; omega] at this)
    have H1 : Hid (∀ i : Fin 8, 0 ≤ oneG b i.val ∧ oneG b i.val ≤ 1) := Lib.hid (by
      have := one_in ⟨b.toNat, by omega⟩
      rwa [show ((⟨b.toNat, by omega⟩ : Fin 256).val : Int) = b by simp; omega] at this)
    by_cases g : bits .or .i64 b a = a
    · have g1 : (bits .or .i64 b a == a) = true := by simp [g]
      have HV2 : Hid (cleanV b a = 0) := Lib.hid (by rw [HV.out, HH.out]; simp [g])
      clear HV HH
      go_enter Try.func22, Try.ntmps22
      go_wp2_with (first | (go_at_call 47; refine (sIn _ _ _ _).mono ?_; rintro e w' ⟨rfl, rfl⟩) | (go_at_call 53; refine (iIn _ _ _ _).mono ?_; rintro e w' ⟨rfl, rfl⟩) | go_in | (go_end0; simp only []; go_at_K))
      go_ret
      exact Val.mk' (v_int HV2.out.symm) (by (repeat (first | exact In.refl _ | assumption | apply In.alloc | apply In.drewN | apply In.drew | (refine In.step ?_ (by assumption)))))
    have g1 : (bits .or .i64 b a == a) = false := by simp [g]
    have HV2 : Hid (cleanV b a = 5 + sumTo (oneG b) 8) := Lib.hid (by rw [HV.out, HH.out]; simp [g])
    clear HV HH
    go_enter Try.func22, Try.ntmps22
    go_wp2_with (first | (go_at_call 47; refine (sIn _ _ _ _).mono ?_; rintro e w' ⟨rfl, rfl⟩) | (go_at_call 53; refine (iIn _ _ _ _).mono ?_; rintro e w' ⟨rfl, rfl⟩) | go_in | (go_end0; simp only []; go_at_K))
    go_loop [5, 6] (fun s i => ∃ k : Nat, k ≤ 8 ∧ i = .int .i64 k ∧ s = .int .i64 (5 + sumTo (oneG b) k)) (fun _ i => 8 - (intOf i).toNat)
    case atStart => exact ⟨0, Nat.zero_le _, rfl, rfl⟩
    case round =>
      obtain ⟨k, hk, rfl, rfl⟩ := hrel
      by_cases hlt : k < 8
      · have HU := Lib.hid (sumTo_succ (oneG b) k)
        have d1 := HS.out ⟨k, by omega⟩
        have d2 := H1.out ⟨k, hlt⟩
        have e1 : bits .and .i64 (b / 2 ^ k) 1 = oneG b k := rfl
        have E1 := Lib.hid e1
        clear e1
        simp only at d1 d2
        go_wp2
        go_round
        case rel => exact ⟨k + 1, by omega, by go_num, v_int (by rw [HU.out]; (try rw [E1.out]); (try rw [w64 (by omega)]); (try omega))⟩
        case measure => simp [intOf]; omega
      · obtain rfl : k = 8 := by omega
        go_wp2
        go_ret
        exact Val.mk' (v_int HV2.out.symm) (by (repeat (first | exact In.refl _ | assumption | apply In.alloc | apply In.drewN | apply In.drew | (refine In.step ?_ (by assumption)))))
  all_goals
    have HV : Hid (cleanV b a = -1) := Lib.hid (by simp [cleanV, h1, h2])
    go_enter Try.func22, Try.ntmps22
    go_wp2_with (first | (go_at_call 47; refine (sIn _ _ _ _).mono ?_; rintro e w' ⟨rfl, rfl⟩) | (go_at_call 53; refine (iIn _ _ _ _).mono ?_; rintro e w' ⟨rfl, rfl⟩) | go_in | (go_end0; simp only []; go_at_K))
    go_ret
    exact Val.mk' (v_int HV.out.symm) (by (repeat (first | exact In.refl _ | assumption | apply In.alloc | apply In.drewN | apply In.drew | (refine In.step ?_ (by assumption)))))
set_option maxHeartbeats 2000000 in
theorem iCleanCost (b a : Int) (w : World) : Calls Try.prog 21 #[.int .i64 b, .int .i64 a] w (Val (i64 (cleanV b a)) w) := by
  cases hB : inB b 0 255 && inB a 0 255
  · have HV : Hid (cleanV b a = -1) := Lib.hid (by simp [cleanV, hB])
    go_enter Try.func21, Try.ntmps21
    go_wp2_with fail
    refine (ithingsOk _ 2 2 [b, a] _ (by decide) (reads_at _ _ _ [b, a] _ rfl rfl)).mono ?_
    rintro _ _ ⟨rfl, rfl⟩
    rw [allIn2, hB]
    go_wp2
    go_ret
    exact Val.mk' (v_int HV.out.symm) (by (repeat (first | exact In.refl _ | assumption | apply In.alloc | apply In.drewN | apply In.drew | (refine In.step ?_ (by assumption)))))
  have hb' := hB
  simp only [Bool.and_eq_true] at hb'
  obtain ⟨b1, b2⟩ := inB_tt hb'.1
  obtain ⟨b3, b4⟩ := inB_tt hb'.2
  clear hb'
  have HV : Hid (cleanV b a = if hasB a b then 0 else 5 + sumTo (oneG b) 8) := Lib.hid (by simp [cleanV, hB])
  obtain ⟨d1, d2⟩ : 0 ≤ sumTo (oneG b) 8 ∧ sumTo (oneG b) 8 ≤ 8 := by
      have := ones_in ⟨b.toNat, by omega⟩ ⟨8, by omega⟩
      rwa [show ((⟨b.toNat, by omega⟩ : Fin 256).val : Int) = b by simp; omega] at this
  go_enter Try.func21, Try.ntmps21
  go_wp2_with fail
  refine (ithingsOk _ 2 2 [b, a] _ (by decide) (reads_at _ _ _ [b, a] _ rfl rfl)).mono ?_
  rintro _ _ ⟨rfl, rfl⟩
  rw [allIn2, hB]
  clear hB
  go_wp2_with fail
  refine (icontains _ _ _).mono ?_
  rintro _ _ ⟨rfl, rfl⟩
  cases h3 : hasB a b
  · go_wp2_with fail
    refine (iOnes b _ b1 b2).mono ?_
    rintro _ _ ⟨rfl, rfl⟩
    go_wp2
    go_ret
    exact Val.mk' (v_int (by rw [HV.out, h3]; simp)) (by (repeat (first | exact In.refl _ | assumption | apply In.alloc | apply In.drewN | apply In.drew | (refine In.step ?_ (by assumption)))))
  · go_wp2
    go_ret
    exact Val.mk' (v_int (by rw [HV.out, h3]; simp)) (by (repeat (first | exact In.refl _ | assumption | apply In.alloc | apply In.drewN | apply In.drew | (refine In.step ?_ (by assumption)))))
end Go.Proofs.Ytlilmpclkhmkoad
