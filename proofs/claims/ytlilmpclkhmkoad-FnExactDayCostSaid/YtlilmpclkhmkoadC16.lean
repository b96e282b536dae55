/- Chapter 16: NeedsNoCleaning. -/
import Derived.Test.YtlilmpclkhmkoadAll
import Derived.Test.YtlilmpclkhmkoadBits
import Derived.Test.YtlilmpclkhmkoadIntE
import Derived.Test.YtlilmpclkhmkoadQuiet
import Derived.BigQuiet
import Derived.Deep.QuietTactic
namespace Go.Proofs.Ytlilmpclkhmkoad
open Go.ChangeShapes Go.WideShapes Go.ChangeAt Go.RowKit
set_option linter.unusedVariables false
set_option linter.unusedSimpArgs false

def doughsB (n : Nat) (xs : List Int) (m : Int) : Bool := allIn xs 0 255 n && decide ((n : Int) ≤ m)
theorem icontains (a b : Int) (w : World) : Calls Try.prog 44 #[.int .i64 a, .int .i64 b] w (Same (.bool (hasB a b)) w) := by
  go_enter Try.func44, Try.ntmps44
  go_wp2
  go_ret
  exact ⟨ret_bool rfl, rfl⟩
theorem ithingsOk (A : Option Addr) (n c : Nat) (xs : List Int) (w : World) (hn : n ≤ maxLen) (hx : ReadsI w A n xs) : Calls Try.prog 45 #[.slice A n c] w (Same (.bool (allIn xs 0 255 n)) w) := by
  go_enter Try.func45, Try.ntmps45
  go_wp2_with fail
  refine (iAll A n c xs 0 255 _ hn hx).mono ?_
  rintro _ _ ⟨rfl, rfl⟩
  go_wp2
  go_ret
  exact ⟨ret_bool rfl, rfl⟩
theorem idayOk (A : Option Addr) (n c : Nat) (xs : List Int) (w : World) (hn : n ≤ maxLen) (hx : ReadsI w A n xs) : Calls Try.prog 39 #[.slice A n c] w (Same (.bool (doughsB n xs 8)) w) := by
  have HX := Lib.hid hx
  have HN := Lib.hid hn
  clear hx hn
  by_cases h8 : n ≤ 8
  · go_enter Try.func39, Try.ntmps39
    go_wp2_with fail
    refine (ithingsOk A n c xs _ HN.out HX.out).mono ?_
    rintro _ _ ⟨rfl, rfl⟩
    go_wp2
    go_ret
    exact ⟨ret_bool (by simp [doughsB]; omega), rfl⟩
  · have HF : Hid (doughsB n xs 8 = false) := Lib.hid (by simp [doughsB]; omega)
    have h8' : 8 < n := by omega
    go_enter Try.func39, Try.ntmps39
    go_wp2
    go_ret
    exact ⟨ret_bool HF.out.symm, rfl⟩
set_option maxHeartbeats 1000000 in
theorem sl16Ok (A : Option Addr) (n c : Nat) (xs : List Int) (m : Int) (w : World) (hn : n ≤ maxLen) (hx : ReadsI w A n xs) : Calls Try.prog 48 #[.slice A n c, .int .i64 m] w (Same (.bool (doughsB n xs m)) w) := by
  unfold maxLen at hn
  go_enter Try.func48, Try.ntmps48
  go_wp2
  go_loop [5] (fun i => ∃ k : Nat, k ≤ n ∧ i = .int .i64 k ∧ (∀ i, i < k → inAt xs 0 255 i = true)) (fun i => n - (intOf i).toNat)
  case atStart => exact ⟨0, Nat.zero_le _, rfl, fun i hi => absurd hi (Nat.not_lt_zero _)⟩
  case round =>
    obtain ⟨k, hk, rfl, ho⟩ := hrel
    have HO := Lib.hid ho
    clear ho
    by_cases hlt : k < n
    · obtain ⟨a, rfl, ha⟩ := hx.2 k hlt
      have HK : Hid (inAt xs 0 255 k = inB (xs.getD k 0) 0 255) := Lib.hid rfl
      generalize xs.getD k 0 = x at ha HK
      cases h1 : inB x 0 255
      · have HF : Hid ((doughsB n xs m) = false) := Lib.hid (by simp [doughsB, allIn_f k hlt (by rw [HK.out]; exact h1)])
        go_wp2_with (first | (go_at_call 47; refine (sIn _ _ _ _).mono ?_; rintro e w' ⟨rfl, rfl⟩) | (go_at_call 53; refine (iIn _ _ _ _).mono ?_; rintro e w' ⟨rfl, rfl⟩) | go_in | (go_end0; simp only []; go_at_K))
        go_ret
        exact ⟨ret_bool HF.out.symm, rfl⟩
      · have HT : Hid (inAt xs 0 255 k = true) := Lib.hid (by rw [HK.out]; exact h1)
        go_wp2_with (first | (go_at_call 47; refine (sIn _ _ _ _).mono ?_; rintro e w' ⟨rfl, rfl⟩) | (go_at_call 53; refine (iIn _ _ _ _).mono ?_; rintro e w' ⟨rfl, rfl⟩) | go_in | (go_end0; simp only []; go_at_K))
        go_round
        case rel => exact ⟨k + 1, by omega, by go_num, fun i hi => by
            by_cases e : i = k
            · subst e; exact HT.out
            · exact HO.out i (by omega)⟩
        case measure => simp [intOf]; omega
    · obtain rfl : k = n := by omega
      have HT : Hid (allIn xs 0 255 k = true) := Lib.hid (allIn_t HO.out)
      by_cases h4 : (k : Int) ≤ m
      all_goals
        go_wp2
        go_ret
        exact ⟨ret_bool (by rw [doughsB, HT.out]; simp [h4]), rfl⟩
def pairB (xs : List Int) (i k : Nat) : Bool := hasB (xs.getD i 0) (xs.getD k 0) || hasB (xs.getD k 0) (xs.getD i 0)
def rowB (xs : List Int) (i : Nat) : Bool := allOk (pairB xs i) i
def needsB (n : Nat) (xs : List Int) : Bool := doughsB n xs 8 && allOk (rowB xs) n
theorem doughs_at {n : Nat} {xs : List Int} {m : Int} (h : doughsB n xs m = true) : (n : Int) ≤ m ∧ ∀ i, i < n → 0 ≤ xs.getD i 0 ∧ xs.getD i 0 ≤ 255 := by
  simp only [doughsB, Bool.and_eq_true, decide_eq_true_eq] at h
  exact ⟨h.2, allIn_at h.1⟩
theorem needs_f {n : Nat} {xs : List Int} (i k : Nat) (hi : i < n) (hk : k < i) (h : pairB xs i k = false) : needsB n xs = false := by
  rw [needsB, allOk_f _ _ i hi (show rowB xs i = false from allOk_f _ _ k hk h), Bool.and_false]
set_option maxHeartbeats 2000000 in
theorem sNeedsNoCleaning (A : Option Addr) (n c : Nat) (xs : List Int) (w : World) (hn : n ≤ maxLen) (hx : ReadsI w A n xs) : Calls Try.prog 29 #[.slice A n c] w (Val (.bool (needsB n xs)) w) := by
  have HX := Lib.hid hx
  have HN := Lib.hid hn
  clear hx hn
  cases hB : doughsB n xs 8
  · have HV : Hid (needsB n xs = false) := Lib.hid (by simp [needsB, hB])
    go_enter Try.func29, Try.ntmps29
    go_wp2_with fail
    refine (sl16Ok A n c xs 8 _ HN.out HX.out).mono ?_
    rintro _ _ ⟨rfl, rfl⟩
    rw [hB]
    go_wp2
    go_ret
    exact Val.mk' (v_bool HV.out.symm) (by (repeat (first | exact In.refl _ | assumption | apply In.alloc | apply In.drewN | apply In.drew | (refine In.step ?_ (by assumption)))))
  obtain ⟨h8, hr⟩ := doughs_at hB
  have HR := Lib.hid hr
  have HW : Hid (needsB n xs = allOk (rowB xs) n) := Lib.hid (by simp [needsB, hB])
  clear hr
  go_enter Try.func29, Try.ntmps29
  go_wp2_with fail
  refine (sl16Ok A n c xs 8 _ HN.out HX.out).mono ?_
  rintro _ _ ⟨rfl, rfl⟩
  rw [hB]
  clear hB
  go_wp2
  go_loopw [3] (fun i wr => ∃ k : Nat, k ≤ n ∧ i = .int .i64 k ∧ (∀ i, i < k → rowB xs i = true) ∧ In w.heap.size w wr) (fun i _ => n - (intOf i).toNat)
  case atStart => exact ⟨0, Nat.zero_le _, rfl, fun i hi => absurd hi (Nat.not_lt_zero _), by (repeat (first | exact In.refl _ | assumption | apply In.alloc | apply In.drewN | apply In.drew | (refine In.step ?_ (by assumption))))⟩
  case round =>
    obtain ⟨i, hi, rfl, ho, hiw⟩ := hrel
    have HO := Lib.hid ho
    clear ho
    obtain ⟨wo, rfl⟩ : ∃ wo : World, wo = wr := ⟨_, rfl⟩
    by_cases hlt : i < n
    · go_wp2
      go_loopw [4] (fun j wr => ∃ k : Nat, k ≤ i ∧ j = .int .i64 k ∧ (∀ j, j < k → pairB xs i j = true) ∧ In w.heap.size w wr) (fun j _ => i - (intOf j).toNat)
      case atStart => exact ⟨0, Nat.zero_le _, rfl, fun j hj => absurd hj (Nat.not_lt_zero _), by (repeat (first | exact In.refl _ | assumption | apply In.alloc | apply In.drewN | apply In.drew | (refine In.step ?_ (by assumption))))⟩
      case round =>
        clear hiw
        obtain ⟨k, hk, rfl, hp, hiw⟩ := hrel
        have HP := Lib.hid hp
        clear hp
        by_cases hki : k < i
        · have hkn : k < n := by omega
          obtain ⟨a, rfl, ha⟩ := (HX.out.step (In.below hiw)).2 i hlt
          obtain ⟨a2, ea, hb⟩ := (HX.out.step (In.below hiw)).2 k hkn
          obtain rfl : a = a2 := Option.some.inj ea
          have hx0 := HR.out i hlt
          have hy0 := HR.out k hkn
          have HK : Hid (pairB xs i k = (hasB (xs.getD i 0) (xs.getD k 0) || hasB (xs.getD k 0) (xs.getD i 0))) := Lib.hid rfl
          generalize xs.getD i 0 = x at ha hx0 HK
          generalize xs.getD k 0 = y at hb hy0 HK
          have HK2 : Hid (pairB xs i k = (decide (bits .or .i64 x y = x) || decide (bits .or .i64 x y = y))) := Lib.hid (by rw [HK.out, hasB_or (by omega), hasB_or' (by omega)])
          clear HK hx0 hy0
          by_cases h1 : bits .or .i64 x y = x
          · have HT : Hid (pairB xs i k = true) := Lib.hid (by rw [HK2.out]; simp [h1])
            clear HK2
            go_wp2
            go_quiet (fail)
            go_wp2
            go_roundw
            case rel => exact ⟨k + 1, by omega, by go_num, fun j hj => by
                  by_cases e : j = k
                  · subst e; exact HT.out
                  · exact HP.out j (by omega), by (repeat (first | exact In.refl _ | assumption | apply In.alloc | apply In.drewN | apply In.drew | (refine In.step ?_ (by assumption))))⟩
            case measure => simp [intOf]; omega
          by_cases h2 : bits .or .i64 x y = y
          · have HT : Hid (pairB xs i k = true) := Lib.hid (by rw [HK2.out]; simp [h2])
            clear HK2
            go_wp2
            go_quiet (fail)
            go_wp2
            go_roundw
            case rel => exact ⟨k + 1, by omega, by go_num, fun j hj => by
                  by_cases e : j = k
                  · subst e; exact HT.out
                  · exact HP.out j (by omega), by (repeat (first | exact In.refl _ | assumption | apply In.alloc | apply In.drewN | apply In.drew | (refine In.step ?_ (by assumption))))⟩
            case measure => simp [intOf]; omega
          have HF : Hid (needsB n xs = false) := Lib.hid (needs_f i k hlt hki (by rw [HK2.out]; simp [h1, h2]))
          clear HK2
          have g1 : (bits .or .i64 x y != x) = true := by simp [h1]
          have g2 : (bits .or .i64 x y != y) = true := by simp [h2]
          go_wp2
          go_quiet (fail)
          go_wp2
          go_ret
          exact Val.mk' (v_bool HF.out.symm) (by (repeat (first | exact In.refl _ | assumption | apply In.alloc | apply In.drewN | apply In.drew | (refine In.step ?_ (by assumption)))))
        · obtain rfl : k = i := by omega
          have HT : Hid (rowB xs k = true) := Lib.hid (allOk_t _ _ HP.out)
          go_wp2
          go_roundw
          case rel => exact ⟨k + 1, by omega, by go_num, fun j hj => by
                by_cases e : j = k
                · subst e; exact HT.out
                · exact HO.out j (by omega), by (repeat (first | exact In.refl _ | assumption | apply In.alloc | apply In.drewN | apply In.drew | (refine In.step ?_ (by assumption))))⟩
          case measure => simp [intOf]; omega
    · obtain rfl : i = n := by omega
      go_wp2
      go_ret
      exact Val.mk' (v_bool (by rw [HW.out, allOk_t _ _ HO.out])) (by (repeat (first | exact In.refl _ | assumption | apply In.alloc | apply In.drewN | apply In.drew | (refine In.step ?_ (by assumption)))))
set_option maxHeartbeats 2000000 in
theorem iNeedsNoCleaning (A : Option Addr) (n c : Nat) (xs : List Int) (w : World) (hn : n ≤ maxLen) (hx : ReadsI w A n xs) (hc : n ≤ c := by omega) : Calls Try.prog 18 #[.slice A n c] w (Val (.bool (needsB n xs)) w) := by
  have HX := Lib.hid hx
  have HN := Lib.hid hn
  clear hx hn
  cases hB : doughsB n xs 8
  · have HV : Hid (needsB n xs = false) := Lib.hid (by simp [needsB, hB])
    go_enter Try.func18, Try.ntmps18
    go_wp2_with fail
    refine (idayOk A n c xs _ HN.out HX.out).mono ?_
    rintro _ _ ⟨rfl, rfl⟩
    rw [hB]
    go_wp2
    go_ret
    exact Val.mk' (v_bool HV.out.symm) (by (repeat (first | exact In.refl _ | assumption | apply In.alloc | apply In.drewN | apply In.drew | (refine In.step ?_ (by assumption)))))
  obtain ⟨h8, hr⟩ := doughs_at hB
  have HR := Lib.hid hr
  have HW : Hid (needsB n xs = allOk (rowB xs) n) := Lib.hid (by simp [needsB, hB])
  clear hr
  go_enter Try.func18, Try.ntmps18
  go_wp2_with fail
  refine (idayOk A n c xs _ HN.out HX.out).mono ?_
  rintro _ _ ⟨rfl, rfl⟩
  rw [hB]
  clear hB
  go_wp2
  go_loopw [12] (fun i wr => ∃ k : Nat, k ≤ n ∧ i = .int .i64 k ∧ (∀ i, i < k → rowB xs i = true) ∧ In w.heap.size w wr) (fun i _ => n - (intOf i).toNat)
  case atStart => exact ⟨0, Nat.zero_le _, rfl, fun i hi => absurd hi (Nat.not_lt_zero _), by (repeat (first | exact In.refl _ | assumption | apply In.alloc | apply In.drewN | apply In.drew | (refine In.step ?_ (by assumption))))⟩
  case round =>
    obtain ⟨i, hi, rfl, ho, hiw⟩ := hrel
    have HO := Lib.hid ho
    clear ho
    obtain ⟨wo, rfl⟩ : ∃ wo : World, wo = wr := ⟨_, rfl⟩
    by_cases hlt : i < n
    · obtain ⟨a, rfl, ha⟩ := (HX.out.step (In.below hiw)).2 i hlt
      have HXI : Hid (xs.getD i 0 = xs.getD i 0) := Lib.hid rfl
      generalize hxe : xs.getD i 0 = x at ha
      have HXE := Lib.hid hxe
      clear hxe HXI
      have hic : i ≤ c := by omega
      go_wp2
      go_loopw [21] (fun j wr => ∃ k : Nat, k ≤ i ∧ j = .int .i64 k ∧ (∀ j, j < k → pairB xs i j = true) ∧ In w.heap.size w wr) (fun j _ => i - (intOf j).toNat)
      case atStart => exact ⟨0, Nat.zero_le _, rfl, fun j hj => absurd hj (Nat.not_lt_zero _), by (repeat (first | exact In.refl _ | assumption | apply In.alloc | apply In.drewN | apply In.drew | (refine In.step ?_ (by assumption))))⟩
      case round =>
        clear hiw ha
        obtain ⟨k, hk, rfl, hp, hiw⟩ := hrel
        have HP := Lib.hid hp
        clear hp
        by_cases hki : k < i
        · have hkn : k < n := by omega
          obtain ⟨a2, ea, hb⟩ := (HX.out.step (In.below hiw)).2 k hkn
          obtain rfl : a = a2 := Option.some.inj ea
          have HK : Hid (pairB xs i k = (hasB x (xs.getD k 0) || hasB (xs.getD k 0) x)) := Lib.hid (by rw [← HXE.out]; rfl)
          generalize xs.getD k 0 = y at hb HK
          cases h1 : hasB x y <;> cases h2 : hasB y x
          case false.false =>
            have HF : Hid (needsB n xs = false) := Lib.hid (needs_f i k hlt hki (by rw [HK.out]; simp [h1, h2]))
            clear HK
            go_wp2_with (first | (go_at_call 47; refine (sIn _ _ _ _).mono ?_; rintro e w' ⟨rfl, rfl⟩) | (go_at_call 53; refine (iIn _ _ _ _).mono ?_; rintro e w' ⟨rfl, rfl⟩) | (go_at_call 44; refine (icontains _ _ _).mono ?_; rintro _ _ ⟨rfl, rfl⟩; first | rw [h1] | rw [h2]) | go_in | (go_end0; simp only []; go_at_K))
            go_ret
            exact Val.mk' (v_bool HF.out.symm) (by (repeat (first | exact In.refl _ | assumption | apply In.alloc | apply In.drewN | apply In.drew | (refine In.step ?_ (by assumption)))))
          all_goals
            have HT : Hid (pairB xs i k = true) := Lib.hid (by rw [HK.out]; simp [h1, h2])
            clear HK
            go_wp2_with (first | (go_at_call 47; refine (sIn _ _ _ _).mono ?_; rintro e w' ⟨rfl, rfl⟩) | (go_at_call 53; refine (iIn _ _ _ _).mono ?_; rintro e w' ⟨rfl, rfl⟩) | (go_at_call 44; refine (icontains _ _ _).mono ?_; rintro _ _ ⟨rfl, rfl⟩; first | rw [h1] | rw [h2]) | go_in | (go_end0; simp only []; go_at_K))
            go_roundw
            case rel => exact ⟨k + 1, by omega, by go_num, fun j hj => by
                  by_cases e : j = k
                  · subst e; exact HT.out
                  · exact HP.out j (by omega), by (repeat (first | exact In.refl _ | assumption | apply In.alloc | apply In.drewN | apply In.drew | (refine In.step ?_ (by assumption))))⟩
            case measure => simp [intOf]; omega
        · obtain rfl : k = i := by omega
          have HT : Hid (rowB xs k = true) := Lib.hid (allOk_t _ _ HP.out)
          go_wp2
          go_roundw
          case rel => exact ⟨k + 1, by omega, by go_num, fun j hj => by
                by_cases e : j = k
                · subst e; exact HT.out
                · exact HO.out j (by omega), by (repeat (first | exact In.refl _ | assumption | apply In.alloc | apply In.drewN | apply In.drew | (refine In.step ?_ (by assumption))))⟩
          case measure => simp [intOf]; omega
    · obtain rfl : i = n := by omega
      go_wp2
      go_ret
      exact Val.mk' (v_bool (by rw [HW.out, allOk_t _ _ HO.out])) (by (repeat (first | exact In.refl _ | assumption | apply In.alloc | apply In.drewN | apply In.drew | (refine In.step ?_ (by assumption)))))
end Go.Proofs.Ytlilmpclkhmkoad
