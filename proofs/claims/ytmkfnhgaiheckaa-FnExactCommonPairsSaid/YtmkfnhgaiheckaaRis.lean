/- Strictly ascending rows of numbers in a range. -/
import Derived.Test.YtmkfnhgaiheckaaIn
import Derived.Test.YtmkfnhgaiheckaaIntR
import Derived.Test.YtmkfnhgaiheckaaSum
import Derived.Test.YtmkfnhgaiheckaaAll
import Derived.Test.YtmkfnhgaiheckaaQuiet
import Derived.BigQuiet
import Derived.Deep.QuietTactic
namespace Go.Proofs.Ytmkfnhgaiheckaa
open Go.ChangeShapes Go.WideShapes Go.ChangeAt Go.RowKit
set_option linter.unusedVariables false
set_option linter.unusedSimpArgs false
set_option maxHeartbeats 2000000

def prevLt (xs : List Int) : Nat → Bool
  | 0 => true
  | j + 1 => decide (xs.getD j 0 < xs.getD (j + 1) 0)
theorem prevLt0 (xs : List Int) (i : Nat) (h : i < 1) : prevLt xs i = true := by
  obtain rfl : i = 0 := by omega
  rfl
def ascB (xs : List Int) (n : Nat) : Bool := allOk (prevLt xs) n
def risAt (xs : List Int) (lo hi : Int) (i : Nat) : Bool := inAt xs lo hi i && prevLt xs i
def risB (xs : List Int) (lo hi : Int) (n : Nat) : Bool := allOk (risAt xs lo hi) n
theorem risB_eq (xs : List Int) (lo hi : Int) (n : Nat) : risB xs lo hi n = (ascB xs n && allIn xs lo hi n) := by
  unfold risB ascB allIn
  induction n with
  | zero => rfl
  | succ n ih =>
    simp only [allOk, ih, risAt]
    cases allOk (prevLt xs) n <;> cases prevLt xs n <;> cases allOk (inAt xs lo hi) n <;> cases inAt xs lo hi n <;> rfl
theorem risB_in {xs : List Int} {lo hi : Int} {n : Nat} (h : risB xs lo hi n = true) : ∀ i, i < n → lo ≤ xs.getD i 0 ∧ xs.getD i 0 ≤ hi := fun i hi' => by
  have := allOk_at _ _ h i hi'
  simp only [risAt, Bool.and_eq_true] at this
  exact inB_tt this.1
theorem risB_lt {xs : List Int} {lo hi : Int} {n : Nat} (h : risB xs lo hi n = true) : ∀ j i, i < j → j < n → xs.getD i 0 < xs.getD j 0 := by
  intro j
  induction j with
  | zero => intro i hi; omega
  | succ j ih =>
    intro i hi hj
    have h1 := allOk_at _ _ h (j + 1) hj
    simp only [risAt, Bool.and_eq_true, prevLt, decide_eq_true_eq] at h1
    by_cases e : i = j
    · subst e; exact h1.2
    · exact Int.lt_trans (ih i (by omega) (by omega)) h1.2
theorem risB_len {xs : List Int} {lo hi : Int} {n : Nat} (h : risB xs lo hi n = true) (hlo : lo ≤ hi) : (n : Int) ≤ hi - lo + 1 := by
  have hk : ∀ k, k < n → lo + k ≤ xs.getD k 0 := by
    intro k
    induction k with
    | zero => intro hk; have := risB_in h 0 hk; omega
    | succ k ih =>
      intro hk
      have := ih (by omega)
      have := risB_lt h (k + 1) k (by omega) hk
      omega
  cases n with
  | zero => omega
  | succ m =>
    have := hk m (by omega)
    have := risB_in h m (by omega)
    omega
set_option maxHeartbeats 2000000 in
theorem sRising (A : Option Addr) (n c : Nat) (xs : List Int) (lo hi : Int) (w : World) (hn : n ≤ maxLen) (hx : ReadsI w A n xs) : Calls Try.prog 171 #[.slice A n c, .int .i64 lo, .int .i64 hi] w (Val (.bool (risB xs lo hi n)) w) := by
  unfold maxLen at hn
  go_enter Try.func171, Try.ntmps171
  go_wp2
  go_loopw [7] (fun i wr => ∃ k : Nat, k ≤ n ∧ i = .int .i64 k ∧ (∀ i, i < k → risAt xs lo hi i = true) ∧ In w.heap.size w wr) (fun i _ => n - (intOf i).toNat)
  case atStart => exact ⟨0, Nat.zero_le _, rfl, fun i hi => absurd hi (Nat.not_lt_zero _), by (repeat (first | exact In.refl _ | assumption | apply In.alloc | apply In.drewN | apply In.drew | (refine In.step ?_ (by assumption))))⟩
  case round =>
    obtain ⟨k, hk, rfl, ho, hI⟩ := hrel
    have HO := Lib.hid ho
    clear ho
    by_cases hlt : k < n
    · obtain ⟨a, rfl, ha⟩ := (hx.below hI.below (Nat.le_refl _)).2 k hlt
      have HK : Hid (risAt xs lo hi k = (inB (xs.getD k 0) lo hi && prevLt xs k)) := Lib.hid rfl
      generalize hx0 : xs.getD k 0 = x at ha HK
      have HX := Lib.hid hx0
      clear hx0
      cases h1 : inB x lo hi
      · have HF : Hid (risB xs lo hi n = false) := Lib.hid (allOk_f _ _ k hlt (by rw [HK.out, h1]; rfl))
        clear HK
        go_wp2
        go_quiet ((go_at_call 95; exact (sIn _ _ _ _).mono (by rintro e w2 ⟨rfl, rfl⟩; first | exact ⟨by rw [h1], _, rfl⟩ | exact ⟨rfl, _, rfl⟩)))
        go_wp2
        go_ret
        exact Val.mk' (v_bool HF.out.symm) (by (repeat (first | exact In.refl _ | assumption | apply In.alloc | apply In.drewN | apply In.drew | (refine In.step ?_ (by assumption)))))
      rcases Nat.eq_zero_or_pos k with h0 | h0
      · have HT : Hid (risAt xs lo hi k = true) := Lib.hid (by rw [HK.out, h1, h0]; rfl)
        have h0' : ¬ 0 < k := by omega
        clear HK h0
        go_wp2
        go_quiet ((go_at_call 95; exact (sIn _ _ _ _).mono (by rintro e w2 ⟨rfl, rfl⟩; first | exact ⟨by rw [h1], _, rfl⟩ | exact ⟨rfl, _, rfl⟩)))
        go_wp2
        go_roundw
        case rel => exact ⟨k + 1, by omega, by go_num, fun i hi => by
            by_cases e : i = k
            · subst e; exact HT.out
            · exact HO.out i (by omega), by (repeat (first | exact In.refl _ | assumption | apply In.alloc | apply In.drewN | apply In.drew | (refine In.step ?_ (by assumption))))⟩
        case measure => simp [intOf]; omega
      · obtain ⟨m, hmk⟩ : ∃ m, k = m + 1 := ⟨k - 1, by omega⟩
        obtain ⟨a2, ea, hb0⟩ := (hx.below hI.below (Nat.le_refl _)).2 m (by omega)
        obtain rfl : a = a2 := Option.some.inj ea
        have hm1 : (k : Int) - 1 = (m : Int) := by omega
        have hm2 : wrap64 ((k : Int) - 1) = (m : Int) := by rw [hm1]; exact w64 (by omega)
        have hm3 : IntKind.i64.wrap ((k : Int) - 1) = (m : Int) := by rw [hm1]; exact IntWalk.i64_in _ (by omega)
        have hmn : m < n := by omega
        have HP : Hid (prevLt xs k = decide (xs.getD m 0 < x)) := Lib.hid (by rw [← HX.out, hmk]; rfl)
        clear hmk hm1
        generalize xs.getD m 0 = y at hb0 HP
        by_cases hle : x ≤ y
        · have HF : Hid (risB xs lo hi n = false) := Lib.hid (allOk_f _ _ k hlt (by rw [HK.out, HP.out, h1]; simp; omega))
          clear HK HP
          go_wp2
          go_quiet ((go_at_call 95; exact (sIn _ _ _ _).mono (by rintro e w2 ⟨rfl, rfl⟩; first | exact ⟨by rw [h1], _, rfl⟩ | exact ⟨rfl, _, rfl⟩)))
          go_wp2
          go_ret
          exact Val.mk' (v_bool HF.out.symm) (by (repeat (first | exact In.refl _ | assumption | apply In.alloc | apply In.drewN | apply In.drew | (refine In.step ?_ (by assumption)))))
        · have HT : Hid (risAt xs lo hi k = true) := Lib.hid (by rw [HK.out, HP.out, h1]; simp; omega)
          clear HK HP
          go_wp2
          go_quiet ((go_at_call 95; exact (sIn _ _ _ _).mono (by rintro e w2 ⟨rfl, rfl⟩; first | exact ⟨by rw [h1], _, rfl⟩ | exact ⟨rfl, _, rfl⟩)))
          go_wp2
          go_roundw
          case rel => exact ⟨k + 1, by omega, by go_num, fun i hi => by
              by_cases e : i = k
              · subst e; exact HT.out
              · exact HO.out i (by omega), by (repeat (first | exact In.refl _ | assumption | apply In.alloc | apply In.drewN | apply In.drew | (refine In.step ?_ (by assumption))))⟩
          case measure => simp [intOf]; omega
    · obtain rfl : k = n := by omega
      go_wp2
      go_ret
      exact Val.mk' (v_bool (allOk_t _ _ HO.out).symm) (by (repeat (first | exact In.refl _ | assumption | apply In.alloc | apply In.drewN | apply In.drew | (refine In.step ?_ (by assumption)))))
set_option maxHeartbeats 2000000 in
theorem iAsc (A : Option Addr) (n c : Nat) (xs : List Int) (w : World) (hn : n ≤ maxLen) (hx : ReadsI w A n xs) : Calls Try.prog 186 #[.slice A n c] w (Val (.bool (ascB xs n)) w) := by
  unfold maxLen at hn
  go_enter Try.func186, Try.ntmps186
  go_wp2
  go_loopw [3] (fun i wr => ∃ k : Nat, 1 ≤ k ∧ (k ≤ n ∨ k = 1) ∧ i = .int .i64 k ∧ (∀ i, i < k → prevLt xs i = true) ∧ In w.heap.size w wr) (fun i _ => n - (intOf i).toNat)
  case atStart => exact ⟨1, Nat.le_refl _, .inr rfl, rfl, fun i hi => prevLt0 xs i hi, by (repeat (first | exact In.refl _ | assumption | apply In.alloc | apply In.drewN | apply In.drew | (refine In.step ?_ (by assumption))))⟩
  case round =>
    obtain ⟨k, h0, hk, rfl, ho, hI⟩ := hrel
    have HO := Lib.hid ho
    clear ho
    by_cases hlt : k < n
    · obtain ⟨a, rfl, ha⟩ := (hx.below hI.below (Nat.le_refl _)).2 k hlt
      obtain ⟨m, hmk⟩ : ∃ m, k = m + 1 := ⟨k - 1, by omega⟩
      obtain ⟨a2, ea, hb0⟩ := (hx.below hI.below (Nat.le_refl _)).2 m (by omega)
      obtain rfl : a = a2 := Option.some.inj ea
      have hm1 : (k : Int) - 1 = (m : Int) := by omega
      have hm2 : wrap64 ((k : Int) - 1) = (m : Int) := by rw [hm1]; exact w64 (by omega)
      have hm3 : IntKind.i64.wrap ((k : Int) - 1) = (m : Int) := by rw [hm1]; exact IntWalk.i64_in _ (by omega)
      have hmn : m < n := by omega
      have HP : Hid (prevLt xs k = decide (xs.getD m 0 < xs.getD k 0)) := Lib.hid (by rw [hmk]; rfl)
      clear hmk hm1
      generalize xs.getD m 0 = y at hb0 HP
      generalize xs.getD k 0 = x at ha HP
      by_cases hle : x ≤ y
      · have HF : Hid (ascB xs n = false) := Lib.hid (allOk_f _ _ k hlt (by rw [HP.out]; simp; omega))
        clear HP
        go_wp2
        go_quiet (fail)
        go_wp2
        go_ret
        exact Val.mk' (v_bool HF.out.symm) (by (repeat (first | exact In.refl _ | assumption | apply In.alloc | apply In.drewN | apply In.drew | (refine In.step ?_ (by assumption)))))
      · have HT : Hid (prevLt xs k = true) := Lib.hid (by rw [HP.out]; simp; omega)
        clear HP
        go_wp2
        go_quiet (fail)
        go_wp2
        go_roundw
        case rel => exact ⟨k + 1, by omega, by omega, by go_num, fun i hi => by
            by_cases e : i = k
            · subst e; exact HT.out
            · exact HO.out i (by omega), by (repeat (first | exact In.refl _ | assumption | apply In.alloc | apply In.drewN | apply In.drew | (refine In.step ?_ (by assumption))))⟩
        case measure => simp [intOf]; omega
    · have HE : Hid (∀ i, i < n → prevLt xs i = true) := Lib.hid fun i hi => HO.out i (by omega)
      go_wp2
      go_ret
      exact Val.mk' (v_bool (allOk_t _ _ HE.out).symm) (by (repeat (first | exact In.refl _ | assumption | apply In.alloc | apply In.drewN | apply In.drew | (refine In.step ?_ (by assumption)))))
end Go.Proofs.Ytmkfnhgaiheckaa
