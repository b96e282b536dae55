/- Chapter 21: ShopsOk. -/
import Derived.Test.YtmkfnhgaiheckaaIn
import Derived.Test.YtmkfnhgaiheckaaSShop
import Derived.Test.YtmkfnhgaiheckaaSum
import Derived.Test.YtmkfnhgaiheckaaQuiet
import Derived.Deep.RegionHeld3
import Derived.BigQuiet
import Derived.Deep.QuietTactic
namespace Go.Proofs.Ytmkfnhgaiheckaa
open Go.ChangeShapes Go.WideShapes Go.ChangeAt Go.RowKit
set_option linter.unusedVariables false
set_option linter.unusedSimpArgs false

abbrev z21 : ShopR := ⟨0, 0⟩
def shPre (xs : List ShopR) : Nat → Int
  | 0 => 0
  | i + 1 => (xs.getD i z21).f0
def shB (p a b : Int) : Bool := inB a (p + 1) 1000 && inB b 1 100
def spOk (xs : List ShopR) (i : Nat) : Bool := shB (shPre xs i) (xs.getD i z21).f0 (xs.getD i z21).f1
def shopsB (n : Nat) (xs : List ShopR) : Bool := decide (n ≤ 10) && allOk (spOk xs) n
theorem shops_f {n : Nat} {xs : List ShopR} (k : Nat) (hk : k < n) (h : spOk xs k = false) : shopsB n xs = false := by simp [shopsB, allOk_f _ _ k hk h]
theorem shops_n {n : Nat} {xs : List ShopR} (h : ∀ i, i < n → spOk xs i = true) : shopsB n xs = decide (n ≤ 10) := by simp [shopsB, allOk_t _ _ h]
theorem shops_at {n : Nat} {xs : List ShopR} (h : shopsB n xs = true) : n ≤ 10 ∧ ∀ i, i < n → spOk xs i = true := by
  simp only [shopsB, Bool.and_eq_true, decide_eq_true_eq] at h
  exact ⟨h.1, fun i hi => allOk_at _ _ h.2 i hi⟩
theorem shB_in {p a b : Int} (h : shB p a b = true) : p + 1 ≤ a ∧ a ≤ 1000 ∧ 1 ≤ b ∧ b ≤ 100 := by
  simp only [shB, Bool.and_eq_true] at h
  have h1 := inB_tt h.1
  have h2 := inB_tt h.2
  omega
theorem shPre_in {xs : List ShopR} : ∀ k : Nat, (∀ i, i < k → spOk xs i = true) → 0 ≤ shPre xs k ∧ shPre xs k ≤ 1000
  | 0, _ => by simp [shPre]
  | k + 1, h => by
      have h1 := shPre_in k fun i hi => h i (by omega)
      have h2 := shB_in (h k (by omega))
      simp only [shPre]
      omega
theorem shB_f1 {p a b : Int} (hp : 0 ≤ p) (h : inB a 1 1000 = false) : shB p a b = false := by
  have := inB_ff h
  simp only [shB, Bool.and_eq_false_imp]
  intro h2
  have := inB_tt h2
  omega
theorem shB_f3 {p a b : Int} (h : a ≤ p) : shB p a b = false := by
  simp only [shB, Bool.and_eq_false_imp]
  intro h2
  have := inB_tt h2
  omega
theorem shB_t {p a b : Int} (h : p < a) (h1 : inB a 1 1000 = true) (h2 : inB b 1 100 = true) : shB p a b = true := by
  have := inB_tt h1
  simp only [shB, Bool.and_eq_true]
  exact ⟨inB_t (by omega), h2⟩
set_option maxHeartbeats 2000000 in
theorem sShopsOk (A : Option Addr) (n c : Nat) (xs : List ShopR) (w : World) (hn : n ≤ maxLen) (hx : ReadsShop w A n xs) : Calls Try.prog 156 #[.slice A n c] w (Val (.bool (shopsB n xs)) w) := by
  unfold maxLen at hn
  go_enter Try.func156, Try.ntmps156
  go_wp2
  go_loopw [3] (fun i wr => ∃ k : Nat, k ≤ n ∧ i = .int .i64 k ∧ (∀ i, i < k → spOk xs i = true) ∧ In w.heap.size w wr) (fun i _ => n - (intOf i).toNat)
  case atStart => exact ⟨0, Nat.zero_le _, rfl, fun i hi => absurd hi (Nat.not_lt_zero _), by (repeat (first | exact In.refl _ | assumption | apply In.alloc | apply In.drewN | apply In.drew | (refine In.step ?_ (by assumption))))⟩
  case round =>
    obtain ⟨k, hk, rfl, ho, hi⟩ := hrel
    have HO := Lib.hid ho
    clear ho
    by_cases hlt : k < n
    · obtain ⟨a, rfl, ha0, ha1⟩ := (hx.in_ hi).2 k hlt
      have hp := (shPre_in k HO.out).1
      have HK : Hid (spOk xs k = shB (shPre xs k) (xs.getD k z21).f0 (xs.getD k z21).f1) := Lib.hid rfl
      generalize xs.getD k z21 = x at ha0 ha1 HK
      obtain ⟨x0, x1⟩ := x
      simp only at ha0 ha1 HK
      cases h1 : inB x0 1 1000
      · have HF : Hid (shopsB n xs = false) := Lib.hid (shops_f k hlt (by rw [HK.out]; exact shB_f1 hp h1))
        clear HK hp
        go_wp2
        go_quiet ((go_at_call 95; exact (sIn _ _ _ _).mono (by rintro e w2 ⟨rfl, rfl⟩; first | exact ⟨by rw [h1], _, rfl⟩ | exact ⟨rfl, _, rfl⟩)))
        go_wp2
        go_ret
        exact Val.mk' (v_bool HF.out.symm) (by (repeat (first | exact In.refl _ | assumption | apply In.alloc | apply In.drewN | apply In.drew | (refine In.step ?_ (by assumption)))))
      cases h2 : inB x1 1 100
      · have HF : Hid (shopsB n xs = false) := Lib.hid (shops_f k hlt (by rw [HK.out]; simp [shB, h2]))
        clear HK hp
        go_wp2
        go_quiet ((go_at_call 95; exact (sIn _ _ _ _).mono (by rintro e w2 ⟨rfl, rfl⟩; first | exact ⟨by rw [h1], _, rfl⟩ | exact ⟨by rw [h2], _, rfl⟩)))
        go_wp2
        go_ret
        exact Val.mk' (v_bool HF.out.symm) (by (repeat (first | exact In.refl _ | assumption | apply In.alloc | apply In.drewN | apply In.drew | (refine In.step ?_ (by assumption)))))
      rcases Nat.eq_zero_or_pos k with h0 | h0
      · have HT : Hid (spOk xs k = true) := Lib.hid (by
          have := inB_tt h1
          rw [HK.out]; exact shB_t (by rw [h0]; simp only [shPre]; omega) h1 h2)
        have h0' : ¬ 0 < k := by omega
        clear HK hp h0
        go_wp2
        go_quiet ((go_at_call 95; exact (sIn _ _ _ _).mono (by rintro e w2 ⟨rfl, rfl⟩; first | exact ⟨by rw [h1], _, rfl⟩ | exact ⟨by rw [h2], _, rfl⟩)))
        go_wp2
        go_roundw
        case rel => exact ⟨k + 1, by omega, by go_num, fun i hi => by
              by_cases e : i = k
              · subst e; exact HT.out
              · exact HO.out i (by omega), by (repeat (first | exact In.refl _ | assumption | apply In.alloc | apply In.drewN | apply In.drew | (refine In.step ?_ (by assumption))))⟩
        case measure => simp [intOf]; omega
      · obtain ⟨m, hmk⟩ : ∃ m, k = m + 1 := ⟨k - 1, by omega⟩
        obtain ⟨a2, ea, hb0, hb1⟩ := (hx.in_ hi).2 m (by omega)
        obtain rfl : a = a2 := Option.some.inj ea
        have HP : Hid (shPre xs k = (xs.getD m z21).f0) := Lib.hid (by rw [hmk]; rfl)
        have hm1 : (k : Int) - 1 = (m : Int) := by omega
        have hm2 : wrap64 ((k : Int) - 1) = (m : Int) := by rw [hm1]; exact w64 (by omega)
        have hm3 : IntKind.i64.wrap ((k : Int) - 1) = (m : Int) := by rw [hm1]; exact IntWalk.i64_in _ (by omega)
        have hmn : m < n := by omega
        clear hmk hm1 hp hb1
        generalize xs.getD m z21 = y at hb0 HP
        obtain ⟨y0, y1⟩ := y
        simp only at hb0 HP
        by_cases hle : x0 ≤ y0
        · have HF : Hid (shopsB n xs = false) := Lib.hid (shops_f k hlt (by rw [HK.out]; exact shB_f3 (by rw [HP.out]; exact hle)))
          clear HK HP
          go_wp2
          go_quiet ((go_at_call 95; exact (sIn _ _ _ _).mono (by rintro e w2 ⟨rfl, rfl⟩; first | exact ⟨by rw [h1], _, rfl⟩ | exact ⟨by rw [h2], _, rfl⟩)))
          go_wp2
          go_ret
          exact Val.mk' (v_bool HF.out.symm) (by (repeat (first | exact In.refl _ | assumption | apply In.alloc | apply In.drewN | apply In.drew | (refine In.step ?_ (by assumption)))))
        · have HT : Hid (spOk xs k = true) := Lib.hid (by rw [HK.out]; exact shB_t (by rw [HP.out]; omega) h1 h2)
          clear HK HP
          go_wp2
          go_quiet ((go_at_call 95; exact (sIn _ _ _ _).mono (by rintro e w2 ⟨rfl, rfl⟩; first | exact ⟨by rw [h1], _, rfl⟩ | exact ⟨by rw [h2], _, rfl⟩)))
          go_wp2
          go_roundw
          case rel => exact ⟨k + 1, by omega, by go_num, fun i hi => by
                by_cases e : i = k
                · subst e; exact HT.out
                · exact HO.out i (by omega), by (repeat (first | exact In.refl _ | assumption | apply In.alloc | apply In.drewN | apply In.drew | (refine In.step ?_ (by assumption))))⟩
          case measure => simp [intOf]; omega
    · obtain rfl : k = n := by omega
      go_wp2
      go_ret
      exact Val.mk' (v_bool (by rw [shops_n HO.out]; simp; omega)) (by (repeat (first | exact In.refl _ | assumption | apply In.alloc | apply In.drewN | apply In.drew | (refine In.step ?_ (by assumption)))))
set_option maxHeartbeats 2000000 in
theorem iShopsOk (A : Option Addr) (n c : Nat) (xs : List ShopR) (w : World) (hn : n ≤ maxLen) (hx : ReadsShop w A n xs) : Calls Try.prog 195 #[.slice A n c] w (Val (.bool (shopsB n xs)) w) := by
  unfold maxLen at hn
  by_cases h10 : n ≤ 10
  · go_enter Try.func195, Try.ntmps195
    go_wp2
    go_loopw [3, 11] (fun b i wr => ∃ k : Nat, k ≤ n ∧ i = .int .i64 k ∧ b = .int .i64 (shPre xs k) ∧ (∀ i, i < k → spOk xs i = true) ∧ In w.heap.size w wr) (fun _ i _ => n - (intOf i).toNat)
    case atStart => exact ⟨0, Nat.zero_le _, rfl, rfl, fun i hi => absurd hi (Nat.not_lt_zero _), by (repeat (first | exact In.refl _ | assumption | apply In.alloc | apply In.drewN | apply In.drew | (refine In.step ?_ (by assumption))))⟩
    case round =>
      obtain ⟨k, hk, rfl, rfl, ho, hi⟩ := hrel
      have HO := Lib.hid ho
      clear ho
      by_cases hlt : k < n
      · obtain ⟨a, rfl, ha0, ha1⟩ := (hx.in_ hi).2 k hlt
        have hp := shPre_in k HO.out
        have HK : Hid (spOk xs k = shB (shPre xs k) (xs.getD k z21).f0 (xs.getD k z21).f1) := Lib.hid rfl
        have HP : Hid (shPre xs (k + 1) = (xs.getD k z21).f0) := Lib.hid rfl
        generalize xs.getD k z21 = x at ha0 ha1 HK HP
        obtain ⟨x0, x1⟩ := x
        simp only at ha0 ha1 HK HP
        generalize shPre xs k = p at hp HK ⊢
        obtain ⟨p1, p2⟩ := hp
        have W1 : IntKind.i64.wrap (p + 1) = p + 1 := IntWalk.i64_in _ (by omega)
        cases h1 : inB x0 (p + 1) 1000
        · have HF : Hid (shopsB n xs = false) := Lib.hid (shops_f k hlt (by rw [HK.out]; simp [shB, h1]))
          go_wp2_with (first | (go_at_call 95; refine (sIn _ _ _ _).mono ?_; rintro e w' ⟨rfl, rfl⟩) | (go_at_call 105; refine (iIn _ _ _ _).mono ?_; rintro e w' ⟨rfl, rfl⟩) | go_in | (go_end0; simp only []; go_at_K))
          go_ret
          exact Val.mk' (v_bool HF.out.symm) (by (repeat (first | exact In.refl _ | assumption | apply In.alloc | apply In.drewN | apply In.drew | (refine In.step ?_ (by assumption)))))
        cases h2 : inB x1 1 100
        · have HF : Hid (shopsB n xs = false) := Lib.hid (shops_f k hlt (by rw [HK.out]; simp [shB, h2]))
          go_wp2_with (first | (go_at_call 95; refine (sIn _ _ _ _).mono ?_; rintro e w' ⟨rfl, rfl⟩) | (go_at_call 105; refine (iIn _ _ _ _).mono ?_; rintro e w' ⟨rfl, rfl⟩) | go_in | (go_end0; simp only []; go_at_K))
          go_ret
          exact Val.mk' (v_bool HF.out.symm) (by (repeat (first | exact In.refl _ | assumption | apply In.alloc | apply In.drewN | apply In.drew | (refine In.step ?_ (by assumption)))))
        have HT : Hid (spOk xs k = true) := Lib.hid (by rw [HK.out]; simp [shB, h1, h2])
        go_wp2_with (first | (go_at_call 95; refine (sIn _ _ _ _).mono ?_; rintro e w' ⟨rfl, rfl⟩) | (go_at_call 105; refine (iIn _ _ _ _).mono ?_; rintro e w' ⟨rfl, rfl⟩) | go_in | (go_end0; simp only []; go_at_K))
        go_roundw
        case rel => exact ⟨k + 1, by omega, by go_num, v_int HP.out.symm, fun i hi => by
              by_cases e : i = k
              · subst e; exact HT.out
              · exact HO.out i (by omega), by (repeat (first | exact In.refl _ | assumption | apply In.alloc | apply In.drewN | apply In.drew | (refine In.step ?_ (by assumption))))⟩
        case measure => simp [intOf]; omega
      · obtain rfl : k = n := by omega
        go_wp2
        go_ret
        exact Val.mk' (v_bool (by rw [shops_n HO.out]; simp; omega)) (by (repeat (first | exact In.refl _ | assumption | apply In.alloc | apply In.drewN | apply In.drew | (refine In.step ?_ (by assumption)))))
  · have HF : Hid (shopsB n xs = false) := Lib.hid (by simp [shopsB, h10])
    have h10' : 10 < n := by omega
    go_enter Try.func195, Try.ntmps195
    go_wp2
    go_ret
    exact Val.mk' (v_bool HF.out.symm) (by (repeat (first | exact In.refl _ | assumption | apply In.alloc | apply In.drewN | apply In.drew | (refine In.step ?_ (by assumption)))))
end Go.Proofs.Ytmkfnhgaiheckaa
