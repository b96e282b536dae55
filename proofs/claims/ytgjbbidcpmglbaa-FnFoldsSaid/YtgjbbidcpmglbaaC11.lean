/- Chapter 11: LayersAfter, ThicknessOf. -/
import Derived.Test.YtgjbbidcpmglbaaAll
namespace Go.Proofs.Ytgjbbidcpmglbaa
open Go.ChangeShapes Go.WideShapes Go.ChangeAt Go.RowKit
set_option linter.unusedVariables false
set_option linter.unusedSimpArgs false

def prodTo (xs : List Int) : Nat → Int
  | 0 => 1
  | k + 1 => prodTo xs k * xs.getD k 0
theorem prodTo_succ (xs : List Int) (k : Nat) : prodTo xs (k + 1) = prodTo xs k * xs.getD k 0 := rfl
theorem prodTo_pos (xs : List Int) (k : Nat) (h : ∀ i, i < k → inAt xs 2 4 i = true) : 1 ≤ prodTo xs k := by
  induction k with
  | zero => exact Int.le_refl _
  | succ k ih =>
    have h1 := ih fun i hi => h i (by omega)
    have h2 := inB_tt (h k (by omega))
    rw [prodTo_succ]
    have := Int.mul_le_mul h1 h2.1 (by omega) (by omega)
    omega
theorem prodTo_le (xs : List Int) (k : Nat) (h : ∀ i, i < k → inAt xs 2 4 i = true) : prodTo xs k ≤ 4 ^ k := by
  induction k with
  | zero => exact Int.le_refl _
  | succ k ih =>
    have h1 := ih fun i hi => h i (by omega)
    have h0 := prodTo_pos xs k fun i hi => h i (by omega)
    have h2 := inB_tt (h k (by omega))
    rw [prodTo_succ, Int.pow_succ]
    exact Int.mul_le_mul h1 h2.2 (by omega) (by omega)
theorem prodTo_mono (xs : List Int) (k d : Nat) (h : ∀ i, i < k + d → inAt xs 2 4 i = true) : prodTo xs k ≤ prodTo xs (k + d) := by
  induction d with
  | zero => exact Int.le_refl _
  | succ d ih =>
    have h1 := ih fun i hi => h i (by omega)
    have h0 := prodTo_pos xs (k + d) fun i hi => h i (by omega)
    have h2 := inB_tt (h (k + d) (by omega))
    rw [← Nat.add_assoc, prodTo_succ]
    have := Int.mul_le_mul (Int.le_refl (prodTo xs (k + d))) h2.1 (by omega) (by omega)
    omega
def layersV (n : Nat) (xs : List Int) : Int := if decide (n ≤ 8) && allIn xs 2 4 n && decide (prodTo xs n ≤ 10000) then prodTo xs n else -1
theorem layers_big {n : Nat} {xs : List Int} (k : Nat) (hk : k ≤ n) (h : 10000 < prodTo xs k) : layersV n xs = -1 := by
  rw [layersV, if_neg]
  intro e
  simp only [Bool.and_eq_true, decide_eq_true_eq] at e
  have h1 := prodTo_mono xs k (n - k) (by rw [show k + (n - k) = n from by omega]; exact fun i hi => allOk_at _ _ e.1.2 i hi)
  rw [show k + (n - k) = n from by omega] at h1
  omega
theorem layers_in (n : Nat) (xs : List Int) : layersV n xs = -1 ∨ (1 ≤ layersV n xs ∧ layersV n xs ≤ 10000) := by
  unfold layersV
  split
  · rename_i e
    simp only [Bool.and_eq_true, decide_eq_true_eq] at e
    exact .inr ⟨prodTo_pos xs n fun i hi => allOk_at _ _ e.1.2 i hi, e.2⟩
  · exact .inl rfl
set_option maxHeartbeats 1000000 in
theorem ilayersOf (A : Option Addr) (n c : Nat) (xs : List Int) (w : World) (hn : n ≤ 8) (ho : ∀ i, i < n → inAt xs 2 4 i = true) (hx : ReadsI w A n xs) : Calls Try.prog 76 #[.slice A n c] w (Same (i64 (prodTo xs n)) w) := by
  have HO := Lib.hid ho
  clear ho
  go_enter Try.func76, Try.ntmps76
  go_wp2
  go_loop [3, 8] (fun v i => ∃ k : Nat, k ≤ n ∧ i = .int .i64 k ∧ v = .int .i64 (prodTo xs k)) (fun _ i => n - (intOf i).toNat)
  case atStart => exact ⟨0, Nat.zero_le _, rfl, rfl⟩
  case round =>
    obtain ⟨k, hk, rfl, rfl⟩ := hrel
    have HU := Lib.hid (prodTo_succ xs k)
    by_cases hlt : k < n
    · have hpos := prodTo_pos xs k fun i hi => HO.out i (by omega)
      have hle := prodTo_le xs k fun i hi => HO.out i (by omega)
      have h4 : (4 : Int) ^ k ≤ 4 ^ 8 := by exact_mod_cast Nat.pow_le_pow_right (by decide) (by omega)
      have h48 : (4 : Int) ^ 8 = 65536 := by decide
      rw [h48] at h4
      have hle2 : prodTo xs k ≤ 65536 := Int.le_trans hle h4
      clear hle h4 h48
      have hin := HO.out k hlt
      obtain ⟨a, rfl, ha⟩ := hx.2 k hlt
      unfold inAt at hin
      generalize xs.getD k 0 = x at ha hin HU
      obtain ⟨x1, x2⟩ := inB_tt hin
      obtain ⟨m1, m2⟩ := mul_in (a := prodTo xs k) (b := x) (A := 65536) (B := 4) (by omega) hle2 (by omega) x2
      generalize prodTo xs k = p at *
      go_wp2
      go_round
      case rel => exact ⟨k + 1, by omega, by go_num, v_int HU.out.symm⟩
      case measure => simp [intOf]; omega
    · obtain rfl : k = n := by omega
      go_wp2
      go_ret
      exact ⟨rfl, rfl⟩
theorem iLayersAfter (A : Option Addr) (n c : Nat) (xs : List Int) (w : World) (hn : n ≤ maxLen) (hx : ReadsI w A n xs) : Calls Try.prog 34 #[.slice A n c] w (Same (i64 (layersV n xs)) w) := by
  by_cases h8 : n ≤ 8
  · cases h2 : allIn xs 2 4 n
    · have HV : Hid (layersV n xs = -1) := Lib.hid (by simp [layersV, h2])
      go_enter Try.func34, Try.ntmps34
      go_wp2_with (first | (go_at_call 66; refine (iIn _ _ _ _).mono ?_; rintro e w' ⟨rfl, rfl⟩) | (go_at_call 75; refine (iAll A n c xs 2 4 _ hn hx).mono ?_; rintro e w' ⟨rfl, rfl⟩) | go_in | (go_end0; simp only []; go_at_K))
      go_ret
      exact ⟨ret_int HV.out.symm, rfl⟩
    have HO := Lib.hid (allOk_at _ _ h2)
    by_cases hg : 10000 < prodTo xs n
    · have HV : Hid (layersV n xs = -1) := Lib.hid (layers_big n (Nat.le_refl _) hg)
      go_enter Try.func34, Try.ntmps34
      go_wp2_with (first | (go_at_call 66; refine (iIn _ _ _ _).mono ?_; rintro e w' ⟨rfl, rfl⟩) | (go_at_call 75; refine (iAll A n c xs 2 4 _ hn hx).mono ?_; rintro e w' ⟨rfl, rfl⟩) | (go_at_call 76; refine (ilayersOf A n c xs _ h8 HO.out hx).mono ?_; rintro e w' ⟨rfl, rfl⟩) | go_in | (go_end0; simp only []; go_at_K))
      go_ret
      exact ⟨ret_int HV.out.symm, rfl⟩
    · have HV : Hid (layersV n xs = prodTo xs n) := Lib.hid (by simp [layersV, h2, h8]; omega)
      go_enter Try.func34, Try.ntmps34
      go_wp2_with (first | (go_at_call 66; refine (iIn _ _ _ _).mono ?_; rintro e w' ⟨rfl, rfl⟩) | (go_at_call 75; refine (iAll A n c xs 2 4 _ hn hx).mono ?_; rintro e w' ⟨rfl, rfl⟩) | (go_at_call 76; refine (ilayersOf A n c xs _ h8 HO.out hx).mono ?_; rintro e w' ⟨rfl, rfl⟩) | go_in | (go_end0; simp only []; go_at_K))
      go_ret
      exact ⟨ret_int HV.out.symm, rfl⟩
  · have h8' : 8 < n := by omega
    have HV : Hid (layersV n xs = -1) := Lib.hid (by simp [layersV, h8])
    unfold maxLen at hn
    go_enter Try.func34, Try.ntmps34
    go_wp2
    go_ret
    exact ⟨ret_int HV.out.symm, rfl⟩
def thickV (n : Nat) (xs : List Int) (r : Int) : Int := if layersV n xs < 0 ∨ inB r 1 100000 = false then -1 else r / layersV n xs
theorem iThicknessOf (A : Option Addr) (n c : Nat) (xs : List Int) (r : Int) (w : World) (hn : n ≤ maxLen) (hx : ReadsI w A n xs) : Calls Try.prog 38 #[.slice A n c, .int .i64 r] w (Same (i64 (thickV n xs r)) w) := by
  rcases layers_in n xs with h1 | ⟨h1, h2⟩
  · have HV : Hid (thickV n xs r = -1) := Lib.hid (if_pos (by omega))
    go_enter Try.func38, Try.ntmps38
    go_wp2_with (first | (go_at_call 66; refine (iIn _ _ _ _).mono ?_; rintro e w' ⟨rfl, rfl⟩) | (go_at_call 34; refine (iLayersAfter A n c xs _ hn hx).mono ?_; rintro e w' ⟨rfl, rfl⟩) | go_in | (go_end0; simp only []; go_at_K))
    go_ret
    exact ⟨ret_int HV.out.symm, rfl⟩
  cases h3 : inB r 1 100000
  · have HV : Hid (thickV n xs r = -1) := Lib.hid (if_pos (.inr h3))
    go_enter Try.func38, Try.ntmps38
    go_wp2_with (first | (go_at_call 66; refine (iIn _ _ _ _).mono ?_; rintro e w' ⟨rfl, rfl⟩) | (go_at_call 34; refine (iLayersAfter A n c xs _ hn hx).mono ?_; rintro e w' ⟨rfl, rfl⟩) | go_in | (go_end0; simp only []; go_at_K))
    go_ret
    exact ⟨ret_int HV.out.symm, rfl⟩
  have HV : Hid (thickV n xs r = r / layersV n xs) := Lib.hid (if_neg (by rw [h3]; simp; omega))
  obtain ⟨r1, r2⟩ := inB_tt h3
  go_enter Try.func38, Try.ntmps38
  go_wp2_with (first | (go_at_call 66; refine (iIn _ _ _ _).mono ?_; rintro e w' ⟨rfl, rfl⟩) | (go_at_call 34; refine (iLayersAfter A n c xs _ hn hx).mono ?_; rintro e w' ⟨rfl, rfl⟩) | go_in | (go_end0; simp only []; go_at_K))
  go_ret
  exact ⟨ret_int HV.out.symm, rfl⟩
end Go.Proofs.Ytgjbbidcpmglbaa
