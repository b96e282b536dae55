/- Chapter 19: the model's CutsNeeded. -/
import Derived.Test.YthndjpklfgcpmaaH19
namespace Go.Proofs.Ythndjpklfgcpmaa
open Go.ChangeShapes Go.WideShapes Go.ChangeAt Go.RowKit Go.Shelf
set_option linter.unusedVariables false
set_option linter.unusedSimpArgs false
set_option maxHeartbeats 2000000

theorem cutN_z {x t : Int} (hx : 1 ≤ x) (ht : 1 ≤ t) (h : x % t = 0) : ((cutN x t : Nat) : Int) = x / t - 1 := by
  have h1 := Int.mul_ediv_add_emod x t
  have h2 := Int.emod_lt_of_pos x (show 0 < t by omega)
  have e : (x - 1) / t = x / t - 1 := by
    generalize x / t = q at *
    have p1 : (q - 1) * t = t * q - t := by rw [Int.sub_mul, Int.mul_comm, Int.one_mul]
    have p2 : q * t = t * q := Int.mul_comm _ _
    have a1 : q - 1 ≤ (x - 1) / t := (Int.le_ediv_iff_mul_le (by omega)).2 (by omega)
    have a2 : (x - 1) / t < q := (Int.ediv_lt_iff_lt_mul (by omega)).2 (by omega)
    omega
  have := Int.ediv_nonneg (a := x - 1) (b := t) (by omega) (by omega)
  unfold cutN; omega
theorem cutN_nz {x t : Int} (hx : 1 ≤ x) (ht : 1 ≤ t) (h : x % t ≠ 0) : ((cutN x t : Nat) : Int) = x / t := by
  have h1 := Int.mul_ediv_add_emod x t
  have h2 := Int.emod_lt_of_pos x (show 0 < t by omega)
  have h3 := Int.emod_nonneg x (show t ≠ 0 by omega)
  have e : (x - 1) / t = x / t := by
    generalize x / t = q at *
    have p2 : q * t = t * q := Int.mul_comm _ _
    have p1 : (q + 1) * t = t * q + t := by rw [Int.add_mul, Int.mul_comm, Int.one_mul]
    have a1 : q ≤ (x - 1) / t := (Int.le_ediv_iff_mul_le (by omega)).2 (by omega)
    have a2 : (x - 1) / t < q + 1 := (Int.ediv_lt_iff_lt_mul (by omega)).2 (by omega)
    omega
  have := Int.ediv_nonneg (a := x - 1) (b := t) (by omega) (by omega)
  unfold cutN; omega
theorem slices_t {x t : Int} (h : sliceB x t = true) : slicesV x t = x / t := by unfold slicesV; rw [if_pos h]
theorem slices_f {x t : Int} (h : sliceB x t = false) : slicesV x t = -1 := by unfold slicesV; rw [h]; rfl
theorem last_t {x t : Int} (h : sliceB x t = true) : lastV x t = x % t := by unfold lastV; rw [if_pos h]
theorem slices_three {x t : Int} (h : sliceB x t = true) : ∃ q r : Int, slicesV x t = q ∧ lastV x t = r ∧ 0 ≤ q ∧ q ≤ 1000 ∧
    ((0 < q ∧ r = 0 ∧ ((cutN x t : Nat) : Int) = q - 1) ∨ (0 < q ∧ r ≠ 0 ∧ ((cutN x t : Nat) : Int) = q) ∨ (q = 0 ∧ ((cutN x t : Nat) : Int) = 0)) := by
  obtain ⟨x1, x2, t1, t2, q1, q2, _⟩ := slices_in h
  refine ⟨x / t, x % t, slices_t h, last_t h, q1, q2, ?_⟩
  have h1 := Int.mul_ediv_add_emod x t
  by_cases hz : x % t = 0
  · have hc := cutN_z x1 t1 hz
    have : 0 < x / t := by
      by_cases e : x / t = 0
      · rw [e] at h1; omega
      · omega
    exact .inl ⟨this, hz, hc⟩
  · have hc := cutN_nz x1 t1 hz
    by_cases e : x / t = 0
    · exact .inr (.inr ⟨e, by rw [hc, e]⟩)
    · exact .inr (.inl ⟨by omega, hz, hc⟩)
set_option maxRecDepth 100000 in
set_option maxHeartbeats 8000000 in
theorem sCutsNeeded (A : Option Addr) (n c : Nat) (xs : List Int) (t : Int) (w : World) (hn : n ≤ maxLen) (hx : ReadsI w A n xs) : Calls Try.prog 16 #[.slice A n c, .int .i64 t] w (Val (.int .i64 (cutV n xs t)) w) := by
  unfold maxLen at hn
  by_cases h40 : n ≤ 40
  rotate_left
  · have HV := Lib.hid (cutV_n (xs := xs) (t := t) h40)
    have h40' : (40 : Int) < (n : Int) := by omega
    go_enter Try.func16, Try.ntmps16
    go_wp2
    go_ret
    exact Val.mk' (by rw [HV.out]; rfl) (by (repeat (first | exact In.refl _ | assumption | apply In.alloc | apply In.drewN | apply In.drew | (refine In.step ?_ (by assumption)))))
  have h40' : (n : Int) ≤ 40 := by omega
  have hd40 : decide ((40 : Int) < (n : Int)) = false := decide_eq_false (by omega)
  go_enter Try.func16, Try.ntmps16
  go_wp2
  go_loopw [5, 6] (fun v i wr => ∃ (k : Nat) (cv : Int), k ≤ n ∧ i = .int .i64 (k : Int) ∧ v = .int .i64 cv ∧ cv = cutT xs t k ∧ (∀ i, i < k → sliceB (xs.getD i 0) t = true) ∧ In w.heap.size w wr) (fun _ i _ => n - (intOf i).toNat)
  case atStart => exact ⟨0, 0, Nat.zero_le _, rfl, rfl, rfl, fun i hi => absurd hi (Nat.not_lt_zero _), by (repeat (first | exact In.refl _ | assumption | apply In.alloc | apply In.drewN | apply In.drew | (refine In.step ?_ (by assumption))))⟩
  case round =>
    obtain ⟨k, cv, hk, rfl, rfl, hcv, hok, hi⟩ := hrel
    by_cases hlt : k < n
    · obtain ⟨ad, rfl, hc⟩ := (hx.below hi.below (Nat.le_refl _)).2 k hlt
      obtain ⟨x, hx9⟩ : ∃ x, xs.getD k 0 = x := ⟨_, rfl⟩
      rw [hx9] at hc
      have HF : Hid (sliceB x t = false → cutV n xs t = -1) := Lib.hid (fun h => cutV_f k hlt (by rw [hx9]; exact h))
      have HT : Hid (cutT xs t (k + 1) = cv + (cutN x t : Nat)) := Lib.hid (by rw [hcv, ← hx9]; rfl)
      have hct : 0 ≤ cv ∧ cv ≤ 40000 := by have := cutT_in k hok; omega
      have HTX : Hid (sliceB x t = true → ∀ i, i < k + 1 → sliceB (xs.getD i 0) t = true) := Lib.hid fun h i hi => by
        by_cases e : i = k
        · subst e; rw [hx9]; exact h
        · exact hok i (by omega)
      clear hok hx9 hcv
      cases hsl : sliceB x t
      · have HS := Lib.hid (slices_f hsl)
        have HV := Lib.hid (HF.out hsl)
        clear hsl hct HT HTX HF
        go_wp2_with (first | (go_at_call 48; refine (sIn _ _ _ _).mono ?_; rintro e w' ⟨rfl, rfl⟩) | (go_at_call 50; refine (iIn _ _ _ _).mono ?_; rintro e w' ⟨rfl, rfl⟩) | (go_at_call 53; refine (sSlicesOf x t _).mono ?_; rintro e w' ⟨rfl, rfl⟩; rw [HS.out]) | go_in | (go_end0; simp only []; go_at_K))
        go_ret
        exact Val.mk' (by rw [HV.out]; rfl) (by (repeat (first | exact In.refl _ | assumption | apply In.alloc | apply In.drewN | apply In.drew | (refine In.step ?_ (by assumption)))))
      · obtain ⟨q, r, hs1, hl1, q1, q2, hcase⟩ := slices_three hsl
        have HS := Lib.hid hs1
        have HL := Lib.hid hl1
        have HTX' := Lib.hid (HTX.out hsl)
        clear hs1 hl1 hsl HTX HF
        have hd1 : decide (q < 0) = false := decide_eq_false (by omega)
        have V3 : wrap64 ((k : Int) + 1) = (k : Int) + 1 := w64 ⟨by omega, by omega⟩
        have V1 : wrap64 (cv + q) = cv + q := w64 ⟨by omega, by omega⟩
        have V2 : wrap64 (cv + q - 1) = cv + q - 1 := w64 ⟨by omega, by omega⟩
        rcases hcase with ⟨hq, rfl, hc9⟩ | ⟨hq, hr, hc9⟩ | ⟨rfl, hc9⟩
        · have HC := Lib.hid hc9
          clear hc9
          go_wp2_with (first | (go_at_call 48; refine (sIn _ _ _ _).mono ?_; rintro e w' ⟨rfl, rfl⟩) | (go_at_call 50; refine (iIn _ _ _ _).mono ?_; rintro e w' ⟨rfl, rfl⟩) | (go_at_call 53; refine (sSlicesOf x t _).mono ?_; rintro e w' ⟨rfl, rfl⟩; rw [HS.out]) | (go_at_call 54; refine (sLastSlice x t _).mono ?_; rintro e w' ⟨rfl, rfl⟩; rw [HL.out]) | go_in | (go_end0; simp only []; go_at_K))
          go_round
          case rel => exact ⟨k + 1, cv + q - 1, by omega, by go_num, by go_num, by rw [HT.out, HC.out]; omega, HTX'.out, by (repeat (first | exact In.refl _ | assumption | apply In.alloc | apply In.drewN | apply In.drew | (refine In.step ?_ (by assumption))))⟩
          case measure => simp [intOf]; omega
        · have HC := Lib.hid hc9
          clear hc9
          go_wp2_with (first | (go_at_call 48; refine (sIn _ _ _ _).mono ?_; rintro e w' ⟨rfl, rfl⟩) | (go_at_call 50; refine (iIn _ _ _ _).mono ?_; rintro e w' ⟨rfl, rfl⟩) | (go_at_call 53; refine (sSlicesOf x t _).mono ?_; rintro e w' ⟨rfl, rfl⟩; rw [HS.out]) | (go_at_call 54; refine (sLastSlice x t _).mono ?_; rintro e w' ⟨rfl, rfl⟩; rw [HL.out]) | go_in | (go_end0; simp only []; go_at_K))
          go_round
          case rel => exact ⟨k + 1, cv + q, by omega, by go_num, by go_num, by rw [HT.out, HC.out], HTX'.out, by (repeat (first | exact In.refl _ | assumption | apply In.alloc | apply In.drewN | apply In.drew | (refine In.step ?_ (by assumption))))⟩
          case measure => simp [intOf]; omega
        · have HC := Lib.hid hc9
          clear hc9
          go_wp2_with (first | (go_at_call 48; refine (sIn _ _ _ _).mono ?_; rintro e w' ⟨rfl, rfl⟩) | (go_at_call 50; refine (iIn _ _ _ _).mono ?_; rintro e w' ⟨rfl, rfl⟩) | (go_at_call 53; refine (sSlicesOf x t _).mono ?_; rintro e w' ⟨rfl, rfl⟩; rw [HS.out]) | go_in | (go_end0; simp only []; go_at_K))
          go_round
          case rel => exact ⟨k + 1, cv, by omega, by go_num, by go_num, by rw [HT.out, HC.out]; omega, HTX'.out, by (repeat (first | exact In.refl _ | assumption | apply In.alloc | apply In.drewN | apply In.drew | (refine In.step ?_ (by assumption))))⟩
          case measure => simp [intOf]; omega
    · obtain rfl : k = n := by omega
      have HV := Lib.hid (cutV_t h40 hok)
      subst hcv
      go_wp2
      go_ret
      exact Val.mk' (by rw [HV.out]; rfl) (by (repeat (first | exact In.refl _ | assumption | apply In.alloc | apply In.drewN | apply In.drew | (refine In.step ?_ (by assumption)))))
end Go.Proofs.Ythndjpklfgcpmaa
