/- The law FnRises. -/
import Derived.Test.YtkaaebpoljnbnaaDoorR05
import Derived.Test.YtkaaebpoljnbnaaDoorDl05
import Derived.Test.YtkaaebpoljnbnaaDoorSl
import Derived.Test.YtkaaebpoljnbnaaDoorAtAll
import Derived.Test.YtkaaebpoljnbnaaDoorQuietL
import Derived.BigQuiet
import Derived.Deep.QuietTactic
namespace Go.Proofs.YtkaaebpoljnbnaaDoor
open Go.ChangeShapes Go.WideShapes Go.ChangeAt Go.RowKit
set_option linter.unusedVariables false
set_option linter.unusedSimpArgs false
set_option maxHeartbeats 2000000

theorem speed_warm {d : Int} (h : 4 ≤ d ∧ d ≤ 34) : 1 ≤ speedV d ∧ speedV d ≤ 16 := by
  unfold speedV
  rw [if_pos (inB_t (by omega)), if_neg (by omega)]
  (repeat' split) <;> omega
theorem speed_form {d : Int} (h : 4 ≤ d ∧ d ≤ 34) : speedV d = if d < 10 then 1 else if d < 16 then 2 else if d < 22 then 4 else if d < 28 then 8 else 16 := by
  unfold speedV
  rw [if_pos (inB_t (by omega)), if_neg (by omega)]
  (repeat' split) <;> omega
theorem speed_up {d : Int} (h : 4 ≤ d ∧ d < 34) : speedV d ≤ speedV (d + 1) := by
  rw [speed_form (d := d) (by omega), speed_form (d := d + 1) (by omega)]
  (repeat' split) <;> omega
theorem ceil_down {p s u : Int} (hp : 0 ≤ p) (hs : 1 ≤ s) (hu : s ≤ u) : (p + u - 1) / u ≤ (p + s - 1) / s := by
  have h1 : p + s - 1 < ((p + s - 1) / s + 1) * s := Int.lt_ediv_add_one_mul_self _ (by omega)
  have h0 : 0 ≤ (p + s - 1) / s := Int.ediv_nonneg (by omega) (by omega)
  generalize (p + s - 1) / s = X at *
  have h2 : (X + 1) * s = X * s + s := by rw [Int.add_mul]; omega
  have h3 : X * s ≤ X * u := Int.mul_le_mul_of_nonneg_left hu h0
  have h4 : (X + 1) * u = X * u + u := by rw [Int.add_mul]; omega
  have : (p + u - 1) / u < X + 1 := Int.ediv_lt_of_lt_mul (by omega) (by omega)
  omega
theorem min_is {d p : Int} (hd : 4 ≤ d ∧ d ≤ 34) (hp : 1 ≤ p ∧ p ≤ 256) : minutesV d p = (p + speedV d - 1) / speedV d := by
  unfold minutesV
  rw [if_pos ⟨(speed_warm hd).1, inB_t (by omega)⟩]
theorem min_in {d p : Int} (hd : 4 ≤ d ∧ d ≤ 34) (hp : 1 ≤ p ∧ p ≤ 256) : 0 ≤ minutesV d p ∧ minutesV d p ≤ 300 := by
  rw [min_is hd hp]
  have h := speed_warm hd
  have h1 := Int.ediv_le_self (a := p + speedV d - 1) (speedV d) (by omega)
  have h2 : 0 ≤ (p + speedV d - 1) / speedV d := Int.ediv_nonneg (by omega) (by omega)
  omega
theorem warm_law {d p : Int} (h : 4 ≤ d ∧ d < 34) (hp : 1 ≤ p ∧ p ≤ 256) : speedV d ≤ speedV (d + 1) ∧ minutesV (d + 1) p ≤ minutesV d p := by
  refine ⟨speed_up h, ?_⟩
  rw [min_is (by omega) hp, min_is (by omega) hp]
  exact ceil_down (by omega) (speed_warm (d := d) (by omega)).1 (speed_up h)
theorem firstOr_spec (q : Int → Bool) : ∀ (k : Nat) (g : Int), (firstOr q k g = -1 ∧ ∀ i : Int, g ≤ i → i < g + k → q i = false) ∨ (g ≤ firstOr q k g ∧ firstOr q k g < g + k ∧ q (firstOr q k g) = true ∧ ∀ i : Int, g ≤ i → i < firstOr q k g → q i = false)
  | 0, g => .inl ⟨rfl, fun i h1 h2 => by omega⟩
  | k + 1, g => by
    rw [firstOr]
    by_cases h : q g = true
    · rw [if_pos h]
      exact .inr ⟨Int.le_refl _, by omega, h, fun i h1 h2 => by omega⟩
    · rw [if_neg h]
      have hf : q g = false := by simpa using h
      rcases firstOr_spec q k (g + 1) with ⟨e, h1⟩ | ⟨a1, a2, a3, a4⟩
      · refine .inl ⟨e, fun i h2 h3 => ?_⟩
        by_cases e2 : i = g
        · subst e2; exact hf
        · exact h1 i (by omega) (by push_cast at h3; omega)
      · refine .inr ⟨by omega, by push_cast; omega, a3, fun i h2 h3 => ?_⟩
        by_cases e2 : i = g
        · subst e2; exact hf
        · exact a4 i (by omega) h3
theorem cool_law {p m : Int} (hp : 1 ≤ p ∧ p ≤ 256) (hm : 1 ≤ m ∧ m ≤ 256) : ∃ c : Int, coolV p m = c ∧ ((c = -1 ∧ m < minutesV 34 p) ∨ (4 ≤ c ∧ c ≤ 34 ∧ minutesV c p ≤ m ∧ (4 < c → m < minutesV (c - 1) p))) := by
  refine ⟨_, rfl, ?_⟩
  unfold coolV
  rw [inB_t (n := p) (by omega), inB_t (n := m) (by omega)]
  rcases firstOr_spec (coolP p m) 31 4 with ⟨e, h⟩ | ⟨h1, h2, h3, h4⟩
  · left
    have := h 34 (by omega) (by omega)
    simp only [coolP, decide_eq_false_iff_not] at this
    exact ⟨by simpa using e, by omega⟩
  · right
    simp only [coolP, decide_eq_true_eq] at h3
    refine ⟨by simpa using h1, by simp only [Bool.and_self, if_true]; omega, by simpa using h3, fun h => ?_⟩
    simp only [Bool.and_self, if_true] at h ⊢
    have := h4 (firstOr (coolP p m) 31 4 - 1) (by omega) (by omega)
    simp only [coolP, decide_eq_false_iff_not] at this
    omega
theorem firstIx_spec (q : Nat → Bool) : ∀ (f k : Nat), (firstIx q f k = -1 ∧ ∀ i, k ≤ i → i < k + f → q i = false) ∨ ∃ i : Nat, firstIx q f k = (i : Int) ∧ k ≤ i ∧ i < k + f ∧ q i = true ∧ ∀ j, k ≤ j → j < i → q j = false
  | 0, k => .inl ⟨rfl, fun i h1 h2 => by omega⟩
  | f + 1, k => by
    rw [firstIx]
    by_cases h : q k = true
    · rw [if_pos h]
      exact .inr ⟨k, rfl, Nat.le_refl _, by omega, h, fun j h1 h2 => by omega⟩
    · rw [if_neg h]
      have hf : q k = false := by simpa using h
      rcases firstIx_spec q f (k + 1) with ⟨e, h1⟩ | ⟨i, e, a1, a2, a3, a4⟩
      · refine .inl ⟨e, fun i h2 h3 => ?_⟩
        by_cases e2 : i = k
        · subst e2; exact hf
        · exact h1 i (by omega) (by omega)
      · refine .inr ⟨i, e, by omega, by omega, a3, fun j h2 h3 => ?_⟩
        by_cases e2 : j = k
        · subst e2; exact hf
        · exact a4 j (by omega) h3
theorem sum_take (xs : List Int) (k : Nat) : ∀ j, j ≤ k → sumTo (rG (xs.take k)) j = sumTo (rG xs) j
  | 0, _ => rfl
  | j + 1, h => by
    show sumTo (rG (xs.take k)) j + rG (xs.take k) j = sumTo (rG xs) j + rG xs j
    rw [sum_take xs k j (by omega)]
    congr 1
    unfold rG
    congr 1
    simp [List.getD_eq_getElem?_getD, show j < k by omega]
theorem rise_is {n : Nat} {xs : List Int} (hn : n ≤ 19) (hx : ∀ i, i < n → (fun v : Int => 0 ≤ v ∧ v ≤ 39) (xs.getD i 0)) (k : Nat) (hk : k ≤ n) : riseV k (xs.take k) = sumTo (rG xs) k := by
  have hk : allOk (rOk (xs.take k)) k = true := by
    refine allOk_t _ _ fun i hi => ?_
    have h := hx i (by omega)
    simp only [] at h
    have e : (xs.take k).getD i 0 = xs.getD i 0 := by simp [List.getD_eq_getElem?_getD, hi]
    unfold rOk
    rw [e]
    simp only [decide_eq_true_eq]
    unfold speedV
    rw [if_pos (inB_t (by omega))]
    (repeat' split) <;> omega
  unfold riseV
  rw [if_pos ⟨by omega, hk⟩]
  exact sum_take xs k k (Nat.le_refl _)
theorem sum_in {n : Nat} {xs : List Int} (hx : ∀ i, i < n → (fun v : Int => 0 ≤ v ∧ v ≤ 39) (xs.getD i 0)) : ∀ k, k ≤ n → 0 ≤ sumTo (rG xs) k ∧ sumTo (rG xs) k ≤ 16 * (k : Int)
  | 0, _ => ⟨Int.le_refl _, Int.le_refl _⟩
  | k + 1, h => by
    have ih := sum_in hx k (by omega)
    have hk := hx k (by omega)
    simp only [] at hk
    have s := speed_in (xs.getD k 0)
    have s0 : 0 ≤ speedV (xs.getD k 0) := by
      unfold speedV
      rw [if_pos (inB_t (by omega))]
      (repeat' split) <;> omega
    show 0 ≤ sumTo (rG xs) k + rG xs k ∧ sumTo (rG xs) k + rG xs k ≤ _
    unfold rG at ih ⊢
    push_cast
    omega
theorem sum_mono {n : Nat} {xs : List Int} (hx : ∀ i, i < n → (fun v : Int => 0 ≤ v ∧ v ≤ 39) (xs.getD i 0)) (k : Nat) : ∀ d, k + d ≤ n → sumTo (rG xs) k ≤ sumTo (rG xs) (k + d)
  | 0, _ => Int.le_refl _
  | d + 1, h => by
    have ih := sum_mono hx k d (by omega)
    have hk := hx (k + d) (by omega)
    simp only [] at hk
    have s0 : 0 ≤ speedV (xs.getD (k + d) 0) := by
      unfold speedV
      rw [if_pos (inB_t (by omega))]
      (repeat' split) <;> omega
    show _ ≤ sumTo (rG xs) (k + d) + rG xs (k + d)
    have : rG xs (k + d) = speedV (xs.getD (k + d) 0) := rfl
    omega
theorem ready_law {n : Nat} {xs : List Int} {p : Int} (hl : xs.length = n) (hn : n ≤ 19) (hx : ∀ i, i < n → (fun v : Int => 0 ≤ v ∧ v ≤ 39) (xs.getD i 0)) (hp : 1 ≤ p ∧ p ≤ 256) :
    ∃ S : Int, riseV n xs = S ∧ sumTo (rG xs) n = S ∧ (0 ≤ S ∧ S ≤ 304) ∧ ((S < p ∧ readyV n xs p = -1) ∨ (p ≤ S ∧ ∃ i : Nat, i < n ∧ readyV n xs p = (i : Int) ∧ p ≤ sumTo (rG xs) (i + 1) ∧ sumTo (rG xs) i < p)) := by
  have e := rise_is hn hx n (Nat.le_refl _)
  rw [show xs.take n = xs by rw [← hl]; simp] at e
  have s := sum_in hx n (Nat.le_refl _)
  refine ⟨_, e, rfl, by omega, ?_⟩
  have hr : readyV n xs p = firstIx (readyP xs p) n 0 := by unfold readyV; rw [if_pos ⟨by rw [e]; exact s.1, inB_t (by omega)⟩]
  rcases firstIx_spec (readyP xs p) n 0 with ⟨e1, h1⟩ | ⟨i, e1, a1, a2, a3, a4⟩
  · left
    refine ⟨?_, hr.trans e1⟩
    rcases Nat.eq_zero_or_pos n with rfl | hn0
    · show (0 : Int) < p; omega
    · have := h1 (n - 1) (by omega) (by omega)
      simp only [readyP, decide_eq_false_iff_not] at this
      rw [show n - 1 + 1 = n by omega] at this
      omega
  · right
    simp only [readyP, decide_eq_true_eq] at a3
    refine ⟨?_, i, by omega, hr.trans e1, a3, ?_⟩
    · have := sum_mono hx (i + 1) (n - (i + 1)) (by omega)
      rw [show i + 1 + (n - (i + 1)) = n by omega] at this
      omega
    · rcases Nat.eq_zero_or_pos i with rfl | hi0
      · show (0 : Int) < p; omega
      · have := a4 (i - 1) (by omega) (by omega)
        simp only [readyP, decide_eq_false_iff_not] at this
        rw [show i - 1 + 1 = i by omega] at this
        omega
theorem ninth (p : Int) (hp : 1 ≤ p ∧ p ≤ 256) : ∃ x : Int, minutesV 24 p = x ∧ (1 ≤ x ∧ x ≤ 40) ∧ p ≤ x * 8 ∧ (x - 1) * 8 < p := by
  refine ⟨_, rfl, ?_⟩
  rw [min_is (by omega) hp, show speedV 24 = 8 by decide]
  omega
set_option maxHeartbeats 8000000 in
set_option maxRecDepth 20000 in
theorem walk_FnRises (a0 : Option Addr) (len0 cap0 : Nat) (z0 : List Int) (w : World) (w0 : IsRow .u8 w a0 len0 cap0 z0) (hL : laidMetH Tryd.prog Rows.fnRisesRow.laid w) :
    Calls Tryd.prog 4 #[.slice a0 len0 cap0] w fun e w' => e = .returned (.bool true) ∧ Below w.heap.size w w' := by
  have HT := Lib.hid (bands_of hL)
  clear hL
  have hb := ReadsU.of_row w0
  have hm := hb.1
  clear w0
  by_cases hbig : (1048576 : Int) < (len0 : Int)
  · go_enter Tryd.func4, Tryd.ntmps4
    go_wp2_with fail
    refine (bigU _ _ _ _ hm true (by simpa using hbig)).mono ?_
    rintro e w' ⟨rfl, rfl⟩
    go_wp2_with fail
    go_ret
    exact ⟨rfl, Below.refl _ _⟩
  have HB := Lib.hid hb
  obtain ⟨x0, h0, A0⟩ := at_all a0 len0 cap0 0 w (by omega) (by omega) hb
  have HA0 := Lib.hid A0
  clear A0
  obtain ⟨x1, h1, A1⟩ := at_all a0 len0 cap0 1 w (by omega) (by omega) hb
  have HA1 := Lib.hid A1
  clear A1
  go_enter Tryd.func4, Tryd.ntmps4
  go_wp2_with fail
  refine (bigU _ _ _ _ hm false (by simpa using hbig)).mono ?_
  rintro e w' ⟨rfl, rfl⟩
  clear hbig hm hb
  have f0_0 : In w.heap.size w w := In.refl w
  have f0_1 := HB.out
  go_wp2_with fail
  refine (DrawDegrees_c _ _ _ _ (bytes_of f0_1)).mono ?_
  rintro _ w1 ⟨A, cp, n, xs, rfl, ⟨_, hn⟩, hx, hrd, hl, hnc, hb1⟩
  have f1_0 : In w.heap.size w w1 := f0_0.step hb1
  have f1_1 : ReadsI w1 A n xs := hrd
  clear f0_0 f0_1
  clear hb1 hrd
  have hp : 1 ≤ 1 + x0 ∧ 1 + x0 ≤ 256 := by omega
  obtain ⟨p, hpe⟩ : ∃ p, 1 + x0 = p := ⟨_, rfl⟩
  rw [hpe] at hp
  obtain ⟨S, eS, eT, hS, hR⟩ := ready_law hl hn hx hp
  have hmm : 1 ≤ 1 + x1 ∧ 1 + x1 ≤ 256 := by omega
  obtain ⟨m, hme⟩ : ∃ m, 1 + x1 = m := ⟨_, rfl⟩
  rw [hme] at hmm
  obtain ⟨cl, eC, hC⟩ := cool_law hp hmm
  obtain ⟨z, eZ, hz, z1, z2⟩ := ninth p hp
  obtain ⟨rv, hrv⟩ : ∃ rv, readyV n xs p = rv := ⟨_, rfl⟩
  rw [hrv] at hR
  have HRI := Lib.hid (fun W hr h => iRiseAfter A n cp xs W (by omega) hr h)
  rw [eS] at HRI
  have HRP := Lib.hid (fun (k : Nat) (hk : k ≤ n) W hr h => (rise_is hn hx k hk) ▸ iRiseAfter A k cp (xs.take k) W (by omega) hr h)
  have HRY := Lib.hid (fun W hr h => iReadyAt A n cp xs p W (by omega) hr h)
  rw [hrv] at HRY
  have HSP := Lib.hid (fun d W h => iSpeedAt d W h)
  have HMI := Lib.hid (fun d W h => iMinutesAt d p W h)
  have HCO := Lib.hid (fun W h => iCoolestFor p m W h)
  rw [eC] at HCO
  have HMZ := Lib.hid (fun W h => iMinutesAt 24 p W h)
  rw [eZ] at HMZ
  have HS3 := Lib.hid (fun W h => iSpeedAt 3 W h)
  rw [show speedV 3 = 0 by decide] at HS3
  have HS5 := Lib.hid (fun W h => iSpeedAt 35 W h)
  rw [show speedV 35 = 0 by decide] at HS5
  have HSL := Lib.hid (fun k hk W => slHi A n cp k hk W)
  have HWL := Lib.hid (fun d h => warm_law (d := d) h hp)
  have HET := Lib.hid eT
  have HSI := Lib.hid (sum_in hx)
  have HMN := Lib.hid (fun d h => min_in (d := d) h hp)
  clear eS eT eC eZ hl hrv
  go_wp2_with fail
  refine (HRI.out _ f1_1 (HT.out.in_ f1_0)).mono ?_
  rintro _ w2 ⟨rfl, hb2⟩
  have f2_0 : In w.heap.size w w2 := f1_0.step hb2
  have f2_1 : ReadsI w2 A n xs := f1_1.step hb2
  clear f1_0 f1_1
  clear hb2
  clear HRI
  go_wp2_with fail
  refine (HA0.out _ f2_0).mono ?_
  rintro e w' ⟨rfl, rfl⟩
  go_wp2_with fail
  (try rw [hpe])
  refine (HRY.out _ f2_1 (HT.out.in_ f2_0)).mono ?_
  rintro _ w3 ⟨rfl, hb3⟩
  have f3_0 : In w.heap.size w w3 := f2_0.step hb3
  have f3_1 : ReadsI w3 A n xs := f2_1.step hb3
  clear f2_0 f2_1
  clear hb3
  clear HRY hpe h0
  have HCL := Lib.hid (show ∀ W', In w.heap.size w W' ∧ ReadsI W' A n xs → ∀ W2, Below W'.heap.size W' W2 → In w.heap.size w W2 ∧ ReadsI W2 A n xs from fun W' h W2 hb => by
    obtain ⟨g0, g1⟩ := h
    exact ⟨g0.step hb, g1.step hb⟩)
  rcases hR with ⟨hsp, rfl⟩ | ⟨hsp, i, hi, rfl, hr1, hr2⟩
  · skip
    have d0 : decide (S < 0) = false := decide_eq_false (by omega)
    have d1 : decide (p ≤ S) = false := decide_eq_false (by omega)
    have d2 : decide ((n : Int) ≤ -1) = false := decide_eq_false (by omega)
    simp only []
    iterate 9 go_step
    (try rw [List.append_eq])
    (try rw [List.append_eq])
    (repeat rw [List.cons_append])
    (repeat rw [List.nil_append])
    refine wp_region_L (C := (fun w' => In w.heap.size w w' ∧ ReadsI w' A n xs)) ?_ ?_
    · exact ⟨f3_0, f3_1⟩
    repeat (first | go_big_quiet_skip | (go_big_quiet_want; first | (refine quiet_ex ?_; apply Exists.intro; refine ⟨fun W hW => ?_, ?_⟩; (· (obtain ⟨f4_0, f4_1⟩ := hW; go_simp; (first | done | with_reducible rfl | rfl))); simp only [Act.put, List.setIfInBounds_toArray, List.set_cons_zero, List.set_cons_succ]; go_big_quiet_on) | (refine quiet_ex ?_; apply Exists.intro; refine ⟨fun W hW => ?_, ?_⟩; (· (go_simp; first | (fail))); simp only [Act.put, List.setIfInBounds_toArray, List.set_cons_zero, List.set_cons_succ]; go_big_quiet_on)))
    refine wpQuiet_nil ?_
    rintro w' ⟨f4_0, f4_1⟩
    clear f3_0 f3_1
    obtain ⟨u0, hx9⟩ : ∃ x, x = w' := ⟨_, rfl⟩
    subst hx9
    clear d0 d1 d2 HCL HRP HSL
    as_aux_lemma =>
     go_wp2
     go_loopw [7, 8] (fun v i wr => ∃ k : Nat, k ≤ n ∧ i = .int .i64 k ∧ v = .int .i64 (sumTo (rG xs) k) ∧ (In w.heap.size w wr ∧ ReadsI wr A n xs)) (fun _ i _ => n - (intOf i).toNat)
     case atStart => exact ⟨0, Nat.zero_le _, rfl, rfl, f4_0, f4_1⟩
     case round =>
       obtain ⟨k, hk, rfl, rfl, f5_0, f5_1⟩ := hrel
       clear f4_0 f4_1
       by_cases hlt : k < n
       · skip
         obtain ⟨ad, rfl, hcj⟩ := f5_1.2 k hlt
         have hs := HSI.out k hk
         have hs1 := HSI.out (k + 1) (by omega)
         have HSU := Lib.hid (show sumTo (rG xs) (k + 1) = sumTo (rG xs) k + speedV (xs.getD k 0) from rfl)
         rw [HSU.out] at hs1
         generalize xs.getD k 0 = x at hcj HSU hs1
         generalize sumTo (rG xs) k = s9 at *
         have hV7 : wrap64 (s9 + speedV x) = s9 + speedV x := w64 ⟨by omega, by omega⟩
         go_wp2_with fail
         refine (HSP.out x _ (HT.out.in_ f5_0)).mono ?_
         rintro _ w6 ⟨rfl, hb6⟩
         have f6_0 : In w.heap.size w w6 := f5_0.step hb6
         have f6_1 : ReadsI w6 (some ad) n xs := f5_1.step hb6
         clear f5_0 f5_1
         clear hb6
         generalize speedV x = sx at *
         go_wp2
         go_roundw
         case rel => exact ⟨k + 1, by omega, by go_num, by rw [HSU.out], f6_0, f6_1⟩
         case measure => simp [intOf]; omega
       · skip
         obtain rfl : n = k := by omega
         rw [HET.out]
         clear hlt hk
         go_wp2
         go_loopw [9] (fun i wq => ∃ d : Nat, 4 ≤ d ∧ d ≤ 34 ∧ i = .int .i64 d ∧ (In w.heap.size w wq ∧ ReadsI wq A n xs)) (fun i _ => 34 - (intOf i).toNat)
         case atStart => exact ⟨4, by omega, by omega, rfl, f5_0, f5_1⟩
         case round =>
           obtain ⟨d, hd4, hd34, rfl, f6_0, f6_1⟩ := hrel
           clear f5_0 f5_1
           by_cases hlt : d < 34
           · skip
             obtain ⟨w1_, w2_⟩ := HWL.out (d : Int) ⟨by omega, by omega⟩
             have HB1 := Lib.hid (fun W h => HSP.out ((d : Int) + 1) W h)
             have HB2 := Lib.hid (fun W h => HSP.out (d : Int) W h)
             have HB3 := Lib.hid (fun W h => HMI.out ((d : Int) + 1) W h)
             have HB4 := Lib.hid (fun W h => HMI.out (d : Int) W h)
             generalize speedV ((d : Int) + 1) = s1 at *
             generalize speedV (d : Int) = s0 at *
             generalize minutesV ((d : Int) + 1) p = m1 at *
             generalize minutesV (d : Int) p = m0 at *
             go_wp2_with fail
             refine (HB1.out _ (HT.out.in_ f6_0)).mono ?_
             rintro _ w7 ⟨rfl, hb7⟩
             have f7_0 : In w.heap.size w w7 := f6_0.step hb7
             have f7_1 : ReadsI w7 A n xs := f6_1.step hb7
             clear f6_0 f6_1
             clear hb7
             go_wp2_with fail
             refine (HB2.out _ (HT.out.in_ f7_0)).mono ?_
             rintro _ w8 ⟨rfl, hb8⟩
             have f8_0 : In w.heap.size w w8 := f7_0.step hb8
             have f8_1 : ReadsI w8 A n xs := f7_1.step hb8
             clear f7_0 f7_1
             clear hb8
             go_wp2_with fail
             refine (HB3.out _ (HT.out.in_ f8_0)).mono ?_
             rintro _ w9 ⟨rfl, hb9⟩
             have f9_0 : In w.heap.size w w9 := f8_0.step hb9
             have f9_1 : ReadsI w9 A n xs := f8_1.step hb9
             clear f8_0 f8_1
             clear hb9
             go_wp2_with fail
             refine (HB4.out _ (HT.out.in_ f9_0)).mono ?_
             rintro _ w10 ⟨rfl, hb10⟩
             have f10_0 : In w.heap.size w w10 := f9_0.step hb10
             have f10_1 : ReadsI w10 A n xs := f9_1.step hb10
             clear f9_0 f9_1
             clear hb10
             go_wp2
             go_roundw
             case rel => exact ⟨d + 1, by omega, by omega, by go_num, f10_0, f10_1⟩
             case measure => simp [intOf]; omega
           · skip
             obtain rfl : d = 34 := by omega
             clear hlt hd4 hd34 HWL HSI HET
             go_wp2_with fail
             refine (HA1.out _ f6_0).mono ?_
             rintro e w' ⟨rfl, rfl⟩
             go_wp2_with fail
             (try rw [hme])
             refine (HCO.out _ (HT.out.in_ f6_0)).mono ?_
             rintro _ w7 ⟨rfl, hb7⟩
             have f7_0 : In w.heap.size w w7 := f6_0.step hb7
             have f7_1 : ReadsI w7 A n xs := f6_1.step hb7
             clear f6_0 f6_1
             clear hb7
             clear HCO hme
             as_aux_lemma =>
              rcases hC with ⟨hc1, hc2⟩ | ⟨hc1, hc2, hc3, hc4⟩
              · skip
                have HCL := Lib.hid (show ∀ W', In w.heap.size w W' ∧ ReadsI W' A n xs → ∀ W2, Below W'.heap.size W' W2 → In w.heap.size w W2 ∧ ReadsI W2 A n xs from fun W' h W2 hb => by
                  obtain ⟨g0, g1⟩ := h
                  exact ⟨g0.step hb, g1.step hb⟩)
                obtain rfl : cl = -1 := hc1
                have e1 : decide (minutesV 34 p ≤ m) = false := decide_eq_false (by omega)
                have HM4 := Lib.hid (fun W h => HMI.out 34 W h)
                generalize minutesV 34 p = m34 at e1 HM4
                simp only []
                iterate 9 go_step
                (try rw [List.append_eq])
                (try rw [List.append_eq])
                (repeat rw [List.cons_append])
                (repeat rw [List.nil_append])
                refine wp_region_L (C := (fun w' => In w.heap.size w w' ∧ ReadsI w' A n xs)) ?_ ?_
                · exact ⟨f7_0, f7_1⟩
                repeat (first | go_big_quiet_skip | (go_big_quiet_want; first | (refine quiet_ex ?_; apply Exists.intro; refine ⟨fun W hW => ?_, ?_⟩; (· (obtain ⟨f8_0, f8_1⟩ := hW; go_simp; (first | done | with_reducible rfl | rfl))); simp only [Act.put, List.setIfInBounds_toArray, List.set_cons_zero, List.set_cons_succ]; go_big_quiet_on) | (refine quiet_ex ?_; apply Exists.intro; refine ⟨fun W hW => ?_, ?_⟩; (· (go_simp; first | (go_at_call 18; (with_reducible refine (HM4.out _ (HT.out.in_ hW.1)).mono ?_); rintro e w2 ⟨rfl, hb2⟩; exact ⟨rfl, HCL.out _ hW _ hb2⟩))); simp only [Act.put, List.setIfInBounds_toArray, List.set_cons_zero, List.set_cons_succ]; go_big_quiet_on)))
                refine wpQuiet_nil ?_
                rintro w' ⟨f8_0, f8_1⟩
                clear f7_0 f7_1
                obtain ⟨u3, hx9⟩ : ∃ x, x = w' := ⟨_, rfl⟩
                subst hx9
                as_aux_lemma =>
                 clear e1 HM4
                 clear HCL
                 go_wp2_with fail
                 refine (HMZ.out _ (HT.out.in_ f8_0)).mono ?_
                 rintro _ w9 ⟨rfl, hb9⟩
                 have f9_0 : In w.heap.size w w9 := f8_0.step hb9
                 have f9_1 : ReadsI w9 A n xs := f8_1.step hb9
                 clear f8_0 f8_1
                 clear hb9
                 have V1 : IntKind.i64.wrap (z * 8) = z * 8 := by rw [IntWalk.i64_in _ (by omega)]
                 have V2 : IntKind.i64.wrap (z - 1) = z - 1 := by rw [IntWalk.i64_in _ (by omega)]
                 have V3 : IntKind.i64.wrap ((z - 1) * 8) = (z - 1) * 8 := by rw [IntWalk.i64_in _ (by omega)]
                 have d1 : decide (p ≤ z * 8) = true := decide_eq_true (by omega)
                 have d2 : decide ((z - 1) * 8 < p) = true := decide_eq_true (by omega)
                 have HCL := Lib.hid (show ∀ W', In w.heap.size w W' ∧ ReadsI W' A n xs → ∀ W2, Below W'.heap.size W' W2 → In w.heap.size w W2 ∧ ReadsI W2 A n xs from fun W' h W2 hb => by
                   obtain ⟨g0, g1⟩ := h
                   exact ⟨g0.step hb, g1.step hb⟩)
                 simp only []
                 iterate 8 go_step
                 (try rw [List.append_eq])
                 (try rw [List.append_eq])
                 (repeat rw [List.cons_append])
                 (repeat rw [List.nil_append])
                 refine wp_region_L (C := (fun w' => In w.heap.size w w' ∧ ReadsI w' A n xs)) ?_ ?_
                 · exact ⟨f9_0, f9_1⟩
                 repeat (first | go_big_quiet_skip | (go_big_quiet_want; first | (refine quiet_ex ?_; apply Exists.intro; refine ⟨fun W hW => ?_, ?_⟩; (· (obtain ⟨f10_0, f10_1⟩ := hW; go_simp; (first | done | with_reducible rfl | rfl))); simp only [Act.put, List.setIfInBounds_toArray, List.set_cons_zero, List.set_cons_succ]; go_big_quiet_on) | (refine quiet_ex ?_; apply Exists.intro; refine ⟨fun W hW => ?_, ?_⟩; (· (go_simp; first | (go_at_call 17; (with_reducible refine (HS3.out _ (HT.out.in_ hW.1)).mono ?_); rintro e w2 ⟨rfl, hb2⟩; exact ⟨rfl, HCL.out _ hW _ hb2⟩) | (go_at_call 17; (with_reducible refine (HS5.out _ (HT.out.in_ hW.1)).mono ?_); rintro e w2 ⟨rfl, hb2⟩; exact ⟨rfl, HCL.out _ hW _ hb2⟩))); simp only [Act.put, List.setIfInBounds_toArray, List.set_cons_zero, List.set_cons_succ]; go_big_quiet_on)))
                 refine wpQuiet_nil ?_
                 rintro w' ⟨f10_0, f10_1⟩
                 clear f9_0 f9_1
                 go_wp2
                 go_ret
                 exact ⟨ret_bool rfl, f10_0.below⟩
              · by_cases hc5 : 4 < cl
                · skip
                  have HCL := Lib.hid (show ∀ W', In w.heap.size w W' ∧ ReadsI W' A n xs → ∀ W2, Below W'.heap.size W' W2 → In w.heap.size w W2 ∧ ReadsI W2 A n xs from fun W' h W2 hb => by
                    obtain ⟨g0, g1⟩ := h
                    exact ⟨g0.step hb, g1.step hb⟩)
                  have e1 : decide (0 ≤ cl) = true := decide_eq_true (by omega)
                  have e2 : decide (cl < 0) = false := decide_eq_false (by omega)
                  have e3 : decide (m < minutesV cl p) = false := decide_eq_false (by omega)
                  have HM4 := Lib.hid (fun W h => HMI.out cl W h)
                  have e4 : decide (4 < cl) = true := decide_eq_true (by omega)
                  have e5 : decide (minutesV (cl - 1) p ≤ m) = false := decide_eq_false (by have := hc4 (by omega); omega)
                  have HM5 := Lib.hid (fun W h => HMI.out (cl - 1) W h)
                  have V9 : IntKind.i64.wrap (cl - 1) = cl - 1 := by rw [IntWalk.i64_in _ (by omega)]
                  generalize minutesV cl p = mc at e3 HM4
                  generalize minutesV (cl - 1) p = md at e5 HM5
                  simp only []
                  iterate 9 go_step
                  (try rw [List.append_eq])
                  (try rw [List.append_eq])
                  (repeat rw [List.cons_append])
                  (repeat rw [List.nil_append])
                  refine wp_region_L (C := (fun w' => In w.heap.size w w' ∧ ReadsI w' A n xs)) ?_ ?_
                  · exact ⟨f7_0, f7_1⟩
                  repeat (first | go_big_quiet_skip | (go_big_quiet_want; first | (refine quiet_ex ?_; apply Exists.intro; refine ⟨fun W hW => ?_, ?_⟩; (· (obtain ⟨f8_0, f8_1⟩ := hW; go_simp; (first | done | with_reducible rfl | rfl))); simp only [Act.put, List.setIfInBounds_toArray, List.set_cons_zero, List.set_cons_succ]; go_big_quiet_on) | (refine quiet_ex ?_; apply Exists.intro; refine ⟨fun W hW => ?_, ?_⟩; (· (go_simp; first | (go_at_call 18; (with_reducible refine (HM4.out _ (HT.out.in_ hW.1)).mono ?_); rintro e w2 ⟨rfl, hb2⟩; exact ⟨rfl, HCL.out _ hW _ hb2⟩) | (go_at_call 18; (with_reducible refine (HM5.out _ (HT.out.in_ hW.1)).mono ?_); rintro e w2 ⟨rfl, hb2⟩; exact ⟨rfl, HCL.out _ hW _ hb2⟩))); simp only [Act.put, List.setIfInBounds_toArray, List.set_cons_zero, List.set_cons_succ]; go_big_quiet_on)))
                  refine wpQuiet_nil ?_
                  rintro w' ⟨f8_0, f8_1⟩
                  clear f7_0 f7_1
                  obtain ⟨u3, hx9⟩ : ∃ x, x = w' := ⟨_, rfl⟩
                  subst hx9
                  as_aux_lemma =>
                   clear e1 HM4 e2 e3 e4 e5 HM5 V9
                   clear HCL
                   go_wp2_with fail
                   refine (HMZ.out _ (HT.out.in_ f8_0)).mono ?_
                   rintro _ w9 ⟨rfl, hb9⟩
                   have f9_0 : In w.heap.size w w9 := f8_0.step hb9
                   have f9_1 : ReadsI w9 A n xs := f8_1.step hb9
                   clear f8_0 f8_1
                   clear hb9
                   have V1 : IntKind.i64.wrap (z * 8) = z * 8 := by rw [IntWalk.i64_in _ (by omega)]
                   have V2 : IntKind.i64.wrap (z - 1) = z - 1 := by rw [IntWalk.i64_in _ (by omega)]
                   have V3 : IntKind.i64.wrap ((z - 1) * 8) = (z - 1) * 8 := by rw [IntWalk.i64_in _ (by omega)]
                   have d1 : decide (p ≤ z * 8) = true := decide_eq_true (by omega)
                   have d2 : decide ((z - 1) * 8 < p) = true := decide_eq_true (by omega)
                   have HCL := Lib.hid (show ∀ W', In w.heap.size w W' ∧ ReadsI W' A n xs → ∀ W2, Below W'.heap.size W' W2 → In w.heap.size w W2 ∧ ReadsI W2 A n xs from fun W' h W2 hb => by
                     obtain ⟨g0, g1⟩ := h
                     exact ⟨g0.step hb, g1.step hb⟩)
                   simp only []
                   iterate 8 go_step
                   (try rw [List.append_eq])
                   (try rw [List.append_eq])
                   (repeat rw [List.cons_append])
                   (repeat rw [List.nil_append])
                   refine wp_region_L (C := (fun w' => In w.heap.size w w' ∧ ReadsI w' A n xs)) ?_ ?_
                   · exact ⟨f9_0, f9_1⟩
                   repeat (first | go_big_quiet_skip | (go_big_quiet_want; first | (refine quiet_ex ?_; apply Exists.intro; refine ⟨fun W hW => ?_, ?_⟩; (· (obtain ⟨f10_0, f10_1⟩ := hW; go_simp; (first | done | with_reducible rfl | rfl))); simp only [Act.put, List.setIfInBounds_toArray, List.set_cons_zero, List.set_cons_succ]; go_big_quiet_on) | (refine quiet_ex ?_; apply Exists.intro; refine ⟨fun W hW => ?_, ?_⟩; (· (go_simp; first | (go_at_call 17; (with_reducible refine (HS3.out _ (HT.out.in_ hW.1)).mono ?_); rintro e w2 ⟨rfl, hb2⟩; exact ⟨rfl, HCL.out _ hW _ hb2⟩) | (go_at_call 17; (with_reducible refine (HS5.out _ (HT.out.in_ hW.1)).mono ?_); rintro e w2 ⟨rfl, hb2⟩; exact ⟨rfl, HCL.out _ hW _ hb2⟩))); simp only [Act.put, List.setIfInBounds_toArray, List.set_cons_zero, List.set_cons_succ]; go_big_quiet_on)))
                   refine wpQuiet_nil ?_
                   rintro w' ⟨f10_0, f10_1⟩
                   clear f9_0 f9_1
                   go_wp2
                   go_ret
                   exact ⟨ret_bool rfl, f10_0.below⟩
                · skip
                  have HCL := Lib.hid (show ∀ W', In w.heap.size w W' ∧ ReadsI W' A n xs → ∀ W2, Below W'.heap.size W' W2 → In w.heap.size w W2 ∧ ReadsI W2 A n xs from fun W' h W2 hb => by
                    obtain ⟨g0, g1⟩ := h
                    exact ⟨g0.step hb, g1.step hb⟩)
                  have e1 : decide (0 ≤ cl) = true := decide_eq_true (by omega)
                  have e2 : decide (cl < 0) = false := decide_eq_false (by omega)
                  have e3 : decide (m < minutesV cl p) = false := decide_eq_false (by omega)
                  have HM4 := Lib.hid (fun W h => HMI.out cl W h)
                  have e4 : decide (4 < cl) = false := decide_eq_false (by omega)
                  generalize minutesV cl p = mc at e3 HM4
                  simp only []
                  iterate 9 go_step
                  (try rw [List.append_eq])
                  (try rw [List.append_eq])
                  (repeat rw [List.cons_append])
                  (repeat rw [List.nil_append])
                  refine wp_region_L (C := (fun w' => In w.heap.size w w' ∧ ReadsI w' A n xs)) ?_ ?_
                  · exact ⟨f7_0, f7_1⟩
                  repeat (first | go_big_quiet_skip | (go_big_quiet_want; first | (refine quiet_ex ?_; apply Exists.intro; refine ⟨fun W hW => ?_, ?_⟩; (· (obtain ⟨f8_0, f8_1⟩ := hW; go_simp; (first | done | with_reducible rfl | rfl))); simp only [Act.put, List.setIfInBounds_toArray, List.set_cons_zero, List.set_cons_succ]; go_big_quiet_on) | (refine quiet_ex ?_; apply Exists.intro; refine ⟨fun W hW => ?_, ?_⟩; (· (go_simp; first | (go_at_call 18; (with_reducible refine (HM4.out _ (HT.out.in_ hW.1)).mono ?_); rintro e w2 ⟨rfl, hb2⟩; exact ⟨rfl, HCL.out _ hW _ hb2⟩))); simp only [Act.put, List.setIfInBounds_toArray, List.set_cons_zero, List.set_cons_succ]; go_big_quiet_on)))
                  refine wpQuiet_nil ?_
                  rintro w' ⟨f8_0, f8_1⟩
                  clear f7_0 f7_1
                  obtain ⟨u3, hx9⟩ : ∃ x, x = w' := ⟨_, rfl⟩
                  subst hx9
                  as_aux_lemma =>
                   clear e1 HM4 e2 e3 e4
                   clear HCL
                   go_wp2_with fail
                   refine (HMZ.out _ (HT.out.in_ f8_0)).mono ?_
                   rintro _ w9 ⟨rfl, hb9⟩
                   have f9_0 : In w.heap.size w w9 := f8_0.step hb9
                   have f9_1 : ReadsI w9 A n xs := f8_1.step hb9
                   clear f8_0 f8_1
                   clear hb9
                   have V1 : IntKind.i64.wrap (z * 8) = z * 8 := by rw [IntWalk.i64_in _ (by omega)]
                   have V2 : IntKind.i64.wrap (z - 1) = z - 1 := by rw [IntWalk.i64_in _ (by omega)]
                   have V3 : IntKind.i64.wrap ((z - 1) * 8) = (z - 1) * 8 := by rw [IntWalk.i64_in _ (by omega)]
                   have d1 : decide (p ≤ z * 8) = true := decide_eq_true (by omega)
                   have d2 : decide ((z - 1) * 8 < p) = true := decide_eq_true (by omega)
                   have HCL := Lib.hid (show ∀ W', In w.heap.size w W' ∧ ReadsI W' A n xs → ∀ W2, Below W'.heap.size W' W2 → In w.heap.size w W2 ∧ ReadsI W2 A n xs from fun W' h W2 hb => by
                     obtain ⟨g0, g1⟩ := h
                     exact ⟨g0.step hb, g1.step hb⟩)
                   simp only []
                   iterate 8 go_step
                   (try rw [List.append_eq])
                   (try rw [List.append_eq])
                   (repeat rw [List.cons_append])
                   (repeat rw [List.nil_append])
                   refine wp_region_L (C := (fun w' => In w.heap.size w w' ∧ ReadsI w' A n xs)) ?_ ?_
                   · exact ⟨f9_0, f9_1⟩
                   repeat (first | go_big_quiet_skip | (go_big_quiet_want; first | (refine quiet_ex ?_; apply Exists.intro; refine ⟨fun W hW => ?_, ?_⟩; (· (obtain ⟨f10_0, f10_1⟩ := hW; go_simp; (first | done | with_reducible rfl | rfl))); simp only [Act.put, List.setIfInBounds_toArray, List.set_cons_zero, List.set_cons_succ]; go_big_quiet_on) | (refine quiet_ex ?_; apply Exists.intro; refine ⟨fun W hW => ?_, ?_⟩; (· (go_simp; first | (go_at_call 17; (with_reducible refine (HS3.out _ (HT.out.in_ hW.1)).mono ?_); rintro e w2 ⟨rfl, hb2⟩; exact ⟨rfl, HCL.out _ hW _ hb2⟩) | (go_at_call 17; (with_reducible refine (HS5.out _ (HT.out.in_ hW.1)).mono ?_); rintro e w2 ⟨rfl, hb2⟩; exact ⟨rfl, HCL.out _ hW _ hb2⟩))); simp only [Act.put, List.setIfInBounds_toArray, List.set_cons_zero, List.set_cons_succ]; go_big_quiet_on)))
                   refine wpQuiet_nil ?_
                   rintro w' ⟨f10_0, f10_1⟩
                   clear f9_0 f9_1
                   go_wp2
                   go_ret
                   exact ⟨ret_bool rfl, f10_0.below⟩
  · skip
    have d0 : decide (S < 0) = false := decide_eq_false (by omega)
    have d1 : decide (p ≤ S) = true := decide_eq_true (by omega)
    have d2 : decide ((n : Int) ≤ (i : Int)) = false := decide_eq_false (by omega)
    have d2n : decide (n ≤ i) = false := decide_eq_false (by omega)
    have d3 : decide (0 ≤ (i : Int)) = true := decide_eq_true (by omega)
    obtain ⟨j, hj⟩ : ∃ j, i + 1 = j := ⟨_, rfl⟩
    rw [hj] at hr1
    have hjn : j ≤ n := by omega
    have hjc : j ≤ cp := by omega
    have hic : i ≤ cp := by omega
    have hin : i ≤ n := by omega
    have V1 : IntKind.i64.wrap ((i : Int) + 1) = (j : Int) := by rw [IntWalk.i64_in _ (by omega)]; omega
    have L1 := HSL.out j hjc
    have L2 := HSL.out i hic
    have HX1 := Lib.hid (fun W (h : ReadsI W A n xs) => HRP.out j hjn W (reads_hi h j hjn))
    have HX2 := Lib.hid (fun W (h : ReadsI W A n xs) => HRP.out i hin W (reads_hi h i hin))
    generalize sumTo (rG xs) j = su at *
    generalize sumTo (rG xs) i = sv at *
    have d4 : decide (su < p) = false := decide_eq_false (by omega)
    have d5 : decide (p ≤ sv) = false := decide_eq_false (by omega)
    clear hj
    simp only []
    iterate 9 go_step
    (try rw [List.append_eq])
    (try rw [List.append_eq])
    (repeat rw [List.cons_append])
    (repeat rw [List.nil_append])
    refine wp_region_L (C := (fun w' => In w.heap.size w w' ∧ ReadsI w' A n xs)) ?_ ?_
    · exact ⟨f3_0, f3_1⟩
    repeat (first | go_big_quiet_skip | (go_big_quiet_want; first | (refine quiet_ex ?_; apply Exists.intro; refine ⟨fun W hW => ?_, ?_⟩; (· (obtain ⟨f4_0, f4_1⟩ := hW; go_simp; (first | done | with_reducible rfl | rfl))); simp only [Act.put, List.setIfInBounds_toArray, List.set_cons_zero, List.set_cons_succ]; go_big_quiet_on) | (refine quiet_ex ?_; apply Exists.intro; refine ⟨fun W hW => ?_, ?_⟩; (· (go_simp; first | (go_at_call 15; (with_reducible refine (HX1.out _ hW.2 (HT.out.in_ hW.1)).mono ?_); rintro e w2 ⟨rfl, hb2⟩; exact ⟨rfl, HCL.out _ hW _ hb2⟩) | (go_at_call 15; (with_reducible refine (HX2.out _ hW.2 (HT.out.in_ hW.1)).mono ?_); rintro e w2 ⟨rfl, hb2⟩; exact ⟨rfl, HCL.out _ hW _ hb2⟩))); simp only [Act.put, List.setIfInBounds_toArray, List.set_cons_zero, List.set_cons_succ]; go_big_quiet_on)))
    refine wpQuiet_nil ?_
    rintro w' ⟨f4_0, f4_1⟩
    clear f3_0 f3_1
    obtain ⟨u0, hx9⟩ : ∃ x, x = w' := ⟨_, rfl⟩
    subst hx9
    clear d0 d1 d2 HCL HRP HSL d2n d3 V1 L1 L2 HX1 HX2 d4 d5
    as_aux_lemma =>
     go_wp2
     go_loopw [7, 8] (fun v i wr => ∃ k : Nat, k ≤ n ∧ i = .int .i64 k ∧ v = .int .i64 (sumTo (rG xs) k) ∧ (In w.heap.size w wr ∧ ReadsI wr A n xs)) (fun _ i _ => n - (intOf i).toNat)
     case atStart => exact ⟨0, Nat.zero_le _, rfl, rfl, f4_0, f4_1⟩
     case round =>
       obtain ⟨k, hk, rfl, rfl, f5_0, f5_1⟩ := hrel
       clear f4_0 f4_1
       by_cases hlt : k < n
       · skip
         obtain ⟨ad, rfl, hcj⟩ := f5_1.2 k hlt
         have hs := HSI.out k hk
         have hs1 := HSI.out (k + 1) (by omega)
         have HSU := Lib.hid (show sumTo (rG xs) (k + 1) = sumTo (rG xs) k + speedV (xs.getD k 0) from rfl)
         rw [HSU.out] at hs1
         generalize xs.getD k 0 = x at hcj HSU hs1
         generalize sumTo (rG xs) k = s9 at *
         have hV7 : wrap64 (s9 + speedV x) = s9 + speedV x := w64 ⟨by omega, by omega⟩
         go_wp2_with fail
         refine (HSP.out x _ (HT.out.in_ f5_0)).mono ?_
         rintro _ w6 ⟨rfl, hb6⟩
         have f6_0 : In w.heap.size w w6 := f5_0.step hb6
         have f6_1 : ReadsI w6 (some ad) n xs := f5_1.step hb6
         clear f5_0 f5_1
         clear hb6
         generalize speedV x = sx at *
         go_wp2
         go_roundw
         case rel => exact ⟨k + 1, by omega, by go_num, by rw [HSU.out], f6_0, f6_1⟩
         case measure => simp [intOf]; omega
       · skip
         obtain rfl : n = k := by omega
         rw [HET.out]
         clear hlt hk
         go_wp2
         go_loopw [9] (fun i wq => ∃ d : Nat, 4 ≤ d ∧ d ≤ 34 ∧ i = .int .i64 d ∧ (In w.heap.size w wq ∧ ReadsI wq A n xs)) (fun i _ => 34 - (intOf i).toNat)
         case atStart => exact ⟨4, by omega, by omega, rfl, f5_0, f5_1⟩
         case round =>
           obtain ⟨d, hd4, hd34, rfl, f6_0, f6_1⟩ := hrel
           clear f5_0 f5_1
           by_cases hlt : d < 34
           · skip
             obtain ⟨w1_, w2_⟩ := HWL.out (d : Int) ⟨by omega, by omega⟩
             have HB1 := Lib.hid (fun W h => HSP.out ((d : Int) + 1) W h)
             have HB2 := Lib.hid (fun W h => HSP.out (d : Int) W h)
             have HB3 := Lib.hid (fun W h => HMI.out ((d : Int) + 1) W h)
             have HB4 := Lib.hid (fun W h => HMI.out (d : Int) W h)
             generalize speedV ((d : Int) + 1) = s1 at *
             generalize speedV (d : Int) = s0 at *
             generalize minutesV ((d : Int) + 1) p = m1 at *
             generalize minutesV (d : Int) p = m0 at *
             go_wp2_with fail
             refine (HB1.out _ (HT.out.in_ f6_0)).mono ?_
             rintro _ w7 ⟨rfl, hb7⟩
             have f7_0 : In w.heap.size w w7 := f6_0.step hb7
             have f7_1 : ReadsI w7 A n xs := f6_1.step hb7
             clear f6_0 f6_1
             clear hb7
             go_wp2_with fail
             refine (HB2.out _ (HT.out.in_ f7_0)).mono ?_
             rintro _ w8 ⟨rfl, hb8⟩
             have f8_0 : In w.heap.size w w8 := f7_0.step hb8
             have f8_1 : ReadsI w8 A n xs := f7_1.step hb8
             clear f7_0 f7_1
             clear hb8
             go_wp2_with fail
             refine (HB3.out _ (HT.out.in_ f8_0)).mono ?_
             rintro _ w9 ⟨rfl, hb9⟩
             have f9_0 : In w.heap.size w w9 := f8_0.step hb9
             have f9_1 : ReadsI w9 A n xs := f8_1.step hb9
             clear f8_0 f8_1
             clear hb9
             go_wp2_with fail
             refine (HB4.out _ (HT.out.in_ f9_0)).mono ?_
             rintro _ w10 ⟨rfl, hb10⟩
             have f10_0 : In w.heap.size w w10 := f9_0.step hb10
             have f10_1 : ReadsI w10 A n xs := f9_1.step hb10
             clear f9_0 f9_1
             clear hb10
             go_wp2
             go_roundw
             case rel => exact ⟨d + 1, by omega, by omega, by go_num, f10_0, f10_1⟩
             case measure => simp [intOf]; omega
           · skip
             obtain rfl : d = 34 := by omega
             clear hlt hd4 hd34 HWL HSI HET
             go_wp2_with fail
             refine (HA1.out _ f6_0).mono ?_
             rintro e w' ⟨rfl, rfl⟩
             go_wp2_with fail
             (try rw [hme])
             refine (HCO.out _ (HT.out.in_ f6_0)).mono ?_
             rintro _ w7 ⟨rfl, hb7⟩
             have f7_0 : In w.heap.size w w7 := f6_0.step hb7
             have f7_1 : ReadsI w7 A n xs := f6_1.step hb7
             clear f6_0 f6_1
             clear hb7
             clear HCO hme
             as_aux_lemma =>
              rcases hC with ⟨hc1, hc2⟩ | ⟨hc1, hc2, hc3, hc4⟩
              · skip
                have HCL := Lib.hid (show ∀ W', In w.heap.size w W' ∧ ReadsI W' A n xs → ∀ W2, Below W'.heap.size W' W2 → In w.heap.size w W2 ∧ ReadsI W2 A n xs from fun W' h W2 hb => by
                  obtain ⟨g0, g1⟩ := h
                  exact ⟨g0.step hb, g1.step hb⟩)
                obtain rfl : cl = -1 := hc1
                have e1 : decide (minutesV 34 p ≤ m) = false := decide_eq_false (by omega)
                have HM4 := Lib.hid (fun W h => HMI.out 34 W h)
                generalize minutesV 34 p = m34 at e1 HM4
                simp only []
                iterate 9 go_step
                (try rw [List.append_eq])
                (try rw [List.append_eq])
                (repeat rw [List.cons_append])
                (repeat rw [List.nil_append])
                refine wp_region_L (C := (fun w' => In w.heap.size w w' ∧ ReadsI w' A n xs)) ?_ ?_
                · exact ⟨f7_0, f7_1⟩
                repeat (first | go_big_quiet_skip | (go_big_quiet_want; first | (refine quiet_ex ?_; apply Exists.intro; refine ⟨fun W hW => ?_, ?_⟩; (· (obtain ⟨f8_0, f8_1⟩ := hW; go_simp; (first | done | with_reducible rfl | rfl))); simp only [Act.put, List.setIfInBounds_toArray, List.set_cons_zero, List.set_cons_succ]; go_big_quiet_on) | (refine quiet_ex ?_; apply Exists.intro; refine ⟨fun W hW => ?_, ?_⟩; (· (go_simp; first | (go_at_call 18; (with_reducible refine (HM4.out _ (HT.out.in_ hW.1)).mono ?_); rintro e w2 ⟨rfl, hb2⟩; exact ⟨rfl, HCL.out _ hW _ hb2⟩))); simp only [Act.put, List.setIfInBounds_toArray, List.set_cons_zero, List.set_cons_succ]; go_big_quiet_on)))
                refine wpQuiet_nil ?_
                rintro w' ⟨f8_0, f8_1⟩
                clear f7_0 f7_1
                obtain ⟨u3, hx9⟩ : ∃ x, x = w' := ⟨_, rfl⟩
                subst hx9
                as_aux_lemma =>
                 clear e1 HM4
                 clear HCL
                 go_wp2_with fail
                 refine (HMZ.out _ (HT.out.in_ f8_0)).mono ?_
                 rintro _ w9 ⟨rfl, hb9⟩
                 have f9_0 : In w.heap.size w w9 := f8_0.step hb9
                 have f9_1 : ReadsI w9 A n xs := f8_1.step hb9
                 clear f8_0 f8_1
                 clear hb9
                 have V1 : IntKind.i64.wrap (z * 8) = z * 8 := by rw [IntWalk.i64_in _ (by omega)]
                 have V2 : IntKind.i64.wrap (z - 1) = z - 1 := by rw [IntWalk.i64_in _ (by omega)]
                 have V3 : IntKind.i64.wrap ((z - 1) * 8) = (z - 1) * 8 := by rw [IntWalk.i64_in _ (by omega)]
                 have d1 : decide (p ≤ z * 8) = true := decide_eq_true (by omega)
                 have d2 : decide ((z - 1) * 8 < p) = true := decide_eq_true (by omega)
                 have HCL := Lib.hid (show ∀ W', In w.heap.size w W' ∧ ReadsI W' A n xs → ∀ W2, Below W'.heap.size W' W2 → In w.heap.size w W2 ∧ ReadsI W2 A n xs from fun W' h W2 hb => by
                   obtain ⟨g0, g1⟩ := h
                   exact ⟨g0.step hb, g1.step hb⟩)
                 simp only []
                 iterate 8 go_step
                 (try rw [List.append_eq])
                 (try rw [List.append_eq])
                 (repeat rw [List.cons_append])
                 (repeat rw [List.nil_append])
                 refine wp_region_L (C := (fun w' => In w.heap.size w w' ∧ ReadsI w' A n xs)) ?_ ?_
                 · exact ⟨f9_0, f9_1⟩
                 repeat (first | go_big_quiet_skip | (go_big_quiet_want; first | (refine quiet_ex ?_; apply Exists.intro; refine ⟨fun W hW => ?_, ?_⟩; (· (obtain ⟨f10_0, f10_1⟩ := hW; go_simp; (first | done | with_reducible rfl | rfl))); simp only [Act.put, List.setIfInBounds_toArray, List.set_cons_zero, List.set_cons_succ]; go_big_quiet_on) | (refine quiet_ex ?_; apply Exists.intro; refine ⟨fun W hW => ?_, ?_⟩; (· (go_simp; first | (go_at_call 17; (with_reducible refine (HS3.out _ (HT.out.in_ hW.1)).mono ?_); rintro e w2 ⟨rfl, hb2⟩; exact ⟨rfl, HCL.out _ hW _ hb2⟩) | (go_at_call 17; (with_reducible refine (HS5.out _ (HT.out.in_ hW.1)).mono ?_); rintro e w2 ⟨rfl, hb2⟩; exact ⟨rfl, HCL.out _ hW _ hb2⟩))); simp only [Act.put, List.setIfInBounds_toArray, List.set_cons_zero, List.set_cons_succ]; go_big_quiet_on)))
                 refine wpQuiet_nil ?_
                 rintro w' ⟨f10_0, f10_1⟩
                 clear f9_0 f9_1
                 go_wp2
                 go_ret
                 exact ⟨ret_bool rfl, f10_0.below⟩
              · by_cases hc5 : 4 < cl
                · skip
                  have HCL := Lib.hid (show ∀ W', In w.heap.size w W' ∧ ReadsI W' A n xs → ∀ W2, Below W'.heap.size W' W2 → In w.heap.size w W2 ∧ ReadsI W2 A n xs from fun W' h W2 hb => by
                    obtain ⟨g0, g1⟩ := h
                    exact ⟨g0.step hb, g1.step hb⟩)
                  have e1 : decide (0 ≤ cl) = true := decide_eq_true (by omega)
                  have e2 : decide (cl < 0) = false := decide_eq_false (by omega)
                  have e3 : decide (m < minutesV cl p) = false := decide_eq_false (by omega)
                  have HM4 := Lib.hid (fun W h => HMI.out cl W h)
                  have e4 : decide (4 < cl) = true := decide_eq_true (by omega)
                  have e5 : decide (minutesV (cl - 1) p ≤ m) = false := decide_eq_false (by have := hc4 (by omega); omega)
                  have HM5 := Lib.hid (fun W h => HMI.out (cl - 1) W h)
                  have V9 : IntKind.i64.wrap (cl - 1) = cl - 1 := by rw [IntWalk.i64_in _ (by omega)]
                  generalize minutesV cl p = mc at e3 HM4
                  generalize minutesV (cl - 1) p = md at e5 HM5
                  simp only []
                  iterate 9 go_step
                  (try rw [List.append_eq])
                  (try rw [List.append_eq])
                  (repeat rw [List.cons_append])
                  (repeat rw [List.nil_append])
                  refine wp_region_L (C := (fun w' => In w.heap.size w w' ∧ ReadsI w' A n xs)) ?_ ?_
                  · exact ⟨f7_0, f7_1⟩
                  repeat (first | go_big_quiet_skip | (go_big_quiet_want; first | (refine quiet_ex ?_; apply Exists.intro; refine ⟨fun W hW => ?_, ?_⟩; (· (obtain ⟨f8_0, f8_1⟩ := hW; go_simp; (first | done | with_reducible rfl | rfl))); simp only [Act.put, List.setIfInBounds_toArray, List.set_cons_zero, List.set_cons_succ]; go_big_quiet_on) | (refine quiet_ex ?_; apply Exists.intro; refine ⟨fun W hW => ?_, ?_⟩; (· (go_simp; first | (go_at_call 18; (with_reducible refine (HM4.out _ (HT.out.in_ hW.1)).mono ?_); rintro e w2 ⟨rfl, hb2⟩; exact ⟨rfl, HCL.out _ hW _ hb2⟩) | (go_at_call 18; (with_reducible refine (HM5.out _ (HT.out.in_ hW.1)).mono ?_); rintro e w2 ⟨rfl, hb2⟩; exact ⟨rfl, HCL.out _ hW _ hb2⟩))); simp only [Act.put, List.setIfInBounds_toArray, List.set_cons_zero, List.set_cons_succ]; go_big_quiet_on)))
                  refine wpQuiet_nil ?_
                  rintro w' ⟨f8_0, f8_1⟩
                  clear f7_0 f7_1
                  obtain ⟨u3, hx9⟩ : ∃ x, x = w' := ⟨_, rfl⟩
                  subst hx9
                  as_aux_lemma =>
                   clear e1 HM4 e2 e3 e4 e5 HM5 V9
                   clear HCL
                   go_wp2_with fail
                   refine (HMZ.out _ (HT.out.in_ f8_0)).mono ?_
                   rintro _ w9 ⟨rfl, hb9⟩
                   have f9_0 : In w.heap.size w w9 := f8_0.step hb9
                   have f9_1 : ReadsI w9 A n xs := f8_1.step hb9
                   clear f8_0 f8_1
                   clear hb9
                   have V1 : IntKind.i64.wrap (z * 8) = z * 8 := by rw [IntWalk.i64_in _ (by omega)]
                   have V2 : IntKind.i64.wrap (z - 1) = z - 1 := by rw [IntWalk.i64_in _ (by omega)]
                   have V3 : IntKind.i64.wrap ((z - 1) * 8) = (z - 1) * 8 := by rw [IntWalk.i64_in _ (by omega)]
                   have d1 : decide (p ≤ z * 8) = true := decide_eq_true (by omega)
                   have d2 : decide ((z - 1) * 8 < p) = true := decide_eq_true (by omega)
                   have HCL := Lib.hid (show ∀ W', In w.heap.size w W' ∧ ReadsI W' A n xs → ∀ W2, Below W'.heap.size W' W2 → In w.heap.size w W2 ∧ ReadsI W2 A n xs from fun W' h W2 hb => by
                     obtain ⟨g0, g1⟩ := h
                     exact ⟨g0.step hb, g1.step hb⟩)
                   simp only []
                   iterate 8 go_step
                   (try rw [List.append_eq])
                   (try rw [List.append_eq])
                   (repeat rw [List.cons_append])
                   (repeat rw [List.nil_append])
                   refine wp_region_L (C := (fun w' => In w.heap.size w w' ∧ ReadsI w' A n xs)) ?_ ?_
                   · exact ⟨f9_0, f9_1⟩
                   repeat (first | go_big_quiet_skip | (go_big_quiet_want; first | (refine quiet_ex ?_; apply Exists.intro; refine ⟨fun W hW => ?_, ?_⟩; (· (obtain ⟨f10_0, f10_1⟩ := hW; go_simp; (first | done | with_reducible rfl | rfl))); simp only [Act.put, List.setIfInBounds_toArray, List.set_cons_zero, List.set_cons_succ]; go_big_quiet_on) | (refine quiet_ex ?_; apply Exists.intro; refine ⟨fun W hW => ?_, ?_⟩; (· (go_simp; first | (go_at_call 17; (with_reducible refine (HS3.out _ (HT.out.in_ hW.1)).mono ?_); rintro e w2 ⟨rfl, hb2⟩; exact ⟨rfl, HCL.out _ hW _ hb2⟩) | (go_at_call 17; (with_reducible refine (HS5.out _ (HT.out.in_ hW.1)).mono ?_); rintro e w2 ⟨rfl, hb2⟩; exact ⟨rfl, HCL.out _ hW _ hb2⟩))); simp only [Act.put, List.setIfInBounds_toArray, List.set_cons_zero, List.set_cons_succ]; go_big_quiet_on)))
                   refine wpQuiet_nil ?_
                   rintro w' ⟨f10_0, f10_1⟩
                   clear f9_0 f9_1
                   go_wp2
                   go_ret
                   exact ⟨ret_bool rfl, f10_0.below⟩
                · skip
                  have HCL := Lib.hid (show ∀ W', In w.heap.size w W' ∧ ReadsI W' A n xs → ∀ W2, Below W'.heap.size W' W2 → In w.heap.size w W2 ∧ ReadsI W2 A n xs from fun W' h W2 hb => by
                    obtain ⟨g0, g1⟩ := h
                    exact ⟨g0.step hb, g1.step hb⟩)
                  have e1 : decide (0 ≤ cl) = true := decide_eq_true (by omega)
                  have e2 : decide (cl < 0) = false := decide_eq_false (by omega)
                  have e3 : decide (m < minutesV cl p) = false := decide_eq_false (by omega)
                  have HM4 := Lib.hid (fun W h => HMI.out cl W h)
                  have e4 : decide (4 < cl) = false := decide_eq_false (by omega)
                  generalize minutesV cl p = mc at e3 HM4
                  simp only []
                  iterate 9 go_step
                  (try rw [List.append_eq])
                  (try rw [List.append_eq])
                  (repeat rw [List.cons_append])
                  (repeat rw [List.nil_append])
                  refine wp_region_L (C := (fun w' => In w.heap.size w w' ∧ ReadsI w' A n xs)) ?_ ?_
                  · exact ⟨f7_0, f7_1⟩
                  repeat (first | go_big_quiet_skip | (go_big_quiet_want; first | (refine quiet_ex ?_; apply Exists.intro; refine ⟨fun W hW => ?_, ?_⟩; (· (obtain ⟨f8_0, f8_1⟩ := hW; go_simp; (first | done | with_reducible rfl | rfl))); simp only [Act.put, List.setIfInBounds_toArray, List.set_cons_zero, List.set_cons_succ]; go_big_quiet_on) | (refine quiet_ex ?_; apply Exists.intro; refine ⟨fun W hW => ?_, ?_⟩; (· (go_simp; first | (go_at_call 18; (with_reducible refine (HM4.out _ (HT.out.in_ hW.1)).mono ?_); rintro e w2 ⟨rfl, hb2⟩; exact ⟨rfl, HCL.out _ hW _ hb2⟩))); simp only [Act.put, List.setIfInBounds_toArray, List.set_cons_zero, List.set_cons_succ]; go_big_quiet_on)))
                  refine wpQuiet_nil ?_
                  rintro w' ⟨f8_0, f8_1⟩
                  clear f7_0 f7_1
                  obtain ⟨u3, hx9⟩ : ∃ x, x = w' := ⟨_, rfl⟩
                  subst hx9
                  as_aux_lemma =>
                   clear e1 HM4 e2 e3 e4
                   clear HCL
                   go_wp2_with fail
                   refine (HMZ.out _ (HT.out.in_ f8_0)).mono ?_
                   rintro _ w9 ⟨rfl, hb9⟩
                   have f9_0 : In w.heap.size w w9 := f8_0.step hb9
                   have f9_1 : ReadsI w9 A n xs := f8_1.step hb9
                   clear f8_0 f8_1
                   clear hb9
                   have V1 : IntKind.i64.wrap (z * 8) = z * 8 := by rw [IntWalk.i64_in _ (by omega)]
                   have V2 : IntKind.i64.wrap (z - 1) = z - 1 := by rw [IntWalk.i64_in _ (by omega)]
                   have V3 : IntKind.i64.wrap ((z - 1) * 8) = (z - 1) * 8 := by rw [IntWalk.i64_in _ (by omega)]
                   have d1 : decide (p ≤ z * 8) = true := decide_eq_true (by omega)
                   have d2 : decide ((z - 1) * 8 < p) = true := decide_eq_true (by omega)
                   have HCL := Lib.hid (show ∀ W', In w.heap.size w W' ∧ ReadsI W' A n xs → ∀ W2, Below W'.heap.size W' W2 → In w.heap.size w W2 ∧ ReadsI W2 A n xs from fun W' h W2 hb => by
                     obtain ⟨g0, g1⟩ := h
                     exact ⟨g0.step hb, g1.step hb⟩)
                   simp only []
                   iterate 8 go_step
                   (try rw [List.append_eq])
                   (try rw [List.append_eq])
                   (repeat rw [List.cons_append])
                   (repeat rw [List.nil_append])
                   refine wp_region_L (C := (fun w' => In w.heap.size w w' ∧ ReadsI w' A n xs)) ?_ ?_
                   · exact ⟨f9_0, f9_1⟩
                   repeat (first | go_big_quiet_skip | (go_big_quiet_want; first | (refine quiet_ex ?_; apply Exists.intro; refine ⟨fun W hW => ?_, ?_⟩; (· (obtain ⟨f10_0, f10_1⟩ := hW; go_simp; (first | done | with_reducible rfl | rfl))); simp only [Act.put, List.setIfInBounds_toArray, List.set_cons_zero, List.set_cons_succ]; go_big_quiet_on) | (refine quiet_ex ?_; apply Exists.intro; refine ⟨fun W hW => ?_, ?_⟩; (· (go_simp; first | (go_at_call 17; (with_reducible refine (HS3.out _ (HT.out.in_ hW.1)).mono ?_); rintro e w2 ⟨rfl, hb2⟩; exact ⟨rfl, HCL.out _ hW _ hb2⟩) | (go_at_call 17; (with_reducible refine (HS5.out _ (HT.out.in_ hW.1)).mono ?_); rintro e w2 ⟨rfl, hb2⟩; exact ⟨rfl, HCL.out _ hW _ hb2⟩))); simp only [Act.put, List.setIfInBounds_toArray, List.set_cons_zero, List.set_cons_succ]; go_big_quiet_on)))
                   refine wpQuiet_nil ?_
                   rintro w' ⟨f10_0, f10_1⟩
                   clear f9_0 f9_1
                   go_wp2
                   go_ret
                   exact ⟨ret_bool rfl, f10_0.below⟩
   end Go.Proofs.YtkaaebpoljnbnaaDoor
