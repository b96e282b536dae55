/- FnCakes: the plain facts. -/
import Derived.Test.YtmkfnhgaiheckaaD31
import Derived.Test.YtmkfnhgaiheckaaJ31
import Derived.Test.YtmkfnhgaiheckaaP31
namespace Go.Proofs.Ytmkfnhgaiheckaa
open Go.ChangeShapes Go.WideShapes Go.ChangeAt Go.RowKit
set_option linter.unusedVariables false
set_option linter.unusedSimpArgs false
set_option maxHeartbeats 2000000

abbrev PC (xs : List Int) (n : Nat) : Prop := ∀ i, i < n → (fun v : Int => 0 ≤ v ∧ v ≤ 19) (xs.getD i 0)
theorem pc_k {xs : List Int} {n : Nat} (h : PC xs n) : ∀ i, i < n → 0 ≤ xs.getD i 0 ∧ xs.getD i 0 ≤ 1000 := fun i hi => by have := h i hi; simp only [] at this; omega
theorem pc_in {xs : List Int} {n : Nat} (h : PC xs n) (k : Nat) (hk : k ≤ n) : 0 ≤ lsum xs k ∧ lsum xs k ≤ k * 19 := lsum_in 19 fun i hi => h i (by omega)
theorem pc_up {xs : List Int} {n : Nat} (h : PC xs n) (a : Nat) : ∀ d : Nat, a + d ≤ n → lsum xs a ≤ lsum xs (a + d)
  | 0, _ => Int.le_refl _
  | d + 1, hd => by
    have ih := pc_up h a d (by omega)
    have h1 := h (a + d) (by omega)
    simp only [] at h1
    rw [← Nat.add_assoc, lsum_succ]; omega
theorem pc_le {xs : List Int} {n : Nat} (h : PC xs n) {a b : Nat} (hab : a ≤ b) (hb : b ≤ n) : lsum xs a ≤ lsum xs b := by
  have := pc_up h a (b - a) (by omega)
  rwa [show a + (b - a) = b by omega] at this
theorem pc_cake {xs : List Int} {n : Nat} (h : PC xs n) (h1 : 1 ≤ n) (h2 : n ≤ 10) : cakeB n xs = true := by
  unfold cakeB
  rw [allIn_t fun i hi => inB_t (by have := h i hi; simp only [] at this; omega), inB_t (by omega)]
  rfl
theorem hb_best {xs : List Int} {n : Nat} (h : PC xs n) : ∀ k : Nat, k ≤ n → ∃ K : Nat, (hb xs n k).1 = K ∧ K ≤ n ∧ (hb xs n k).2 = lessV xs n K ∧ ∀ j, j < k → lessV xs n j ≤ (hb xs n k).2
  | 0, _ => ⟨0, rfl, Nat.zero_le _, by have := pc_in h n (Nat.le_refl _); have e : lsum xs 0 = 0 := rfl; simp only [hb, lessV, e]; omega, fun j hj => absurd hj (Nat.not_lt_zero _)⟩
  | k + 1, hk => by
    obtain ⟨K, e1, hK, e2, e3⟩ := hb_best h k (by omega)
    rw [hb]
    split
    · refine ⟨k, rfl, by omega, rfl, fun j hj => ?_⟩
      by_cases e : j = k
      · subst e; exact Int.le_refl _
      · have := e3 j (by omega); simp only []; omega
    · refine ⟨K, e1, hK, e2, fun j hj => ?_⟩
      by_cases e : j = k
      · subst e; omega
      · exact e3 j (by omega)
/-- where share i begins -/
def prv (L : List Int) (i : Nat) : Nat := if i = 0 then 0 else (L.getD (i - 1) 0).toNat
theorem prv_app {L : List Int} {v : Int} {i : Nat} (h : i ≤ L.length) : prv (L ++ [v]) i = prv L i := by
  unfold prv
  split
  · rfl
  · rw [List.getD_eq_getElem?_getD, List.getElem?_append_left (by omega), ← List.getD_eq_getElem?_getD]
theorem prv_last {L : List Int} {v : Nat} : prv (L ++ [(v : Int)]) (L.length + 1) = v := by
  unfold prv
  rw [if_neg (by omega), List.getD_eq_getElem?_getD, List.getElem?_append_right (by omega)]
  simp
theorem ct_parts {v : Int} {xs : List Int} {n : Nat} (h : PC xs n) : ∀ k : Nat, k ≤ n →
    prv (ctS (geP v) xs k).2 (ctS (geP v) xs k).2.length ≤ k ∧ (ctS (geP v) xs k).1 = lsum xs k - lsum xs (prv (ctS (geP v) xs k).2 (ctS (geP v) xs k).2.length) ∧
      ∀ i, i < (ctS (geP v) xs k).2.length → (ctS (geP v) xs k).2.getD i 0 = (prv (ctS (geP v) xs k).2 (i + 1) : Nat) ∧ prv (ctS (geP v) xs k).2 i < prv (ctS (geP v) xs k).2 (i + 1) ∧ prv (ctS (geP v) xs k).2 (i + 1) ≤ k ∧ v ≤ lsum xs (prv (ctS (geP v) xs k).2 (i + 1)) - lsum xs (prv (ctS (geP v) xs k).2 i)
  | 0, _ => ⟨by simp [ctS, prv], by simp [ctS, prv], fun i hi => absurd hi (by simp [ctS])⟩
  | k + 1, hk => by
    obtain ⟨i1, i2, i3⟩ := ct_parts (v := v) h k (by omega)
    cases hP : geP v ((ctS (geP v) xs k).1 + xs.getD k 0)
    · rw [ctS_f hP]
      refine ⟨by simp only []; omega, by simp only []; rw [i2, lsum_succ]; omega, fun i hi => ?_⟩
      obtain ⟨j1, j2, j3, j4⟩ := i3 i hi
      exact ⟨j1, j2, by simp only [] at j3 ⊢; omega, j4⟩
    · rw [ctS_t hP]
      have hv := of_decide_eq_true hP
      rw [i2] at hv
      generalize hL : (ctS (geP v) xs k).2 = L at *
      have hl1 : (L ++ [((k + 1 : Nat) : Int)]).length = L.length + 1 := by simp
      simp only []
      rw [hl1, prv_last]
      refine ⟨Nat.le_refl _, by omega, fun i hi => ?_⟩
      by_cases e : i = L.length
      · subst e
        rw [prv_last, prv_app (Nat.le_refl _)]
        refine ⟨by rw [List.getD_eq_getElem?_getD, List.getElem?_append_right (by omega)]; simp, by omega, Nat.le_refl _, ?_⟩
        rw [lsum_succ]; omega
      · obtain ⟨j1, j2, j3, j4⟩ := i3 i (by omega)
        rw [prv_app (by omega), prv_app (by omega), List.getD_eq_getElem?_getD, List.getElem?_append_left (by omega), ← List.getD_eq_getElem?_getD]
        exact ⟨j1, j2, by omega, j4⟩
/-- shares that are each worth v -/
theorem cut_ends {v : Int} {xs : List Int} {n : Nat} (h : PC xs n) (m : Nat) (hm : m ≤ (cutL n xs v).length) : (m : Int) * v ≤ lsum xs (prv (cutL n xs v) m) ∧ prv (cutL n xs v) m ≤ n := by
  obtain ⟨p1, p2, p3⟩ := ct_parts (v := v) h n (Nat.le_refl _)
  change prv (cutL n xs v) (cutL n xs v).length ≤ n at p1
  change ∀ i, i < (cutL n xs v).length → (cutL n xs v).getD i 0 = (prv (cutL n xs v) (i + 1) : Nat) ∧ prv (cutL n xs v) i < prv (cutL n xs v) (i + 1) ∧ prv (cutL n xs v) (i + 1) ≤ n ∧ v ≤ lsum xs (prv (cutL n xs v) (i + 1)) - lsum xs (prv (cutL n xs v) i) at p3
  clear p2
  generalize cutL n xs v = L at *
  induction m with
  | zero => exact ⟨by simp [prv, lsum, sumTo], by simp [prv]⟩
  | succ m ih =>
    have := ih (by omega)
    obtain ⟨j1, j2, j3, j4⟩ := p3 m (by omega)
    refine ⟨?_, j3⟩
    have e : ((m + 1 : Nat) : Int) * v = (m : Int) * v + v := by rw [Int.natCast_add, Int.add_mul]; simp
    omega
theorem cut_one {xs : List Int} {n : Nat} (h : PC xs n) (h1 : 1 ≤ n) : 1 ≤ (cutL n xs (lsum xs n)).length := by
  unfold cutL
  obtain ⟨k, rfl⟩ : ∃ k, n = k + 1 := ⟨n - 1, by omega⟩
  cases hL : (ctS (geP (lsum xs (k + 1))) xs k).2 with
  | nil =>
    obtain ⟨_, p2, _⟩ := ct_parts (v := lsum xs (k + 1)) h k (by omega)
    rw [hL] at p2
    rw [ctS_t (by rw [p2]; simp [geP, prv, lsum_succ, show lsum xs 0 = 0 from rfl])]
    simp
  | cons a t =>
    obtain ⟨M, hM⟩ := ct_pre (geP (lsum xs (k + 1))) xs k 1
    rw [hM, hL]
    simp
theorem noP_eq (n : Nat) (xs : List Int) (N v : Int) : noP n xs N v = !decide (N ≤ ((cutL n xs v).length : Int)) := rfl
structure CakeM (n : Nat) (xs : List Int) (m : Nat) (b : Int) (C : Bool) (L : List Int) : Prop where
  eb : bestV n xs (m : Int) = b
  eC : SharesB n xs (m : Int) = C
  eL : SharesL n xs (m : Int) = L
  rng : -1 ≤ b ∧ b ≤ 190
  few : b = -1 ↔ n < m
  can : C = true ↔ 0 ≤ b ∧ lsum xs n ≤ b * (m : Int)
  most : b * (m : Int) ≤ lsum xs n
  ends : C = true → L.length + 1 = m ∧ ∃ E : Nat → Nat, E 0 = 0 ∧ E m = n ∧ (∀ i, i + 1 < m → L.getD i 0 = (E (i + 1) : Nat)) ∧ ∀ i, i < m → E i < E (i + 1) ∧ E (i + 1) ≤ n ∧ lsum xs n ≤ (lsum xs (E (i + 1)) - lsum xs (E i)) * (m : Int)
theorem cake_m {n : Nat} {xs : List Int} (h : PC xs n) (h1 : 1 ≤ n) (h10 : n ≤ 10) {m : Nat} (m1 : 1 ≤ m) (m4 : m ≤ 4) : ∃ b C L, CakeM n xs m b C L := by
  have hW := pc_in h n (Nat.le_refl _)
  have hcb := pc_cake h h1 h10
  have hok : (cakeB n xs && inB (m : Int) 1 10) = true := by rw [hcb, inB_t (by omega)]; rfl
  have hF := fstN_is (noP n xs (m : Int)) (lsum xs n + 1).toNat
  rw [Int.toNat_of_nonneg (by omega)] at hF
  have eB := best_of hok hF
  generalize fstN (noP n xs (m : Int)) (lsum xs n + 1).toNat = r at *
  obtain ⟨f1, f2, f3, f4⟩ := hF
  have hmo : ∀ {a b : Int}, a ≤ b → noP n xs (m : Int) a = true → noP n xs (m : Int) b = true := fun hab ha => noP_mono (pc_k h) hab ha
  have hz : noP n xs (m : Int) 0 = decide (n < m) := by
    have := (ct_zero (pc_k h) n (Nat.le_refl _)).2
    unfold noP
    rw [this, Bool.eq_iff_iff]
    simp
  obtain ⟨V, hV⟩ : ∃ V, (lsum xs n + (m : Int) - 1) / (m : Int) = V := ⟨_, rfl⟩
  have hSB : SharesB n xs (m : Int) = !noP n xs (m : Int) V := by
    unfold SharesB
    rw [hok, hV, noP_eq, Bool.not_not, Bool.true_and]
  have hVb : ∀ x : Int, V ≤ x ↔ lsum xs n ≤ x * (m : Int) := fun x => by
    have := ge_mul (whole := lsum xs n) (N := (m : Int)) (s := x) (by omega)
    unfold geP mulP at this
    rw [hV] at this
    exact decide_eq_decide.1 this
  have hV0 : 0 ≤ V := by rw [← hV]; exact Int.ediv_nonneg (by omega) (by omega)
  have hVW : V ≤ lsum xs n := (hVb _).2 (by
    have := Int.mul_le_mul_of_nonneg_left (a := 1) (b := (m : Int)) (c := lsum xs n) (by omega) hW.1
    omega)
  refine ⟨r - 1, _, _, ⟨eB, rfl, rfl, by omega, ?_, ?_, ?_, ?_⟩⟩
  · constructor
    · intro e
      have h9 := f4 (by omega)
      rw [show r = 0 by omega, hz] at h9
      exact of_decide_eq_true h9
    · intro e
      by_cases h0 : r = 0
      · omega
      · have h9 := f3 0 (Int.le_refl _) (by omega)
        rw [hz, decide_eq_true e] at h9
        cases h9
  · rw [hSB, ← hVb, Bool.not_eq_true']
    constructor
    · intro e
      by_cases h9 : V < r
      · omega
      · have := hmo (show r ≤ V by omega) (f4 (by omega))
        rw [e] at this; cases this
    · intro e
      exact f3 V hV0 (by omega)
  · by_cases h0 : r = 0
    · subst h0
      have : (0 - 1 : Int) * (m : Int) = -(m : Int) := by omega
      omega
    · have h9 := f3 (r - 1) (by omega) (by omega)
      rw [noP_eq] at h9
      simp only [Bool.not_eq_false', decide_eq_true_eq] at h9
      obtain ⟨c1, c2⟩ := cut_ends (v := r - 1) h m (by omega)
      have := pc_le h c2 (Nat.le_refl _)
      rw [Int.mul_comm]; omega
  · intro hC
    have hSL : SharesL n xs (m : Int) = (cutL n xs V).take (m - 1) := by unfold SharesL; rw [if_pos hC, hV]; simp
    rw [hSB, noP_eq, Bool.not_not, decide_eq_true_eq] at hC
    have hl : m ≤ (cutL n xs V).length := by omega
    rw [hSL]
    refine ⟨by rw [List.length_take]; omega, fun i => if i = m then n else prv (cutL n xs V) i, ?_, ?_, ?_, ?_⟩
    · show (if 0 = m then n else prv (cutL n xs V) 0) = 0; rw [if_neg (by omega)]; rfl
    · show (if m = m then n else prv (cutL n xs V) m) = n; rw [if_pos rfl]
    · intro i hi
      obtain ⟨_, _, p3⟩ := ct_parts (v := V) h n (Nat.le_refl _)
      obtain ⟨j1, _⟩ := p3 i (by show i < (cutL n xs V).length; omega)
      simp only []
      rw [if_neg (by omega), List.getD_eq_getElem?_getD, List.getElem?_take, if_pos (by omega), ← List.getD_eq_getElem?_getD]
      exact j1
    · intro i hi
      obtain ⟨_, _, p3⟩ := ct_parts (v := V) h n (Nat.le_refl _)
      obtain ⟨_, j2, j3, j4⟩ := p3 i (by show i < (cutL n xs V).length; omega)
      change prv (cutL n xs V) i < prv (cutL n xs V) (i + 1) at j2
      change prv (cutL n xs V) (i + 1) ≤ n at j3
      change V ≤ lsum xs (prv (cutL n xs V) (i + 1)) - lsum xs (prv (cutL n xs V) i) at j4
      simp only []
      rw [if_neg (show ¬ i = m by omega), ← hVb]
      by_cases e : i + 1 = m
      · rw [if_pos e]
        have := pc_le h j3 (Nat.le_refl _)
        omega
      · rw [if_neg e]; exact ⟨j2, j3, j4⟩
theorem cake_1 {n : Nat} {xs : List Int} (h : PC xs n) (h1 : 1 ≤ n) (h10 : n ≤ 10) : bestV n xs 1 = lsum xs n := by
  have hW := pc_in h n (Nat.le_refl _)
  have hok : (cakeB n xs && inB 1 1 10) = true := by rw [pc_cake h h1 h10]; rfl
  have h9 := cut_one h h1
  have : IsFst (noP n xs 1) (lsum xs n + 1) (lsum xs n + 1) := by
    refine ⟨by omega, Int.le_refl _, fun x hx1 hx2 => ?_, fun hh => by omega⟩
    cases hp : noP n xs 1 x
    · rfl
    · have h8 := noP_mono (pc_k h) (show x ≤ lsum xs n by omega) hp
      rw [noP_eq] at h8
      simp only [Bool.not_eq_true', decide_eq_false_iff_not] at h8
      omega
  rw [best_of hok this]; omega
theorem cake_half {n : Nat} {xs ys : List Int} (h : PC xs n) (k : PC ys n) (h1 : 1 ≤ n) (h10 : n ≤ 10) :
    ∃ (K : Nat) (V X Y : Int), halfV n xs = .tuple #[.int .i64 (K : Int), .int .i64 V] ∧ chooV n xs n ys = .tuple #[.int .i64 X, .int .i64 Y] ∧ K ≤ n ∧ V = (if lsum xs n - lsum xs K < lsum xs K then lsum xs n - lsum xs K else lsum xs K) ∧ (0 ≤ V ∧ V ≤ 190) ∧ V ≤ X ∧ X ≤ lsum xs n ∧ (0 ≤ Y ∧ Y ≤ 190) ∧ lsum ys n ≤ 2 * Y ∧ ∀ j, j ≤ n → lsum xs j ≤ V ∨ lsum xs n - lsum xs j ≤ V := by
  obtain ⟨K, e1, hK, e2, e3⟩ := hb_best h n (Nat.le_refl _)
  have a1 := pc_in h n (Nat.le_refl _)
  have a2 := pc_le h hK (Nat.le_refl _)
  have a3 := pc_in h K hK
  have b1 := pc_in k n (Nat.le_refl _)
  have b2 := pc_le k hK (Nat.le_refl _)
  have b3 := pc_in k K hK
  have hcx := pc_cake h h1 h10
  have hcy := pc_cake k h1 h10
  have eH : halfV n xs = .tuple #[.int .i64 (K : Int), .int .i64 (lessV xs n K)] := by unfold halfV; rw [if_pos hcx, e1, e2]
  have hE : ∀ j, j ≤ n → lsum xs j ≤ lessV xs n K ∨ lsum xs n - lsum xs j ≤ lessV xs n K := fun j hj => by
    by_cases e : j = n
    · subst e; right; unfold lessV; omega
    · have := e3 j (by omega)
      rw [e2] at this
      unfold lessV at this ⊢
      omega
  have hV : lessV xs n K = (if lsum xs n - lsum xs K < lsum xs K then lsum xs n - lsum xs K else lsum xs K) := by unfold lessV; split <;> omega
  have hV2 : 0 ≤ lessV xs n K ∧ lessV xs n K ≤ 190 ∧ lessV xs n K ≤ lsum xs K ∧ lessV xs n K ≤ lsum xs n - lsum xs K := by unfold lessV; omega
  have hc : chooB n xs n ys = true := by unfold chooB; rw [hcx, hcy]; simp
  generalize lessV xs n K = V at *
  by_cases hle : lsum ys n - lsum ys K ≤ lsum ys K
  · refine ⟨K, V, lsum xs n - lsum xs K, lsum ys K, eH, ?_, hK, hV, by omega, by omega, by omega, by omega, by omega, hE⟩
    unfold chooV
    rw [if_pos hc, e1, Int.toNat_natCast, if_pos hle]
  · refine ⟨K, V, lsum xs K, lsum ys n - lsum ys K, eH, ?_, hK, hV, by omega, by omega, by omega, by omega, by omega, hE⟩
    unfold chooV
    rw [if_pos hc, e1, Int.toNat_natCast, if_neg hle]
end Go.Proofs.Ytmkfnhgaiheckaa
