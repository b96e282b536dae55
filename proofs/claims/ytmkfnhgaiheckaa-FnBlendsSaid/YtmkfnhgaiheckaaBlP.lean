/- The law FnBlends: the pure facts. -/
import Derived.Test.YtmkfnhgaiheckaaStg
import Derived.Test.YtmkfnhgaiheckaaV27
namespace Go.Proofs.Ytmkfnhgaiheckaa
open Go.ChangeShapes Go.WideShapes Go.ChangeAt Go.RowKit
set_option linter.unusedVariables false
set_option linter.unusedSimpArgs false
set_option maxHeartbeats 2000000

theorem sum_upd (f : Nat → Int) (i : Nat) (v : Int) (n : Nat) (hi : i < n) : sumTo (updI f i v) n = sumTo f n + v - f i := by
  induction n with
  | zero => omega
  | succ n ih =>
    rw [sumTo_succ, sumTo_succ]
    by_cases e : i = n
    · subst e
      rw [sumTo_congr (updI f i v) f i fun u hu => by unfold updI; rw [if_neg (by omega)]]
      unfold updI
      rw [if_pos rfl]
      omega
    · have h1 : updI f i v n = f n := by unfold updI; rw [if_neg (fun q => e q.symm)]
      rw [ih (by omega), h1]; omega
theorem sum_le (f g : Nat → Int) (n : Nat) (h : ∀ i, i < n → f i ≤ g i) : sumTo f n ≤ sumTo g n := by
  induction n with
  | zero => exact Int.le_refl _
  | succ n ih =>
    rw [sumTo_succ, sumTo_succ]
    have h1 := ih fun i hi => h i (by omega)
    have h2 := h n (by omega)
    omega
theorem sum_scale (s y : Nat → Int) (t : Int) (n : Nat) : sumTo (fun i => (s i - t) * y i) n = sumTo (fun i => s i * y i) n - t * sumTo y n := by
  induction n with
  | zero => simp [sumTo]
  | succ n ih => rw [sumTo_succ, sumTo_succ, sumTo_succ, ih, Int.mul_add, Int.sub_mul]; omega
theorem sum_const (y : Nat → Int) (t : Int) (n : Nat) : sumTo (fun i => t * y i) n = t * sumTo y n := by
  induction n with
  | zero => simp [sumTo]
  | succ n ih => rw [sumTo_succ, sumTo_succ, ih, Int.mul_add]
section
variable {xs : List FlourR} {n : Nat} {tot : Int}
theorem gK_sum (ht : 0 ≤ tot) : ∀ j, j ≤ n → sumTo (gK xs n tot j) n = tot - gT xs n tot j := by
  intro j
  induction j with
  | zero => intro _; rw [gT, sumTo_zero (gK xs n tot 0) n fun u _ => rfl]; omega
  | succ j ih =>
    intro hj
    rw [gK, gT, sum_upd _ _ _ _ (apN_in (by omega)), ih (by omega), gK_hi j j (Nat.le_refl _) (by omega)]
    omega
theorem gK_box (hk : ∀ i, i < n → 0 ≤ kI xs i) (ht : 0 ≤ tot) (i : Nat) (hi : i < n) : 0 ≤ gK xs n tot n i ∧ gK xs n tot n i ≤ kI xs i := by
  obtain ⟨u, hu, rfl⟩ := ap_surj xs n i hi
  rw [gK_lo n u hu (Nat.le_refl _)]
  have h1 := gT_nn hk ht u (by omega)
  have h2 := hk (apN xs n u) (apN_in hu)
  omega
theorem gT_last (hk : ∀ i, i < n → 0 ≤ kI xs i) (ht : 0 < tot) : ∀ j, j ≤ n → gT xs n tot j = 0 → ∃ u, u < j ∧ 0 < gT xs n tot u ∧ gT xs n tot (u + 1) = 0 := by
  intro j
  induction j with
  | zero => intro _ h; rw [gT] at h; omega
  | succ j ih =>
    intro hj h
    by_cases e : gT xs n tot j = 0
    · obtain ⟨u, hu, h1, h2⟩ := ih (by omega) e
      exact ⟨u, by omega, h1, h2⟩
    · have := gT_nn hk (Int.le_of_lt ht) j (by omega)
      exact ⟨j, by omega, by omega, h⟩
theorem gT_step (u : Nat) : gT xs n tot (u + 1) = gT xs n tot u - min (gT xs n tot u) (kI xs (apN xs n u)) := rfl
theorem thr (hk : ∀ i, i < n → 0 ≤ kI xs i) (ht : 0 < tot) (hg : gT xs n tot n = 0) : ∃ t, ∀ i, i < n → (t < sI xs i → gK xs n tot n i = kI xs i) ∧ (sI xs i < t → gK xs n tot n i = 0) := by
  obtain ⟨u0, hu0, h1, h2⟩ := gT_last hk ht n (Nat.le_refl _) hg
  refine ⟨sI xs (apN xs n u0), fun i hi => ?_⟩
  obtain ⟨u, hu, rfl⟩ := ap_surj xs n i hi
  rw [gK_lo n u hu (Nat.le_refl _)]
  constructor
  · intro hs
    have hlt : u < u0 := by
      rcases Nat.lt_trichotomy u u0 with h | h | h
      · exact h
      · subst h; omega
      · have := ap_sorted xs n u0 u h hu
        unfold bef hiI at this
        omega
    have h3 := gT_le (xs := xs) hk (Int.le_of_lt ht) (u0 - (u + 1)) (u + 1) (by omega)
    rw [show u + 1 + (u0 - (u + 1)) = u0 by omega] at h3
    have h4 := gT_step (xs := xs) (n := n) (tot := tot) u
    omega
  · intro hs
    have hlt : u0 < u := by
      rcases Nat.lt_trichotomy u u0 with h | h | h
      · have := ap_sorted xs n u u0 h hu0
        unfold bef hiI at this
        omega
      · subst h; omega
      · exact h
    have h3 := gT_le (xs := xs) hk (Int.le_of_lt ht) (u - (u0 + 1)) (u0 + 1) (by omega)
    rw [show u0 + 1 + (u - (u0 + 1)) = u by omega] at h3
    have h4 := gT_nn hk (Int.le_of_lt ht) u (by omega)
    have h5 := hk (apN xs n u) (apN_in hu)
    omega
theorem opt (hk : ∀ i, i < n → 0 ≤ kI xs i) (ht : 0 < tot) (hg : gT xs n tot n = 0) (y : Nat → Int) (hy : ∀ i, i < n → 0 ≤ y i ∧ y i ≤ kI xs i) (hs : sumTo y n = tot) :
    sumTo (fun i => sI xs i * y i) n ≤ sumTo (fun i => sI xs i * gK xs n tot n i) n := by
  obtain ⟨t, h⟩ := thr hk ht hg
  have h1 := sum_le (fun i => (sI xs i - t) * y i) (fun i => (sI xs i - t) * gK xs n tot n i) n fun i hi => by
    obtain ⟨a, b⟩ := h i hi
    have hyi := hy i hi
    show (sI xs i - t) * y i ≤ (sI xs i - t) * gK xs n tot n i
    rcases Int.lt_trichotomy (sI xs i) t with c | c | c
    · rw [b c, Int.mul_zero]
      exact Int.mul_nonpos_of_nonpos_of_nonneg (by omega) hyi.1
    · rw [c]; simp
    · rw [a c]
      exact Int.mul_le_mul_of_nonneg_left hyi.2 (by omega)
  rw [sum_scale, sum_scale, hs, gK_sum (Int.le_of_lt ht) n (Nat.le_refl _), hg] at h1
  rw [Int.sub_zero] at h1
  omega
theorem enough (hk : ∀ i, i < n → 0 ≤ kI xs i) (ht : 0 < tot) (y : Nat → Int) (hy : ∀ i, i < n → 0 ≤ y i ∧ y i ≤ kI xs i) (hs : sumTo y n = tot) : gT xs n tot n = 0 := by
  have h0 := gT_nn hk (Int.le_of_lt ht) n (Nat.le_refl _)
  by_cases e : gT xs n tot n = 0
  · exact e
  · exfalso
    have h1 := sum_le y (gK xs n tot n) n fun i hi => by
      obtain ⟨u, hu, rfl⟩ := ap_surj xs n i hi
      rw [gK_lo n u hu (Nat.le_refl _)]
      have h3 := gT_le (xs := xs) hk (Int.le_of_lt ht) (n - (u + 1)) (u + 1) (by omega)
      rw [show u + 1 + (n - (u + 1)) = n by omega] at h3
      have h4 := gT_step (xs := xs) (n := n) (tot := tot) u
      have h5 := (hy (apN xs n u) (apN_in hu)).2
      omega
    have h2 := gK_sum (xs := xs) (n := n) (Int.le_of_lt ht) n (Nat.le_refl _)
    omega
/-- a row of kilos by a function -/
def kL (f : Nat → Int) (n : Nat) : List Int := (List.range n).map f
theorem kL_len (f : Nat → Int) (n : Nat) : (kL f n).length = n := by simp [kL]
theorem kL_s (f : Nat → Int) (n : Nat) : kL f (n + 1) = kL f n ++ [f n] := by simp [kL, List.range_succ]
theorem kL_at (f : Nat → Int) (n i : Nat) (h : i < n) : (kL f n).getD i 0 = f i := by
  rw [List.getD_eq_getElem?_getD]; simp [kL, h]
theorem kL_sum (f : Nat → Int) (n : Nat) : lsum (kL f n) n = sumTo f n := by
  unfold lsum
  exact sumTo_congr _ _ _ fun i hi => kL_at f n i hi
theorem kL_kil {f : Nat → Int} (hF : floursB n xs = true) (hf : ∀ i, i < n → 0 ≤ f i ∧ f i ≤ kI xs i) : kilB n xs n (kL f n) = true := by
  simp only [kilB, hF, Bool.and_eq_true, decide_eq_true_eq, true_and]
  refine allOk_t _ _ fun u hu => ?_
  unfold kiK
  rw [kL_at _ _ _ hu]
  exact inB_y (hf u hu).1 (hf u hu).2
theorem kL_strength {f : Nat → Int} (hF : floursB n xs = true) (hf : ∀ i, i < n → 0 ≤ f i ∧ f i ≤ kI xs i) : strengthV n xs n (kL f n) = if sumTo f n = 0 then -1 else sumTo (fun i => sI xs i * f i) n / sumTo f n := by
  unfold strengthV
  rw [kL_kil hF hf, kL_sum, sumTo_congr (stG xs (kL f n)) (fun i => sI xs i * f i) n fun i hi => by unfold stG sI; rw [kL_at _ _ _ hi]]
  by_cases e : sumTo f n = 0
  · rw [if_pos e, if_neg (by simp [e])]
  · rw [if_neg e, if_pos (by simp [e])]
theorem kL_cost {f : Nat → Int} (hF : floursB n xs = true) (hf : ∀ i, i < n → 0 ≤ f i ∧ f i ≤ kI xs i) : costV27 n xs n (kL f n) = sumTo (fun i => f i * (xs.getD i z27).f1) n := by
  unfold costV27
  rw [kL_kil hF hf, if_pos rfl]
  exact sumTo_congr _ _ _ fun i hi => by unfold coG; rw [kL_at _ _ _ hi, Int.mul_comm]
theorem fl_k (hF : floursB n xs = true) : ∀ i, i < n → 0 ≤ kI xs i := fun i hi => by
  have := fl_in ((flours_at hF).2.2 i hi)
  unfold kI; omega
/-- no blend is stronger than the strongest -/
theorem stg_ge {y : Nat → Int} (hF : floursB n xs = true) (hy : ∀ i, i < n → 0 ≤ y i ∧ y i ≤ kI xs i) (hs : sumTo y n = tot) (h1 : 1 ≤ tot) (h2 : tot ≤ 500) : strengthV n xs n (kL y n) ≤ stgV n xs tot := by
  have hk := fl_k hF
  have hg := enough hk (by omega) y hy hs
  have ho := opt hk (by omega) hg y hy hs
  have hb := gK_box (xs := xs) hk (tot := tot) (by omega)
  have hsm := gK_sum (xs := xs) (n := n) (tot := tot) (by omega) n (Nat.le_refl _)
  rw [hg, Int.sub_zero] at hsm
  have e2 := kL_strength (f := gK xs n tot n) hF hb
  unfold stgV
  rw [hF, inB_y h1 h2, if_pos (show (true && true) = true from rfl), hg, if_neg (by omega)]
  show _ ≤ strengthV n xs n (kL (gK xs n tot n) n)
  rw [e2, kL_strength hF hy, hs, hsm, if_neg (by omega), if_neg (by omega)]
  exact Int.ediv_le_ediv (by omega) ho
/-- the least and the greatest strength of what is blended -/
def lowF (xs : List FlourR) (y : Nat → Int) : Nat → Int
  | 0 => 500
  | k + 1 => if 0 < y k then min (lowF xs y k) (sI xs k) else lowF xs y k
def higF (xs : List FlourR) (y : Nat → Int) : Nat → Int
  | 0 => 0
  | k + 1 => if 0 < y k then max (higF xs y k) (sI xs k) else higF xs y k
theorem lowF_s (xs : List FlourR) (y : Nat → Int) (k : Nat) : lowF xs y (k + 1) = if 0 < y k then min (lowF xs y k) (sI xs k) else lowF xs y k := rfl
theorem higF_s (xs : List FlourR) (y : Nat → Int) (k : Nat) : higF xs y (k + 1) = if 0 < y k then max (higF xs y k) (sI xs k) else higF xs y k := rfl
theorem lowF_le (y : Nat → Int) : ∀ m i, i < m → 0 < y i → lowF xs y m ≤ sI xs i ∧ sI xs i ≤ higF xs y m := by
  intro m
  induction m with
  | zero => intro i hi; omega
  | succ m ih =>
    intro i hi h
    rw [lowF_s, higF_s]
    by_cases e : i = m
    · subst e; rw [if_pos h, if_pos h]; omega
    · have := ih i (by omega) h
      split <;> omega
theorem lowF_in (hF : floursB n xs = true) (y : Nat → Int) : ∀ m, m ≤ n → 50 ≤ lowF xs y m ∧ lowF xs y m ≤ 500 ∧ 0 ≤ higF xs y m ∧ higF xs y m ≤ 500 := by
  intro m
  induction m with
  | zero => intro _; simp [lowF, higF]
  | succ m ih =>
    intro hm
    have h1 := ih (by omega)
    have h2 := fl_in ((flours_at hF).2.2 m (by omega))
    rw [lowF_s, higF_s]
    unfold sI
    split <;> omega
theorem mean_in {y : Nat → Int} (hF : floursB n xs = true) (hy : ∀ i, i < n → 0 ≤ y i ∧ y i ≤ kI xs i) (hs : 0 < sumTo y n) : ∃ s, strengthV n xs n (kL y n) = s ∧ 0 ≤ s ∧ lowF xs y n ≤ s ∧ s ≤ higF xs y n := by
  rw [kL_strength hF hy, if_neg (by omega)]
  have h1 := sum_le (fun i => lowF xs y n * y i) (fun i => sI xs i * y i) n fun i hi => by
    have hyi := hy i hi
    show lowF xs y n * y i ≤ sI xs i * y i
    by_cases e : 0 < y i
    · exact Int.mul_le_mul_of_nonneg_right (lowF_le y n i hi e).1 hyi.1
    · rw [show y i = 0 by omega]; simp
  have h2 := sum_le (fun i => sI xs i * y i) (fun i => higF xs y n * y i) n fun i hi => by
    have hyi := hy i hi
    show sI xs i * y i ≤ higF xs y n * y i
    by_cases e : 0 < y i
    · exact Int.mul_le_mul_of_nonneg_right (lowF_le y n i hi e).2 hyi.1
    · rw [show y i = 0 by omega]; simp
  rw [sum_const] at h1 h2
  have hl := lowF_in hF y n (Nat.le_refl _)
  have h3 := Int.le_ediv_of_mul_le hs h1
  exact ⟨_, rfl, by omega, h3, Int.ediv_le_of_le_mul hs h2⟩
end
/-- two flours are among the candidates: what CheapestTwo answers -/
def LeO (c0 : Int) (o : OneT) : Prop := ∃ m d, o = some (m, d) ∧ d ≤ c0
def LeT (c0 : Int) (s : TwoT) : Prop := ∃ i k m d, s = some (i, k, m, d) ∧ d ≤ c0
theorem LeO.up {c0 : Int} {o : OneT} (h : LeO c0 o) (n c : Int) : LeO c0 (oUp o n c) := by
  obtain ⟨m, d, rfl, hd⟩ := h
  simp only [oUp]
  by_cases e : c < d
  · rw [if_pos e]; exact ⟨n, c, rfl, by omega⟩
  · rw [if_neg e]; exact ⟨m, d, rfl, hd⟩
theorem LeO.here (o : OneT) (n c : Int) : LeO c (oUp o n c) := by
  rcases o with _ | ⟨m, d⟩
  · exact ⟨n, c, rfl, Int.le_refl _⟩
  · simp only [oUp]
    by_cases e : c < d
    · rw [if_pos e]; exact ⟨n, c, rfl, Int.le_refl _⟩
    · rw [if_neg e]; exact ⟨m, d, rfl, by omega⟩
theorem pairO_le {a b : FlourR} {T L : Int} (q : Nat) : ∀ m, q < m → okN a b T L q = true → LeO (costN a b T q) (pairO a b T L m) := by
  intro m
  induction m with
  | zero => intro h; omega
  | succ m ih =>
    intro h ho
    by_cases e : q = m
    · subst e; rw [pairO_t ho]; exact LeO.here _ _ _
    · cases hk : okN a b T L m
      · rw [pairO_f hk]; exact ih (by omega) ho
      · rw [pairO_t hk]; exact (ih (by omega) ho).up _ _
theorem LeT.up {c0 : Int} {s : TwoT} (h : LeT c0 s) (i k n c : Int) : LeT c0 (tUp s i k n c) := by
  obtain ⟨i', k', m, d, rfl, hd⟩ := h
  simp only [tUp]
  by_cases e : c < d
  · rw [if_pos e]; exact ⟨i, k, n, c, rfl, by omega⟩
  · rw [if_neg e]; exact ⟨i', k', m, d, rfl, hd⟩
theorem LeT.mrg {c0 : Int} {s : TwoT} (h : LeT c0 s) (i k : Int) (o : OneT) : LeT c0 (tMrg s i k o) := by
  rcases o with _ | ⟨m, d⟩
  · exact h
  · exact h.up _ _ _ _
theorem LeT.here {c0 : Int} (s : TwoT) (i k : Int) {o : OneT} (h : LeO c0 o) : LeT c0 (tMrg s i k o) := by
  obtain ⟨m, d, rfl, hd⟩ := h
  rcases s with _ | ⟨i', k', m', d'⟩
  · exact ⟨i, k, m, d, rfl, hd⟩
  · simp only [tMrg, tUp]
    by_cases e : d < d'
    · rw [if_pos e]; exact ⟨i, k, m, d, rfl, hd⟩
    · rw [if_neg e]; exact ⟨i', k', m', d', rfl, by omega⟩
theorem rowT_le {xs : List FlourR} {T L : Int} {i : Nat} {s : TwoT} {c0 : Int} : ∀ j, (LeT c0 s ∨ ∃ q, q < j ∧ LeO c0 (pairO (xs.getD i z27) (xs.getD (i + 1 + q) z27) T L (T.toNat + 1))) → LeT c0 (rowT xs T L i s j)
  | 0, h => by
    rcases h with h | ⟨q, hq, _⟩
    · exact h
    · omega
  | j + 1, h => by
    rw [rowT_s]
    rcases h with h | ⟨q, hq, ho⟩
    · exact (rowT_le j (.inl h)).mrg _ _ _
    · by_cases e : q = j
      · subst e; exact LeT.here _ _ _ ho
      · exact (rowT_le j (.inr ⟨q, by omega, ho⟩)).mrg _ _ _
theorem allT_le {xs : List FlourR} {T L : Int} {n i k : Nat} {c0 : Int} (hik : i < k) (hk : k < n) (h : LeO c0 (pairO (xs.getD i z27) (xs.getD k z27) T L (T.toNat + 1))) : ∀ m, i < m → m ≤ n → LeT c0 (allT xs T L n m) := by
  intro m
  induction m with
  | zero => intro h; omega
  | succ m ih =>
    intro h1 h2
    rw [allT_s]
    by_cases e : i = m
    · subst e
      exact rowT_le _ (.inr ⟨k - (i + 1), by omega, by rw [show i + 1 + (k - (i + 1)) = k by omega]; exact h⟩)
    · exact rowT_le _ (.inl (ih (by omega) (by omega)))
/-- what is kept is one of the candidates -/
def IsO (a b : FlourR) (T L : Int) (o : OneT) : Prop := ∀ m d, o = some (m, d) → okN a b T L m = true ∧ d = costN a b T m
theorem pairO_is {a b : FlourR} {T L : Int} : ∀ m, IsO a b T L (pairO a b T L m)
  | 0 => fun _ _ h => by cases h
  | m + 1 => by
    cases hk : okN a b T L m
    · rw [pairO_f hk]; exact pairO_is m
    · rw [pairO_t hk]
      have ih := pairO_is (a := a) (b := b) (T := T) (L := L) m
      intro n c h
      rcases ho : pairO a b T L m with _ | ⟨m', d'⟩
      · rw [ho] at h; simp only [oUp, Option.some.injEq, Prod.mk.injEq] at h; rw [← h.1, ← h.2]; exact ⟨hk, rfl⟩
      · rw [ho] at h
        simp only [oUp] at h
        split at h
        · simp only [Option.some.injEq, Prod.mk.injEq] at h; rw [← h.1, ← h.2]; exact ⟨hk, rfl⟩
        · simp only [Option.some.injEq, Prod.mk.injEq] at h; rw [← h.1, ← h.2]; exact ih m' d' ho
def IsT (xs : List FlourR) (n : Nat) (T L : Int) (s : TwoT) : Prop := ∀ i k m d, s = some (i, k, m, d) → ∃ i' k' : Nat, i = i' ∧ k = k' ∧ i' < k' ∧ k' < n ∧ okN (xs.getD i' z27) (xs.getD k' z27) T L m = true ∧ d = costN (xs.getD i' z27) (xs.getD k' z27) T m
theorem IsT.mrg {xs : List FlourR} {n : Nat} {T L : Int} {s : TwoT} (h : IsT xs n T L s) {i k : Nat} (hik : i < k) (hk : k < n) {o : OneT} (ho : IsO (xs.getD i z27) (xs.getD k z27) T L o) : IsT xs n T L (tMrg s i k o) := by
  rcases o with _ | ⟨m, d⟩
  · exact h
  · have h1 := ho m d rfl
    intro i2 k2 m2 d2 e
    rcases s with _ | ⟨i', k', m', d'⟩
    · simp only [tMrg, tUp, Option.some.injEq, Prod.mk.injEq] at e
      exact ⟨i, k, e.1.symm, e.2.1.symm, hik, hk, by rw [← e.2.2.1]; exact h1.1, by rw [← e.2.2.1, ← e.2.2.2]; exact h1.2⟩
    · simp only [tMrg, tUp] at e
      split at e
      · simp only [Option.some.injEq, Prod.mk.injEq] at e
        exact ⟨i, k, e.1.symm, e.2.1.symm, hik, hk, by rw [← e.2.2.1]; exact h1.1, by rw [← e.2.2.1, ← e.2.2.2]; exact h1.2⟩
      · exact h i2 k2 m2 d2 e
theorem rowT_is {xs : List FlourR} {n : Nat} {T L : Int} {i : Nat} {s : TwoT} (h : IsT xs n T L s) : ∀ j, i + 1 + j ≤ n → IsT xs n T L (rowT xs T L i s j)
  | 0, _ => h
  | j + 1, hj => by
    rw [rowT_s]
    exact (rowT_is h j (by omega)).mrg (by omega) (by omega) (pairO_is _)
theorem allT_is {xs : List FlourR} {n : Nat} {T L : Int} : ∀ m, m ≤ n → IsT xs n T L (allT xs T L n m)
  | 0, _ => fun _ _ _ _ h => by cases h
  | m + 1, hm => by
    rw [allT_s]
    exact rowT_is (allT_is m (by omega)) _ (by omega)
/-- the law's facts on CheapestTwo -/
theorem two_law {xs : List FlourR} {n : Nat} {T L : Int} (hF : floursB n xs = true) (hT : 1 ≤ T ∧ T ≤ 100) (hL : 50 ≤ L ∧ L ≤ 500) : twoV n xs T L = none ∨
    ∃ (i k : Nat) (m c : Int), twoV n xs T L = some ((i : Int), (k : Int), m, c) ∧ i < k ∧ k < n ∧ (0 ≤ m ∧ m ≤ T) ∧ ¬ strengthV n xs n (twoL n i k m (T - m)) < L ∧ costV27 n xs n (twoL n i k m (T - m)) = c ∧
      ∀ z : Int, 0 ≤ z → z ≤ T → ¬ strengthV n xs n (twoL n i k z (T - z)) < L → ¬ costV27 n xs n (twoL n i k z (T - z)) < c := by
  have hb : twoB n xs T L = true := by unfold twoB; rw [hF, inB_y hT.1 hT.2, inB_y hL.1 hL.2]; rfl
  rw [twoV_t hb]
  rcases hs : allT xs T L n n with _ | ⟨i, k, m, c⟩
  · exact .inl rfl
  · obtain ⟨i', k', rfl, rfl, hik, hk, ho, hc⟩ := allT_is (xs := xs) (n := n) (T := T) (L := L) n (Nat.le_refl _) i k m c hs
    obtain ⟨m0, m1, m2, m3, _⟩ := okN_in ho
    refine .inr ⟨i', k', m, c, rfl, hik, hk, ⟨m0, by omega⟩, ?_, ?_, ?_⟩
    · intro h
      have := (two_ok hik hk hF hT.1 hL.1).1 h
      rw [ho] at this; cases this
    · rw [two_cost hik hk hF ho, hc]
    · intro z z0 z1 hz
      have hoz : okN (xs.getD i' z27) (xs.getD k' z27) T L z = true := by
        cases hh : okN (xs.getD i' z27) (xs.getD k' z27) T L z
        · exact absurd ((two_ok hik hk hF hT.1 hL.1).2 hh) hz
        · rfl
      rw [two_cost hik hk hF hoz]
      obtain ⟨q, rfl⟩ : ∃ q : Nat, z = (q : Int) := ⟨z.toNat, by omega⟩
      obtain ⟨i2, k2, m2, d2, e, hd⟩ := allT_le (T := T) (L := L) hik hk (pairO_le q (T.toNat + 1) (by omega) hoz) n (by omega) (Nat.le_refl _)
      rw [hs] at e
      simp only [Option.some.injEq, Prod.mk.injEq] at e
      omega
end Go.Proofs.Ytmkfnhgaiheckaa
