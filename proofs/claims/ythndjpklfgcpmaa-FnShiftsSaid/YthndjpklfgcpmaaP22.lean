/- Chapter 22: MostShifts: the plain facts. -/
import Derived.Test.YthndjpklfgcpmaaC22
import Derived.Test.YthndjpklfgcpmaaApp
namespace Go.Proofs.Ythndjpklfgcpmaa
open Go.ChangeShapes Go.WideShapes Go.ChangeAt Go.RowKit
set_option linter.unusedVariables false
set_option linter.unusedSimpArgs false
set_option maxHeartbeats 2000000

/-- the first place of the least value -/
def am (f : Nat → Int) : Nat → Nat
  | 0 => 0
  | k + 1 => if f k < f (am f k) then k else am f k
theorem am_lt (f : Nat → Int) : ∀ k, 0 < k → am f k < k
  | 0, h => absurd h (by omega)
  | k + 1, _ => by
    rw [am]
    split
    · omega
    · by_cases e : k = 0
      · subst e; simp [am]
      · have := am_lt f k (by omega); omega
theorem am_le (f : Nat → Int) : ∀ k i, i < k → f (am f k) ≤ f i ∧ (f (am f k) = f i → am f k ≤ i)
  | 0, i, h => absurd h (by omega)
  | k + 1, i, h => by
    rw [am]
    split
    · rename_i hlt
      by_cases e : i = k
      · subst e; exact ⟨Int.le_refl _, fun _ => Nat.le_refl _⟩
      · have := am_le f k i (by omega)
        exact ⟨by omega, fun he => by omega⟩
    · rename_i hge
      by_cases e : i = k
      · subst e
        refine ⟨by omega, fun _ => ?_⟩
        by_cases e0 : i = 0
        · subst e0; simp [am]
        · have := am_lt f i (by omega); omega
      · exact am_le f k i (by omega)
/-- what is left behind t finds; the place found at t -/
def lf (xs : List ShiftR) (n : Nat) : Nat → Nat → Int
  | 0, i => (xs.getD i z22).f1
  | t + 1, i => if i = am (lf xs n t) n then 180 else lf xs n t i
def od (xs : List ShiftR) (n t : Nat) : Nat := am (lf xs n t) n
theorem lf_s (xs : List ShiftR) (n t i : Nat) : lf xs n (t + 1) i = if i = od xs n t then 180 else lf xs n t i := rfl
abbrev ShI (xs : List ShiftR) (n : Nat) : Prop := ∀ i, i < n → 0 ≤ (xs.getD i z22).f0 ∧ (xs.getD i z22).f0 ≤ 167 ∧ (xs.getD i z22).f0 + 1 ≤ (xs.getD i z22).f1 ∧ (xs.getD i z22).f1 ≤ (xs.getD i z22).f0 + 12
/-- how many are found -/
def cf (f : Nat → Int) : Nat → Nat
  | 0 => 0
  | k + 1 => cf f k + if f k = 180 then 1 else 0
theorem cf_all (f : Nat → Int) : ∀ k, (∀ i, i < k → f i = 180) → cf f k = k
  | 0, _ => rfl
  | k + 1, h => by rw [cf, cf_all f k (fun i hi => h i (by omega)), if_pos (h k (by omega))]
theorem cf_full (f : Nat → Int) : ∀ k, cf f k = k → ∀ i, i < k → f i = 180
  | 0, _, i, hi => absurd hi (by omega)
  | k + 1, h, i, hi => by
    have hle : ∀ k, cf f k ≤ k := fun k => by
      induction k with
      | zero => exact Nat.le_refl _
      | succ k ih => rw [cf]; split <;> omega
    have h1 := hle k
    rw [cf] at h
    split at h
    · rename_i hk
      by_cases e : i = k
      · subst e; exact hk
      · exact cf_full f k (by omega) i (by omega)
    · omega
theorem cf_none (f : Nat → Int) : ∀ k, (∀ i, i < k → f i ≠ 180) → cf f k = 0
  | 0, _ => rfl
  | k + 1, h => by rw [cf, cf_none f k (fun i hi => h i (by omega)), if_neg (h k (by omega))]
theorem cf_set (f g : Nat → Int) (j : Nat) (hj : f j ≠ 180) (hg : ∀ i, g i = if i = j then 180 else f i) : ∀ k, cf g k = cf f k + if j < k then 1 else 0
  | 0 => rfl
  | k + 1 => by
    rw [cf, cf, cf_set f g j hj hg k, hg k]
    by_cases e : k = j
    · subst e
      rw [if_pos rfl, if_pos rfl, if_neg (by omega), if_neg hj, if_pos (by omega)]
    · rw [if_neg e]
      by_cases e2 : j < k
      · rw [if_pos e2, if_pos (show j < k + 1 by omega)]; omega
      · rw [if_neg e2, if_neg (show ¬ j < k + 1 by omega)]; omega
theorem lf_in {xs : List ShiftR} {n : Nat} (h : ShI xs n) : ∀ t i, i < n → (lf xs n t i = 180 ∨ (lf xs n t i = (xs.getD i z22).f1)) ∧ 1 ≤ lf xs n t i ∧ lf xs n t i ≤ 180
  | 0, i, hi => by have := h i hi; exact ⟨.inr rfl, by simp only [lf]; omega⟩
  | t + 1, i, hi => by
    have := lf_in h t i hi
    rw [lf_s]
    split
    · exact ⟨.inl rfl, by omega⟩
    · exact this
theorem lf_cnt {xs : List ShiftR} {n : Nat} (h : ShI xs n) : ∀ t, t ≤ n → cf (lf xs n t) n = t ∧ (t < n → od xs n t < n ∧ lf xs n t (od xs n t) < 180)
  | 0, _ => by
    have h0 : ∀ i, i < n → lf xs n 0 i ≠ 180 := fun i hi => by have := h i hi; simp only [lf]; omega
    refine ⟨cf_none _ _ h0, fun hn => ?_⟩
    have h1 := am_lt (lf xs n 0) n (by omega)
    have h2 := (lf_in h 0 _ h1).2
    have h3 := h0 _ h1
    exact ⟨h1, by unfold od; omega⟩
  | t + 1, ht => by
    obtain ⟨i1, i2⟩ := lf_cnt h t (by omega)
    obtain ⟨j1, j2⟩ := i2 (by omega)
    have hc : cf (lf xs n (t + 1)) n = t + 1 := by rw [cf_set (lf xs n t) (lf xs n (t + 1)) (od xs n t) (by omega) (fun i => lf_s xs n t i), i1, if_pos j1]
    refine ⟨hc, fun hn => ?_⟩
    have h1 := am_lt (lf xs n (t + 1)) n (by omega)
    refine ⟨h1, ?_⟩
    have h2 := (lf_in h (t + 1) _ h1).2
    by_cases e : lf xs n (t + 1) (od xs n (t + 1)) < 180
    · exact e
    · exfalso
      have hall : ∀ i, i < n → lf xs n (t + 1) i = 180 := fun i hi => by
        have h3 := (am_le (lf xs n (t + 1)) n i hi).1
        have h4 := (lf_in h (t + 1) i hi).2
        unfold od at e
        omega
      have := cf_all _ n hall
      omega
theorem od_lt {xs : List ShiftR} {n t : Nat} (h : ShI xs n) (ht : t < n) : od xs n t < n := ((lf_cnt h t (by omega)).2 ht).1
/-- what is found stays found -/
theorem lf_stay {xs : List ShiftR} {n i t : Nat} (h : lf xs n t i = 180) : ∀ d, lf xs n (t + d) i = 180
  | 0 => h
  | d + 1 => by
    rw [← Nat.add_assoc, lf_s]
    split
    · rfl
    · exact lf_stay h d
theorem lf_not {xs : List ShiftR} {n : Nat} (i : Nat) : ∀ t, lf xs n t i ≠ 180 → lf xs n t i = (xs.getD i z22).f1
  | 0, _ => rfl
  | t + 1, h => by
    rw [lf_s] at h ⊢
    split at h
    · exact absurd rfl h
    · rename_i e
      rw [if_neg e]
      exact lf_not i t h
theorem lf_found {xs : List ShiftR} {n : Nat} (h : ShI xs n) (i : Nat) (hi : i < n) : ∀ t, lf xs n t i = 180 → ∃ s, s < t ∧ od xs n s = i
  | 0, e => by have := h i hi; simp only [lf] at e; omega
  | t + 1, e => by
    rw [lf_s] at e
    split at e
    · rename_i e2
      exact ⟨t, by omega, e2.symm⟩
    · obtain ⟨s, hs, he⟩ := lf_found h i hi t e
      exact ⟨s, by omega, he⟩
/-- i comes ahead of j -/
def bef (xs : List ShiftR) (i j : Nat) : Prop := (xs.getD i z22).f1 < (xs.getD j z22).f1 ∨ ((xs.getD i z22).f1 = (xs.getD j z22).f1 ∧ i < j)
theorem od_sorted {xs : List ShiftR} {n : Nat} (h : ShI xs n) {s t : Nat} (hst : s < t) (ht : t < n) : bef xs (od xs n s) (od xs n t) := by
  obtain ⟨c1, c2⟩ := (lf_cnt h t (by omega)).2 ht
  obtain ⟨d1, d2⟩ := (lf_cnt h s (by omega)).2 (by omega)
  have e1 := lf_not (od xs n t) t (Int.ne_of_lt c2)
  have hs : lf xs n s (od xs n t) ≠ 180 := fun e => by
    have := lf_stay e (t - s)
    rw [show s + (t - s) = t by omega] at this
    omega
  have e2 := lf_not (od xs n t) s hs
  have e3 := lf_not (od xs n s) s (Int.ne_of_lt d2)
  have hm := am_le (lf xs n s) n (od xs n t) c1
  change lf xs n s (od xs n s) ≤ _ ∧ (lf xs n s (od xs n s) = _ → od xs n s ≤ _) at hm
  have hne : od xs n s ≠ od xs n t := fun e => by
    have h1 : lf xs n (s + 1) (od xs n t) = 180 := by rw [lf_s, if_pos e.symm]
    have := lf_stay h1 (t - (s + 1))
    rw [show s + 1 + (t - (s + 1)) = t by omega] at this
    omega
  unfold bef
  rw [e2, e3] at hm
  rcases Int.lt_or_eq_of_le hm.1 with h9 | h9
  · exact .inl h9
  · exact .inr ⟨h9, by have := hm.2 h9; omega⟩
theorem od_onto {xs : List ShiftR} {n : Nat} (h : ShI xs n) {i : Nat} (hi : i < n) : ∃ s, s < n ∧ od xs n s = i :=
  lf_found h i hi n (cf_full _ n (lf_cnt h n (Nat.le_refl _)).1 i hi)
/-- the picks among the first t, and when the next one may begin -/
def pk (xs : List ShiftR) (n : Nat) (rest : Int) : Nat → List Int × Int
  | 0 => ([], 0)
  | t + 1 => if (pk xs n rest t).2 ≤ (xs.getD (od xs n t) z22).f0 then ((pk xs n rest t).1 ++ [(od xs n t : Int)], (xs.getD (od xs n t) z22).f1 + rest) else pk xs n rest t
theorem pk_t {xs : List ShiftR} {n t : Nat} {rest : Int} (h : (pk xs n rest t).2 ≤ (xs.getD (od xs n t) z22).f0) : pk xs n rest (t + 1) = ((pk xs n rest t).1 ++ [(od xs n t : Int)], (xs.getD (od xs n t) z22).f1 + rest) := by rw [pk, if_pos h]
theorem pk_f {xs : List ShiftR} {n t : Nat} {rest : Int} (h : (xs.getD (od xs n t) z22).f0 < (pk xs n rest t).2) : pk xs n rest (t + 1) = pk xs n rest t := by rw [pk, if_neg (by omega)]
theorem pk_len (xs : List ShiftR) (n : Nat) (rest : Int) : ∀ t, (pk xs n rest t).1.length ≤ t
  | 0 => Nat.le_refl _
  | t + 1 => by
    have := pk_len xs n rest t
    rw [pk]
    split
    · simp; omega
    · omega
theorem pk_in {xs : List ShiftR} {n : Nat} (h : ShI xs n) {rest : Int} (h0 : 0 ≤ rest) (h24 : rest ≤ 24) : ∀ t, t ≤ n → 0 ≤ (pk xs n rest t).2 ∧ (pk xs n rest t).2 ≤ 210
  | 0, _ => by simp [pk]
  | t + 1, ht => by
    have ih := pk_in h h0 h24 t (by omega)
    have := h _ (od_lt h (show t < n by omega))
    rw [pk]
    split
    · simp only []; omega
    · exact ih
/-- all behind: they begin too early -/
theorem pk_past {xs : List ShiftR} {n : Nat} (h : ShI xs n) {rest : Int} (h0 : 0 ≤ rest) : ∀ t, t ≤ n → ∀ s, s < t → (xs.getD (od xs n s) z22).f0 < (pk xs n rest t).2
  | 0, _, s, hs => absurd hs (by omega)
  | t + 1, ht, s, hs => by
    have ih := pk_past h h0 t (by omega)
    have h1 := h _ (od_lt h (show t < n by omega))
    rw [pk]
    split
    · rename_i hp
      simp only []
      by_cases e : s = t
      · subst e; omega
      · have := ih s (by omega); omega
    · rename_i hp
      by_cases e : s = t
      · subst e; omega
      · exact ih s (by omega)
/-- what is passed over changes nothing -/
theorem pk_skip {xs : List ShiftR} {n : Nat} {rest : Int} {t : Nat} : ∀ d, (∀ s, t ≤ s → s < t + d → (xs.getD (od xs n s) z22).f0 < (pk xs n rest t).2) → pk xs n rest (t + d) = pk xs n rest t
  | 0, _ => rfl
  | d + 1, h => by
    have ih := pk_skip (t := t) d fun s h1 h2 => h s h1 (by omega)
    rw [← Nat.add_assoc, pk_f (by rw [ih]; exact h (t + d) (by omega) (by omega)), ih]
/-- the best one that may begin: a scan from below -/
def bs (xs : List ShiftR) (free : Int) : Nat → Int
  | 0 => -1
  | k + 1 => if free ≤ (xs.getD k z22).f0 ∧ (bs xs free k < 0 ∨ (xs.getD k z22).f1 < (xs.getD (bs xs free k).toNat z22).f1) then (k : Int) else bs xs free k
theorem bs_in (xs : List ShiftR) (free : Int) : ∀ k, -1 ≤ bs xs free k ∧ bs xs free k < k
  | 0 => by simp [bs]
  | k + 1 => by
    have := bs_in xs free k
    rw [bs]
    split <;> omega
theorem bs_none (xs : List ShiftR) (free : Int) : ∀ k, bs xs free k < 0 → ∀ i, i < k → (xs.getD i z22).f0 < free
  | 0, _, i, hi => absurd hi (by omega)
  | k + 1, h, i, hi => by
    rw [bs] at h
    split at h
    · omega
    · rename_i hc
      have ih := bs_none xs free k h
      by_cases e : i = k
      · subst e
        by_cases hf : free ≤ (xs.getD i z22).f0
        · exact absurd ⟨hf, .inl h⟩ hc
        · omega
      · exact ih i (by omega)
theorem bs_some (xs : List ShiftR) (free : Int) : ∀ k (b : Nat), bs xs free k = (b : Int) → b < k ∧ free ≤ (xs.getD b z22).f0 ∧ ∀ i, i < k → free ≤ (xs.getD i z22).f0 → i = b ∨ bef xs b i
  | 0, b, h => by unfold bs at h; omega
  | k + 1, b, h => by
    rw [bs] at h
    split at h
    · rename_i hc
      obtain ⟨hf, hc⟩ := hc
      obtain rfl : k = b := by omega
      refine ⟨by omega, hf, fun i hi hfi => ?_⟩
      by_cases e : i = k
      · exact .inl e
      · right
        by_cases hn : bs xs free k < 0
        · have := bs_none xs free k hn i (by omega); omega
        · have hin := bs_in xs free k
          obtain ⟨b0, hb0⟩ : ∃ b0 : Nat, bs xs free k = b0 := ⟨(bs xs free k).toNat, by omega⟩
          have ih := bs_some xs free k b0 hb0
          rw [hb0, Int.toNat_natCast] at hc
          unfold bef
          rcases hc with hc | hc
          · omega
          · rcases ih.2.2 i (by omega) hfi with e2 | e2
            · subst e2; exact .inl hc
            · unfold bef at e2; left; omega
    · rename_i hc
      obtain ⟨i1, i2, i3⟩ := bs_some xs free k b h
      refine ⟨by omega, i2, fun i hi hfi => ?_⟩
      by_cases e : i = k
      · subst e
        right
        have hnn : ¬ bs xs free i < 0 := by omega
        have : ¬ (xs.getD i z22).f1 < (xs.getD (bs xs free i).toNat z22).f1 := fun h9 => hc ⟨hfi, .inr h9⟩
        rw [h, Int.toNat_natCast] at this
        unfold bef
        omega
      · exact i3 i (by omega) hfi
/-- none may begin: all picks are made -/
theorem pk_end {xs : List ShiftR} {n : Nat} (h : ShI xs n) {rest : Int} {t : Nat} (ht : t ≤ n) (hb : bs xs (pk xs n rest t).2 n < 0) : pk xs n rest n = pk xs n rest t := by
  have h1 := bs_none _ _ n hb
  have := pk_skip (xs := xs) (n := n) (rest := rest) (t := t) (n - t) fun s h2 h3 => h1 _ (od_lt h (by omega))
  rwa [show t + (n - t) = n by omega] at this
/-- the best one is the next pick -/
theorem pk_next {xs : List ShiftR} {n : Nat} (h : ShI xs n) {rest : Int} (h0 : 0 ≤ rest) {t b : Nat} (ht : t ≤ n) (hb : bs xs (pk xs n rest t).2 n = (b : Int)) : ∃ t', t < t' ∧ t' ≤ n ∧ pk xs n rest t' = ((pk xs n rest t).1 ++ [(b : Int)], (xs.getD b z22).f1 + rest) := by
  obtain ⟨b1, b2, b3⟩ := bs_some _ _ n b hb
  obtain ⟨p, hp, rfl⟩ := od_onto h b1
  have htp : t ≤ p := by
    by_cases e : t ≤ p
    · exact e
    · have := pk_past h h0 t ht p (by omega); omega
  have hsk := pk_skip (xs := xs) (n := n) (rest := rest) (t := t) (p - t) fun s h2 h3 => by
    by_cases e : (pk xs n rest t).2 ≤ (xs.getD (od xs n s) z22).f0
    · have h9 := od_sorted h (show s < p by omega) hp
      rcases b3 _ (od_lt h (by omega)) e with e2 | e2
      · rw [e2] at h9; unfold bef at h9; omega
      · unfold bef at h9 e2; omega
    · omega
  rw [show t + (p - t) = p by omega] at hsk
  exact ⟨p + 1, by omega, by omega, by rw [pk_t (by rw [hsk]; exact b2), hsk]⟩
def mostB (n : Nat) (xs : List ShiftR) (rest : Int) : Bool := decide (n ≤ 20) && inB rest 0 24 && allOk (fun i => shiftB (xs.getD i z22).f0 (xs.getD i z22).f1) n
def MostL (n : Nat) (xs : List ShiftR) (rest : Int) : List Int := if mostB n xs rest then (pk xs n rest n).1 else []
theorem MostL_len (n : Nat) (xs : List ShiftR) (rest : Int) : (MostL n xs rest).length ≤ 100000 := by
  unfold MostL
  split
  · rename_i h
    have := pk_len xs n rest n
    simp only [mostB, Bool.and_eq_true, decide_eq_true_eq] at h
    omega
  · simp
theorem most_at {n : Nat} {xs : List ShiftR} (h : allOk (fun i => shiftB (xs.getD i z22).f0 (xs.getD i z22).f1) n = true) : ShI xs n := fun i hi => by
  have := shift_in (allOk_at _ _ h i hi)
  omega
end Go.Proofs.Ythndjpklfgcpmaa
