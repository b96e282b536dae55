/- Breads in the order of their High: what is chosen. -/
import Derived.Test.YtgjbbidcpmglbaaSrt
import Derived.Test.YtgjbbidcpmglbaaFst
import Derived.Test.YtgjbbidcpmglbaaC10
import Derived.Test.YtgjbbidcpmglbaaFall
namespace Go.Proofs.Ytgjbbidcpmglbaa
open Go.ChangeShapes Go.WideShapes Go.ChangeAt Go.RowKit
set_option linter.unusedVariables false
set_option linter.unusedSimpArgs false
set_option maxHeartbeats 2000000

def loI (xs : List BreadR) (i : Nat) : Int := (xs.getD i z10).f0
def hiI (xs : List BreadR) (i : Nat) : Int := (xs.getD i z10).f1
def apV (xs : List BreadR) : Int → Int → Int := fun x y => cmpV (hiI xs x.toNat) (hiI xs y.toNat)
theorem ap_lt (xs : List BreadR) (x y : Int) : ltOf (apV xs) x y = ltI (hiI xs x.toNat) (hiI xs y.toNat) := by
  unfold ltOf apV cmpV ltI
  generalize hiI xs x.toNat = p
  generalize hiI xs y.toNat = q
  by_cases h : p < q
  · simp [h]
  · by_cases k : q < p
    · simp only [h, k, if_true, if_false]; rfl
    · simp only [h, k, if_false]; rfl
/-- the order -/
def apS (xs : List BreadR) (n : Nat) : Nat → Int := srtF (ltOf (apV xs)) n
def apN (xs : List BreadR) (n u : Nat) : Nat := (apS xs n u).toNat
theorem apN_eq {xs : List BreadR} {n u : Nat} (h : u < n) : apS xs n u = apN xs n u := by
  have := srtF_in (ltOf (apV xs)) n u h
  unfold apN apS; omega
theorem apN_in {xs : List BreadR} {n u : Nat} (h : u < n) : apN xs n u < n := by
  have := srtF_in (ltOf (apV xs)) n u h
  unfold apN apS; omega
/-- x stands ahead of y -/
def bef (xs : List BreadR) (x y : Nat) : Prop := hiI xs x < hiI xs y ∨ (hiI xs x = hiI xs y ∧ x < y)
theorem psn_hi_all (xs : List BreadR) (n : Nat) (S : Nat → Int) : ∀ j, ∀ t, psn (ltOf (apV xs)) n S j ≤ t → t < j → hiI xs n < hiI xs (S t).toNat := by
  intro j
  induction j with
  | zero => intro t _ h; omega
  | succ j ih =>
    intro t h1 h2
    rw [psn] at h1
    split at h1
    · rename_i hl
      rcases Nat.lt_or_ge t j with h3 | h3
      · exact ih t h1 h3
      · obtain rfl : t = j := by omega
        rw [ap_lt, Int.toNat_natCast] at hl
        simpa [ltI] using hl
    · omega
theorem psn_lo_at (xs : List BreadR) (n : Nat) (S : Nat → Int) : ∀ j, 0 < psn (ltOf (apV xs)) n S j → hiI xs (S (psn (ltOf (apV xs)) n S j - 1)).toNat ≤ hiI xs n := by
  intro j
  induction j with
  | zero => intro h; simp [psn] at h
  | succ j ih =>
    intro h
    rw [psn] at h ⊢
    split
    · rename_i hl; rw [if_pos hl] at h; exact ih h
    · rename_i hl
      rw [ap_lt, Int.toNat_natCast] at hl
      simp [ltI] at hl
      simpa using hl
theorem ap_sorted (xs : List BreadR) (n : Nat) : ∀ u v, u < v → v < n → bef xs (apN xs n u) (apN xs n v) := by
  induction n with
  | zero => intro u v _ h; omega
  | succ n ih =>
    have hS : ∀ u, u < n → (srtF (ltOf (apV xs)) n u).toNat = apN xs n u := fun u _ => rfl
    have hp := psn_le (ltOf (apV xs)) n (srtF (ltOf (apV xs)) n) n
    have hh := psn_hi_all xs n (srtF (ltOf (apV xs)) n) n
    have hl := psn_lo_at xs n (srtF (ltOf (apV xs)) n) n
    have hN : ∀ u, apN xs (n + 1) u = (insAt (srtF (ltOf (apV xs)) n) n (psn (ltOf (apV xs)) n (srtF (ltOf (apV xs)) n) n) u).toNat := fun u => rfl
    generalize psn (ltOf (apV xs)) n (srtF (ltOf (apV xs)) n) n = p at *
    have hlo : ∀ t, t < p → bef xs (apN xs n t) n := by
      intro t ht
      have h1 := hl (by omega)
      rw [hS (p - 1) (by omega)] at h1
      have h2 : apN xs n t < n := apN_in (by omega)
      rcases Nat.lt_or_ge t (p - 1) with h3 | h3
      · rcases ih t (p - 1) h3 (by omega) with h4 | ⟨h4, _⟩
        · exact .inl (by omega)
        · rcases Int.lt_or_eq_of_le h1 with h5 | h5
          · exact .inl (by omega)
          · exact .inr ⟨by omega, h2⟩
      · obtain rfl : t = p - 1 := by omega
        rcases Int.lt_or_eq_of_le h1 with h5 | h5
        · exact .inl h5
        · exact .inr ⟨h5, h2⟩
    have hhi : ∀ t, p ≤ t → t < n → bef xs n (apN xs n t) := fun t h1 h2 => .inl (hh t h1 h2)
    intro u v huv hv
    rw [hN, hN]
    rcases Nat.lt_trichotomy u p with h1 | h1 | h1
    · rw [insAt_lo h1, hS u (by omega)]
      rcases Nat.lt_trichotomy v p with h2 | h2 | h2
      · rw [insAt_lo h2, hS v (by omega)]; exact ih u v huv (by omega)
      · subst h2; rw [insAt_at, Int.toNat_natCast]; exact hlo u h1
      · rw [insAt_hi h2, hS (v - 1) (by omega)]; exact ih u (v - 1) (by omega) (by omega)
    · subst h1
      rw [insAt_at, Int.toNat_natCast, insAt_hi huv, hS (v - 1) (by omega)]
      exact hhi (v - 1) (by omega) (by omega)
    · rw [insAt_hi h1, insAt_hi (by omega), hS (u - 1) (by omega), hS (v - 1) (by omega)]
      exact ih (u - 1) (v - 1) (by omega) (by omega)
theorem ap_surj (xs : List BreadR) (n : Nat) : ∀ k, k < n → ∃ u, u < n ∧ apN xs n u = k := by
  induction n with
  | zero => intro k h; omega
  | succ n ih =>
    have hp := psn_le (ltOf (apV xs)) n (srtF (ltOf (apV xs)) n) n
    have hN : ∀ u, apN xs (n + 1) u = (insAt (srtF (ltOf (apV xs)) n) n (psn (ltOf (apV xs)) n (srtF (ltOf (apV xs)) n) n) u).toNat := fun u => rfl
    generalize psn (ltOf (apV xs)) n (srtF (ltOf (apV xs)) n) n = p at *
    intro k hk
    by_cases e : k = n
    · subst e; exact ⟨p, by omega, by rw [hN, insAt_at, Int.toNat_natCast]⟩
    · obtain ⟨u, hu, hu2⟩ := ih k (by omega)
      rcases Nat.lt_or_ge u p with h | h
      · exact ⟨u, by omega, by rw [hN, insAt_lo h]; exact hu2⟩
      · exact ⟨u + 1, by omega, by rw [hN, insAt_hi (by omega)]; exact hu2⟩
/-- the first bread of the order that does not bake at h, or -1 -/
def nxP (xs : List BreadR) (n : Nat) (h : Int) (v : Nat) : Bool := decide (h < loI xs (apN xs n v))
def nxI (xs : List BreadR) (n : Nat) (h : Int) : Int := fstP (nxP xs n h) n
def nxB (xs : List BreadR) (n : Nat) (h : Int) : Int := if nxI xs n h < 0 then -1 else apN xs n (nxI xs n h).toNat
def apF (xs : List BreadR) (n : Nat) : Nat → Int → List Int
  | 0, _ => []
  | f + 1, h => if nxI xs n h < 0 then [] else nxB xs n h :: apF xs n f (hiI xs (nxB xs n h).toNat)
def ApartBreadsL (n : Nat) (xs : List BreadR) : List Int := if breadsB n xs then apF xs n 400 0 else []
theorem apF_len (xs : List BreadR) (n : Nat) : ∀ f h, (apF xs n f h).length ≤ f := by
  intro f
  induction f with
  | zero => intro h; exact Nat.le_refl _
  | succ f ih => intro h; rw [apF]; split
                 · simp
                 · have := ih (hiI xs (nxB xs n h).toNat); simp; omega
theorem ApartBreadsL_len (n : Nat) (xs : List BreadR) : (ApartBreadsL n xs).length ≤ 400 := by
  unfold ApartBreadsL
  split
  · exact apF_len xs n 400 0
  · simp
theorem apF_no {xs : List BreadR} {n : Nat} {h : Int} (hn : nxI xs n h < 0) (f : Nat) : apF xs n f h = [] := by
  cases f with
  | zero => rfl
  | succ f => rw [apF, if_pos hn]
theorem apF_yes {xs : List BreadR} {n : Nat} {h : Int} (hn : ¬ nxI xs n h < 0) (f : Nat) (hf : 0 < f) : apF xs n f h = nxB xs n h :: apF xs n (f - 1) (hiI xs (nxB xs n h).toNat) := by
  obtain ⟨g, rfl⟩ : ∃ g, f = g + 1 := ⟨f - 1, by omega⟩
  rw [apF, if_neg hn]; rfl
theorem nx_at {xs : List BreadR} {n : Nat} {h : Int} (hn : ¬ nxI xs n h < 0) : ∃ v : Nat, v < n ∧ nxI xs n h = v ∧ nxB xs n h = apN xs n v ∧ h < loI xs (apN xs n v) ∧ ∀ t, t < v → ¬ h < loI xs (apN xs n t) := by
  have hin := fstP_in (nxP xs n h) n
  have hn' : ¬ fstP (nxP xs n h) n < 0 := hn
  obtain ⟨v, hv⟩ : ∃ v : Nat, fstP (nxP xs n h) n = v := ⟨(fstP (nxP xs n h) n).toNat, by omega⟩
  have hvn : v < n := by omega
  obtain ⟨k, hk, hkp⟩ : ∃ k, k < n ∧ nxP xs n h k = true := by
    cases hc : (List.range n).any (nxP xs n h)
    · exfalso
      refine hn' (fstP_neg.2 fun i hi => ?_)
      rw [List.any_eq_false] at hc
      simpa using hc i (List.mem_range.2 hi)
    · rw [List.any_eq_true] at hc
      obtain ⟨k, h1, h2⟩ := hc
      exact ⟨k, List.mem_range.1 h1, h2⟩
  -- the first one
  have hfirst : ∃ m, m < n ∧ nxP xs n h m = true ∧ ∀ t, t < m → nxP xs n h t = false := by
    clear hv hvn hn hn' hin
    induction k using Nat.strongRecOn with
    | ind k ih =>
      cases hc : (List.range k).any (nxP xs n h)
      · rw [List.any_eq_false] at hc
        exact ⟨k, hk, hkp, fun t ht => by simpa using hc t (List.mem_range.2 ht)⟩
      · rw [List.any_eq_true] at hc
        obtain ⟨j, h1, h2⟩ := hc
        have := List.mem_range.1 h1
        exact ih j this (by omega) h2
  obtain ⟨m, hm, hmp, hmf⟩ := hfirst
  have he := fstP_at hm hmf hmp
  obtain rfl : m = v := by omega
  refine ⟨m, hm, he, ?_, by simpa [nxP] using hmp, fun t ht => by simpa [nxP] using hmf t ht⟩
  have : nxI xs n h = m := he
  unfold nxB
  rw [this, if_neg (by omega), Int.toNat_natCast]
theorem nx_of {xs : List BreadR} {n : Nat} {h : Int} {v : Nat} (hv : v < n) (h1 : h < loI xs (apN xs n v)) (h2 : ∀ t, t < v → ¬ h < loI xs (apN xs n t)) : nxI xs n h = v ∧ nxB xs n h = apN xs n v := by
  have he : nxI xs n h = v := fstP_at hv (fun t ht => by simpa [nxP] using h2 t ht) (by simpa [nxP] using h1)
  refine ⟨he, ?_⟩
  unfold nxB
  rw [he, if_neg (by omega), Int.toNat_natCast]
theorem nx_none {xs : List BreadR} {n : Nat} {h : Int} (h2 : ∀ t, t < n → ¬ h < loI xs (apN xs n t)) : nxI xs n h = -1 ∧ nxB xs n h = -1 := by
  have he : nxI xs n h = -1 := fstP_no fun t ht => by simpa [nxP] using h2 t ht
  exact ⟨he, by unfold nxB; rw [he, if_pos (by omega)]⟩
/-- the choice of the model: the least High, of equal ones the first -/
theorem nx_best {xs : List BreadR} {n : Nat} {h : Int} {j : Nat} (hj : j < n) (h1 : h < loI xs j) (h2 : ∀ i, i < n → h < loI xs i → hiI xs j < hiI xs i ∨ (hiI xs j = hiI xs i ∧ j ≤ i)) : nxI xs n h ≠ -1 ∧ ¬ nxI xs n h < 0 ∧ nxB xs n h = j := by
  obtain ⟨v, hv, rfl⟩ := ap_surj xs n j hj
  have hmin : ∀ t, t < v → ¬ h < loI xs (apN xs n t) := by
    intro t ht hc
    have h3 := ap_sorted xs n t v ht hv
    have h4 := h2 (apN xs n t) (apN_in (by omega)) hc
    unfold bef at h3
    omega
  obtain ⟨e1, e2⟩ := nx_of hv h1 hmin
  exact ⟨by omega, by omega, e2⟩
theorem nx_best0 {xs : List BreadR} {n : Nat} {h : Int} (h2 : ∀ i, i < n → ¬ h < loI xs i) : nxI xs n h = -1 := (nx_none fun t ht => h2 _ (apN_in ht)).1
end Go.Proofs.Ytgjbbidcpmglbaa
