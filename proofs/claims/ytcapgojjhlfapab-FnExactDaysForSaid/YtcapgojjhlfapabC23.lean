/- Chapter 23: the values. -/
import Derived.Test.YtcapgojjhlfapabIn
import Derived.Test.YtcapgojjhlfapabSSkill
import Derived.Test.YtcapgojjhlfapabRis
import Derived.Test.YtcapgojjhlfapabIx
import Derived.Test.YtcapgojjhlfapabFst
import Derived.Test.YtcapgojjhlfapabIdx
import Derived.Test.YtcapgojjhlfapabQuiet
namespace Go.Proofs.Ytcapgojjhlfapab
open Go.ChangeShapes Go.WideShapes Go.ChangeAt Go.RowKit
set_option linter.unusedVariables false
set_option linter.unusedSimpArgs false
set_option maxHeartbeats 2000000

abbrev z23 : SkillR := ⟨[], 0⟩
def hasN (bs : List Int) (v : Int) : Bool := decide (0 ≤ idxOf bs v bs.length)
theorem hasN_iff {bs : List Int} {v : Int} : hasN bs v = true ↔ ∃ i, i < bs.length ∧ bs.getD i 0 = v := by
  unfold hasN
  rw [decide_eq_true_eq]
  constructor
  · intro h
    by_cases he : ∃ i, i < bs.length ∧ bs.getD i 0 = v
    · exact he
    · have := idxOf_neg (xs := bs) (v := v) (n := bs.length)
      have h2 := this.2 fun i hi hv => he ⟨i, hi, hv⟩
      omega
  · rintro ⟨i, hi, hv⟩
    have := idxOf_neg (xs := bs) (v := v) (n := bs.length)
    by_cases h0 : idxOf bs v bs.length < 0
    · exact absurd hv (this.1 h0 i hi)
    · omega
theorem hasN_f {bs : List Int} {v : Int} : hasN bs v = false ↔ ∀ i, i < bs.length → bs.getD i 0 ≠ v := by
  constructor
  · intro h i hi hv
    rw [hasN_iff.2 ⟨i, hi, hv⟩] at h; cases h
  · intro h
    cases hh : hasN bs v
    · rfl
    · obtain ⟨i, hi, hv⟩ := hasN_iff.1 hh
      exact absurd hv (h i hi)
theorem hasN_app (bs : List Int) (u v : Int) : hasN (bs ++ [u]) v = (hasN bs v || (u == v)) := by
  rw [Bool.eq_iff_iff, Bool.or_eq_true, beq_iff_eq, hasN_iff, hasN_iff]
  constructor
  · rintro ⟨i, hi, hv⟩
    simp at hi
    by_cases e : i < bs.length
    · refine .inl ⟨i, e, ?_⟩
      rw [← hv, List.getD_eq_getElem?_getD, List.getD_eq_getElem?_getD, List.getElem?_append_left e]
    · obtain rfl : i = bs.length := by omega
      exact .inr (by simpa using hv)
  · rintro (⟨i, hi, hv⟩ | rfl)
    · exact ⟨i, by simp; omega, by rw [← hv, List.getD_eq_getElem?_getD, List.getD_eq_getElem?_getD, List.getElem?_append_left hi]⟩
    · exact ⟨bs.length, by simp, by simp⟩
abbrev needs (xs : List SkillR) (k : Nat) : List Int := (xs.getD k z23).f0
def needsB (xs : List SkillR) (out : List Int) (k : Nat) : Bool := allOk (fun i => hasN out ((needs xs k).getD i 0)) (needs xs k).length
def openB (xs : List SkillR) (out : List Int) (k : Nat) : Bool := !hasN out k && needsB xs out k
def nxt (n : Nat) (xs : List SkillR) (out : List Int) : Int := fstP (openB xs out) n
def ordT (n : Nat) (xs : List SkillR) : Nat → List Int
  | 0 => []
  | j + 1 => if nxt n xs (ordT n xs j) < 0 then ordT n xs j else ordT n xs j ++ [nxt n xs (ordT n xs j)]
def ordV (n : Nat) (xs : List SkillR) : List Int := ordT n xs n
theorem fstP_t {p : Nat → Bool} {n : Nat} (h : 0 ≤ fstP p n) : p (fstP p n).toNat = true := by
  induction n with
  | zero => simp [fstP] at h
  | succ n ih =>
    rw [fstP] at h ⊢
    split
    · rename_i h0; exact ih h0
    · rename_i h0
      rw [if_neg h0] at h
      split
      · rename_i hp; simpa using hp
      · rename_i hp; rw [if_neg hp] at h; omega
theorem nxt_in (n : Nat) (xs : List SkillR) (out : List Int) : -1 ≤ nxt n xs out ∧ nxt n xs out < n := fstP_in _ _
theorem nxt_open {n : Nat} {xs : List SkillR} {out : List Int} (h : 0 ≤ nxt n xs out) : openB xs out (nxt n xs out).toNat = true := fstP_t h
/-- numbers below n, no two the same -/
def Dist (n : Nat) (os : List Int) : Prop := (∀ i, i < os.length → 0 ≤ os.getD i 0 ∧ os.getD i 0 < n) ∧ ∀ i j, i < j → j < os.length → os.getD i 0 ≠ os.getD j 0
theorem getD_app1 (os : List Int) (u : Int) (i : Nat) (h : i < os.length) : (os ++ [u]).getD i 0 = os.getD i 0 := by
  rw [List.getD_eq_getElem?_getD, List.getD_eq_getElem?_getD, List.getElem?_append_left h]
theorem getD_app2 (os : List Int) (u : Int) : (os ++ [u]).getD os.length 0 = u := by simp
theorem Dist.app {n : Nat} {os : List Int} {u : Int} (h : Dist n os) (h0 : 0 ≤ u) (h1 : u < n) (h2 : hasN os u = false) : Dist n (os ++ [u]) := by
  have hne := hasN_f.1 h2
  refine ⟨fun i hi => ?_, fun i j hij hj => ?_⟩
  · simp at hi
    by_cases e : i < os.length
    · rw [getD_app1 _ _ _ e]; exact h.1 i e
    · obtain rfl : i = os.length := by omega
      rw [getD_app2]; exact ⟨h0, h1⟩
  · simp at hj
    by_cases e : j < os.length
    · rw [getD_app1 _ _ _ e, getD_app1 _ _ _ (by omega)]; exact h.2 i j hij e
    · obtain rfl : j = os.length := by omega
      rw [getD_app2, getD_app1 _ _ _ hij]; exact hne i hij
theorem ordT_dist (n : Nat) (xs : List SkillR) (j : Nat) : Dist n (ordT n xs j) := by
  induction j with
  | zero => exact ⟨fun i hi => absurd hi (Nat.not_lt_zero _), fun i j _ hj => absurd hj (Nat.not_lt_zero _)⟩
  | succ j ih =>
    rw [ordT]
    split
    · exact ih
    · rename_i h
      have h1 := nxt_in n xs (ordT n xs j)
      have h2 := nxt_open (n := n) (xs := xs) (out := ordT n xs j) (by omega)
      simp only [openB, Bool.and_eq_true, Bool.not_eq_true'] at h2
      exact ih.app (by omega) h1.2 (by rw [Int.toNat_of_nonneg (by omega)] at h2; exact h2.1)
theorem inj_surj23 : ∀ (n : Nat) (f : Nat → Nat), (∀ i, i < n → f i < n) → (∀ i j, i < n → j < n → f i = f j → i = j) → ∀ v, v < n → ∃ i, i < n ∧ f i = v := by
  intro n
  induction n with
  | zero => intro f _ _ v hv; omega
  | succ n ih =>
    intro f hf hi v hv
    have hl := hf n (by omega)
    let g : Nat → Nat := fun i => if f i = n then f n else f i
    have hg : ∀ i, i < n → g i < n := by
      intro i hin
      show (if f i = n then f n else f i) < n
      split
      · rename_i he
        have hne : f n ≠ n := fun h => by have := hi i n (by omega) (by omega) (by omega); omega
        omega
      · have := hf i (by omega); omega
    have hgi : ∀ i j, i < n → j < n → g i = g j → i = j := by
      intro i j h1 h2 h3
      have h3' : (if f i = n then f n else f i) = (if f j = n then f n else f j) := h3
      by_cases e1 : f i = n <;> by_cases e2 : f j = n
      · exact hi i j (by omega) (by omega) (by omega)
      · rw [if_pos e1, if_neg e2] at h3'
        have := hi n j (by omega) (by omega) h3'
        omega
      · rw [if_neg e1, if_pos e2] at h3'
        have := hi i n (by omega) (by omega) h3'
        omega
      · rw [if_neg e1, if_neg e2] at h3'
        exact hi i j (by omega) (by omega) h3'
    by_cases hvn : v = f n
    · exact ⟨n, by omega, hvn.symm⟩
    by_cases hvl : v = n
    · -- n is hit by some i below n, else f maps into n
      by_cases hex : ∃ i, i < n ∧ f i = n
      · obtain ⟨i, h1, h2⟩ := hex
        exact ⟨i, by omega, by omega⟩
      · have hf' : ∀ i, i < n → f i < n := fun i h1 => by
          have := hf i (by omega)
          have : f i ≠ n := fun h => hex ⟨i, h1, h⟩
          omega
        have hfn : f n < n := by omega
        obtain ⟨i, h1, h2⟩ := ih f hf' (fun i j a b c => hi i j (by omega) (by omega) c) (f n) hfn
        have := hi i n (by omega) (by omega) h2
        omega
    · obtain ⟨i, h1, h2⟩ := ih g hg hgi v (by omega)
      have h2' : (if f i = n then f n else f i) = v := h2
      split at h2'
      · omega
      · exact ⟨i, by omega, h2'⟩
theorem Dist.all {n : Nat} {os : List Int} (h : Dist n os) (hl : n ≤ os.length) (v : Nat) (hv : v < n) : hasN os v = true := by
  obtain ⟨i, hi, he⟩ := inj_surj23 n (fun i => (os.getD i 0).toNat) (fun i hi => by have := h.1 i (by omega); omega)
    (fun i j hi hj he => by
      have h1 := h.1 i (by omega)
      have h2 := h.1 j (by omega)
      rcases Nat.lt_trichotomy i j with h3 | h3 | h3
      · exact absurd (show os.getD i 0 = os.getD j 0 by omega) (h.2 i j h3 (by omega))
      · exact h3
      · exact absurd (show os.getD j 0 = os.getD i 0 by omega) (h.2 j i h3 (by omega))) v hv
  have := h.1 i (by omega)
  exact hasN_iff.2 ⟨i, by omega, by omega⟩
theorem Dist.len {n : Nat} {os : List Int} (h : Dist n os) : os.length ≤ n := by
  rcases Nat.lt_or_ge n os.length with hlt | hge
  · exfalso
    have h1 := h.1 n hlt
    have h2 : Dist n (os.take n) := by
      refine ⟨fun i hi => ?_, fun i j hij hj => ?_⟩
      · simp at hi
        have : (os.take n).getD i 0 = os.getD i 0 := by simp [List.getD_eq_getElem?_getD, show i < n by omega]
        rw [this]; exact h.1 i (by omega)
      · simp at hj
        have e1 : (os.take n).getD i 0 = os.getD i 0 := by simp [List.getD_eq_getElem?_getD, show i < n by omega]
        have e2 : (os.take n).getD j 0 = os.getD j 0 := by simp [List.getD_eq_getElem?_getD, show j < n by omega]
        rw [e1, e2]; exact h.2 i j hij (by omega)
    have h3 := h2.all (by simp; omega) (os.getD n 0).toNat (by omega)
    obtain ⟨i, hi, he⟩ := hasN_iff.1 h3
    simp at hi
    have e1 : (os.take n).getD i 0 = os.getD i 0 := by simp [List.getD_eq_getElem?_getD, show i < n by omega]
    rw [e1] at he
    exact h.2 i n (by omega) hlt (by omega)
  · exact hge
theorem ordT_len (n : Nat) (xs : List SkillR) (j : Nat) : (ordT n xs j).length ≤ n := (ordT_dist n xs j).len
theorem nxt_full {n : Nat} {xs : List SkillR} {j : Nat} (h : 0 ≤ nxt n xs (ordT n xs j)) : (ordT n xs j).length < n := by
  rcases Nat.lt_or_ge (ordT n xs j).length n with h1 | h1
  · exact h1
  · have h2 := nxt_open h
    have h3 := nxt_in n xs (ordT n xs j)
    have h4 := (ordT_dist n xs j).all h1 (nxt n xs (ordT n xs j)).toNat (by omega)
    generalize (nxt n xs (ordT n xs j)).toNat = q at h2 h4
    simp only [openB, Bool.and_eq_true, Bool.not_eq_true', h4] at h2
    exact absurd h2.1 (by simp)
theorem ordT_stop {n : Nat} {xs : List SkillR} {j : Nat} (h : nxt n xs (ordT n xs j) < 0) : ∀ m, j ≤ m → ordT n xs m = ordT n xs j := by
  intro m hm
  induction m with
  | zero => obtain rfl : j = 0 := by omega
            rfl
  | succ m ih =>
    by_cases e : j = m + 1
    · subst e; rfl
    · rw [ordT, ih (by omega), if_pos h]
theorem ordT_t {n : Nat} {xs : List SkillR} {j : Nat} {k : Int} (h : nxt n xs (ordT n xs j) = k) (hk : 0 ≤ k) : ordT n xs (j + 1) = ordT n xs j ++ [k] := by rw [ordT, h, if_neg (by omega)]
theorem ordT_f {n : Nat} {xs : List SkillR} {j : Nat} (h : nxt n xs (ordT n xs j) < 0) : ordT n xs (j + 1) = ordT n xs j := by rw [ordT, if_pos h]
/-- one skill's check -/
def skB (n : Nat) (k : Nat) (ns : List Int) (d : Int) : Bool := inB d 1 100 && (risB ns 0 ((n : Int) - 1) ns.length && !hasN ns k)
def okS (n : Nat) (xs : List SkillR) (k : Nat) : Bool := skB n k (needs xs k) (xs.getD k z23).f1
def skOk (n : Nat) (xs : List SkillR) : Bool := decide (n ≤ 12) && (allOk (okS n xs) n && decide ((ordV n xs).length = n))
theorem skOk_f {n : Nat} {xs : List SkillR} (k : Nat) (hk : k < n) (h : okS n xs k = false) : skOk n xs = false := by simp [skOk, allOk_f _ _ k hk h]
theorem skOk_n {n : Nat} {xs : List SkillR} (hn : n ≤ 12) (h : ∀ i, i < n → okS n xs i = true) : skOk n xs = decide ((ordV n xs).length = n) := by simp [skOk, allOk_t _ _ h, hn]
theorem skOk_at {n : Nat} {xs : List SkillR} (h : skOk n xs = true) : n ≤ 12 ∧ (∀ i, i < n → okS n xs i = true) ∧ (ordV n xs).length = n := by
  simp only [skOk, Bool.and_eq_true, decide_eq_true_eq] at h
  exact ⟨h.1, fun i hi => allOk_at _ _ h.2.1 i hi, h.2.2⟩
theorem okS_in {n : Nat} {xs : List SkillR} {k : Nat} (h : okS n xs k = true) : ∀ i, i < (needs xs k).length → 0 ≤ (needs xs k).getD i 0 ∧ (needs xs k).getD i 0 < n := by
  simp only [okS, skB, Bool.and_eq_true] at h
  intro i hi
  have := risB_in h.2.1 i hi
  omega
end Go.Proofs.Ytcapgojjhlfapab
