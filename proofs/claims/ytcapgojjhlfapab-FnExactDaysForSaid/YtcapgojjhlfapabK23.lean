/- Chapter 23: DaysFor, the values. -/
import Derived.Test.YtcapgojjhlfapabH23
namespace Go.Proofs.Ytcapgojjhlfapab
open Go.ChangeShapes Go.WideShapes Go.ChangeAt Go.RowKit
set_option linter.unusedVariables false
set_option linter.unusedSimpArgs false
set_option maxHeartbeats 2000000

def hasP (bs : List Int) (v : Int) : Nat → Bool
  | 0 => false
  | j + 1 => hasP bs v j || (bs.getD j 0 == v)
theorem hasP_iff {bs : List Int} {v : Int} {j : Nat} : hasP bs v j = true ↔ ∃ i, i < j ∧ bs.getD i 0 = v := by
  induction j with
  | zero => simp [hasP]
  | succ j ih =>
    rw [hasP, Bool.or_eq_true, ih, beq_iff_eq]
    constructor
    · rintro (⟨i, hi, hv⟩ | hv)
      · exact ⟨i, by omega, hv⟩
      · exact ⟨j, by omega, hv⟩
    · rintro ⟨i, hi, hv⟩
      by_cases e : i = j
      · subst e; exact .inr hv
      · exact .inl ⟨i, by omega, hv⟩
theorem hasP_all (bs : List Int) (v : Int) : hasP bs v bs.length = hasN bs v := by
  rw [Bool.eq_iff_iff, hasP_iff, hasN_iff]
theorem sumTo_upd (f : Nat → Int) (a : Nat) (c : Int) (n : Nat) : sumTo (fun x => if x = a then c else f x) n = if a < n then sumTo f n + c - f a else sumTo f n := by
  induction n with
  | zero => simp [sumTo]
  | succ n ih =>
    rw [sumTo_succ, sumTo_succ, ih]
    by_cases h : a < n
    · simp only [if_pos h, if_pos (show a < n + 1 by omega), if_neg (show ¬ n = a by omega)]; omega
    · by_cases e : a = n
      · subst e
        simp only [if_neg h, if_pos (show a < a + 1 by omega)]; simp; omega
      · simp only [if_neg h, if_neg (show ¬ a < n + 1 by omega), if_neg (show ¬ n = a by omega)]
theorem permSum (n : Nat) (g : Nat → Int) (os : List Int) (h : Dist n os) : ∀ m, m ≤ os.length → sumTo (fun i => g (os.getD i 0).toNat) m = sumTo (fun x => if hasP os (x : Nat) m then g x else 0) n := by
  intro m
  induction m with
  | zero => intro _; simp only [sumTo, hasP]; simp; induction n with
    | zero => rfl
    | succ n ih => exact (sumTo_bd (fun _ => (0 : Int)) 0 (n + 1) (fun i hi => by simp)) |> fun h => by have := h.1; have := h.2; omega
  | succ m ih =>
    intro hm
    have hin := h.1 m (by omega)
    have hnew : hasP os ((os.getD m 0).toNat : Nat) m = false := by
      cases hh : hasP os ((os.getD m 0).toNat : Nat) m
      · rfl
      · obtain ⟨i, hi, he⟩ := hasP_iff.1 hh
        exact absurd (show os.getD i 0 = os.getD m 0 by omega) (h.2 i m hi (by omega))
    rw [sumTo_succ, ih (by omega)]
    have e := sumTo_upd (fun x => if hasP os (x : Nat) m then g x else 0) (os.getD m 0).toNat (g (os.getD m 0).toNat) n
    rw [if_pos (by omega)] at e
    simp only [hnew, Bool.false_eq_true, if_false] at e
    rw [show sumTo (fun x => if hasP os (x : Nat) (m + 1) then g x else 0) n = sumTo (fun x => if x = (os.getD m 0).toNat then g (os.getD m 0).toNat else if hasP os (x : Nat) m then g x else 0) n from ?_]
    · omega
    refine sumTo_congr _ _ n fun x hx => ?_
    by_cases hxe : x = (os.getD m 0).toNat
    · rw [if_pos hxe, hasP]
      have : (os.getD m 0 == (x : Int)) = true := by rw [beq_iff_eq]; omega
      rw [this, Bool.or_true, if_pos rfl, hxe]
    · rw [if_neg hxe, hasP]
      have : (os.getD m 0 == (x : Int)) = false := by
        cases hb : (os.getD m 0 == (x : Int))
        · rfl
        · rw [beq_iff_eq] at hb; omega
      rw [this, Bool.or_false]
/-- the order's steps -/
theorem ordT_step (n : Nat) (xs : List SkillR) (j : Nat) : (ordT n xs (j + 1)).length ≤ (ordT n xs j).length + 1 := by
  rw [ordT]
  split
  · omega
  · simp
theorem ordT_le (n : Nat) (xs : List SkillR) (j d : Nat) : (ordT n xs (j + d)).length ≤ (ordT n xs j).length + d := by
  induction d with
  | zero => exact Nat.le_refl _
  | succ d ih =>
    have := ordT_step n xs (j + d)
    rw [show j + (d + 1) = j + d + 1 by omega]
    omega
theorem ordT_exact {n : Nat} {xs : List SkillR} (h : (ordV n xs).length = n) {j : Nat} (hj : j ≤ n) : (ordT n xs j).length = j := by
  have h1 := ordT_le n xs 0 j
  have h2 := ordT_le n xs j (n - j)
  rw [show j + (n - j) = n by omega] at h2
  have h3 : (ordT n xs n).length = n := h
  simp [ordT] at h1
  omega
theorem ordT_pre {n : Nat} {xs : List SkillR} (j d i : Nat) (hi : i < (ordT n xs j).length) : (ordT n xs (j + d)).getD i 0 = (ordT n xs j).getD i 0 := by
  induction d with
  | zero => rfl
  | succ d ih =>
    rw [show j + (d + 1) = j + d + 1 by omega, ordT]
    have hlen : ∀ d, (ordT n xs j).length ≤ (ordT n xs (j + d)).length := by
      intro d
      induction d with
      | zero => exact Nat.le_refl _
      | succ d ih2 =>
        rw [show j + (d + 1) = j + d + 1 by omega, ordT]
        split
        · exact ih2
        · simp; omega
    split
    · exact ih
    · rw [getD_app1 _ _ _ (Nat.lt_of_lt_of_le hi (hlen d))]; exact ih
/-- what a skill needs stands ahead of it -/
theorem ord_topo {n : Nat} {xs : List SkillR} (h : (ordV n xs).length = n) {j : Nat} (hj : j < n) : ∀ q, q < (needs xs ((ordV n xs).getD j 0).toNat).length → ∃ u, u < j ∧ (ordV n xs).getD u 0 = (needs xs ((ordV n xs).getD j 0).toNat).getD q 0 := by
  have hl := ordT_exact h (j := j) (by omega)
  have hl1 := ordT_exact h (j := j + 1) (by omega)
  have hnn : ¬ nxt n xs (ordT n xs j) < 0 := by
    intro hneg
    rw [ordT_f hneg] at hl1
    omega
  have hs : ordT n xs (j + 1) = ordT n xs j ++ [nxt n xs (ordT n xs j)] := ordT_t rfl (by omega)
  have hx : (ordV n xs).getD j 0 = nxt n xs (ordT n xs j) := by
    have e := ordT_pre (n := n) (xs := xs) (j + 1) (n - (j + 1)) j (by omega)
    rw [show j + 1 + (n - (j + 1)) = n by omega, hs] at e
    have : (ordT n xs j ++ [nxt n xs (ordT n xs j)]).getD j 0 = nxt n xs (ordT n xs j) := by
      have := getD_app2 (ordT n xs j) (nxt n xs (ordT n xs j))
      rw [hl] at this
      exact this
    rw [this] at e
    exact e
  intro q hq
  rw [hx] at hq ⊢
  have ho := nxt_open (n := n) (xs := xs) (out := ordT n xs j) (by omega)
  simp only [openB, Bool.and_eq_true] at ho
  obtain ⟨u, hu, he⟩ := hasN_iff.1 (allOk_at _ _ ho.2 q hq)
  refine ⟨u, by omega, ?_⟩
  have e := ordT_pre (n := n) (xs := xs) j (n - j) u hu
  rw [show j + (n - j) = n by omega] at e
  exact e.trans he
/-- what is marked after i steps, from the order's end -/
def xAt (os : List Int) (n i : Nat) : Nat := (os.getD (n - 1 - i) 0).toNat
def inS (xs : List SkillR) (os : List Int) (n k : Nat) : Nat → (Nat → Bool)
  | 0 => fun u => u == k
  | i + 1 => if inS xs os n k i (xAt os n i) then (fun u => inS xs os n k i u || hasP (needs xs (xAt os n i)) (u : Nat) (needs xs (xAt os n i)).length) else inS xs os n k i
def dsS (xs : List SkillR) (os : List Int) (n k : Nat) : Nat → Int
  | 0 => 0
  | i + 1 => if inS xs os n k i (xAt os n i) then dsS xs os n k i + (xs.getD (xAt os n i) z23).f1 else dsS xs os n k i
def reachB (n : Nat) (xs : List SkillR) (k : Nat) (x : Nat) : Bool := inS xs (ordV n xs) n k n x
def daysR (n : Nat) (xs : List SkillR) (k : Nat) : Int := sumTo (fun x => if reachB n xs k x then (xs.getD x z23).f1 else 0) n
def daysV (n : Nat) (xs : List SkillR) (k : Int) : Int := if skOk n xs && inB k 0 ((n : Int) - 1) then daysR n xs k.toNat else -1
def Closed (n : Nat) (xs : List SkillR) (S : Nat → Bool) : Prop := ∀ x, x < n → S x = true → ∀ q, q < (needs xs x).length → S ((needs xs x).getD q 0).toNat = true
section
variable {n k : Nat} {xs : List SkillR}
theorem inS_mono (os : List Int) {i j u : Nat} (hij : i ≤ j) (h : inS xs os n k i u = true) : inS xs os n k j u = true := by
  induction j with
  | zero => obtain rfl : i = 0 := by omega
            exact h
  | succ j ih =>
    by_cases e : i = j + 1
    · subst e; exact h
    · have h1 := ih (by omega)
      rw [inS]
      split
      · simp only [h1, Bool.true_or]
      · exact h1
theorem xAt_in (hl : (ordV n xs).length = n) {i : Nat} (hi : i < n) : xAt (ordV n xs) n i < n ∧ ((xAt (ordV n xs) n i : Nat) : Int) = (ordV n xs).getD (n - 1 - i) 0 := by
  have := ord_in (n := n) (xs := xs) (n - 1 - i) (by omega)
  unfold xAt
  omega
theorem inS_back (hl : (ordV n xs).length = n) {i : Nat} (hi : i < n) : ∀ j, i ≤ j → j ≤ n → inS xs (ordV n xs) n k j (xAt (ordV n xs) n i) = true → inS xs (ordV n xs) n k i (xAt (ordV n xs) n i) = true := by
  intro j
  induction j with
  | zero => intro hij _ h; obtain rfl : i = 0 := by omega
            exact h
  | succ j ih =>
    intro hij hjn h
    by_cases e : i = j + 1
    · subst e; exact h
    · rw [inS] at h
      split at h
      · simp only [Bool.or_eq_true] at h
        rcases h with h | h
        · exact ih (by omega) (by omega) h
        · exfalso
          obtain ⟨q, hq, he⟩ := hasP_iff.1 h
          have h1 := (xAt_in (n := n) (xs := xs) hl hi).2
          obtain ⟨u, hu, hue⟩ := ord_topo hl (j := n - 1 - j) (by omega) q hq
          have e2 : (ordV n xs).getD u 0 = (ordV n xs).getD (n - 1 - i) 0 := by
            rw [hue, ← h1]; exact he
          exact (ordT_dist n xs n).2 u (n - 1 - i) (by omega) (by have : (ordT n xs n).length = n := hl
                                                                  omega) e2
      · exact ih (by omega) (by omega) h
theorem reach_self (hk : k < n) : reachB n xs k k = true := inS_mono (i := 0) _ (by omega) (by simp [inS])
theorem pos_of (hl : (ordV n xs).length = n) {x : Nat} (hx : x < n) : ∃ i, i < n ∧ xAt (ordV n xs) n i = x := by
  have h := (ordT_dist n xs n).all (by have : (ordT n xs n).length = n := hl
                                       omega) x hx
  obtain ⟨i, hi, he⟩ := hasN_iff.1 h
  have hi' : i < n := by have : (ordT n xs n).length = n := hl
                         omega
  refine ⟨n - 1 - i, by omega, ?_⟩
  unfold xAt
  rw [show n - 1 - (n - 1 - i) = i by omega]
  have he' : (ordV n xs).getD i 0 = (x : Int) := he
  omega
theorem reach_closed (hl : (ordV n xs).length = n) (hin : ∀ x, x < n → ∀ q, q < (needs xs x).length → 0 ≤ (needs xs x).getD q 0) : Closed n xs (reachB n xs k) := by
  intro x hx hr q hq
  obtain ⟨i, hi, rfl⟩ := pos_of (n := n) (xs := xs) hl hx
  have h1 := inS_back hl hi n (by omega) (Nat.le_refl _) hr
  refine inS_mono (i := i + 1) _ (by omega) ?_
  rw [inS, if_pos h1]
  simp only [Bool.or_eq_true]
  exact .inr (hasP_iff.2 ⟨q, hq, by have := hin _ hx q hq; omega⟩)
theorem reach_min (hl : (ordV n xs).length = n) (S : Nat → Bool) (hk : S k = true) (hc : Closed n xs S) : ∀ x, reachB n xs k x = true → S x = true := by
  have hs : ∀ i, i ≤ n → ∀ x, inS xs (ordV n xs) n k i x = true → S x = true := by
    intro i
    induction i with
    | zero => intro _ x h
              simp only [inS, beq_iff_eq] at h
              rw [h]; exact hk
    | succ i ih =>
      intro hi x h
      rw [inS] at h
      split at h
      · rename_i hx
        simp only [Bool.or_eq_true] at h
        rcases h with h | h
        · exact ih (by omega) x h
        · obtain ⟨q, hq, he⟩ := hasP_iff.1 h
          have := hc _ (xAt_in (n := n) (xs := xs) hl (by omega)).1 (ih (by omega) _ hx) q hq
          rw [he] at this
          simpa using this
      · exact ih (by omega) x h
  exact hs n (Nat.le_refl _)
theorem Dist.rev {os : List Int} (h : Dist n os) : Dist n os.reverse := by
  have e : ∀ i, i < os.length → os.reverse.getD i 0 = os.getD (os.length - 1 - i) 0 := fun i hi => by
    rw [List.getD_eq_getElem?_getD, List.getD_eq_getElem?_getD, List.getElem?_reverse hi]
  refine ⟨fun i hi => ?_, fun i j hij hj => ?_⟩
  · rw [List.length_reverse] at hi
    rw [e i hi]; exact h.1 _ (by omega)
  · rw [List.length_reverse] at hj
    rw [e i (by omega), e j hj]
    exact fun he => h.2 (os.length - 1 - j) (os.length - 1 - i) (by omega) (by omega) he.symm
theorem dsS_sum (hl : (ordV n xs).length = n) : ∀ m, m ≤ n → dsS xs (ordV n xs) n k m = sumTo (fun i => if reachB n xs k (xAt (ordV n xs) n i) then (xs.getD (xAt (ordV n xs) n i) z23).f1 else 0) m := by
  intro m
  induction m with
  | zero => intro _; rfl
  | succ m ih =>
    intro hm
    rw [dsS, sumTo_succ, ih (by omega)]
    have : inS xs (ordV n xs) n k m (xAt (ordV n xs) n m) = reachB n xs k (xAt (ordV n xs) n m) := by
      rw [Bool.eq_iff_iff]
      exact ⟨fun h => inS_mono _ (by omega) h, fun h => inS_back hl (by omega) n (by omega) (Nat.le_refl _) h⟩
    rw [this]
    split <;> omega
theorem dsS_days (hl : (ordV n xs).length = n) : dsS xs (ordV n xs) n k n = daysR n xs k := by
  have hlr : (ordV n xs).reverse.length = n := by rw [List.length_reverse]; exact hl
  have hd : Dist n (ordV n xs) := ordT_dist n xs n
  have h := permSum n (fun x => if reachB n xs k x then (xs.getD x z23).f1 else 0) (ordV n xs).reverse hd.rev n (by omega)
  rw [dsS_sum hl n (Nat.le_refl _), daysR]
  rw [show sumTo (fun i => if reachB n xs k (xAt (ordV n xs) n i) then (xs.getD (xAt (ordV n xs) n i) z23).f1 else 0) n = sumTo (fun i => if reachB n xs k ((ordV n xs).reverse.getD i 0).toNat then (xs.getD ((ordV n xs).reverse.getD i 0).toNat z23).f1 else 0) n from ?_]
  · rw [h]
    refine sumTo_congr _ _ n fun x hx => ?_
    have : hasP (ordV n xs).reverse (x : Nat) n = true := by
      have h2 := hasP_all (ordV n xs).reverse (x : Nat)
      rw [hlr] at h2
      rw [h2]; exact hd.rev.all (by omega) x hx
    rw [this, if_pos rfl]
  · refine sumTo_congr _ _ n fun i hi => ?_
    have : (ordV n xs).reverse.getD i 0 = (ordV n xs).getD (n - 1 - i) 0 := by
      rw [List.getD_eq_getElem?_getD, List.getD_eq_getElem?_getD, List.getElem?_reverse (by omega), hl]
    rw [this]
    rfl
/-- the program's list after t of it -/
structure Bf (n : Nat) (xs : List SkillR) (k : Nat) (L : List Int) (t : Nat) : Prop where
  dist : Dist n L
  zero : 1 ≤ L.length ∧ L.getD 0 0 = (k : Int)
  done : ∀ i, i < t → ∀ q, q < (needs xs (L.getD i 0).toNat).length → hasN L ((needs xs (L.getD i 0).toNat).getD q 0) = true
  min : ∀ S : Nat → Bool, S k = true → Closed n xs S → ∀ i, i < L.length → S (L.getD i 0).toNat = true
theorem Bf.start (hk : k < n) : Bf n xs k [(k : Int)] 0 where
  dist := ⟨fun i hi => by
    simp at hi
    subst hi
    simp; omega, fun i j hij hj => by simp at hj; omega⟩
  zero := by simp
  done := fun i hi => absurd hi (Nat.not_lt_zero _)
  min := fun S hS _ i hi => by
    simp at hi
    subst hi
    simpa using hS
theorem Bf.days {L : List Int} (h : Bf n xs k L L.length) (hl : (ordV n xs).length = n) (hk : k < n) (hin : ∀ x, x < n → ∀ q, q < (needs xs x).length → 0 ≤ (needs xs x).getD q 0) :
    sumTo (fun i => (xs.getD (L.getD i 0).toNat z23).f1) L.length = daysR n xs k := by
  have hp := permSum n (fun x => (xs.getD x z23).f1) L h.dist L.length (Nat.le_refl _)
  rw [hp, daysR]
  refine sumTo_congr _ _ n fun x hx => ?_
  rw [hasP_all]
  have : hasN L (x : Nat) = reachB n xs k x := by
    rw [Bool.eq_iff_iff]
    constructor
    · intro h1
      obtain ⟨i, hi, he⟩ := hasN_iff.1 h1
      have h2 := h.min (reachB n xs k) (reach_self hk) (reach_closed hl hin) i hi
      rw [he] at h2
      simpa using h2
    · refine reach_min hl (fun u => hasN L (u : Nat)) (hasN_iff.2 ⟨0, by have := h.zero.1; omega, h.zero.2⟩) ?_ x
      intro y hy hr q hq
      obtain ⟨i, hi, he⟩ := hasN_iff.1 hr
      have h2 := h.done i hi q (by rw [he]; simpa using hq)
      rw [he] at h2
      simp only [Int.toNat_natCast] at h2
      have h3 := hin y hy q hq
      show hasN L ((((needs xs y).getD q 0).toNat : Nat) : Int) = true
      rw [show ((((needs xs y).getD q 0).toNat : Nat) : Int) = (needs xs y).getD q 0 by omega]
      exact h2
  rw [this]
/-- one skill's needs are taken in: the list after j of them -/
structure Bg (n : Nat) (xs : List SkillR) (k : Nat) (L : List Int) (ns : List Int) (L' : List Int) (j : Nat) : Prop where
  dist : Dist n L'
  pre : L.length ≤ L'.length ∧ ∀ i, i < L.length → L'.getD i 0 = L.getD i 0
  done : ∀ q, q < j → hasN L' (ns.getD q 0) = true
  min : ∀ S : Nat → Bool, S k = true → Closed n xs S → ∀ i, i < L'.length → S (L'.getD i 0).toNat = true
theorem Bg.start {L : List Int} {t : Nat} (h : Bf n xs k L t) (ns : List Int) : Bg n xs k L ns L 0 := ⟨h.dist, ⟨Nat.le_refl _, fun i hi => rfl⟩, fun q hq => absurd hq (Nat.not_lt_zero _), h.min⟩
theorem Bg.old {L ns L' : List Int} {j : Nat} (h : Bg n xs k L ns L' j) (hh : hasN L' (ns.getD j 0) = true) : Bg n xs k L ns L' (j + 1) :=
  ⟨h.dist, h.pre, fun q hq => by
    by_cases e : q = j
    · subst e; exact hh
    · exact h.done q (by omega), h.min⟩
theorem Bg.new {L ns L' : List Int} {j t : Nat} (h : Bg n xs k L ns L' j) (hb : Bf n xs k L t) (ht : t < L.length) (hns : ns = needs xs (L.getD t 0).toNat) (hj : j < ns.length) (h0 : 0 ≤ ns.getD j 0 ∧ ns.getD j 0 < n) (hh : hasN L' (ns.getD j 0) = false) : Bg n xs k L ns (L' ++ [ns.getD j 0]) (j + 1) where
  dist := h.dist.app h0.1 h0.2 hh
  pre := ⟨by simp; have := h.pre.1; omega, fun i hi => by rw [getD_app1 _ _ _ (by have := h.pre.1; omega)]; exact h.pre.2 i hi⟩
  done := fun q hq => by
    rw [hasN_app]
    by_cases e : q = j
    · subst e; simp
    · rw [h.done q (by omega)]; rfl
  min := fun S hS hc i hi => by
    simp at hi
    by_cases e : i < L'.length
    · rw [getD_app1 _ _ _ e]; exact h.min S hS hc i e
    · obtain rfl : i = L'.length := by omega
      rw [getD_app2]
      subst hns
      have h1 := hb.dist.1 t ht
      exact hc _ (by omega) (hb.min S hS hc t ht) j hj
theorem Bg.fin {L ns L' : List Int} {t : Nat} (h : Bg n xs k L ns L' ns.length) (hb : Bf n xs k L t) (ht : t < L.length) (hns : ns = needs xs (L.getD t 0).toNat) : Bf n xs k L' (t + 1) where
  dist := h.dist
  zero := ⟨Nat.le_trans hb.zero.1 h.pre.1, by rw [h.pre.2 0 hb.zero.1]; exact hb.zero.2⟩
  done := fun i hi q hq => by
    rw [h.pre.2 i (by omega)] at hq ⊢
    by_cases e : i = t
    · subst e
      rw [← hns] at hq ⊢
      exact h.done q hq
    · obtain ⟨u, hu, he⟩ := hasN_iff.1 (hb.done i (by omega) q hq)
      exact hasN_iff.2 ⟨u, Nat.lt_of_lt_of_le hu h.pre.1, by rw [h.pre.2 u hu]; exact he⟩
  min := h.min
end
end Go.Proofs.Ytcapgojjhlfapab
