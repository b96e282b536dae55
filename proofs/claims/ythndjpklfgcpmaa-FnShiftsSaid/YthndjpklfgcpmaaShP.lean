/- FnShifts: the plain facts. -/
import Derived.Test.YthndjpklfgcpmaaI22
import Derived.Test.YthndjpklfgcpmaaD22
import Derived.Test.YthndjpklfgcpmaaDsShift
import Derived.Test.YthndjpklfgcpmaaHas
namespace Go.Proofs.Ythndjpklfgcpmaa
open Go.ChangeShapes Go.WideShapes Go.ChangeAt Go.RowKit
set_option linter.unusedVariables false
set_option linter.unusedSimpArgs false
set_option maxHeartbeats 2000000

theorem ps_S {xs : List ShiftR} {n : Nat} {a : Int} (h : PSh xs n a) : ShI xs n := fun i hi => by have := h.1 i hi; omega
theorem ps_lt {xs : List ShiftR} {n : Nat} {a : Int} (h : PSh xs n a) (i : Nat) : ∀ d, i + (d + 1) < n → (xs.getD i z22).f1 ≤ (xs.getD (i + (d + 1)) z22).f0
  | 0, hd => h.2 i hd
  | d + 1, hd => by
    have ih := ps_lt h i d (by omega)
    have h1 := h.1 (i + (d + 1)) (by omega)
    have h2 := h.2 (i + (d + 1)) (by omega)
    rw [← Nat.add_assoc]
    omega
theorem ps_far {xs : List ShiftR} {n : Nat} {a : Int} (h : PSh xs n a) {i j : Nat} (hij : i < j) (hj : j < n) : (xs.getD i z22).f1 ≤ (xs.getD j z22).f0 := by
  have := ps_lt h i (j - i - 1) (by omega)
  rwa [show i + (j - i - 1 + 1) = j by omega] at this
theorem ps_bef {xs : List ShiftR} {n : Nat} {a : Int} (h : PSh xs n a) {i j : Nat} (hi : i < n) (hj : j < n) (hb : bef xs i j) : i < j := by
  by_cases e : i < j
  · exact e
  · exfalso
    unfold bef at hb
    by_cases e2 : j = i
    · subst e2; omega
    · have h1 := ps_far h (show j < i by omega) hi
      have h2 := h.1 i hi
      have h3 := h.1 j hj
      omega
theorem od_id {xs : List ShiftR} {n : Nat} {a : Int} (h : PSh xs n a) {t : Nat} (ht : t < n) : od xs n t = t := by
  have hS := ps_S h
  have hst : ∀ s t, s < t → t < n → od xs n s < od xs n t := fun s t hs ht => ps_bef h (od_lt hS (by omega)) (od_lt hS ht) (od_sorted hS hs ht)
  have hge : ∀ t, t < n → t ≤ od xs n t := fun t => by
    induction t with
    | zero => intro _; omega
    | succ t ih => intro h9; have := ih (by omega); have := hst t (t + 1) (by omega) h9; omega
  have hup : ∀ d, t + d < n → od xs n t + d ≤ od xs n (t + d) := fun d => by
    induction d with
    | zero => intro _; exact Nat.le_refl _
    | succ d ih => intro h9; have := ih (by omega); have := hst (t + d) (t + (d + 1)) (by omega) h9; omega
  have h1 := hge t ht
  have h2 := hup (n - 1 - t) (by omega)
  have h3 := od_lt hS (show t + (n - 1 - t) < n by omega)
  omega
theorem getD_l {L : List Int} {v : Int} {i : Nat} (h : i < L.length) : (L ++ [v]).getD i 0 = L.getD i 0 := by simp [List.getD_eq_getElem?_getD, List.getElem?_append_left h]
theorem getD_r {L : List Int} {v : Int} : (L ++ [v]).getD L.length 0 = v := by simp [List.getD_eq_getElem?_getD]
structure PkI (xs : List ShiftR) (n : Nat) (rest : Int) (t : Nat) (L : List Int) (b : Int) : Prop where
  i1 : ∀ k, k < L.length → ∃ q : Nat, L.getD k 0 = (q : Int) ∧ q < t
  i2 : ∀ k, k + 1 < L.length → rest ≤ (xs.getD (L.getD (k + 1) 0).toNat z22).f0 - (xs.getD (L.getD k 0).toNat z22).f1
  i3 : (L = [] ∧ b = 0) ∨ ∃ q : Nat, 0 < L.length ∧ L.getD (L.length - 1) 0 = (q : Int) ∧ b = (xs.getD q z22).f1 + rest
  i4 : ∀ k, k < t → ¬ ((k : Int) ∈ L) → ∃ i, i < L.length ∧ (xs.getD k z22).f0 - (xs.getD (L.getD i 0).toNat z22).f1 < rest ∧ (xs.getD (L.getD i 0).toNat z22).f0 - (xs.getD k z22).f1 < rest
  i5 : L.length ≤ t
  i6 : 0 < t → 0 < L.length
  i7 : (∀ k, k + 1 < n → rest ≤ (xs.getD (k + 1) z22).f0 - (xs.getD k z22).f1) → L.length = t ∧ (0 < t → b = (xs.getD (t - 1) z22).f1 + rest)
theorem pk_I {xs : List ShiftR} {n : Nat} {a rest : Int} (h : PSh xs n a) (r0 : 0 ≤ rest) : ∀ t, t ≤ n → PkI xs n rest t (pk xs n rest t).1 (pk xs n rest t).2
  | 0, _ => ⟨fun k hk => absurd hk (by simp [pk]), fun k hk => absurd hk (by simp [pk]), .inl ⟨rfl, rfl⟩, fun k hk => absurd hk (Nat.not_lt_zero _), Nat.le_refl _, fun h0 => absurd h0 (Nat.lt_irrefl _), fun _ => ⟨rfl, fun h0 => absurd h0 (Nat.lt_irrefl _)⟩⟩
  | t + 1, ht => by
    obtain ⟨i1, i2, i3, i4, i5, i6, i7⟩ := pk_I h r0 t (by omega)
    have hod := od_id h (show t < n by omega)
    have ht0 := h.1 t (by omega)
    by_cases hp : (pk xs n rest t).2 ≤ (xs.getD t z22).f0
    · rw [pk_t (by rw [hod]; exact hp), hod]
      generalize (pk xs n rest t).1 = L at *
      generalize (pk xs n rest t).2 = b at *
      have hl1 : (L ++ [(t : Int)]).length = L.length + 1 := by simp
      show PkI xs n rest (t + 1) (L ++ [(t : Int)]) ((xs.getD t z22).f1 + rest)
      refine ⟨fun k hk => ?_, fun k hk => ?_, .inr ⟨t, by omega, ?_, rfl⟩, fun k hk hm => ?_, by omega, fun _ => by omega, fun hg => ?_⟩
      · by_cases e : k = L.length
        · subst e; rw [getD_r]; exact ⟨t, rfl, by omega⟩
        · obtain ⟨q, h1, h2⟩ := i1 k (by omega)
          rw [getD_l (by omega)]; exact ⟨q, h1, by omega⟩
      · by_cases e : k + 1 = L.length
        · rw [e, getD_r, getD_l (by omega), Int.toNat_natCast]
          rcases i3 with ⟨hn, _⟩ | ⟨q, _, h2, h3⟩
          · rw [hn] at e; simp at e
          · rw [show L.length - 1 = k by omega] at h2
            rw [h2, Int.toNat_natCast]
            omega
        · rw [getD_l (by omega), getD_l (by omega)]
          exact i2 k (by omega)
      · rw [hl1, Nat.add_sub_cancel, getD_r]
      · by_cases e : k = t
        · subst e; exact absurd (by simp) hm
        · have hm2 : ¬ (k : Int) ∈ L := fun h9 => hm (List.mem_append.2 (.inl h9))
          obtain ⟨i, h1, h2, h3⟩ := i4 k (by omega) hm2
          refine ⟨i, by omega, ?_⟩
          rw [getD_l h1]
          exact ⟨h2, h3⟩
      · have := i7 hg
        exact ⟨by omega, fun _ => rfl⟩
    · have hp2 : (xs.getD t z22).f0 < (pk xs n rest t).2 := by omega
      rw [pk_f (by rw [hod]; exact hp2)]
      generalize (pk xs n rest t).1 = L at *
      generalize (pk xs n rest t).2 = b at *
      have hlast : ∃ q : Nat, 0 < L.length ∧ L.getD (L.length - 1) 0 = (q : Int) ∧ b = (xs.getD q z22).f1 + rest := by
        rcases i3 with ⟨_, hb⟩ | h9
        · omega
        · exact h9
      obtain ⟨q, q1, q2, q3⟩ := hlast
      obtain ⟨q', hq', hqt⟩ := i1 (L.length - 1) (by omega)
      obtain rfl : q = q' := by omega
      have hf := ps_far h hqt (by omega)
      have hq0 := h.1 q (by omega)
      refine ⟨fun k hk => ?_, i2, i3, fun k hk hm => ?_, by omega, fun _ => q1, fun hg => ?_⟩
      · obtain ⟨q, h1, h2⟩ := i1 k hk; exact ⟨q, h1, by omega⟩
      · by_cases e : k = t
        · subst e
          refine ⟨L.length - 1, by omega, ?_⟩
          rw [q2, Int.toNat_natCast]
          omega
        · exact i4 k (by omega) hm
      · exfalso
        obtain ⟨h8, h9⟩ := i7 hg
        have ht1 : 0 < t := by omega
        have := h9 ht1
        have := hg (t - 1) (by omega)
        rw [show t - 1 + 1 = t by omega] at this
        omega
theorem ps_ok {xs : List ShiftR} {n : Nat} {a : Int} (h : PSh xs n a) (hn : n ≤ 6) : shiftsB n xs = true := by
  unfold shiftsB
  rw [decide_eq_true (show n ≤ 14 by omega), Bool.true_and]
  refine allOk_t _ _ fun i hi => ?_
  have h1 := h.1 i hi
  have hb : shiftB (xs.getD i z22).f0 (xs.getD i z22).f1 = true := by unfold shiftB; rw [inB_t (by omega), inB_t (by omega)]; rfl
  cases i with
  | zero => exact hb
  | succ i => rw [shOk, hb, decide_eq_true (h.2 i hi)]; rfl
theorem sum_le {f g : Nat → Int} : ∀ n : Nat, (∀ i, i < n → f i ≤ g i) → sumTo f n ≤ sumTo g n
  | 0, _ => Int.le_refl _
  | n + 1, h => by
    have := sum_le n fun i hi => h i (by omega)
    have := h n (by omega)
    rw [sumTo_succ, sumTo_succ]; omega
theorem rT_le (xs : List ShiftR) : ∀ j k, k < j → rT xs j ≤ (xs.getD (k + 1) z22).f0 - (xs.getD k z22).f1
  | 0, k, hk => absurd hk (Nat.not_lt_zero _)
  | j + 1, k, hk => by
    rw [rT_succ]
    by_cases e : k = j
    · subst e; omega
    · have := rT_le xs j k (by omega); omega
theorem night8 : nightV 1 [⟨20, 30⟩] = 8 := by decide +kernel
structure ShL (xs : List ShiftR) (n : Nat) (rest H N R : Int) (L : List Int) (m : Nat) : Prop where
  eH : hoursV n xs = H
  eS : sumTo (hG xs) n = H
  eN : nightV n xs = N
  eR : restV n xs = R
  eL : MostL n xs rest = L
  lm : L.length = m
  bH : 0 ≤ H ∧ H ≤ 72
  bN : 0 ≤ N ∧ N ≤ H
  bR : 0 ≤ R ∧ R ≤ 168
  bm : m ≤ n
  pos : 0 < n → 0 < m
  gap : ∀ k, k + 1 < n → R ≤ (xs.getD (k + 1) z22).f0 - (xs.getD k z22).f1
  al : allowB n xs R H = true
  al1 : allowB n xs R (H - 1) = false
  ok : shiftsB n xs = true
  at_ : ∀ k, k < m → ∃ q : Nat, L.getD k 0 = (q : Int) ∧ q < n
  rst : ∀ k, k + 1 < m → rest ≤ (xs.getD (L.getD (k + 1) 0).toNat z22).f0 - (xs.getD (L.getD k 0).toNat z22).f1
  all : rest ≤ R → m = n
  fit : ∀ k, k < n → ¬ ((k : Int) ∈ L) → ∃ i, i < m ∧ (xs.getD k z22).f0 - (xs.getD (L.getD i 0).toNat z22).f1 < rest ∧ (xs.getD (L.getD i 0).toNat z22).f0 - (xs.getD k z22).f1 < rest
theorem shifts_law {xs : List ShiftR} {n : Nat} {a rest : Int} (h : PSh xs n a) (hn : n ≤ 6) (r0 : 0 ≤ rest) (r15 : rest ≤ 15) : ∃ H N R L m, ShL xs n rest H N R L m := by
  have hok := ps_ok h hn
  have hS := (shifts_at hok).2
  have b1 := sumTo_bd (hG xs) 12 n fun i hi => by have := h.1 i hi; unfold hG; omega
  have b2 : sumTo (nS xs) n ≤ sumTo (hG xs) n := sum_le n fun i hi => by
    have h1 := h.1 i hi
    have h2 := sumTo_bd (nG (xs.getD i z22).f0) 1 ((xs.getD i z22).f1 - (xs.getD i z22).f0).toNat fun j _ => nG_in _ j
    unfold nS hG; omega
  have b3 := sumTo_bd (nS xs) 12 n fun i hi => nS_in hS i hi
  have b4 := rT_in hS (n - 1) (by omega)
  have eh : hoursV n xs = sumTo (hG xs) n := by unfold hoursV; rw [if_pos hok]
  have er : restV n xs = rT xs (n - 1) := by unfold restV; rw [if_pos hok]
  have hall : ∀ i, i < n → shiftB (xs.getD i z22).f0 (xs.getD i z22).f1 = true := fun i hi => by
    have h1 := h.1 i hi
    unfold shiftB; rw [inB_t (by omega), inB_t (by omega)]; rfl
  have eL := most_t (n := n) (xs := xs) (rest := rest) (by omega) (inB_t (by omega)) hall
  obtain ⟨i1, i2, i3, i4, i5, i6, i7⟩ := pk_I h r0 n (Nat.le_refl _)
  have hgap : ∀ k, k + 1 < n → rT xs (n - 1) ≤ (xs.getD (k + 1) z22).f0 - (xs.getD k z22).f1 := fun k hk => rT_le xs (n - 1) k (by omega)
  refine ⟨_, _, _, _, _, ⟨eh, rfl, rfl, er, eL, rfl, by omega, ?_, b4, i5, i6, hgap, ?_, ?_, hok, i1, i2, fun hr => (i7 fun k hk => by have := hgap k hk; omega).1, i4⟩⟩
  · unfold nightV; rw [if_pos hok]; omega
  · unfold allowB; rw [hok, er, eh, decide_eq_true (Int.le_refl _), decide_eq_true (Int.le_refl _)]; rfl
  · unfold allowB; rw [eh, decide_eq_false (show ¬ sumTo (hG xs) n ≤ sumTo (hG xs) n - 1 by omega)]; simp
end Go.Proofs.Ythndjpklfgcpmaa
