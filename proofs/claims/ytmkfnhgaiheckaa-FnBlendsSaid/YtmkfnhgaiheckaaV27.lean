/- Chapter 27: the kilos of two flours: their strength and cost. -/
import Derived.Test.YtmkfnhgaiheckaaT27
import Derived.Test.YtmkfnhgaiheckaaWays
namespace Go.Proofs.Ytmkfnhgaiheckaa
open Go.ChangeShapes Go.WideShapes Go.ChangeAt Go.RowKit
set_option linter.unusedVariables false
set_option linter.unusedSimpArgs false
set_option maxHeartbeats 2000000

theorem sumTo_zero (g : Nat → Int) (n : Nat) (h : ∀ u, u < n → g u = 0) : sumTo g n = 0 := by
  induction n with
  | zero => rfl
  | succ n ih => rw [sumTo_succ, ih fun u hu => h u (by omega), h n (by omega)]; rfl
theorem sumTo_one (g : Nat → Int) (i n : Nat) (hi : i < n) (h : ∀ u, u < n → u ≠ i → g u = 0) : sumTo g n = g i := by
  induction n with
  | zero => omega
  | succ n ih =>
    rw [sumTo_succ]
    by_cases e : i = n
    · subst e; rw [sumTo_zero g i fun u hu => h u (by omega) (by omega), Int.zero_add]
    · rw [ih (by omega) fun u hu hn => h u (by omega) hn, h n (by omega) (fun q => e q.symm), Int.add_zero]
theorem sumTo_two (g : Nat → Int) (i k n : Nat) (hik : i < k) (hk : k < n) (h : ∀ u, u < n → u ≠ i → u ≠ k → g u = 0) : sumTo g n = g i + g k := by
  induction n with
  | zero => omega
  | succ n ih =>
    rw [sumTo_succ]
    by_cases e : k = n
    · subst e; rw [sumTo_one g i k hik fun u hu hn => h u (by omega) hn (by omega)]
    · rw [ih (by omega) fun u hu hn hm => h u (by omega) hn hm, h n (by omega) (by omega) (fun q => e q.symm), Int.add_zero]
/-- x kilos of flour i, y of flour k -/
def twoF (i k : Nat) (x y : Int) (u : Nat) : Int := if u = i then x else if u = k then y else 0
def twoL (n i k : Nat) (x y : Int) : List Int := (List.range n).map (twoF i k x y)
theorem twoF_q {i k : Nat} {x y : Int} (h : i < k) : twoF i k x y k = y := by unfold twoF; rw [if_neg (by omega), if_pos rfl]
theorem twoF_step {i k : Nat} {x y : Int} {u : Nat} (h : u ≠ k) : twoF i k x y u = if u = i then x else 0 := by
  unfold twoF
  by_cases e : u = i
  · rw [if_pos e, if_pos e]
  · rw [if_neg e, if_neg e, if_neg h]
theorem twoL_at (n i k : Nat) (x y : Int) (u : Nat) (h : u < n) : (twoL n i k x y).getD u 0 = twoF i k x y u := by
  rw [List.getD_eq_getElem?_getD]; simp [twoL, h]
theorem inB_y {n a b : Int} (h1 : a ≤ n) (h2 : n ≤ b) : inB n a b = true := by
  unfold inB; simp; omega
theorem inB_n {n a b : Int} (h : ¬ (a ≤ n ∧ n ≤ b)) : inB n a b = false := by
  unfold inB; simp; omega
theorem two_kil {n i k : Nat} {xs : List FlourR} {x y : Int} (hik : i < k) (hk : k < n) (hF : floursB n xs = true) :
    kilB n xs n (twoL n i k x y) = decide (0 ≤ x ∧ x ≤ (xs.getD i z27).f2 ∧ 0 ≤ y ∧ y ≤ (xs.getD k z27).f2) := by
  obtain ⟨h1, h5, hs⟩ := flours_at hF
  by_cases h : 0 ≤ x ∧ x ≤ (xs.getD i z27).f2 ∧ 0 ≤ y ∧ y ≤ (xs.getD k z27).f2
  · rw [decide_eq_true h]
    simp only [kilB, hF, Bool.and_eq_true, decide_eq_true_eq, true_and]
    refine allOk_t _ _ fun u hu => ?_
    unfold kiK
    rw [twoL_at _ _ _ _ _ _ hu]
    have hst := fl_in (hs u hu)
    unfold twoF
    by_cases e1 : u = i
    · rw [if_pos e1, e1]; exact inB_y h.1 h.2.1
    · rw [if_neg e1]
      by_cases e2 : u = k
      · rw [if_pos e2, e2]; exact inB_y h.2.2.1 h.2.2.2
      · rw [if_neg e2]; exact inB_y (Int.le_refl _) (by omega)
  · rw [decide_eq_false h]
    by_cases hi : 0 ≤ x ∧ x ≤ (xs.getD i z27).f2
    · have : kiK xs (twoL n i k x y) k = false := by
        unfold kiK
        rw [twoL_at _ _ _ _ _ _ hk]
        unfold twoF
        rw [if_neg (by omega), if_pos rfl]
        exact inB_n fun q => h ⟨hi.1, hi.2, q.1, q.2⟩
      have h2 : allOk (kiK xs (twoL n i k x y)) n = false := allOk_f _ n k hk this
      simp [kilB, h2]
    · have : kiK xs (twoL n i k x y) i = false := by
        unfold kiK
        rw [twoL_at _ _ _ _ _ _ (by omega)]
        unfold twoF
        rw [if_pos rfl]
        exact inB_n hi
      have h2 : allOk (kiK xs (twoL n i k x y)) n = false := allOk_f _ n i (by omega) this
      simp [kilB, h2]
theorem two_sum {n i k : Nat} {x y : Int} (hik : i < k) (hk : k < n) : lsum (twoL n i k x y) n = x + y := by
  unfold lsum
  rw [sumTo_two _ i k n hik hk]
  · unfold gI
    rw [twoL_at _ _ _ _ _ _ hk, twoL_at _ _ _ _ _ _ (by omega)]
    unfold twoF
    rw [if_pos rfl, if_neg (by omega), if_pos rfl]
  · intro u hu h1 h2
    unfold gI
    rw [twoL_at _ _ _ _ _ _ hu]
    unfold twoF
    rw [if_neg h1, if_neg h2]
theorem two_st {n i k : Nat} {xs : List FlourR} {x y : Int} (hik : i < k) (hk : k < n) : sumTo (stG xs (twoL n i k x y)) n = (xs.getD i z27).f0 * x + (xs.getD k z27).f0 * y := by
  rw [sumTo_two _ i k n hik hk]
  · unfold stG
    rw [twoL_at _ _ _ _ _ _ hk, twoL_at _ _ _ _ _ _ (by omega)]
    unfold twoF
    rw [if_pos rfl, if_neg (by omega), if_pos rfl]
  · intro u hu h1 h2
    unfold stG
    rw [twoL_at _ _ _ _ _ _ hu]
    unfold twoF
    rw [if_neg h1, if_neg h2, Int.mul_zero]
theorem two_co {n i k : Nat} {xs : List FlourR} {x y : Int} (hik : i < k) (hk : k < n) : sumTo (coG xs (twoL n i k x y)) n = (xs.getD i z27).f1 * x + (xs.getD k z27).f1 * y := by
  rw [sumTo_two _ i k n hik hk]
  · unfold coG
    rw [twoL_at _ _ _ _ _ _ hk, twoL_at _ _ _ _ _ _ (by omega)]
    unfold twoF
    rw [if_pos rfl, if_neg (by omega), if_pos rfl]
  · intro u hu h1 h2
    unfold coG
    rw [twoL_at _ _ _ _ _ _ hu]
    unfold twoF
    rw [if_neg h1, if_neg h2, Int.mul_zero]
/-- the blend of n kilos of the one and T - n of the other is strong enough just if it is ok -/
theorem two_ok {n i k : Nat} {xs : List FlourR} {T L x : Int} (hik : i < k) (hk : k < n) (hF : floursB n xs = true) (hT : 1 ≤ T) (hL : 50 ≤ L) :
    strengthV n xs n (twoL n i k x (T - x)) < L ↔ okN (xs.getD i z27) (xs.getD k z27) T L x = false := by
  unfold strengthV okN
  rw [two_kil hik hk hF, two_sum hik hk, two_st hik hk, show x + (T - x) = T by omega, decide_eq_false_iff_not]
  by_cases h : 0 ≤ x ∧ x ≤ (xs.getD i z27).f2 ∧ 0 ≤ T - x ∧ T - x ≤ (xs.getD k z27).f2
  · rw [decide_eq_true h]
    have e : (true && !(T == 0)) = true := by simp; omega
    rw [if_pos e, Int.ediv_lt_iff_lt_mul (by omega)]
    omega
  · rw [decide_eq_false h, if_neg (by simp)]
    omega
theorem two_cost {n i k : Nat} {xs : List FlourR} {T L x : Int} (hik : i < k) (hk : k < n) (hF : floursB n xs = true) (ho : okN (xs.getD i z27) (xs.getD k z27) T L x = true) :
    costV27 n xs n (twoL n i k x (T - x)) = costN (xs.getD i z27) (xs.getD k z27) T x := by
  obtain ⟨h1, h2, h3, h4, _⟩ := okN_in ho
  unfold costV27 costN
  rw [two_kil hik hk hF, decide_eq_true ⟨h1, h2, h3, h4⟩, if_pos rfl, two_co hik hk]
theorem tMrg_none (s : TwoT) (i k : Int) : tMrg s i k none = s := rfl
theorem rowT_s (xs : List FlourR) (T L : Int) (i : Nat) (s : TwoT) (j : Nat) : rowT xs T L i s (j + 1) = tMrg (rowT xs T L i s j) i ((i + 1 + j : Nat) : Int) (pairO (xs.getD i z27) (xs.getD (i + 1 + j) z27) T L (T.toNat + 1)) := rfl
theorem allT_s (xs : List FlourR) (T L : Int) (n i : Nat) : allT xs T L n (i + 1) = rowT xs T L i (allT xs T L n i) (n - (i + 1)) := rfl
end Go.Proofs.Ytmkfnhgaiheckaa
