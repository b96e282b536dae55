/- The pure facts of FnSlices. -/
import Derived.Test.YthndjpklfgcpmaaM19
import Derived.Test.YthndjpklfgcpmaaG19
namespace Go.Proofs.Ythndjpklfgcpmaa
open Go.ChangeShapes Go.WideShapes Go.ChangeAt Go.RowKit
set_option linter.unusedVariables false
set_option linter.unusedSimpArgs false
set_option maxHeartbeats 2000000

def cutAt (l n : Int) (k : Nat) : Int := (k : Int) * l / n
theorem cutAt_step {l n : Int} (k : Nat) (hl : 1 ≤ l) (hn : 1 ≤ n) : l / n ≤ cutAt l n (k + 1) - cutAt l n k ∧ cutAt l n (k + 1) - cutAt l n k ≤ (l + n - 1) / n := by
  unfold cutAt
  have e : ((k + 1 : Nat) : Int) * l = (k : Int) * l + l := by push_cast; rw [Int.add_mul, Int.one_mul]
  rw [e]
  generalize (k : Int) * l = a
  have a1 := Int.ediv_mul_le a (show n ≠ 0 by omega)
  have b1 := Int.ediv_mul_le l (show n ≠ 0 by omega)
  have a2 := Int.lt_ediv_add_one_mul_self a (show 0 < n by omega)
  have c2 := Int.lt_ediv_add_one_mul_self (l + n - 1) (show 0 < n by omega)
  generalize hA : a / n = A at *
  generalize hB : l / n = B at *
  generalize hC : (l + n - 1) / n = C at *
  have h1 : A + B ≤ (a + l) / n := (Int.le_ediv_iff_mul_le (by omega)).2 (by rw [Int.add_mul]; omega)
  have h2 : (a + l) / n < A + C + 1 := (Int.ediv_lt_iff_lt_mul (by omega)).2 (by
    rw [Int.add_mul, Int.add_mul, Int.one_mul]
    rw [Int.add_mul, Int.one_mul] at a2 c2
    omega)
  omega
theorem cutAt_in {l n : Int} (k : Nat) (hl : 1 ≤ l) (hn : 1 ≤ n) (hk : (k : Int) ≤ n) : 0 ≤ cutAt l n k ∧ cutAt l n k ≤ l := by
  unfold cutAt
  have h0 := Int.mul_nonneg (a := (k : Int)) (b := l) (by omega) (by omega)
  have h1 := Int.mul_le_mul_of_nonneg_right (a := (k : Int)) (b := n) (c := l) hk (by omega)
  refine ⟨Int.ediv_nonneg h0 (by omega), ?_⟩
  have : (k : Int) * l / n < l + 1 := (Int.ediv_lt_iff_lt_mul (by omega)).2 (by rw [Int.add_mul, Int.one_mul, Int.mul_comm l n]; omega)
  omega
theorem cutAt_0 (l n : Int) : cutAt l n 0 = 0 := by unfold cutAt; simp
theorem cutAt_n {l n : Int} (k : Nat) (hn : 1 ≤ n) (hk : (k : Int) = n) : cutAt l n k = l := by
  unfold cutAt
  rw [hk]
  exact Int.mul_ediv_cancel_left l (by omega)
theorem even_get {l n : Int} (m k : Nat) (hk : k < m) : (evL l n m).getD k 0 = cutAt l n (k + 1) := by
  unfold evL cutAt
  simp [List.getD_eq_getElem?_getD, hk]
theorem even_all {l n : Int} (hl : 1 ≤ l ∧ l ≤ 1000) (hn : 1 ≤ n ∧ n ≤ l) : EvenL l n = evL l n (n.toNat - 1) :=
  EvenL_t (by unfold evB; rw [inB_t hl, inB_t hn]; rfl)
theorem thick_all {l n : Int} (hl : 1 ≤ l ∧ l ≤ 1000) (hn : 1 ≤ n ∧ n ≤ l) : ∃ d : Int, thickV l n = d ∧ 1 ≤ d ∧ d ≤ 100 ∧ n ≤ l / d ∧ (d = 100 ∨ l / (d + 1) < n) := by
  have hb1 := Int.ediv_mul_le l (show n ≠ 0 by omega)
  have hb2 := Int.lt_ediv_add_one_mul_self l (show 0 < n by omega)
  have h1 : 1 ≤ l / n := (Int.le_ediv_iff_mul_le (by omega)).2 (by omega)
  refine ⟨min 100 (l / n), by unfold thickV; rw [inB_t hl, inB_t (show 1 ≤ n ∧ n ≤ 1000 by omega)]; simp; omega, by omega, by omega, ?_, ?_⟩
  · have h2 : min 100 (l / n) ≤ l / n := by omega
    have h3 : 1 ≤ min 100 (l / n) := by omega
    generalize min 100 (l / n) = d at *
    have h4 := Int.mul_le_mul_of_nonneg_right (a := d) (b := l / n) (c := n) h2 (by omega)
    exact (Int.le_ediv_iff_mul_le (by omega)).2 (by rw [Int.mul_comm]; omega)
  · by_cases h : 100 ≤ l / n
    · exact .inl (by omega)
    · rw [show min 100 (l / n) = l / n by omega]
      exact .inr ((Int.ediv_lt_iff_lt_mul (by omega)).2 (by rw [Int.mul_comm]; exact hb2))
theorem sliceB_t {l t : Int} (hl : 1 ≤ l ∧ l ≤ 1000) (ht : 1 ≤ t ∧ t ≤ 100) : sliceB l t = true := by unfold sliceB; rw [inB_t hl, inB_t ht]; rfl
theorem whole_all {l t : Int} (hl : 1 ≤ l ∧ l ≤ 1000) (ht : 1 ≤ t ∧ t ≤ 100) : ∃ q r p : Int, slicesV l t = q ∧ lastV l t = r ∧ q * t = p ∧ 0 ≤ q ∧ q ≤ 1000 ∧ 0 ≤ p ∧ p ≤ 1000 ∧ p + r = l ∧ 0 ≤ r ∧ r < t := by
  have h := sliceB_t hl ht
  obtain ⟨x1, x2, t1, t2, q1, q2, q3, q4, q5⟩ := slices_in h
  exact ⟨l / t, l % t, l / t * t, slices_t h, last_t h, rfl, q1, q2, q3, by omega, by omega, Int.emod_nonneg _ (by omega), Int.emod_lt_of_pos _ (by omega)⟩
def sumS (xs : List Int) (t : Int) : Nat → Int
  | 0 => 0
  | k + 1 => sumS xs t k + xs.getD k 0 / t
def exS (xs : List Int) (t : Int) : Nat → Int
  | 0 => 0
  | k + 1 => exS xs t k + (if xs.getD k 0 % t = 0 then 1 else 0)
theorem cut_sum {xs : List Int} {t : Int} (ht : 1 ≤ t) : ∀ n : Nat, (∀ i, i < n → 1 ≤ xs.getD i 0) → cutT xs t n = sumS xs t n - exS xs t n
  | 0, _ => rfl
  | n + 1, h => by
    have hx := h n (by omega)
    rw [cutT, sumS, exS, cut_sum ht n fun i hi => h i (by omega)]
    by_cases e : xs.getD n 0 % t = 0
    · rw [if_pos e, cutN_z hx ht e]; omega
    · rw [if_neg e, cutN_nz hx ht e]; omega
theorem sums_in {xs : List Int} {t : Int} (ht : 1 ≤ t) : ∀ n : Nat, (∀ i, i < n → 1 ≤ xs.getD i 0 ∧ xs.getD i 0 ≤ 120) → 0 ≤ sumS xs t n ∧ sumS xs t n ≤ 120 * n ∧ 0 ≤ exS xs t n ∧ exS xs t n ≤ n
  | 0, _ => by simp [sumS, exS]
  | n + 1, h => by
    have ih := sums_in ht n fun i hi => h i (by omega)
    have hx := h n (by omega)
    have h1 := Int.ediv_nonneg (a := xs.getD n 0) (b := t) (by omega) (by omega)
    have h2 := Int.ediv_le_self t (a := xs.getD n 0) (by omega)
    rw [sumS, exS]
    split <;> push_cast <;> omega
theorem cut_all {xs : List Int} {t : Int} {m : Nat} (hm : m ≤ 6) (ht : 1 ≤ t ∧ t ≤ 100) (hx : ∀ i, i < m → 1 ≤ xs.getD i 0 ∧ xs.getD i 0 ≤ 120) : cutV m xs t = sumS xs t m - exS xs t m := by
  rw [cutV_t (by omega) fun i hi => sliceB_t (by have := hx i hi; omega) ht]
  exact cut_sum ht.1 m fun i hi => (hx i hi).1
/-- one loaf of the row -/
theorem one_all {xs : List Int} {t : Int} (k : Nat) (ht : 1 ≤ t ∧ t ≤ 100) (hx : 1 ≤ xs.getD k 0 ∧ xs.getD k 0 ≤ 120) : ∃ q p : Int, slicesV (xs.getD k 0) t = q ∧ q * t = p ∧ 0 ≤ q ∧ q ≤ 120 ∧ 0 ≤ p ∧ p ≤ 120 ∧ sumS xs t (k + 1) = sumS xs t k + q ∧
    ((0 < q ∧ p = xs.getD k 0 ∧ exS xs t (k + 1) = exS xs t k + 1) ∨ (0 < q ∧ p ≠ xs.getD k 0 ∧ exS xs t (k + 1) = exS xs t k) ∨ (q = 0 ∧ exS xs t (k + 1) = exS xs t k)) := by
  rw [exS]
  have hs : sumS xs t (k + 1) = sumS xs t k + xs.getD k 0 / t := rfl
  generalize xs.getD k 0 = y at *
  have h := sliceB_t (l := y) (t := t) (by omega) ht
  obtain ⟨x1, x2, t1, t2, q1, q2, q3, q4, q5⟩ := slices_in h
  have h2 := Int.ediv_le_self t (a := y) (by omega)
  refine ⟨y / t, y / t * t, slices_t h, rfl, q1, by omega, q3, by omega, hs, ?_⟩
  by_cases e : y % t = 0
  · rw [if_pos e]
    refine .inl ⟨?_, by omega, rfl⟩
    by_cases e0 : y / t = 0
    · rw [e0] at q5 q4; omega
    · omega
  · rw [if_neg e]
    by_cases e0 : y / t = 0
    · exact .inr (.inr ⟨e0, by omega⟩)
    · exact .inr (.inl ⟨by omega, by omega, by omega⟩)
theorem lbtoi (b : Bool) (w : World) : Calls Try.prog 25 #[.bool b] w (Same (.int .i64 (if b then 1 else 0)) w) := by
  cases b
  · go_enter Try.func25, Try.ntmps25
    go_wp2
    go_ret
    exact ⟨rfl, rfl⟩
  · go_enter Try.func25, Try.ntmps25
    go_wp2
    go_ret
    exact ⟨rfl, rfl⟩
end Go.Proofs.Ythndjpklfgcpmaa
