/- The numbers of the law FnLeavens. -/
import Derived.Test.YtkaaebpoljnbnaaK04
import Derived.Test.YtkaaebpoljnbnaaN04
import Derived.Test.YtkaaebpoljnbnaaF04
namespace Go.Proofs.Ytkaaebpoljnbnaa
open Go.ChangeShapes Go.WideShapes Go.ChangeAt Go.RowKit
set_option linter.unusedVariables false
set_option linter.unusedSimpArgs false
set_option maxHeartbeats 2000000

/-- grams after k feedings -/
def gN (g t : Int) : Nat → Int
  | 0 => g
  | k + 1 => gN g t k * (t + 1)
theorem gN_shift (g t : Int) : ∀ k : Nat, gN (g * (t + 1)) t k = gN g t (k + 1)
  | 0 => rfl
  | k + 1 => by show gN (g * (t + 1)) t k * (t + 1) = gN g t (k + 1) * (t + 1); rw [gN_shift g t k]
theorem feed_ok {g f t : Int} (hg : 1 ≤ g ∧ g ≤ 20000) (hf : 0 ≤ f ∧ f ≤ 900) (ht : 1 ≤ t ∧ t ≤ 4) : feedB g f t = true := by
  have m : 0 ≤ g * (t + 1) ∧ g * (t + 1) ≤ 20000 * 5 := mul_in (by omega) hg.2 (by omega) (by omega)
  rw [feed_day ⟨by omega, by omega⟩ hf ⟨ht.1, by omega⟩]
  simp; omega
theorem feedV_ok {g f t : Int} (hg : 1 ≤ g ∧ g ≤ 20000) (hf : 0 ≤ f ∧ f ≤ 900) (ht : 1 ≤ t ∧ t ≤ 4) : feedV g f t = .tuple #[.agg #[.int .i64 (g * (t + 1)), .int .i64 (f + 1)], .bool true] := by
  unfold feedV; rw [feed_ok hg hf ht]; rfl
theorem feed_run {t need : Int} (ht : 1 ≤ t ∧ t ≤ 4) (hn : need ≤ 2550) : ∀ (m p : Nat) (G F : Int) (k : Nat), m < p → 1 ≤ G → G ≤ 12750 → 0 ≤ F → F + m ≤ 900 → need ≤ G * 2 ^ m →
    ∃ j : Nat, j ≤ m ∧ feedN p G F t need k = ((k + j : Nat) : Int) ∧ (∀ i, i < j → gN G t i < need) ∧ need ≤ gN G t j ∧ (∀ i, i ≤ j → 1 ≤ gN G t i ∧ gN G t i ≤ 12750)
  | 0, p + 1, G, F, k, _, h1, h2, _, _, h5 => by
    have h : need ≤ G := by simpa using h5
    refine ⟨0, Nat.le_refl _, by rw [feedN, if_pos h]; rfl, fun i hi => absurd hi (Nat.not_lt_zero _), h, fun i hi => ?_⟩
    obtain rfl : i = 0 := by omega
    exact ⟨h1, h2⟩
  | m + 1, p + 1, G, F, k, hp, h1, h2, h3, h4, h5 => by
    by_cases h : need ≤ G
    · refine ⟨0, Nat.zero_le _, by rw [feedN, if_pos h]; rfl, fun i hi => absurd hi (Nat.not_lt_zero _), h, fun i hi => ?_⟩
      obtain rfl : i = 0 := by omega
      exact ⟨h1, h2⟩
    · have q : 0 ≤ G * (t + 1) ∧ G * (t + 1) ≤ 2550 * 5 := mul_in (by omega) (by omega) (by omega) (by omega)
      have q2 : G * 2 ≤ G * (t + 1) := Int.mul_le_mul_of_nonneg_left (by omega) (by omega)
      have q3 : need ≤ G * (t + 1) * 2 ^ m := by
        refine Int.le_trans h5 ?_
        have e : G * 2 ^ (m + 1) = G * 2 * 2 ^ m := by rw [Int.pow_succ, Int.mul_assoc, Int.mul_comm 2]
        rw [e]
        exact Int.mul_le_mul_of_nonneg_right q2 (Int.le_of_lt (Int.pow_pos (by omega)))
      obtain ⟨j, j1, j2, j3, j4, j5⟩ := feed_run ht hn m p (G * (t + 1)) (F + 1) (k + 1) (by omega) (by omega) (by omega) (by omega) (by push_cast at h4; omega) q3
      refine ⟨j + 1, by omega, ?_, ?_, ?_, ?_⟩
      · rw [feedN, if_neg h, if_pos (feed_ok ⟨h1, by omega⟩ ⟨h3, by push_cast at h4; omega⟩ ht)]
        have e : ((k : Int) + 1) = ((k + 1 : Nat) : Int) := by push_cast; rfl
        first
          | (rw [j2]; congr 1; omega)
          | (rw [e, j2]; congr 1; omega)
      · intro i hi
        rcases i with _ | i
        · show G < need; omega
        · rw [← gN_shift]; exact j3 i (by omega)
      · rw [← gN_shift]; exact j4
      · intro i hi
        rcases i with _ | i
        · exact ⟨h1, h2⟩
        · rw [← gN_shift]; exact j5 i (by omega)
/-- the feedings of the law -/
theorem feeds_law {g f t need : Int} (hg : 1 ≤ g ∧ g ≤ 250) (hf : 0 ≤ f ∧ f ≤ 19) (ht : 1 ≤ t ∧ t ≤ 4) (hn : 0 ≤ need ∧ need ≤ 2550) :
    ∃ N : Nat, N ≤ 12 ∧ feedsV g f t need = (N : Int) ∧ (∀ i, i < N → gN g t i < need) ∧ need ≤ gN g t N ∧ (∀ i, i ≤ N → 1 ≤ gN g t i ∧ gN g t i ≤ 12750) := by
  obtain ⟨j, j1, j2, j3, j4, j5⟩ := feed_run ht hn.2 12 1002 g f 0 (by omega) hg.1 (by omega) hf.1 (by push_cast; omega) (by rw [show (2 : Int) ^ 12 = 4096 by decide]; omega)
  refine ⟨j, j1, ?_, j3, j4, j5⟩
  unfold feedsV
  have h1 : leavB g f = true := by simp [leavB, inB]; omega
  rw [h1, inB_t (n := need) (by omega), j2]
  simp
/-- what is kept for three days -/
def bnd : Nat → Int
  | 0 => 100000
  | j + 1 => bnd j / 5
theorem bnd_le : ∀ j : Nat, bnd j ≤ 100000
  | 0 => Int.le_refl _
  | j + 1 => by have := bnd_le j; show bnd j / 5 ≤ 100000; omega
theorem val_le1 (ds : List Int) {t : Int} (ht : 1 ≤ t ∧ t ≤ 4) (n : Nat) (hd : ∀ i, i < n → 0 ≤ ds.getD i 0) : ∀ (j : Nat) (g : Int), j ≤ n → 0 ≤ g → g ≤ bnd j → valF ds t n j g ≤ 1
  | 0, _, _, _, _ => Int.le_refl _
  | j + 1, g, hj, h0, hb => by
    have hb' : g ≤ bnd j / 5 := hb
    have h1 := bnd_le j
    have q : g * (t + 1) ≤ g * 5 := Int.mul_le_mul_of_nonneg_left (by omega) h0
    have hdd := hd (n - (j + 1)) (by omega)
    rw [valF]
    split
    · omega
    · rw [if_neg (by omega)]
      split
      · omega
      · exact val_le1 ds ht n hd j _ (by omega) (by omega) (by omega)
theorem kF_256 (ds : List Int) {t : Int} (ht : 1 ≤ t ∧ t ≤ 4) (n : Nat) (hd : ∀ i, i < n → 0 ≤ ds.getD i 0 ∧ ds.getD i 0 ≤ 255) : ∀ j : Nat, j ≤ n → 1 ≤ kF ds t n j ∧ kF ds t n j ≤ 256
  | 0, _ => ⟨Int.le_refl _, by show (1 : Int) ≤ 256; omega⟩
  | j + 1, hj => by
    obtain ⟨h1, h2⟩ := kF_256 ds ht n hd j (by omega)
    obtain ⟨d1, d2⟩ := hd (n - (j + 1)) (by omega)
    rw [kF]
    generalize kF ds t n j = x at *
    generalize ds.getD (n - (j + 1)) 0 = d at *
    have : t = 1 ∨ t = 2 ∨ t = 3 ∨ t = 4 := by omega
    rcases this with rfl | rfl | rfl | rfl <;> omega
theorem keep_law {a b c t : Int} (ha : 0 ≤ a ∧ a ≤ 255) (hb : 0 ≤ b ∧ b ≤ 255) (hc : 0 ≤ c ∧ c ≤ 255) (ht : 1 ≤ t ∧ t ≤ 4) :
    ∃ K : Int, keepV 3 [a, b, c] t = K ∧ (1 ≤ K ∧ K ≤ 256) ∧ valF [a, b, c] t 3 3 K = 1 ∧ valF [a, b, c] t 3 3 (K - 1) = 0 := by
  have hd : ∀ i, i < 3 → 0 ≤ [a, b, c].getD i 0 ∧ [a, b, c].getD i 0 ≤ 255 := fun i hi => by
    have : i = 0 ∨ i = 1 ∨ i = 2 := by omega
    rcases this with rfl | rfl | rfl
    · exact ha
    · exact hb
    · exact hc
  have hd2 : ∀ i, i < 3 → 0 ≤ [a, b, c].getD i 0 ∧ [a, b, c].getD i 0 ≤ 10000 := fun i hi => by have := hd i hi; omega
  obtain ⟨k1, k2⟩ := kF_256 [a, b, c] ht 3 hd 3 (Nat.le_refl _)
  have hb3 : bnd 3 = 800 := by decide
  have z := val_zero [a, b, c] t 3 ⟨ht.1, by omega⟩ hd2 3
  have v1 : valF [a, b, c] t 3 3 (kF [a, b, c] t 3 3) = 1 := by
    have h1 := val_le1 [a, b, c] ht 3 (fun i hi => (hd i hi).1) 3 (kF [a, b, c] t 3 3) (Nat.le_refl _) (by omega) (by omega)
    have h2 := (val_in [a, b, c] t 3 3 (kF [a, b, c] t 3 3)).1
    have h3 := z (kF [a, b, c] t 3 3) (Nat.le_refl _) (by omega) (by omega)
    omega
  have kg : keepG [a, b, c] t 3 = kF [a, b, c] t 3 3 := if_neg (by omega)
  refine ⟨kF [a, b, c] t 3 3, ?_, ⟨k1, k2⟩, v1, ?_⟩
  · rw [keepV_ok (by omega) (inB_t (by omega)) (fun i hi => by
      unfold nOk
      exact inB_t (hd2 i hi)), kg, if_pos v1]
  · exact (z _ (Nat.le_refl _) (by omega) (by omega)).2 (by omega)
theorem take_ok {g f n m : Int} (h : takeB g f n m = true) : takeV g f n m = .tuple #[.agg #[.int .i64 (g - n), .int .i64 f], .bool true] := by unfold takeV; rw [h]; rfl
theorem take_no {g f n m : Int} (h : takeB g f n m = false) : takeV g f n m = .tuple #[.agg #[.int .i64 g, .int .i64 f], .bool false] := by unfold takeV; rw [h]; rfl
theorem take_law {g f n : Int} (hg : 1 ≤ g ∧ g ≤ 250) (hf : 0 ≤ f ∧ f ≤ 19) (hn : 0 ≤ n ∧ n ≤ g) : takeB g f n 1 = decide (n < g) := by
  rw [take_day (g := g) (f := f) (d := n) ⟨by omega, by omega⟩ ⟨by omega, by omega⟩ ⟨by omega, by omega⟩]
  by_cases h : n < g
  · rw [decide_eq_true h, decide_eq_true (by omega)]
  · rw [decide_eq_false h, decide_eq_false (by omega)]
/-- one of the law's days -/
theorem day_law (ds : List Int) {t G : Int} {k : Nat} (hk : k < 3) (ht : 1 ≤ t ∧ t ≤ 4) (hd : 0 ≤ ds.getD k 0 ∧ ds.getD k 0 ≤ 255) (h0 : 0 ≤ G) (hb : G ≤ bnd (3 - k)) :
    (∃ r : Value, ∃ g2 f2 : Int, feedV G k t = .tuple #[.agg #[.int .i64 g2, .int .i64 f2], .bool false] ∧ (∃ g3 f3 : Int, ∃ e : Bool, takeV g2 f2 (ds.getD k 0) 1 = .tuple #[.agg #[.int .i64 g3, .int .i64 f3], .bool e]) ∧ valF ds t 3 (3 - k) G = 0) ∨
    (feedV G k t = .tuple #[.agg #[.int .i64 (G * (t + 1)), .int .i64 ((k : Int) + 1)], .bool true] ∧
      ((∃ g3 f3 : Int, takeV (G * (t + 1)) ((k : Int) + 1) (ds.getD k 0) 1 = .tuple #[.agg #[.int .i64 g3, .int .i64 f3], .bool false] ∧ valF ds t 3 (3 - k) G = 0) ∨
       (takeV (G * (t + 1)) ((k : Int) + 1) (ds.getD k 0) 1 = .tuple #[.agg #[.int .i64 (G * (t + 1) - ds.getD k 0), .int .i64 ((k : Int) + 1)], .bool true] ∧ 0 ≤ G * (t + 1) - ds.getD k 0 ∧ G * (t + 1) - ds.getD k 0 ≤ bnd (3 - (k + 1)) ∧
        valF ds t 3 (3 - k) G = valF ds t 3 (3 - (k + 1)) (G * (t + 1) - ds.getD k 0)))) := by
  have hv := val_step (ds := ds) (t := t) hk G
  generalize ds.getD k 0 = d at hd hv ⊢
  have hb' : G ≤ bnd (3 - (k + 1)) / 5 := by
    have e : 3 - k = 3 - (k + 1) + 1 := by omega
    rw [e] at hb; exact hb
  have h1 := bnd_le (3 - (k + 1))
  have q : G * (t + 1) ≤ G * 5 := Int.mul_le_mul_of_nonneg_left (by omega) h0
  have q0 : 0 ≤ G * (t + 1) := Int.mul_nonneg h0 (by omega)
  by_cases hz : G = 0
  · left
    subst hz
    refine ⟨.int .i64 0, 0, (k : Int), ?_, ?_, by rw [hv, if_pos rfl]⟩
    · unfold feedV; rw [feed_day (by omega) (by omega) ⟨ht.1, by omega⟩]; simp
    · have : takeB 0 (k : Int) (d) 1 = false := by
        rw [take_day (by omega) (by omega) ⟨hd.1, by omega⟩]; simp; omega
      exact ⟨0, k, false, take_no this⟩
  · right
    rw [hv, if_neg hz, if_neg (by omega)]
    refine ⟨feedV_ok ⟨by omega, by omega⟩ (by omega) ht, ?_⟩
    have hq : G * (t + 1) ≤ 100000 := by omega
    generalize G * (t + 1) = X at *
    have tk := take_day (g := X) (f := (k : Int) + 1) (d := d) ⟨by omega, by omega⟩ ⟨by omega, by omega⟩ ⟨hd.1, by omega⟩
    by_cases hl : X - d < 1
    · left
      rw [if_pos hl]
      rw [decide_eq_false (by omega)] at tk
      exact ⟨_, _, take_no tk, rfl⟩
    · right
      rw [if_neg hl]
      rw [decide_eq_true (by omega)] at tk
      exact ⟨take_ok tk, by omega, by omega, rfl⟩
end Go.Proofs.Ytkaaebpoljnbnaa
