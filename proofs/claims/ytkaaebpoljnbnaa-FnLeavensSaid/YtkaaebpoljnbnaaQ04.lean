/- Chapter 4: the days that a leaven lasts, in numbers, and the program's leastKept. -/
import Derived.Test.YtkaaebpoljnbnaaC04
import Derived.Test.YtkaaebpoljnbnaaIntR
import Derived.Test.YtkaaebpoljnbnaaSum
import Derived.Deep.QuietTactic
import Derived.BigQuiet
import Derived.Deep.RegionHeld3
import Derived.Deep.RegionWith
namespace Go.Proofs.Ytkaaebpoljnbnaa
open Go.ChangeShapes Go.WideShapes Go.ChangeAt Go.RowKit
set_option linter.unusedVariables false
set_option linter.unusedSimpArgs false

/-- the least grams ahead of the last j days -/
def kF (ds : List Int) (t : Int) (n : Nat) : Nat → Int
  | 0 => 1
  | j + 1 => (kF ds t n j + ds.getD (n - (j + 1)) 0 + t) / (t + 1)
/-- 1: enough for the last j days; 0: too little; 2: too much -/
def valF (ds : List Int) (t : Int) (n : Nat) : Nat → Int → Int
  | 0, _ => 1
  | j + 1, g => if g = 0 then 0 else if 100000 < g * (t + 1) then 2 else if g * (t + 1) - ds.getD (n - (j + 1)) 0 < 1 then 0 else valF ds t n j (g * (t + 1) - ds.getD (n - (j + 1)) 0)
theorem kF_in (ds : List Int) (t : Int) (n : Nat) (ht : 1 ≤ t ∧ t ≤ 10) (j : Nat) (hj : j ≤ n) (hd : ∀ i, i < n → 0 ≤ ds.getD i 0 ∧ ds.getD i 0 ≤ 10000) : 1 ≤ kF ds t n j ∧ kF ds t n j ≤ 10001 := by
  induction j with
  | zero => simp [kF]
  | succ j ih =>
    have h1 := ih (by omega)
    have h2 := hd (n - (j + 1)) (by omega)
    simp only [kF]
    generalize kF ds t n j = K at h1
    generalize ds.getD (n - (j + 1)) 0 = d at h2
    constructor
    · exact Int.le_ediv_of_mul_le (by omega) (by omega)
    · have hq : 1 ≤ (K + d + t) / (t + 1) := Int.le_ediv_of_mul_le (by omega) (by omega)
      have hm := Int.ediv_mul_le (K + d + t) (b := t + 1) (by omega)
      generalize (K + d + t) / (t + 1) = q at hq hm
      have h4 : 1 * (t - 1) ≤ q * (t - 1) := Int.mul_le_mul_of_nonneg_right hq (by omega)
      have h5 : q * (t + 1) = q * (t - 1) + q * 2 := by rw [← Int.mul_add]; congr 1; omega
      omega
theorem kF_lt (K d t g : Int) (ht : 1 ≤ t) : g < (K + d + t) / (t + 1) ↔ g * (t + 1) < K + d := by
  have h : g + 1 ≤ (K + d + t) / (t + 1) ↔ (g + 1) * (t + 1) ≤ K + d + t := Int.le_ediv_iff_mul_le (by omega)
  have e : (g + 1) * (t + 1) = g * (t + 1) + t + 1 := by rw [Int.add_mul]; omega
  rw [e] at h
  omega
theorem val_zero (ds : List Int) (t : Int) (n : Nat) (ht : 1 ≤ t ∧ t ≤ 10) (hd : ∀ i, i < n → 0 ≤ ds.getD i 0 ∧ ds.getD i 0 ≤ 10000) (j : Nat) : ∀ g : Int, j ≤ n → 0 ≤ g → (1 ≤ g ∨ 1 ≤ j) → (valF ds t n j g = 0 ↔ g < kF ds t n j) := by
  induction j with
  | zero => intro g _ h0 h1; simp only [valF, kF]; omega
  | succ j ih =>
    intro g hj h0 _
    have hk := kF_in ds t n ht j (by omega) hd
    have h2 := hd (n - (j + 1)) (by omega)
    have hi := ih (g * (t + 1) - ds.getD (n - (j + 1)) 0) (by omega)
    simp only [valF, kF]
    rw [kF_lt _ _ _ _ ht.1]
    generalize kF ds t n j = K at hk hi
    generalize ds.getD (n - (j + 1)) 0 = d at h2 hi
    by_cases e0 : g = 0
    · subst e0; simp; omega
    · rw [if_neg e0]
      by_cases e1 : 100000 < g * (t + 1)
      · rw [if_pos e1]; omega
      · rw [if_neg e1]
        by_cases e2 : g * (t + 1) - d < 1
        · rw [if_pos e2]; omega
        · rw [if_neg e2, hi (by omega) (.inl (by omega))]; omega
theorem val_in (ds : List Int) (t : Int) (n : Nat) (j : Nat) : ∀ g : Int, 0 ≤ valF ds t n j g ∧ valF ds t n j g ≤ 2 := by
  induction j with
  | zero => intro g; simp [valF]
  | succ j ih =>
    intro g
    have := ih (g * (t + 1) - ds.getD (n - (j + 1)) 0)
    simp only [valF]
    (repeat' split) <;> omega
def keepG (ds : List Int) (t : Int) (n : Nat) : Int := if n = 0 then 0 else kF ds t n n
def nOk (ds : List Int) (i : Nat) : Bool := inB (ds.getD i 0) 0 10000
def keepV (n : Nat) (ds : List Int) (t : Int) : Int := if n ≤ 10 ∧ inB t 1 10 = true ∧ allOk (nOk ds) n = true then (if valF ds t n n (keepG ds t n) = 1 then keepG ds t n else -1) else -1
theorem keep_low (ds : List Int) (t : Int) (n : Nat) (ht : 1 ≤ t ∧ t ≤ 10) (hd : ∀ i, i < n → 0 ≤ ds.getD i 0 ∧ ds.getD i 0 ≤ 10000) (low : Int) (h0 : 0 ≤ low) (h1 : low = 100000 ∨ 0 < valF ds t n n low) (h2 : ∀ x, 0 ≤ x → x < low → valF ds t n n x = 0) : low = keepG ds t n := by
  unfold keepG
  by_cases e : n = 0
  · subst e
    rw [if_pos rfl]
    by_cases hl : low = 0
    · exact hl
    · have := h2 0 (by omega) (by omega)
      simp [valF] at this
  · rw [if_neg e]
    have hk := kF_in ds t n ht n (Nat.le_refl _) hd
    have hz := fun g h => val_zero ds t n ht hd n g (Nat.le_refl _) h (.inr (by omega))
    have ha : kF ds t n n ≤ low := by
      rcases h1 with h1 | h1
      · omega
      · by_cases h : low < kF ds t n n
        · have := (hz low h0).2 h
          omega
        · omega
    have hb : low ≤ kF ds t n n := by
      by_cases h : kF ds t n n < low
      · have h3 := (hz (kF ds t n n) (by omega)).1 (h2 _ (by omega) h)
        omega
      · omega
    omega
theorem feed_day {g f t : Int} (hg : 0 ≤ g ∧ g ≤ 100000) (hf : 0 ≤ f ∧ f ≤ 900) (ht : 1 ≤ t ∧ t ≤ 10) : feedB g f t = (!(g == 0) && decide (g * (t + 1) ≤ 100000)) := by
  have h1 : 0 ≤ g * (t + 1) := Int.mul_nonneg hg.1 (by omega)
  simp only [feedB, leavB, inB_t hg, inB_t (show 0 ≤ f ∧ f ≤ 1000 by omega), inB_t ht, inB_t (show 0 ≤ f + 1 ∧ f + 1 ≤ 1000 by omega), Bool.true_and, Bool.and_true]
  congr 1
  unfold inB
  simp [h1]
theorem take_day {g f d : Int} (hg : 0 ≤ g ∧ g ≤ 100000) (hf : 0 ≤ f ∧ f ≤ 1000) (hd : 0 ≤ d ∧ d ≤ 10000) : takeB g f d 1 = decide (1 ≤ g - d) := by
  simp only [takeB, leavB, inB_t hg, inB_t hf, inB_t (show 0 ≤ d ∧ d ≤ 100000 by omega), inB_t (show (0 : Int) ≤ 1 ∧ (1 : Int) ≤ 100000 by omega), Bool.true_and]
set_option maxHeartbeats 1000000 in
theorem ileastKept (A : Option Addr) (n c : Nat) (ds : List Int) (t : Int) (w : World) (hn : n ≤ 10) (ht : 1 ≤ t ∧ t ≤ 10) (hd : ∀ i, i < n → 0 ≤ ds.getD i 0 ∧ ds.getD i 0 ≤ 10000) (hx : ReadsI w A n ds) :
    Calls Try.prog 42 #[.slice A n c, .int .i64 t] w (Same (i64 (keepG ds t n)) w) := by
  obtain ⟨t1, t2⟩ := ht
  by_cases e : n = 0
  · have HV : Hid (keepG ds t n = 0) := Lib.hid (if_pos e)
    subst e
    go_enter Try.func42, Try.ntmps42
    go_wp2
    go_ret
    exact ⟨ret_int HV.out.symm, rfl⟩
  have HV : Hid (keepG ds t n = kF ds t n n) := Lib.hid (if_neg e)
  have HD := Lib.hid hd
  have e' : ((n : Int) == 0) = false := by simp; omega
  clear hd
  go_enter Try.func42, Try.ntmps42
  go_wp2
  go_loop [5, 6] (fun s i => ∃ j : Nat, j ≤ n ∧ i = .int .i64 ((n : Int) - j - 1) ∧ s = .int .i64 (kF ds t n j)) (fun _ i => (intOf i + 1).toNat)
  case atStart => exact ⟨0, Nat.zero_le _, v_int (by omega), rfl⟩
  case round =>
    obtain ⟨j, hj, rfl, rfl⟩ := hrel
    obtain ⟨k1, k2⟩ := kF_in ds t n ⟨t1, t2⟩ j hj HD.out
    by_cases hlt : j < n
    · obtain ⟨i, hi⟩ : ∃ i : Nat, n = i + j + 1 := ⟨n - j - 1, by omega⟩
      have hii : (n : Int) - j - 1 = (i : Int) := by omega
      have HS : Hid (kF ds t n (j + 1) = (kF ds t n j + ds.getD i 0 + t) / (t + 1)) := Lib.hid (by rw [show i = n - (j + 1) from by omega]; rfl)
      obtain ⟨a, rfl, ca⟩ := hx.2 i (by omega)
      obtain ⟨d1, d2⟩ := HD.out i (by omega)
      generalize ds.getD i 0 = d at ca HS d1 d2
      have HI := Lib.hid hi
      rw [hii]
      have hlt2 : (i : Int) ≤ 9 := by omega
      have hin : i < n := by omega
      have HII := Lib.hid hii
      clear hi hii
      have hne : ¬ (t + 1 = 0) := by omega
      go_wp2
      go_round
      case rel => exact ⟨j + 1, by omega, v_int (by have := HII.out; omega), v_int HS.out.symm⟩
      case measure => simp [intOf]
    · obtain rfl : j = n := by omega
      have hm : (j : Int) - j - 1 = -1 := by omega
      rw [hm]
      clear hm
      go_wp2
      go_ret
      exact ⟨ret_int HV.out.symm, rfl⟩
end Go.Proofs.Ytkaaebpoljnbnaa
