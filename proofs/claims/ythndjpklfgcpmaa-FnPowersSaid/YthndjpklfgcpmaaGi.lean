/- The index of the greatest of a list of ints, the first of equal ones. -/
import Derived.Test.YthndjpklfgcpmaaIntR
import Derived.Test.YthndjpklfgcpmaaIn
import Derived.Deep.QuietTactic
import Derived.BigQuiet
import Derived.Deep.RegionHeld3
namespace Go.Proofs.Ythndjpklfgcpmaa
open Go.ChangeShapes Go.WideShapes Go.ChangeAt Go.RowKit
set_option linter.unusedVariables false
set_option linter.unusedSimpArgs false

def amax (f : Nat → Int) : Nat → Nat
  | 0 => 0
  | k + 1 => if f (amax f k) < f k then k else amax f k
theorem amax_succ (f : Nat → Int) (k : Nat) : amax f (k + 1) = if f (amax f k) < f k then k else amax f k := rfl
theorem amax_lt (f : Nat → Int) (k : Nat) (h : 0 < k) : amax f k < k := by
  induction k with
  | zero => omega
  | succ k ih =>
    rw [amax_succ]
    split
    · omega
    · by_cases e : k = 0
      · subst e; simp [amax]
      · have := ih (by omega); omega
theorem amax_le (f : Nat → Int) (k : Nat) : amax f k ≤ k := by
  by_cases e : k = 0
  · subst e; exact Nat.le_refl _
  · have := amax_lt f k (by omega); omega
theorem amax_congr (f g : Nat → Int) (k : Nat) (h : ∀ i, i < k → f i = g i) : amax f k = amax g k := by
  induction k with
  | zero => rfl
  | succ k ih =>
    have h1 := ih fun i hi => h i (by omega)
    by_cases e : k = 0
    · subst e; simp [amax]
    · have h2 := amax_lt g k (by omega)
      rw [amax_succ, amax_succ, h1, h _ (by omega : amax g k < k + 1), h k (by omega)]
theorem amax_max (f : Nat → Int) (k : Nat) : ∀ i, i < k → f i ≤ f (amax f k) := by
  induction k with
  | zero => intro i hi; omega
  | succ k ih =>
    intro i hi
    rw [amax_succ]
    split
    · by_cases e : i = k
      · subst e; exact Int.le_refl _
      · have := ih i (by omega); omega
    · by_cases e : i = k
      · subst e; omega
      · exact ih i (by omega)
theorem amax_first (f : Nat → Int) (k : Nat) : ∀ i, i < amax f k → f i < f (amax f k) := by
  induction k with
  | zero => intro i hi; simp [amax] at hi
  | succ k ih =>
    intro i hi
    rw [amax_succ] at hi ⊢
    split at hi
    · rename_i h
      rw [if_pos h]
      have := amax_max f k i (by omega); omega
    · rename_i h
      rw [if_neg h]
      exact ih i hi
/-- the only index with both is it -/
theorem amax_eq (f : Nat → Int) (n m : Nat) (hm : m < n) (h1 : ∀ i, i < n → f i ≤ f m) (h2 : ∀ i, i < m → f i < f m) : amax f n = m := by
  have h3 := amax_max f n m hm
  have h4 := amax_lt f n (by omega)
  rcases Nat.lt_trichotomy (amax f n) m with h | h | h
  · have := h2 _ h; omega
  · exact h
  · have := amax_first f n m h
    have := h1 _ h4; omega
def gF (xs : List Int) (i : Nat) : Int := xs.getD i 0
def gidx (xs : List Int) (k : Nat) : Int := if k = 0 then -1 else (amax (gF xs) k : Nat)
set_option maxHeartbeats 1000000 in
theorem iGreatest (A : Option Addr) (n c : Nat) (xs : List Int) (w : World) (hn : n ≤ maxLen) (hx : ReadsI w A n xs) : Calls Try.prog 69 #[.slice A n c] w (Val (i64 (gidx xs n)) w) := by
  unfold maxLen at hn
  go_enter Try.func69, Try.ntmps69
  go_wp2
  go_loopw [3, 8] (fun v i wr => ∃ k : Nat, k ≤ n ∧ i = .int .i64 k ∧ v = .int .i64 (gidx xs k) ∧ In w.heap.size w wr) (fun _ i _ => n - (intOf i).toNat)
  case atStart => exact ⟨0, Nat.zero_le _, rfl, rfl, In.refl _⟩
  case round =>
    obtain ⟨k, hk, rfl, rfl, hi⟩ := hrel
    by_cases hlt : k < n
    · obtain ⟨a, rfl, ha⟩ := (hx.below hi.below (Nat.le_refl _)).2 k hlt
      by_cases h0 : k = 0
      · have hg : gidx xs k = -1 := if_pos h0
        have HS : Hid (gidx xs (k + 1) = k) := Lib.hid (by rw [h0]; simp [gidx, amax])
        rw [hg]
        generalize xs.getD k 0 = x at ha
        clear hg h0
        go_wp2
        go_roundw
        case rel => exact ⟨k + 1, by omega, by go_num, v_int (by rw [HS.out]), by (repeat (first | exact In.refl _ | assumption | apply In.alloc | apply In.drewN | apply In.drew | (refine In.step ?_ (by assumption))))⟩
        case measure => simp [intOf]; omega
      · have hmlt := amax_lt (gF xs) k (by omega)
        have hg : gidx xs k = ((amax (gF xs) k : Nat) : Int) := if_neg h0
        have hs : gidx xs (k + 1) = ((amax (gF xs) (k + 1) : Nat) : Int) := if_neg (by omega)
        rw [amax_succ] at hs
        have HS := Lib.hid hs
        have HG := Lib.hid hg
        rw [hg]
        clear hg hs
        generalize amax (gF xs) k = m at *
        obtain ⟨a2, ea, hm⟩ := (hx.below hi.below (Nat.le_refl _)).2 m (by omega)
        obtain rfl : a = a2 := Option.some.inj ea
        have HX : Hid (gF xs k = xs.getD k 0) := Lib.hid rfl
        have HM : Hid (gF xs m = xs.getD m 0) := Lib.hid rfl
        generalize xs.getD k 0 = x at *
        generalize xs.getD m 0 = y at *
        by_cases hxy : y < x
        · go_wp2
          go_roundw
          case rel => exact ⟨k + 1, by omega, by go_num, v_int (by rw [HS.out, HX.out, HM.out, if_pos hxy]), by (repeat (first | exact In.refl _ | assumption | apply In.alloc | apply In.drewN | apply In.drew | (refine In.step ?_ (by assumption))))⟩
          case measure => simp [intOf]; omega
        · go_wp2
          go_roundw
          case rel => exact ⟨k + 1, by omega, by go_num, v_int (by rw [HS.out, HX.out, HM.out, if_neg hxy]), by (repeat (first | exact In.refl _ | assumption | apply In.alloc | apply In.drewN | apply In.drew | (refine In.step ?_ (by assumption))))⟩
          case measure => simp [intOf]; omega
    · obtain rfl : k = n := by omega
      go_wp2
      go_ret
      exact Val.mk' rfl (by (repeat (first | exact In.refl _ | assumption | apply In.alloc | apply In.drewN | apply In.drew | (refine In.step ?_ (by assumption)))))
end Go.Proofs.Ythndjpklfgcpmaa
