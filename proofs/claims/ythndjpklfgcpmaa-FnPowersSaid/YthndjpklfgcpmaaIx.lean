/- The place of a number in a row; the search by halves. -/
import Derived.Test.YthndjpklfgcpmaaIn
import Derived.Test.YthndjpklfgcpmaaIntR
namespace Go.Proofs.Ythndjpklfgcpmaa
open Go.ChangeShapes Go.WideShapes Go.ChangeAt Go.RowKit
set_option linter.unusedVariables false
set_option linter.unusedSimpArgs false
set_option maxHeartbeats 2000000

/-- the first place from which on p holds, up to N -/
def IsFst (p : Int → Bool) (N r : Int) : Prop := 0 ≤ r ∧ r ≤ N ∧ (∀ x, 0 ≤ x → x < r → p x = false) ∧ (r < N → p r = true)
theorem IsFst.uniq {p : Int → Bool} {N r s : Int} (h : IsFst p N r) (k : IsFst p N s) : r = s := by
  obtain ⟨a1, a2, a3, a4⟩ := h
  obtain ⟨b1, b2, b3, b4⟩ := k
  rcases Int.lt_or_gt_of_ne (a := r) (b := s) |> fun f => (Decidable.em (r = s)).imp_right f with h | h | h
  · exact h
  · have h1 := a4 (by omega)
    rw [b3 r a1 h] at h1; cases h1
  · have h1 := b4 (by omega)
    rw [a3 s b1 h] at h1; cases h1
def fstN (p : Int → Bool) : Nat → Int
  | 0 => 0
  | n + 1 => if fstN p n < n then fstN p n else if p n then n else n + 1
theorem fstN_is (p : Int → Bool) (n : Nat) : IsFst p n (fstN p n) := by
  induction n with
  | zero => exact ⟨by simp [fstN], by simp [fstN], fun x h1 h2 => by simp [fstN] at h2; omega, fun h => by simp [fstN] at h⟩
  | succ n ih =>
    obtain ⟨h1, h2, h3, h4⟩ := ih
    rw [fstN]
    split
    · rename_i h
      exact ⟨h1, by omega, h3, fun _ => h4 h⟩
    · have he : fstN p n = n := by omega
      rw [he] at h3
      split
      · rename_i hp
        exact ⟨by omega, by omega, h3, fun _ => hp⟩
      · rename_i hp
        refine ⟨by omega, by omega, fun x hx1 hx2 => ?_, fun h => by omega⟩
        by_cases e : x = n
        · subst e; simpa using hp
        · exact h3 x hx1 (by omega)
theorem IsFst.eq {p : Int → Bool} {N r : Int} (h : IsFst p N r) : r = fstN p N.toNat := by
  have h0 : (N.toNat : Int) = N := Int.toNat_of_nonneg (Int.le_trans h.1 h.2.1)
  have := fstN_is p N.toNat
  rw [h0] at this
  exact h.uniq this
def Fst (p : Int → Bool) (N : Int) (w : World) (e : Ending) (w' : World) : Prop := ∃ r : Int, e = .returned (.int .i64 r) ∧ IsFst p N r ∧ Below w.heap.size w w'
/-- the first place of v among the first n, or -1 -/
def idxOf (xs : List Int) (v : Int) : Nat → Int
  | 0 => -1
  | k + 1 => if 0 ≤ idxOf xs v k then idxOf xs v k else if xs.getD k 0 = v then (k : Int) else -1
theorem idxOf_in (xs : List Int) (v : Int) (n : Nat) : -1 ≤ idxOf xs v n ∧ idxOf xs v n < n := by
  induction n with
  | zero => simp [idxOf]
  | succ n ih => rw [idxOf]; split <;> (try split) <;> omega
theorem idxOf_no {xs : List Int} {v : Int} {n : Nat} (h : ∀ i, i < n → xs.getD i 0 ≠ v) : idxOf xs v n = -1 := by
  induction n with
  | zero => rfl
  | succ n ih =>
    rw [idxOf, ih fun i hi => h i (by omega), if_neg (by omega), if_neg (h n (by omega))]
theorem idxOf_at {xs : List Int} {v : Int} {n k : Nat} (hk : k < n) (h : ∀ i, i < k → xs.getD i 0 ≠ v) (hv : xs.getD k 0 = v) : idxOf xs v n = k := by
  induction n with
  | zero => omega
  | succ n ih =>
    rw [idxOf]
    by_cases e : k = n
    · subst e
      rw [idxOf_no h, if_neg (by omega), if_pos hv]
    · rw [ih (by omega), if_pos (by omega)]
theorem idxOf_neg {xs : List Int} {v : Int} {n : Nat} : idxOf xs v n < 0 ↔ ∀ i, i < n → xs.getD i 0 ≠ v := by
  constructor
  · intro h i hi he
    have hex : ∃ k, k < n ∧ xs.getD k 0 = v ∧ ∀ j, j < k → xs.getD j 0 ≠ v := by
      clear h
      induction i using Nat.strongRecOn with
      | _ i ih =>
        by_cases hj : ∃ j, j < i ∧ xs.getD j 0 = v
        · obtain ⟨j, hj1, hj2⟩ := hj
          exact ih j hj1 (by omega) hj2
        · exact ⟨i, hi, he, fun j h1 h2 => hj ⟨j, h1, h2⟩⟩
    obtain ⟨k, hk, hkv, hkn⟩ := hex
    rw [idxOf_at hk hkn hkv] at h
    omega
  · intro h
    rw [idxOf_no h]; omega
theorem iIndex (A : Option Addr) (n c : Nat) (xs : List Int) (v : Int) (w : World) (hn : n ≤ maxLen) (hx : ReadsI w A n xs) :
    Calls Try.prog 73 #[.slice A n c, .int .i64 v] w (Same (i64 (idxOf xs v n)) w) := by
  unfold maxLen at hn
  go_enter Try.func73, Try.ntmps73
  go_wp2
  go_loop [8] (fun i => ∃ k : Nat, k ≤ n ∧ i = .int .i64 k ∧ (∀ i, i < k → xs.getD i 0 ≠ v)) (fun i => n - (intOf i).toNat)
  case atStart => exact ⟨0, Nat.zero_le _, rfl, fun i hi => absurd hi (Nat.not_lt_zero _)⟩
  case round =>
    obtain ⟨k, hk, rfl, ho⟩ := hrel
    have HO := Lib.hid ho
    clear ho
    by_cases hlt : k < n
    · obtain ⟨a, rfl, ha⟩ := hx.2 k hlt
      by_cases he : xs.getD k 0 = v
      · have HV : Hid (idxOf xs v n = k) := Lib.hid (idxOf_at hlt HO.out he)
        rw [he] at ha
        clear he
        go_wp2
        go_ret
        exact ⟨ret_int HV.out.symm, rfl⟩
      · have HN : Hid (∀ i, i = k → xs.getD i 0 ≠ v) := Lib.hid (fun i e => by subst e; exact he)
        have he1 : (v == xs.getD k 0) = false := by simp; exact fun h => he h.symm
        have he2 : (xs.getD k 0 == v) = false := by simp; exact he
        generalize xs.getD k 0 = y at *
        clear he
        go_wp2
        go_round
        case rel => exact ⟨k + 1, by omega, by go_num, fun i hi => by
            by_cases e : i = k
            · exact HN.out i e
            · exact HO.out i (by omega)⟩
        case measure => simp [intOf]; omega
    · obtain rfl : k = n := by omega
      go_wp2
      go_ret
      exact ⟨ret_int (idxOf_no HO.out).symm, rfl⟩
end Go.Proofs.Ythndjpklfgcpmaa
