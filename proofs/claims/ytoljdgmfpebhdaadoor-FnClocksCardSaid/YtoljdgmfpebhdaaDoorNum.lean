/- Plain lemmas on decimal numerals (no dump). -/
import Derived.Lib.ItoaLen
import Derived.Lib.AtoiAll
import Derived.WalkKit
namespace Go.Proofs.YtoljdgmfpebhdaaDoor
open Go.RowKit

def isD (c : UInt8) : Prop := 48 ≤ c.toNat ∧ c.toNat ≤ 57
def stepD (a : Nat) (c : UInt8) : Nat := a * 10 + (c.toNat - 48)
def dv (l : List UInt8) : Nat := l.foldl stepD 0
theorem dv_snoc (l : List UInt8) (c : UInt8) : dv (l ++ [c]) = dv l * 10 + (c.toNat - 48) := by simp [dv, stepD]
theorem digit_toNat (k : Nat) (h : k < 10) : (UInt8.ofNat (48 + k)).toNat = 48 + k := by simp [UInt8.toNat_ofNat']; omega
theorem dec_dig (u : Nat) : ∀ c ∈ Lib.decDigits u, isD c := by
  induction u using Nat.strongRecOn with
  | _ u ih =>
    intro c hc
    rw [Lib.decDigits] at hc
    split at hc
    · rename_i h
      simp only [List.mem_singleton] at hc
      subst hc
      unfold isD; rw [digit_toNat u h]; omega
    · rename_i h
      rcases List.mem_append.1 hc with hc | hc
      · exact ih (u / 10) (by omega) c hc
      · simp only [List.mem_singleton] at hc
        subst hc
        unfold isD; rw [digit_toNat (u % 10) (by omega)]; omega
theorem dv_dec (u : Nat) : dv (Lib.decDigits u) = u := by
  induction u using Nat.strongRecOn with
  | _ u ih =>
    rw [Lib.decDigits]
    split
    · rename_i h
      simp only [dv, stepD, List.foldl_cons, List.foldl_nil]; rw [digit_toNat u h]; omega
    · rename_i h
      rw [dv_snoc, ih (u / 10) (by omega), digit_toNat (u % 10) (by omega)]; omega
theorem dec_ne (u : Nat) : Lib.decDigits u ≠ [] := by
  rw [Lib.decDigits]; split <;> simp
theorem nDigits_le : ∀ (k u : Nat), u < 10 ^ (k + 1) → Lib.nDigits u ≤ k + 1
  | 0, u, h => by rw [Lib.nDigits_small (by simpa using h)]; omega
  | k + 1, u, h => by
    by_cases h1 : u < 10
    · rw [Lib.nDigits_small h1]; omega
    · rw [Lib.nDigits_big h1]
      have := nDigits_le k (u / 10) (by rw [Nat.pow_succ] at h; omega)
      omega
theorem dec_len (u : Nat) (h : u ≤ 1000000000) : (Lib.decDigits u).length ≤ 10 := by
  rw [Lib.decDigits_length]; exact nDigits_le 9 u (by omega)
theorem stepD_le : ∀ (l : List UInt8) (a : Nat), a ≤ l.foldl stepD a
  | [], a => Nat.le_refl a
  | c :: l, a => by
    have := stepD_le l (stepD a c)
    simp only [List.foldl_cons]
    unfold stepD at *
    omega
theorem parse_ok : ∀ (l : List UInt8) (a : Nat), (∀ c ∈ l, isD c) → l.foldl stepD a ≤ 1000000000000 → Lib.parseUint10 a l = .ok (l.foldl stepD a)
  | [], a, _, _ => rfl
  | c :: l, a, hd, hb => by
    have hc := hd c (by simp)
    unfold isD at hc
    have h1 := stepD_le l (stepD a c)
    simp only [List.foldl_cons] at hb ⊢
    unfold Lib.parseUint10
    have h2 : stepD a c = a * 10 + (c.toNat - 48) := rfl
    rw [if_pos hc, if_neg (by omega), if_neg (by omega)]
    exact parse_ok l (stepD a c) (fun x hx => hd x (by simp [hx])) hb
theorem atoi_dec (u : Nat) (h : u ≤ 1000000000) : Lib.atoiAll (Lib.decDigits u) = .ok (u : Int) := by
  have hv := dv_dec u
  have hd := dec_dig u
  have hn := dec_ne u
  generalize Lib.decDigits u = l at *
  match l, hn with
  | c :: r, _ =>
    have hc := hd c (by simp)
    unfold isD at hc
    have hp : Lib.parseUint10 0 (c :: r) = .ok u := by
      rw [parse_ok (c :: r) 0 hd (by unfold dv at hv; omega)]; unfold dv at hv; rw [hv]
    unfold Lib.atoiAll
    simp only [show ¬ (c.toNat = 43 ∨ c.toNat = 45) from by omega, if_false]
    unfold Lib.parseMag
    simp only [hp, if_neg (List.cons_ne_nil c r)]
    have h45 : ¬ c.toNat = 45 := by omega
    simp only [h45, not_false_eq_true, true_and, false_and, if_false]
    rw [if_neg (by omega)]

/-- what ParseUint answers -/
noncomputable def uintRes (l : List UInt8) : Value :=
  haveI := Classical.propDecidable (∃ n : Nat, n ≤ 1000000000 ∧ l = Lib.decDigits n)
  if ∃ n : Nat, n ≤ 1000000000 ∧ l = Lib.decDigits n then .tuple #[.int .i64 (dv l : Nat), .bool true] else .tuple #[.int .i64 0, .bool false]
theorem uintRes_yes (n : Nat) (h : n ≤ 1000000000) : uintRes (Lib.decDigits n) = .tuple #[.int .i64 n, .bool true] := by
  unfold uintRes; rw [if_pos ⟨n, h, rfl⟩, dv_dec]
theorem uintRes_no (l : List UInt8) (h : ∀ n : Nat, n ≤ 1000000000 → l ≠ Lib.decDigits n) : uintRes l = .tuple #[.int .i64 0, .bool false] := by
  unfold uintRes; rw [if_neg (fun ⟨n, h1, h2⟩ => h n h1 h2)]
theorem uintRes_form (l : List UInt8) : ∃ (n : Int) (b : Bool), uintRes l = .tuple #[.int .i64 n, .bool b] := by
  unfold uintRes; split
  · exact ⟨_, _, rfl⟩
  · exact ⟨_, _, rfl⟩
theorem dv_lt : ∀ (l : List UInt8) (a : Nat), (∀ c ∈ l, isD c) → l.foldl stepD a < (a + 1) * 10 ^ l.length
  | [], a, _ => by simp
  | c :: l, a, hd => by
    have hc := hd c (by simp)
    unfold isD at hc
    have h := dv_lt l (stepD a c) (fun x hx => hd x (by simp [hx]))
    simp only [List.foldl_cons, List.length_cons]
    have h2 : stepD a c + 1 ≤ (a + 1) * 10 := by unfold stepD; omega
    calc _ < (stepD a c + 1) * 10 ^ l.length := h
      _ ≤ ((a + 1) * 10) * 10 ^ l.length := Nat.mul_le_mul_right _ h2
      _ = (a + 1) * 10 ^ (l.length + 1) := by rw [Nat.pow_succ, Nat.mul_assoc, Nat.mul_comm 10]
theorem dv_bound (l : List UInt8) (hd : ∀ c ∈ l, isD c) (k : Nat) (hl : l.length ≤ k) : dv l < 10 ^ k := by
  have h := dv_lt l 0 hd
  have h2 : 10 ^ l.length ≤ 10 ^ k := Nat.pow_le_pow_right (by omega) hl
  unfold dv
  omega
end Go.Proofs.YtoljdgmfpebhdaaDoor
