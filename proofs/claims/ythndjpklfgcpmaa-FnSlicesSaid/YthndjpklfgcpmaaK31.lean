/- Chapter 31: Shares: the values, the specification. -/
import Derived.Test.YthndjpklfgcpmaaC31
import Derived.Test.YthndjpklfgcpmaaOwnI
import Derived.Test.YthndjpklfgcpmaaAppS
namespace Go.Proofs.Ythndjpklfgcpmaa
open Go.ChangeShapes Go.WideShapes Go.ChangeAt Go.RowKit
set_option linter.unusedVariables false
set_option linter.unusedSimpArgs false
set_option maxHeartbeats 2000000

def geP (v s : Int) : Bool := decide (v ≤ s)
def mulP (whole N s : Int) : Bool := decide (whole ≤ s * N)
/-- the sum since the last cut, and the cuts, behind k parts -/
def ctS (P : Int → Bool) (xs : List Int) : Nat → Int × List Int
  | 0 => (0, [])
  | k + 1 => if P ((ctS P xs k).1 + xs.getD k 0) then (0, (ctS P xs k).2 ++ [((k + 1 : Nat) : Int)]) else ((ctS P xs k).1 + xs.getD k 0, (ctS P xs k).2)
theorem ctS_t {P : Int → Bool} {xs : List Int} {k : Nat} (h : P ((ctS P xs k).1 + xs.getD k 0) = true) : ctS P xs (k + 1) = (0, (ctS P xs k).2 ++ [((k + 1 : Nat) : Int)]) := by rw [ctS, if_pos h]
theorem ctS_f {P : Int → Bool} {xs : List Int} {k : Nat} (h : P ((ctS P xs k).1 + xs.getD k 0) = false) : ctS P xs (k + 1) = ((ctS P xs k).1 + xs.getD k 0, (ctS P xs k).2) := by rw [ctS, h]; rfl
theorem drop_at (xs : List Int) (p i : Nat) : (xs.drop p).getD i 0 = xs.getD (p + i) 0 := by simp [List.getD_eq_getElem?_getD]
theorem ct_no {P : Int → Bool} {xs : List Int} {p : Nat} {L : List Int} (h0 : ctS P xs p = (0, L)) : ∀ i : Nat, (∀ j, 0 < j → j ≤ i → P (lsum (xs.drop p) j) = false) → ctS P xs (p + i) = (lsum (xs.drop p) i, L)
  | 0, _ => h0
  | i + 1, h => by
    have ih := ct_no h0 i fun j h1 h2 => h j h1 (by omega)
    have h2 := h (i + 1) (by omega) (Nat.le_refl _)
    rw [lsum_succ, drop_at] at h2
    rw [← Nat.add_assoc, ctS_f (by rw [ih]; exact h2), ih, lsum_succ, drop_at]
theorem ct_yes {P : Int → Bool} {xs : List Int} {p : Nat} {L : List Int} (h0 : ctS P xs p = (0, L)) (i : Nat) (h : ∀ j, 0 < j → j ≤ i → P (lsum (xs.drop p) j) = false) (hy : P (lsum (xs.drop p) (i + 1)) = true) : ctS P xs (p + (i + 1)) = (0, L ++ [((p + (i + 1) : Nat) : Int)]) := by
  have ih := ct_no h0 i h
  rw [lsum_succ, drop_at] at hy
  rw [← Nat.add_assoc, ctS_t (by rw [ih]; exact hy), ih]
theorem ct_pre (P : Int → Bool) (xs : List Int) (p : Nat) : ∀ d : Nat, ∃ M, (ctS P xs (p + d)).2 = (ctS P xs p).2 ++ M
  | 0 => ⟨[], by simp⟩
  | d + 1 => by
    obtain ⟨M, hM⟩ := ct_pre P xs p d
    rw [← Nat.add_assoc, ctS]
    split
    · exact ⟨M ++ [((p + d + 1 : Nat) : Int)], by simp [hM]⟩
    · exact ⟨M, hM⟩
theorem ct_len (P : Int → Bool) (xs : List Int) : ∀ k : Nat, (ctS P xs k).2.length ≤ k
  | 0 => by simp [ctS]
  | k + 1 => by
    have := ct_len P xs k
    rw [ctS]
    split
    · simp; omega
    · simp; omega
theorem ct_sum {P : Int → Bool} {xs : List Int} {n : Nat} (h : ∀ i, i < n → 0 ≤ xs.getD i 0 ∧ xs.getD i 0 ≤ 1000) : ∀ k : Nat, k ≤ n → 0 ≤ (ctS P xs k).1 ∧ (ctS P xs k).1 ≤ 1000 * k
  | 0, _ => by simp [ctS]
  | k + 1, hk => by
    have ih := ct_sum (P := P) h k (by omega)
    have h1 := h k (by omega)
    rw [ctS]
    split
    · simp; omega
    · simp only []; push_cast; omega
theorem ge_mul {whole N s : Int} (hN : 1 ≤ N) : geP ((whole + N - 1) / N) s = mulP whole N s := by
  unfold geP mulP
  rw [decide_eq_decide]
  have h1 : (whole + N - 1) / N ≤ s ↔ (whole + N - 1) / N < s + 1 := by omega
  rw [h1, Int.ediv_lt_iff_lt_mul (by omega), Int.add_mul]
  omega
theorem ct_same {P Q : Int → Bool} (h : ∀ s, P s = Q s) (xs : List Int) : ∀ k, ctS P xs k = ctS Q xs k
  | 0 => rfl
  | k + 1 => by rw [ctS, ctS, ct_same h xs k, h]
def cutL (n : Nat) (xs : List Int) (v : Int) : List Int := (ctS (geP v) xs n).2
def SharesB (n : Nat) (xs : List Int) (N : Int) : Bool := cakeB n xs && inB N 1 10 && decide (N ≤ ((cutL n xs ((lsum xs n + N - 1) / N)).length : Int))
def SharesL (n : Nat) (xs : List Int) (N : Int) : List Int := if SharesB n xs N then (cutL n xs ((lsum xs n + N - 1) / N)).take (N.toNat - 1) else []
theorem SharesL_len (n : Nat) (xs : List Int) (N : Int) : (SharesL n xs N).length ≤ 100000 := by
  unfold SharesL
  split
  · rename_i h
    simp only [SharesB, Bool.and_eq_true] at h
    have h1 := inB_tt h.1.2
    rw [List.length_take]
    omega
  · simp
theorem own_take {w : World} {B m c k : Nat} {A : Option Addr} {L : List Int} (h : w.ownsRow B 3 1 (.slice A m c) m (iv L)) (hk : k ≤ m) : w.ownsRow B 3 1 (.slice A k c) k (iv (L.take k)) := by
  have hl := own_len_i h
  refine ⟨by rw [iv_len, List.length_take]; omega, ?_⟩
  rcases h.2 with ⟨h1, h2⟩ | ⟨g, cap, cur, hv, hg, hh, hnc, hcm, hcs, htake⟩
  · injection h1 with e1 e2 e3
    subst e1 e2 e3
    obtain rfl : k = 0 := by omega
    obtain rfl : L = [] := List.length_eq_zero_iff.1 hl
    exact .inl ⟨rfl, rfl⟩
  · injection hv with e1 e2 e3
    subst e1 e3
    refine .inr ⟨g, c, cur, rfl, hg, hh, by omega, hcm, hcs, ?_⟩
    have h9 := congrArg (List.take k) htake
    rw [List.take_take, show min k (m * 1) = k * 1 by omega] at h9
    rw [h9]
    simp [iv, List.map_take]
theorem own_new1 (w : World) (t : TypeId) (B : Nat) (hB : B ≤ w.heap.size) : (w.alloc (.cells #[] t)).ownsRow B t 1 (.slice (some ⟨w.heap.size, 0, none⟩) 0 0) 0 [] :=
  ⟨by simp, .inr ⟨w.heap.size, 0, #[], rfl, hB, heap_alloc_new w _, Nat.le_refl _, Nat.zero_le _, by simp, by simp⟩⟩
theorem infoK : (Try.prog.info? 3).map (fun i => (i.zero, i.size, i.bytes)) = some (some (.int .i64 0), 1, 8) := by kernel_rfl
end Go.Proofs.Ythndjpklfgcpmaa
