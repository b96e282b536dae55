/- FnTills: the plain facts; the law's own has. -/
import Derived.Test.YtgjbbidcpmglbaaE35
import Derived.Test.YtgjbbidcpmglbaaD35
import Derived.Test.YtgjbbidcpmglbaaIdx
import Derived.Test.YtgjbbidcpmglbaaDsSlip
import Derived.Test.YtgjbbidcpmglbaaAtAll
namespace Go.Proofs.Ytgjbbidcpmglbaa
open Go.ChangeShapes Go.WideShapes Go.ChangeAt Go.RowKit
set_option linter.unusedVariables false
set_option linter.unusedSimpArgs false
set_option maxHeartbeats 2000000

def hasB (xs : List Int) (x : Int) (n : Nat) : Bool := !allOk (fun i => !(xs.getD i 0 == x)) n
theorem has_c (A : Option Addr) (n c : Nat) (xs : List Int) (x : Int) (w : World) (hm : n ≤ 1000) (h : ReadsI w A n xs) :
    Calls Try.prog 16 #[.slice A n c, .int .i64 x] w (Same (.bool (hasB xs x n)) w) := by
  go_enter Try.func16, Try.ntmps16
  go_wp2
  go_loop [5] (fun i => ∃ k : Nat, k ≤ n ∧ i = .int .i64 k ∧ ∀ j, j < k → (xs.getD j 0 == x) = false) (fun i => n - (intOf i).toNat)
  case atStart => exact ⟨0, Nat.zero_le _, rfl, fun j hj => absurd hj (Nat.not_lt_zero j)⟩
  case round =>
    obtain ⟨k, hk, rfl, hj⟩ := hrel
    by_cases hlt : k < n
    · obtain ⟨ad, rfl, hc⟩ := h.2 k hlt
      have HJ := Lib.hid hj
      clear hj
      by_cases he : xs.getD k 0 = x
      · have HV : Hid (hasB xs x n = true) := Lib.hid (by
          unfold hasB
          rw [allOk_f _ _ k hlt (by rw [he]; simp)]
          rfl)
        rw [he] at hc
        go_wp2
        go_ret
        rw [HV.out]
        exact ⟨ret_bool rfl, rfl⟩
      · have he2 : (xs.getD k 0 == x) = false := by simpa using he
        have HE := Lib.hid (fun (j : Nat) (hjk : j = k) => show (xs.getD j 0 == x) = false by subst hjk; exact he2)
        clear he2
        generalize xs.getD k 0 = y at *
        go_wp2
        go_round
        case rel => exact ⟨k + 1, by omega, by go_num, fun j hj => by
          by_cases hjk : j < k
          · exact HJ.out j hjk
          · exact HE.out j (by omega)⟩
        case measure => simp [intOf]; omega
    · obtain rfl : k = n := by omega
      have HV : Hid (hasB xs x k = false) := Lib.hid (by
        unfold hasB
        rw [allOk_t _ _ fun i hi => by rw [hj i hi]; rfl]
        rfl)
      go_wp2
      go_ret
      rw [HV.out]
      exact ⟨ret_bool rfl, rfl⟩
theorem has_idx (p : Nat → Bool) : ∀ (n k : Nat), k < n → hasB (idxTo p n) (k : Int) (idxTo p n).length = p k := by
  have mem : ∀ (n k : Nat), (∃ i, i < (idxTo p n).length ∧ (idxTo p n).getD i 0 = (k : Int)) ↔ (k < n ∧ p k = true) := by
    intro n
    induction n with
    | zero => intro k; simp [idxTo]
    | succ n ih =>
      intro k
      by_cases hp : p n = true
      · rw [idxTo_t hp]
        constructor
        · rintro ⟨i, hi, he⟩
          by_cases hl : i < (idxTo p n).length
          · rw [List.getD_eq_getElem?_getD, List.getElem?_append_left hl, ← List.getD_eq_getElem?_getD] at he
            have := (ih k).1 ⟨i, hl, he⟩
            exact ⟨by omega, this.2⟩
          · rw [List.length_append, List.length_singleton] at hi
            obtain rfl : i = (idxTo p n).length := by omega
            rw [List.getD_eq_getElem?_getD, List.getElem?_append_right (by omega)] at he
            simp at he
            obtain rfl : n = k := by omega
            exact ⟨by omega, hp⟩
        · rintro ⟨h1, h2⟩
          by_cases hk : k < n
          · obtain ⟨i, hi, he⟩ := (ih k).2 ⟨hk, h2⟩
            refine ⟨i, by rw [List.length_append]; omega, ?_⟩
            rw [List.getD_eq_getElem?_getD, List.getElem?_append_left hi, ← List.getD_eq_getElem?_getD]
            exact he
          · obtain rfl : k = n := by omega
            refine ⟨(idxTo p k).length, by rw [List.length_append, List.length_singleton]; omega, ?_⟩
            rw [List.getD_eq_getElem?_getD, List.getElem?_append_right (by omega)]
            simp
      · rw [idxTo_f (by simpa using hp), ih k]
        constructor
        · rintro ⟨h1, h2⟩; exact ⟨by omega, h2⟩
        · rintro ⟨h1, h2⟩
          refine ⟨?_, h2⟩
          by_cases hk : k = n
          · subst hk; exact absurd h2 hp
          · omega
  intro n k hk
  cases hpk : p k with
  | true =>
    obtain ⟨i, hi, he⟩ := (mem n k).2 ⟨hk, hpk⟩
    unfold hasB
    rw [allOk_f _ _ i hi (by rw [he]; simp)]
    rfl
  | false =>
    unfold hasB
    rw [allOk_t _ _ fun i hi => by
      have : ¬ (idxTo p n).getD i 0 = (k : Int) := fun he => by
        have := (mem n k).1 ⟨i, hi, he⟩
        rw [hpk] at this
        cases this.2
      simpa using this]
    rfl
def soldF (xs : List SlipR) (i : Nat) : Int := (xs.getD i z35).f0
def difF (xs : List SlipR) (i : Nat) : Int := (xs.getD i z35).f1 - (xs.getD i z35).f2 - (xs.getD i z35).f0
theorem till_shift (xs : List SlipR) (st : Int) : ∀ k, tillTo xs st k = st + sumTo (soldF xs) k + sumTo (difF xs) k
  | 0 => by simp [tillTo, sumTo]
  | k + 1 => by
    rw [tillTo, till_shift xs st k, sumTo_succ, sumTo_succ]
    unfold soldF difF
    omega
theorem low_shift (xs : List SlipR) (st : Int) : ∀ k, lowTo xs st k = lowTo xs 0 k + st
  | 0 => by simp [lowTo]
  | k + 1 => by
    rw [lowTo, lowTo, low_shift xs st k, till_shift xs st, till_shift xs 0]
    omega
theorem low_dn (xs : List SlipR) (hx : ∀ i, -400 ≤ difF xs i + soldF xs i) : True := trivial
theorem idx_nil {p : Nat → Bool} : ∀ n, (idxTo p n).length = 0 → ∀ i, i < n → p i = false
  | 0, _, i, hi => absurd hi (Nat.not_lt_zero i)
  | n + 1, h, i, hi => by
    by_cases hp : p n = true
    · rw [idxTo_t hp, List.length_append] at h
      simp at h
    · have hp' : p n = false := by simpa using hp
      rw [idxTo_f hp'] at h
      by_cases e : i = n
      · subst e; exact hp'
      · exact idx_nil n h i (by omega)
abbrev PS (xs : List SlipR) (n : Nat) : Prop := ∀ i, i < n → (fun v : SlipR => (0 ≤ v.f0 ∧ v.f0 ≤ 199) ∧ (0 ≤ v.f1 ∧ v.f1 ≤ 298) ∧ 0 ≤ v.f2 ∧ v.f2 ≤ 398) (xs.getD i ⟨0, 0, 0⟩)
theorem sold_in {xs : List SlipR} : ∀ n : Nat, PS xs n → (0 ≤ sumTo (soldF xs) n ∧ sumTo (soldF xs) n ≤ 199 * n) ∧ -(600 * (n : Int)) ≤ sumTo (difF xs) n ∧ sumTo (difF xs) n ≤ 300 * n
  | 0, _ => by simp [sumTo]
  | n + 1, h => by
    have ih := sold_in n fun i hi => h i (by omega)
    have h1 := h n (by omega)
    simp only [] at h1
    rw [sumTo_succ, sumTo_succ]
    unfold soldF difF at ih ⊢
    rw [show (z35 : SlipR) = ⟨0, 0, 0⟩ from rfl] at *
    push_cast
    omega
theorem till_law {n : Nat} {xs : List SlipR} (hn : n ≤ 9) (hx : PS xs n) :
    ∃ s e lo : Int, startV n xs = s ∧ (0 ≤ s ∧ s ≤ 10000) ∧ lowV n xs s = 0 ∧ (0 < s → lowV n xs (s - 1) = -1) ∧ lowV n xs 500 = lo ∧ lo ≤ e ∧ lo ≤ 500 ∧ tillV n xs 500 = e ∧ (-10000 ≤ e ∧ e ≤ 10000) ∧ tillV n xs 501 = e + 1 ∧
      (∀ c, 0 ≤ c → c ≤ 1020 → missV n xs 500 c = e - c) ∧ e = 500 + sumTo (soldF xs) n + sumTo (difF xs) n ∧ ((idxTo (wrP xs) n).length = 0 → sumTo (difF xs) n = 0) ∧ WrongSlipsL n xs = idxTo (wrP xs) n := by
  have hx' : ∀ i, i < n → (0 ≤ (xs.getD i z35).f0 ∧ (xs.getD i z35).f0 ≤ 199) ∧ (0 ≤ (xs.getD i z35).f1 ∧ (xs.getD i z35).f1 ≤ 298) ∧ 0 ≤ (xs.getD i z35).f2 ∧ (xs.getD i z35).f2 ≤ 398 := fun i hi => hx i hi
  have hc : ∀ st : Int, 0 ≤ st → st ≤ 100000 → cntB n xs st = true := fun st h0 h1 => by
    unfold cntB
    rw [allOk_t _ _ fun i hi => by have := hx' i hi; unfold amK amB; rw [inB_t (by omega), inB_t (by omega), inB_t (by omega)]; rfl, decide_eq_true (by omega), inB_t ⟨h0, h1⟩]
    rfl
  have hs := fun k (hk : k ≤ n) => sold_in (xs := xs) k fun i hi => hx i (by omega)
  obtain ⟨l1, l2, j, hj, lj⟩ := low_in (n := n) (xs := xs) (st := 0) n
  have l3 := hs j hj
  rw [till_shift] at lj
  have l4 := hs n (Nat.le_refl _)
  obtain ⟨L, hL⟩ : ∃ L, lowTo xs 0 n = L := ⟨_, rfl⟩
  rw [hL] at l1 lj
  have hLo : ∀ st : Int, 0 ≤ st → st ≤ 100000 → lowV n xs st = L + st := fun st h0 h1 => by unfold lowV; rw [hc st h0 h1, if_pos rfl, low_shift, hL]
  have hTi : ∀ st : Int, 0 ≤ st → st ≤ 100000 → tillV n xs st = st + sumTo (soldF xs) n + sumTo (difF xs) n := fun st h0 h1 => by unfold tillV; rw [hc st h0 h1, if_pos rfl, till_shift]
  have l5 := l2 n (Nat.le_refl _)
  rw [hL, till_shift] at l5
  have hj9 : (j : Int) ≤ 9 := by omega
  have hn9 : (n : Int) ≤ 9 := by omega
  refine ⟨-L, 500 + sumTo (soldF xs) n + sumTo (difF xs) n, L + 500, ?_, by omega, ?_, fun h => ?_, hLo 500 (by omega) (by omega), by omega, by omega, hTi 500 (by omega) (by omega), by omega, ?_, fun c h0 h1 => ?_, rfl, fun h => ?_, ?_⟩
  · unfold startV; rw [hc 0 (by omega) (by omega), if_pos rfl, hL, if_neg (by omega)]
  · rw [hLo _ (by omega) (by omega)]; omega
  · rw [hLo _ (by omega) (by omega)]; omega
  · rw [hTi 501 (by omega) (by omega)]; omega
  · unfold missV
    rw [hc 500 (by omega) (by omega), inB_t (n := c) (by omega), till_shift]
    rfl
  · have hw := idx_nil n h
    have : ∀ k, k ≤ n → sumTo (difF xs) k = 0 := by
      intro k
      induction k with
      | zero => intro _; rfl
      | succ k ih =>
        intro hk
        have h1 := hw k (by omega)
        rw [sumTo_succ, ih (by omega)]
        have h2 : slipB (xs.getD k z35).f0 (xs.getD k z35).f1 (xs.getD k z35).f2 = true := by simpa [wrP] using h1
        unfold slipB at h2
        simp only [Bool.and_eq_true, beq_iff_eq] at h2
        have h3 := h2.2
        unfold difF
        omega
    exact this n (Nat.le_refl _)
  · unfold WrongSlipsL; rw [if_pos (by omega)]
end Go.Proofs.Ytgjbbidcpmglbaa
