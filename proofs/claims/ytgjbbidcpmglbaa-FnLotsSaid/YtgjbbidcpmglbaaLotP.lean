/- FnLots: the plain facts. -/
import Derived.Test.YtgjbbidcpmglbaaL17b
import Derived.Test.YtgjbbidcpmglbaaH17
import Derived.Test.YtgjbbidcpmglbaaF17
import Derived.Test.YtgjbbidcpmglbaaDsUse
import Derived.Test.YtgjbbidcpmglbaaHas
namespace Go.Proofs.Ytgjbbidcpmglbaa
open Go.Maps Go.Sort Go.Shelf Go.ChangeShapes Go.WideShapes Go.ChangeAt Go.RowKit
set_option linter.unusedVariables false
set_option linter.unusedSimpArgs false
set_option maxHeartbeats 2000000

abbrev PU (xs : List UseR) (n : Nat) : Prop := ∀ i, i < n → (fun v : UseR => (1 ≤ v.f0 ∧ v.f0 ≤ 6) ∧ (1 ≤ v.f1 ∧ v.f1 ≤ 7) ∧ 100 ≤ v.f2 ∧ v.f2 ≤ 299) (xs.getD i ⟨0, 0, 0⟩)
theorem uses_pu {n : Nat} {xs : List UseR} (hn : n ≤ 11) (hx : PU xs n) : usesB n xs = true := by
  rw [uses_n fun i hi => by have := hx i hi; simp only [] at this; unfold uOk useB; rw [show (z17 : UseR) = ⟨0, 0, 0⟩ from rfl]; rw [inB_t (by omega), inB_t (by omega), inB_t (by omega)]; rfl]
  exact decide_eq_true (by omega)
theorem mem_br {n : Nat} {xs : List UseR} (hB : usesB n xs = true) (l y : Int) : y ∈ BreadsOfL n xs l ↔ hasU xs l y n = true := by
  unfold BreadsOfL
  rw [if_pos hB, mem_idxTo]
  unfold brP
  constructor
  · rintro ⟨h1, h2, h3⟩
    rwa [Int.toNat_of_nonneg h1] at h3
  · intro h
    have := hasU_in (uses_at hB).2 h
    exact ⟨by omega, by omega, by rw [Int.toNat_of_nonneg (by omega)]; exact h⟩
theorem mem_lo {n : Nat} {xs : List UseR} (hB : usesB n xs = true) (b y : Int) : y ∈ LotsOfL n xs b ↔ hasU xs y b n = true := by
  unfold LotsOfL
  rw [if_pos hB, mem_idxTo]
  unfold loP
  constructor
  · rintro ⟨h1, h2, h3⟩
    rwa [Int.toNat_of_nonneg h1] at h3
  · intro h
    have := hasU_in (uses_at hB).2 h
    exact ⟨by omega, by omega, by rw [Int.toNat_of_nonneg (by omega)]; exact h⟩
theorem mem_re {n : Nat} {xs : List UseR} (hB : usesB n xs = true) (a y : Int) : y ∈ ReachedL n xs a ↔ Rch n xs a y := by
  unfold ReachedL
  rw [if_pos hB, mem_idxTo]
  unfold reP
  constructor
  · rintro ⟨h1, h2, h3⟩
    rw [Int.toNat_of_nonneg h1] at h3
    exact (reach_iff hB a y).1 h3
  · intro h
    have := h.range hB
    exact ⟨by omega, by omega, by rw [Int.toNat_of_nonneg (by omega)]; exact (reach_iff hB a y).2 h⟩
theorem Rch.trans {n : Nat} {xs : List UseR} {a b c : Int} (h1 : Rch n xs a b) (h2 : Rch n xs b c) : Rch n xs a c := by
  induction h2 with
  | start _ => exact h1
  | step _ p q ih => exact .step ih p q
theorem Rch.symm {n : Nat} {xs : List UseR} {a c : Int} (h : Rch n xs a c) : Rch n xs c a := by
  induction h with
  | start h => exact .start h
  | @step l l' b _ p q ih =>
    obtain ⟨k, hk, e1, _⟩ := hasU_iff.1 q
    exact Rch.trans (.step (.start ⟨k, hk, e1⟩) q p) ih
theorem Rch.named2 {n : Nat} {xs : List UseR} {a x : Int} (h : Rch n xs a x) : ∃ k, k < n ∧ (xs.getD k z17).f0 = a := by
  induction h with
  | start h => exact h
  | step _ _ _ ih => exact ih
def grG (xs : List UseR) (i : Nat) : Int := (xs.getD i z17).f2
def sixU (n : Nat) (xs : List UseR) (j : Nat) : Int := sumTo (fun k => sumTo (usG xs ((k : Int) + 1)) n) j
theorem six_all {xs : List UseR} : ∀ n : Nat, PU xs n → sixU n xs 6 = sumTo (grG xs) n
  | 0, _ => by simp [sixU, sumTo]
  | n + 1, h => by
    have ih := six_all n fun i hi => h i (by omega)
    have h1 := h n (by omega)
    simp only [] at h1
    unfold sixU at ih ⊢
    simp only [sumTo_succ, show ∀ f : Nat → Int, sumTo f 0 = 0 from fun _ => rfl] at ih ⊢
    unfold usG grG at *
    rw [show (z17 : UseR) = ⟨0, 0, 0⟩ from rfl] at *
    generalize (xs.getD n ⟨0, 0, 0⟩).f0 = f0 at *
    generalize (xs.getD n ⟨0, 0, 0⟩).f2 = f2 at *
    rcases (show f0 = 1 ∨ f0 = 2 ∨ f0 = 3 ∨ f0 = 4 ∨ f0 = 5 ∨ f0 = 6 by omega) with e | e | e | e | e | e <;> subst e <;> simp at ih ⊢ <;> omega
theorem us_in {xs : List UseR} (l : Int) : ∀ n : Nat, PU xs n → 0 ≤ sumTo (usG xs l) n ∧ sumTo (usG xs l) n ≤ 299 * n
  | 0, _ => by simp [sumTo]
  | n + 1, h => by
    have ih := us_in l n fun i hi => h i (by omega)
    have h1 := h n (by omega)
    simp only [] at h1
    rw [sumTo_succ]
    unfold usG at ih ⊢
    rw [show (z17 : UseR) = ⟨0, 0, 0⟩ from rfl] at *
    push_cast
    split <;> omega
theorem gr_in {xs : List UseR} : ∀ n : Nat, PU xs n → 0 ≤ sumTo (grG xs) n ∧ sumTo (grG xs) n ≤ 299 * n
  | 0, _ => by simp [sumTo]
  | n + 1, h => by
    have ih := gr_in n fun i hi => h i (by omega)
    have h1 := h n (by omega)
    simp only [] at h1
    rw [sumTo_succ]
    unfold grG at ih ⊢
    rw [show (z17 : UseR) = ⟨0, 0, 0⟩ from rfl] at *
    push_cast
    omega
theorem us_none {xs : List UseR} {l : Int} (hl : 7 ≤ l) : ∀ n : Nat, PU xs n → sumTo (usG xs l) n = 0
  | 0, _ => by simp [sumTo]
  | n + 1, h => by
    have ih := us_none hl n fun i hi => h i (by omega)
    have h1 := h n (by omega)
    simp only [] at h1
    rw [sumTo_succ, ih]
    unfold usG
    rw [show (z17 : UseR) = ⟨0, 0, 0⟩ from rfl, if_neg (by omega)]
    rfl
theorem six_in {n : Nat} {xs : List UseR} (h : PU xs n) : ∀ j : Nat, 0 ≤ sixU n xs j ∧ sixU n xs j ≤ 299 * n * j
  | 0 => by simp [sixU, sumTo]
  | j + 1 => by
    have ih := six_in h j
    have h1 := us_in ((j : Int) + 1) n h
    unfold sixU at ih ⊢
    rw [sumTo_succ]
    push_cast
    rw [Int.mul_add]
    omega
theorem used_pu {n : Nat} {xs : List UseR} (hB : usesB n xs = true) (l : Int) : usedV n xs l = sumTo (usG xs l) n := by unfold usedV; rw [if_pos hB]
theorem br_self {n : Nat} {xs : List UseR} (hB : usesB n xs = true) (l : Int) : idxTo (mP (BreadsOfL n xs l)) 51 = BreadsOfL n xs l := by
  refine lt_ext (idxTo_pair _ _) (by unfold BreadsOfL; rw [if_pos hB]; exact idxTo_pair _ _) fun y => ?_
  rw [mem_idxTo]
  unfold mP memL
  constructor
  · rintro ⟨h1, h2, h3⟩
    rw [Int.toNat_of_nonneg h1] at h3
    simpa using h3
  · intro h
    have := hasU_in (uses_at hB).2 ((mem_br hB l y).1 h)
    exact ⟨by omega, by omega, by rw [Int.toNat_of_nonneg (by omega)]; simpa using h⟩
theorem lots_law {n : Nat} {xs : List UseR} {x b : Int} (hn : n ≤ 11) (hx : PU xs n) (h1 : 1 ≤ x ∧ x ≤ 6) (h2 : 1 ≤ b ∧ b ≤ 7) :
    ∃ BR LO R : List Int, BreadsOfL n xs x = BR ∧ LotsOfL n xs b = LO ∧ ReachedL n xs x = R ∧ BR.length ≤ 50 ∧ LO.length ≤ 51 ∧ R.length ≤ 51 ∧ decide (b ∈ BR) = decide (x ∈ LO) ∧ decide (x ∈ R) = decide (0 < BR.length) ∧
      (∀ k : Int, 1 ≤ k → k ≤ 6 → ∃ Q, ReachedL n xs k = Q ∧ Q.length ≤ 51 ∧ decide (k ∈ R) = decide (x ∈ Q)) ∧
      (∀ t, t < BR.length → ∃ O, (1 ≤ BR.getD t 0 ∧ BR.getD t 0 ≤ 50) ∧ LotsOfL n xs (BR.getD t 0) = O ∧ O.length ≤ 51 ∧ ∀ i, i < O.length → decide (O.getD i 0 ∈ R) = true) ∧
      (∃ S, (0 < BR.length → SuspectsL n xs BR.length BR = S) ∧ (BR.length = 0 → S = []) ∧ S.length ≤ 51 ∧ decide (x ∈ S) = decide (0 < BR.length) ∧ ∀ t, t < S.length → (1 ≤ S.getD t 0 ∧ S.getD t 0 ≤ 50) ∧ BreadsOfL n xs (S.getD t 0) = BR) := by
  have hB := uses_pu hn hx
  have hBR : ∀ y ∈ BreadsOfL n xs x, 1 ≤ y ∧ y ≤ 50 := fun y hy => by have := hasU_in (uses_at hB).2 ((mem_br hB x y).1 hy); omega
  have hlen : (BreadsOfL n xs x).length ≤ 50 := by
    have h3 : BreadsOfL n xs x = idxTo (brP n xs x) 51 := by unfold BreadsOfL; rw [if_pos hB]
    rw [h3]
    have hz : brP n xs x 0 = false := by
      cases e : brP n xs x 0 with
      | false => rfl
      | true => have := hasU_in (uses_at hB).2 e; omega
    have hk : ∀ k, (idxTo (brP n xs x) (k + 1)).length ≤ k := by
      intro k
      induction k with
      | zero => rw [idxTo_f hz]; simp [idxTo]
      | succ k ih =>
        cases e : brP n xs x (k + 1)
        · rw [idxTo_f e]; omega
        · rw [idxTo_t e, List.length_append, List.length_singleton]; omega
    exact hk 50
  have hpos : 0 < (BreadsOfL n xs x).length ↔ ∃ k, k < n ∧ (xs.getD k z17).f0 = x := named_iff hB x
  have hself : Rch n xs x x ↔ 0 < (BreadsOfL n xs x).length := ⟨fun h => hpos.2 h.named2, fun h => .start (hpos.1 h)⟩
  refine ⟨_, _, _, rfl, rfl, rfl, hlen, LotsOfL_len _ _ _, ReachedL_len _ _ _, ?_, ?_, fun k hk1 hk2 => ⟨_, rfl, ReachedL_len _ _ _, ?_⟩, fun t ht => ⟨_, hBR _ (getD_mem ht), rfl, LotsOfL_len _ _ _, fun i hi => ?_⟩, if 0 < (BreadsOfL n xs x).length then SuspectsL n xs (BreadsOfL n xs x).length (BreadsOfL n xs x) else [], fun h => ?_, fun h => ?_, ?_, ?_, fun t ht => ?_⟩
  · rw [decide_eq_decide, mem_br hB, mem_lo hB]
  · rw [decide_eq_decide, mem_re hB, hself]
  · rw [decide_eq_decide, mem_re hB, mem_re hB]
    exact ⟨Rch.symm, Rch.symm⟩
  · rw [decide_eq_true_eq, mem_re hB]
    have e1 := (mem_br hB x _).1 (getD_mem ht)
    have e2 := (mem_lo hB _ _).1 (getD_mem hi)
    have e3 : Rch n xs x x := hself.2 (by omega)
    exact .step e3 e1 e2
  · rw [if_pos h]
  · rw [if_neg (by omega)]
  · split
    · exact SuspectsL_len _ _ _ _
    · simp
  · rw [decide_eq_decide]
    by_cases h : 0 < (BreadsOfL n xs x).length
    · rw [if_pos h]
      refine ⟨fun _ => h, fun _ => ?_⟩
      unfold SuspectsL
      rw [if_pos (by rw [hB, inB_t (by omega)]; unfold allIn; rw [allOk_t _ _ fun i hi => by have := hBR _ (getD_mem hi); exact inB_t this]; rfl), mem_idxTo]
      refine ⟨by omega, by omega, ?_⟩
      unfold suP eqL
      rw [br_self hB, Int.toNat_of_nonneg (by omega)]
      have e : idxTo (brP n xs x) 51 = BreadsOfL n xs x := by unfold BreadsOfL; rw [if_pos hB]
      rw [e]
      simp; omega
    · rw [if_neg h]; exact ⟨fun hm => (List.not_mem_nil hm).elim, fun hp => absurd hp h⟩
  · by_cases h : 0 < (BreadsOfL n xs x).length
    · rw [if_pos h] at ht ⊢
      have hm := getD_mem ht
      generalize (SuspectsL n xs (BreadsOfL n xs x).length (BreadsOfL n xs x)).getD t 0 = y at hm
      unfold SuspectsL at hm
      rw [if_pos (by rw [hB, inB_t (by omega)]; unfold allIn; rw [allOk_t _ _ fun i hi => by have := hBR _ (getD_mem hi); exact inB_t this]; rfl), mem_idxTo] at hm
      obtain ⟨m1, m2, m3⟩ := hm
      unfold suP eqL at m3
      rw [br_self hB, Int.toNat_of_nonneg m1] at m3
      simp only [Bool.and_eq_true, decide_eq_true_eq] at m3
      refine ⟨by omega, ?_⟩
      conv => lhs; unfold BreadsOfL
      rw [if_pos hB]
      exact m3.2
    · rw [if_neg h] at ht; simp at ht
theorem iSuspects0 (A : Option Addr) (n c : Nat) (xs : List UseR) (D : Option Addr) (d : Nat) (w : World) (hn : n ≤ maxLen) (hx : ReadsUse w A n xs) (hB : usesB n xs = true) :
    Calls Try.prog 44 #[.slice A n c, .slice D 0 d] w (RowB [] w) := by
  have HU := Lib.hid (iUsesOk A n c xs w hn hx)
  rw [hB] at HU
  go_enter Try.func44, Try.ntmps44
  go_wp2_with fail
  refine HU.out.mono ?_
  rintro _ w1 ⟨rfl, hb⟩
  go_wp2_with fail
  refine (iIn _ _ _ _).mono ?_
  rintro _ _ ⟨rfl, rfl⟩
  rw [show inB 0 1 50 = false from rfl]
  go_wp2
  go_ret
  exact ⟨none, 0, rfl, ⟨rfl, .inl ⟨rfl, rfl⟩⟩, hb⟩
end Go.Proofs.Ytgjbbidcpmglbaa
