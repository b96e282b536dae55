/- Chapter 17: Suspects: the values, the model. -/
import Derived.Test.YtgjbbidcpmglbaaE17
import Derived.Test.YtgjbbidcpmglbaaIdxM
import Derived.Test.YtgjbbidcpmglbaaAll
namespace Go.Proofs.Ytgjbbidcpmglbaa
open Go.ChangeShapes Go.WideShapes Go.ChangeAt Go.RowKit
set_option linter.unusedVariables false
set_option linter.unusedSimpArgs false
set_option maxHeartbeats 2000000

def memL (xs : List Int) (v : Int) : Bool := decide (v ∈ xs)
def eqL (xs ys : List Int) : Bool := decide (xs = ys)
def mP (bad : List Int) (b : Nat) : Bool := memL bad b
/-- the lots that were used in the bad breads and in no others -/
def suP (n : Nat) (xs : List UseR) (bad : List Int) (l : Nat) : Bool := decide (1 ≤ l) && eqL (idxTo (brP n xs l) 51) (idxTo (mP bad) 51)
def SuspectsL (n : Nat) (xs : List UseR) (m : Nat) (bad : List Int) : List Int := if usesB n xs && (inB m 1 50 && allIn bad 1 50 m) then idxTo (suP n xs bad) 51 else []
theorem SuspectsL_len (n : Nat) (xs : List UseR) (m : Nat) (bad : List Int) : (SuspectsL n xs m bad).length ≤ 51 := by
  unfold SuspectsL; split
  · exact idxTo_len _ _
  · simp
theorem memL_at {xs : List Int} {v : Int} (k : Nat) (hk : k < xs.length) (h : xs.getD k 0 = v) : memL xs v = true := by
  simp only [memL, decide_eq_true_eq]
  rw [← h, List.getD_eq_getElem?_getD, List.getElem?_eq_getElem hk]
  exact List.getElem_mem hk
theorem memL_no {xs : List Int} {v : Int} (h : ∀ k, k < xs.length → xs.getD k 0 ≠ v) : memL xs v = false := by
  simp only [memL, decide_eq_false_iff_not]
  intro hm
  obtain ⟨k, hk, e⟩ := List.getElem_of_mem hm
  exact h k hk (by rw [List.getD_eq_getElem?_getD, List.getElem?_eq_getElem hk]; exact e)
/-- the model's test -/
def inAll (xs ys : List Int) : Nat → Bool := allOk fun i => memL xs (ys.getD i 0)
theorem inAll_iff {xs ys : List Int} : inAll xs ys ys.length = true ↔ ∀ y ∈ ys, y ∈ xs := by
  constructor
  · intro h y hy
    obtain ⟨k, hk, e⟩ := List.getElem_of_mem hy
    have := allOk_at _ _ h k hk
    simp only [memL, decide_eq_true_eq, List.getD_eq_getElem?_getD, List.getElem?_eq_getElem hk] at this
    simpa [e] using this
  · intro h
    refine allOk_t _ _ fun i hi => ?_
    simp only [memL, decide_eq_true_eq]
    refine h _ ?_
    rw [List.getD_eq_getElem?_getD, List.getElem?_eq_getElem hi]
    exact List.getElem_mem hi
theorem both_eq (n : Nat) (xs : List UseR) (l : Int) (bad : List Int) (hb : ∀ i, i < bad.length → 1 ≤ bad.getD i 0 ∧ bad.getD i 0 ≤ 50) :
    (inAll (idxTo (brP n xs l) 51) bad bad.length && inAll bad (idxTo (brP n xs l) 51) (idxTo (brP n xs l) 51).length) = eqL (idxTo (brP n xs l) 51) (idxTo (mP bad) 51) := by
  rw [Bool.eq_iff_iff, Bool.and_eq_true, inAll_iff, inAll_iff]
  simp only [eqL, decide_eq_true_eq]
  constructor
  · rintro ⟨h1, h2⟩
    refine idxTo_congr 51 fun i hi => ?_
    rw [Bool.eq_iff_iff]
    constructor
    · intro h
      have := h2 (i : Int) ((mem_idxTo _ _ _).2 ⟨by omega, by omega, by simpa using h⟩)
      simpa [mP, memL] using this
    · intro h
      have := h1 (i : Int) (by simpa [mP, memL] using h)
      have := ((mem_idxTo _ _ _).1 this).2.2
      simpa using this
  · intro h
    constructor
    · intro y hy
      rw [h]
      obtain ⟨k, hk, e⟩ := List.getElem_of_mem hy
      have := hb k hk
      rw [List.getD_eq_getElem?_getD, List.getElem?_eq_getElem hk] at this
      simp only [Option.getD_some, e] at this
      exact (mem_idxTo _ _ _).2 ⟨by omega, by omega, by simpa [mP, memL, Int.toNat_of_nonneg (show 0 ≤ y by omega)] using hy⟩
    · intro y hy
      rw [h] at hy
      have := (mem_idxTo _ _ _).1 hy
      simpa [mP, memL, Int.toNat_of_nonneg this.1] using this.2.2
end Go.Proofs.Ytgjbbidcpmglbaa
