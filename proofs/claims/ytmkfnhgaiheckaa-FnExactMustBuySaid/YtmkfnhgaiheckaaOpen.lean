/- Opening a slice of structs that came in (no dump). -/
import Derived.Test.YtmkfnhgaiheckaaVal
import Derived.Deep.Slices
import Derived.Deep.Fields
import Derived.ChangeSame
namespace Go.Proofs.Ytmkfnhgaiheckaa
open Go.ChangeShapes Go.WideShapes Go.Deep
set_option linter.unusedVariables false
theorem list_of {α : Type} (d : α) (p : Nat → α → Prop) (n : Nat) (h : ∀ i, i < n → ∃ x, p i x) : ∃ xs : List α, xs.length = n ∧ ∀ i, i < n → p i (xs.getD i d) := by
  induction n with
  | zero => exact ⟨[], rfl, fun i hi => absurd hi (Nat.not_lt_zero _)⟩
  | succ n ih =>
    obtain ⟨xs, hl, hp⟩ := ih fun i hi => h i (by omega)
    obtain ⟨x, hx⟩ := h n (by omega)
    refine ⟨xs ++ [x], by simp [hl], fun i hi => ?_⟩
    by_cases e : i = n
    · subst e
      have : (xs ++ [x]).getD i d = x := by rw [List.getD_eq_getElem?_getD, ← hl]; simp
      rw [this]; exact hx
    · have hlt : i < xs.length := by omega
      have : (xs ++ [x]).getD i d = xs.getD i d := by rw [List.getD_eq_getElem?_getD, List.getD_eq_getElem?_getD, List.getElem?_append_left hlt]
      rw [this]; exact hp i (by omega)
/-- field j of element i lies in a cell, and reads by its own type -/
theorem rows_open {H : Type} {enc : TypeId × Value → H} {P : Program} {w : World} {base : Nat} {spare : Nat → Bool} {held : Bool} {t e : TypeId} {fs : Array Field} {fuel : Nat} {A : Option Addr} {n c : Nat} {x : DataW H × List MemPlace}
    (ht : P.underlying t = some (.slice e)) (he : P.underlying e = some (.struct fs)) (hone : oneCellFields P fs = true) (hC : P.cellsOf e = fs.size)
    (h : DataW.trod enc P w base spare held fuel t [.slice A n c] = some x) :
    n ≤ maxLen ∧ ∀ i, i < n → ∃ a, A = some a ∧ ∀ (j : Nat) (f : Field), fs[j]? = some f → ∃ (v : Value) (k : Nat) (y : DataW H × List MemPlace), w.cell? (a.add (i * fs.size + j)) = some v ∧ DataW.trod enc P w base spare held k f.type [v] = some y := by
  rcases open_slice ht h with ⟨hcs, _⟩ | ⟨a, len, cap, m, k, D, Pl, hcs, hb, hl, hm, hmm, hx, hi⟩
  · simp at hcs
    obtain ⟨rfl, rfl, rfl⟩ := hcs
    exact ⟨Nat.zero_le _, fun i hi => absurd hi (Nat.not_lt_zero _)⟩
  · simp at hcs
    obtain ⟨rfl, rfl, rfl⟩ := hcs
    refine ⟨by omega, fun i hin => ⟨a, rfl, fun j f hj => ?_⟩⟩
    obtain ⟨cs, hc, htr⟩ := hi i (by rw [hmm]; split <;> omega)
    obtain ⟨_, hlen, hat⟩ := World.cells?_some hc
    obtain ⟨ys, k', _, _, _, hys, hf⟩ := DataW.trod_struct he htr
    obtain ⟨ho, hk⟩ := hone_of hone j f hj
    have hj' : j < fs.size := (Array.getElem?_eq_some_iff.1 hj).1
    have h1 := hf j f hj
    have hlt : j < cs.length := by omega
    rw [ho, hk, List.drop_eq_getElem_cons hlt, List.take_succ_cons, List.take_zero] at h1
    refine ⟨cs[j], k', ys[j]'(by omega), ?_, h1.trans (List.getElem?_eq_getElem (by omega))⟩
    have h2 := hat j (by omega)
    rw [add_add, hC, List.getElem?_eq_getElem hlt] at h2
    exact h2
/-- a cell behind the first of an element, as the walk reckons its place -/
theorem cell_next {w : World} {a : Addr} {i j : Nat} {v : Value} (hj : j ≠ 0) (h : w.cell? (a.add (i + j)) = some v) : w.cell? ⟨(a.add i).block, (a.add i).off + j, none⟩ = some v := by
  rw [← add_add] at h
  have : (a.add i).add j = ⟨(a.add i).block, (a.add i).off + j, none⟩ := by
    generalize a.add i = b
    unfold Addr.add
    rw [if_neg hj]
  rwa [this] at h
end Go.Proofs.Ytmkfnhgaiheckaa
