import Derived.Test.YtbnmbnkgpggnmaaDoorSplitI
namespace Go.Proofs.YtbnmbnkgpggnmaaDoor
open Go.ChangeShapes Go.WideShapes Go.ChangeAt Go.RowKit
set_option linter.unusedVariables false

/-- which answer -/
def Answer (s : ByteArray) (xs : List ByteArray) (b : Bool) : Prop :=
  (xs = [] ∧ b = false) ∨ (xs = fields s ∧ b = true ∧ (s.size : Int) ≤ 600 ∧ ∀ i, i < s.size → ¬ bad (chr s i))
theorem split_res (s : ByteArray) : ∃ (xs : List ByteArray) (b : Bool), xs.length ≤ 24 ∧ ((s.size : Int) ≤ 600 → Answer s xs b) ∧
    ((∀ i, i < s.size → ¬ bad (chr s i)) → (fields s).length ≤ 24 → xs = fields s ∧ b = true) ∧
    (((∃ i, i < s.size ∧ bad (chr s i)) ∨ 24 < (fields s).length) → xs = [] ∧ b = false) := by
  by_cases h : (∃ i, i < s.size ∧ bad (chr s i)) ∨ 24 < (fields s).length
  · refine ⟨[], false, by simp, fun _ => .inl ⟨rfl, rfl⟩, fun h1 h2 => ?_, fun _ => ⟨rfl, rfl⟩⟩
    rcases h with ⟨i, hi, hb⟩ | h
    · exact absurd hb (h1 i hi)
    · omega
  · refine ⟨fields s, true, ?_, fun h6 => .inr ⟨rfl, rfl, h6, fun i hi hb => h (.inl ⟨i, hi, hb⟩)⟩, fun _ _ => ⟨rfl, rfl⟩, fun h' => absurd h' h⟩
    have : ¬ 24 < (fields s).length := fun h' => h (.inr h')
    omega

theorem split_both (s : ByteArray) (hs : s.size ≤ maxLen) : ∃ (xs : List ByteArray) (b : Bool), xs.length ≤ 24 ∧ Answer s xs b ∧
    (∀ W, Calls Tryd.prog 17 #[.string s] W (Fielded xs b W)) ∧ (∀ W, Calls Tryd.prog 16 #[.string s] W (Fielded xs b W)) := by
  by_cases h : (s.size : Int) ≤ 600
  · obtain ⟨xs, b, hl, ha, hg, hb⟩ := split_res s
    exact ⟨xs, b, hl, ha h, fun W => specSplit s W h xs b hg hb, fun W => implSplit s W h xs b hg hb⟩
  · exact ⟨[], false, by simp, .inl ⟨rfl, rfl⟩, fun W => specSplit_long s W hs (by omega), fun W => implSplit_long s W hs (by omega)⟩
end Go.Proofs.YtbnmbnkgpggnmaaDoor
