/- The fields of a line: the plain definitions, and what a row of strings is grown by. -/
import Derived.Test.YtbnmbnkgpggnmaaDoorRows
import Derived.Test.YtbnmbnkgpggnmaaDoorStrR
import Derived.WalkSpells
namespace Go.Proofs.YtbnmbnkgpggnmaaDoor
open Go.ChangeShapes Go.WideShapes Go.ChangeAt Go.RowKit
set_option linter.unusedVariables false

def chr (s : ByteArray) (i : Nat) : UInt8 := s.data.toList.getD i 0
theorem chr_get (s : ByteArray) (i : Nat) (h : i < s.size) : chr s i = s[i] := by
  unfold chr
  rw [List.getD_eq_getElem?_getD, List.getElem?_eq_getElem (by simpa using h)]; rfl
def bad (c : UInt8) : Prop := c.toNat < 32 ∨ 126 < c.toNat
def addF (fs : List ByteArray) (f : ByteArray) : List ByteArray := if f.size = 0 then fs else fs ++ [f]
def stepF (s : ByteArray) (p : List ByteArray × Nat) (i : Nat) : List ByteArray × Nat := if chr s i = 32 then (addF p.1 (s.extract p.2 i), i + 1) else p
def stF (s : ByteArray) (k : Nat) : List ByteArray × Nat := (List.range k).foldl (stepF s) ([], 0)
theorem stF_succ (s : ByteArray) (k : Nat) : stF s (k + 1) = stepF s (stF s k) k := by
  unfold stF; rw [List.range_succ, List.foldl_append]; rfl
theorem stF_space (s : ByteArray) (k : Nat) (h : chr s k = 32) : stF s (k + 1) = (addF (stF s k).1 (s.extract (stF s k).2 k), k + 1) := by
  rw [stF_succ]; unfold stepF; rw [if_pos h]
theorem stF_other (s : ByteArray) (k : Nat) (h : chr s k ≠ 32) : stF s (k + 1) = stF s k := by
  rw [stF_succ]; unfold stepF; rw [if_neg h]
theorem addF_len (fs : List ByteArray) (f : ByteArray) : (addF fs f).length ≤ fs.length + 1 := by unfold addF; split <;> simp
theorem stF_le (s : ByteArray) : ∀ k, (stF s k).2 ≤ k ∧ (stF s k).1.length ≤ k
  | 0 => ⟨Nat.le_refl _, Nat.le_refl _⟩
  | k + 1 => by
    have ih := stF_le s k
    by_cases h : chr s k = 32
    · rw [stF_space s k h]
      have := addF_len (stF s k).1 (s.extract (stF s k).2 k)
      exact ⟨Nat.le_refl _, by simp only; omega⟩
    · rw [stF_other s k h]; omega
def fields (s : ByteArray) : List ByteArray := addF (stF s s.size).1 (s.extract (stF s s.size).2 s.size)
theorem ext_size (s : ByteArray) (a b : Nat) (h : b ≤ s.size) : (s.extract a b).size = b - a := by
  rw [ByteArray.size_extract]; omega
theorem addF_empty (fs : List ByteArray) (s : ByteArray) (a b : Nat) (h : b ≤ s.size) (hab : ¬ a < b) : addF fs (s.extract a b) = fs := by
  unfold addF; rw [if_pos (by rw [ext_size s a b h]; omega)]
theorem addF_more (fs : List ByteArray) (s : ByteArray) (a b : Nat) (h : b ≤ s.size) (hab : a < b) : addF fs (s.extract a b) = fs ++ [s.extract a b] := by
  unfold addF; rw [if_neg (by rw [ext_size s a b h]; omega)]

theorem infoS : (Tryd.prog.info? 9).map (fun i => (i.zero, i.size, i.bytes)) = some (some (.string ByteArray.empty), 1, 16) := by kernel_rfl
theorem one_str (s : ByteArray) : ∀ u ∈ (#[Value.string s] : Array Value).toList, u.oneCell' = true := by simp [Value.oneCell']
theorem sv_app (a b : List ByteArray) : sv (a ++ b) = sv a ++ sv b := by simp [sv]
end Go.Proofs.YtbnmbnkgpggnmaaDoor
