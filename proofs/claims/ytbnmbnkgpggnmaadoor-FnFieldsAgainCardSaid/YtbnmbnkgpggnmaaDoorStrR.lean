/- Rows of strings: the words (no dump but the type's number). -/
import Derived.Test.YtbnmbnkgpggnmaaDoorBase
namespace Go.Proofs.YtbnmbnkgpggnmaaDoor
open Go.ChangeShapes Go.WideShapes Go.ChangeAt Go.RowKit
set_option linter.unusedVariables false

/-- a row of strings that is read -/
def ReadsS (w : World) (A : Option Addr) (n : Nat) (xs : List ByteArray) : Prop :=
  xs.length = n ∧ ∀ k, k < n → ∃ ad, A = some ad ∧ w.cell? (ad.add k) = some (.string (xs.getD k ByteArray.empty))
def Still (w : World) (v : Value) (e : Ending) (w' : World) : Prop := e = .returned v ∧ Below w.heap.size w w'

def sv (xs : List ByteArray) : List Value := xs.map Value.string
theorem sv_set (xs : List ByteArray) (k : Nat) (b : ByteArray) : sv (xs.set k b) = (sv xs).set k (.string b) := by simp [sv, List.map_set]
theorem sv_at (xs : List ByteArray) (k : Nat) (h : k < xs.length) : (sv xs)[k]? = some (.string (xs.getD k ByteArray.empty)) := by simp [sv, h]
theorem reads_own {w : World} {base n c : Nat} {A : Option Addr} {xs : List ByteArray} (h : w.ownsRow base 9 1 (.slice A n c) n (sv xs)) : ReadsS w A n xs := by
  have hl : xs.length = n := by have := h.1; simp [sv] at this; exact this
  refine ⟨hl, fun k hk => ?_⟩
  obtain ⟨g, cap, hv, _, _⟩ := h.form (by omega)
  injection hv with h1 h2 h3
  subst h1 h3
  exact ⟨_, rfl, by rw [Addr.add_lit, Nat.zero_add, h.cellAt k (by omega)]; exact sv_at xs k (by omega)⟩

end Go.Proofs.YtbnmbnkgpggnmaaDoor
