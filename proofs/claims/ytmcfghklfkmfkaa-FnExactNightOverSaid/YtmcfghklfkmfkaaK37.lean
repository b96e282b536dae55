/- Chapter 37: Strike. -/
import Derived.Test.YtmcfghklfkmfkaaJ37
namespace Go.Proofs.Ytmcfghklfkmfkaa
open Go.ChangeShapes Go.WideShapes Go.ChangeAt Go.RowKit
set_option linter.unusedVariables false
set_option linter.unusedSimpArgs false
set_option maxHeartbeats 2000000

theorem rowBkV_of {w w' : World} {g n cp : Nat} {xs ys : List EventR} {s t : BkS} {v u : Value} (hx : ys = xs) (hs : t = s) (hv : u = v) (ho : OCEvent w' g n cp xs) (hg : w.heap.size ≤ g) (hb : Below w.heap.size w w') : RowBkV ys.length ys t u w (.returned (.tuple #[.agg (bkC (some ⟨g, 0, none⟩) n cp s), v])) w' := by
  subst hx hs hv
  have hl := ho.len
  subst hl
  exact ⟨g, cp, rfl, ho, hg, hb⟩
end Go.Proofs.Ytmcfghklfkmfkaa
