/-
  No cell of these rows narrows 'for every input' (looked for: loops, veiled, ifaces, maps, wideKeys, modest, calm, conditions, laid).
  DERIVED. THE GIVEN ROWS OF THIS SEAT. 6 by the template 'for every input the law returns true; each argument reads behind the call as it read before'; 0 by the template 'total and deterministic' (their statements: YtkibabajalajeaaTotals.lean).
  GIVEN WITH THE SEED: the statements are not yours to turn. If you find one false, say at which input.
  Laid BY PROGRAM, IN A SANDBOX (cutbox-rows.mjs): the forced cells as the released guide's own fill.sh prints them over the translation b662c53c6fddb282… (all of the seat's roots in one cut). By AI agents, Wed Nov 11 2026. No macro, syntax, notation, axiom, sorry.
-/
import Derived.Test.YtkibabajalajeaaChecked
import GoSem.Claim
import GoSem.ClaimJoined
import GoSem.ClaimMapViews
import Derived.JoinedTies
import Derived.KernelRfl
namespace Go.Proofs.Ytkibabajalajeaa
/- THE CELL 'sum', in the pinned program and in every row, IS THE sha256 OF THE DUMP (.gsa) THAT YtkibabajalajeaaProg.lean LOADS. Nothing in Lean hashes anything: it is a label: what it is worth is what the hold of that sum in a sandbox is worth. -/
noncomputable def Try.pinned : Pinned := { name := "ytkibabajalajeaa", sum := "b662c53c6fddb28233b14b91038a69552057825624ad1e0179230a75b6a09df2", checked := Try.checked }
namespace Rows
def none {H : Type} : Left H := { results := [], args := [] }

/-- 'laws.FnExactTripsOk': WHATEVER THE INPUT: true; the input reads as it did. -/
def fnExactTripsOkSpec : ChangeSpec := { name := "fnExactTripsOk", fn := fun _ => fun
  | [d1, d2, d3] => { results := [.lit (.bool true)], args := [d1, d2, d3] }
  | _ => none }
def fnExactTripsOkRow : OpenClaim := { program := "ytkibabajalajeaa", sum := "b662c53c6fddb28233b14b91038a69552057825624ad1e0179230a75b6a09df2", func := "loop.example/g03310/laws.FnExactTripsOk", spec := "fnExactTripsOk", apart := false }
def FnExactTripsOkSaid : Prop := fnExactTripsOkRow.holds Try.pinned (OpenSpec.ofChange fnExactTripsOkSpec)

/-- ITS FALSE NEIGHBOUR: 'it returns false'. Refute it at one input. -/
def fnExactTripsOkWrong : ChangeSpec := { name := "fnExactTripsOk", fn := fun _ => fun
  | [d1, d2, d3] => { results := [.lit (.bool false)], args := [d1, d2, d3] }
  | _ => none }
def FnExactTripsOkWrongFalsely : Prop := fnExactTripsOkRow.holds Try.pinned (OpenSpec.ofChange fnExactTripsOkWrong)

/-- 'laws.FnExactWayOf': WHATEVER THE INPUT: true; the input reads as it did. -/
def fnExactWayOfSpec : ChangeSpec := { name := "fnExactWayOf", fn := fun _ => fun
  | [d1, d2] => { results := [.lit (.bool true)], args := [d1, d2] }
  | _ => none }
def fnExactWayOfRow : OpenClaim := { program := "ytkibabajalajeaa", sum := "b662c53c6fddb28233b14b91038a69552057825624ad1e0179230a75b6a09df2", func := "loop.example/g03310/laws.FnExactWayOf", spec := "fnExactWayOf", apart := false }
def FnExactWayOfSaid : Prop := fnExactWayOfRow.holds Try.pinned (OpenSpec.ofChange fnExactWayOfSpec)

/-- ITS FALSE NEIGHBOUR: 'it returns false'. Refute it at one input. -/
def fnExactWayOfWrong : ChangeSpec := { name := "fnExactWayOf", fn := fun _ => fun
  | [d1, d2] => { results := [.lit (.bool false)], args := [d1, d2] }
  | _ => none }
def FnExactWayOfWrongFalsely : Prop := fnExactWayOfRow.holds Try.pinned (OpenSpec.ofChange fnExactWayOfWrong)

/-- 'laws.FnExactStrongestFor': WHATEVER THE INPUT: true; the input reads as it did. -/
def fnExactStrongestForSpec : ChangeSpec := { name := "fnExactStrongestFor", fn := fun _ => fun
  | [d1, d2] => { results := [.lit (.bool true)], args := [d1, d2] }
  | _ => none }
def fnExactStrongestForRow : OpenClaim := { program := "ytkibabajalajeaa", sum := "b662c53c6fddb28233b14b91038a69552057825624ad1e0179230a75b6a09df2", func := "loop.example/g03310/laws.FnExactStrongestFor", spec := "fnExactStrongestFor", unfollowed := true, recurses := true, apart := false }
def FnExactStrongestForSaid : Prop := fnExactStrongestForRow.holds Try.pinned (OpenSpec.ofChange fnExactStrongestForSpec)

/-- ITS FALSE NEIGHBOUR: 'it returns false'. Refute it at one input. -/
def fnExactStrongestForWrong : ChangeSpec := { name := "fnExactStrongestFor", fn := fun _ => fun
  | [d1, d2] => { results := [.lit (.bool false)], args := [d1, d2] }
  | _ => none }
def FnExactStrongestForWrongFalsely : Prop := fnExactStrongestForRow.holds Try.pinned (OpenSpec.ofChange fnExactStrongestForWrong)

/-- 'laws.FnExactJoinSame': WHATEVER THE INPUT: true; the input reads as it did. -/
def fnExactJoinSameSpec : ChangeSpec := { name := "fnExactJoinSame", fn := fun _ => fun
  | [d] => { results := [.lit (.bool true)], args := [d] }
  | _ => none }
def fnExactJoinSameRow : OpenClaim := { program := "ytkibabajalajeaa", sum := "b662c53c6fddb28233b14b91038a69552057825624ad1e0179230a75b6a09df2", func := "loop.example/g03310/laws.FnExactJoinSame", spec := "fnExactJoinSame", unfollowed := true, recurses := true, apart := false }
def FnExactJoinSameSaid : Prop := fnExactJoinSameRow.holds Try.pinned (OpenSpec.ofChange fnExactJoinSameSpec)

/-- ITS FALSE NEIGHBOUR: 'it returns false'. Refute it at one input. -/
def fnExactJoinSameWrong : ChangeSpec := { name := "fnExactJoinSame", fn := fun _ => fun
  | [d] => { results := [.lit (.bool false)], args := [d] }
  | _ => none }
def FnExactJoinSameWrongFalsely : Prop := fnExactJoinSameRow.holds Try.pinned (OpenSpec.ofChange fnExactJoinSameWrong)

/-- 'laws.FnExactMostShifts': WHATEVER THE INPUT: true; the input reads as it did. -/
def fnExactMostShiftsSpec : ChangeSpec := { name := "fnExactMostShifts", fn := fun _ => fun
  | [d1, d2] => { results := [.lit (.bool true)], args := [d1, d2] }
  | _ => none }
def fnExactMostShiftsRow : OpenClaim := { program := "ytkibabajalajeaa", sum := "b662c53c6fddb28233b14b91038a69552057825624ad1e0179230a75b6a09df2", func := "loop.example/g03310/laws.FnExactMostShifts", spec := "fnExactMostShifts", apart := false }
def FnExactMostShiftsSaid : Prop := fnExactMostShiftsRow.holds Try.pinned (OpenSpec.ofChange fnExactMostShiftsSpec)

/-- ITS FALSE NEIGHBOUR: 'it returns false'. Refute it at one input. -/
def fnExactMostShiftsWrong : ChangeSpec := { name := "fnExactMostShifts", fn := fun _ => fun
  | [d1, d2] => { results := [.lit (.bool false)], args := [d1, d2] }
  | _ => none }
def FnExactMostShiftsWrongFalsely : Prop := fnExactMostShiftsRow.holds Try.pinned (OpenSpec.ofChange fnExactMostShiftsWrong)

/-- 'laws.FnExactTracesAfter': WHATEVER THE INPUT: true; the input reads as it did. -/
def fnExactTracesAfterSpec : ChangeSpec := { name := "fnExactTracesAfter", fn := fun _ => fun
  | [d1, d2] => { results := [.lit (.bool true)], args := [d1, d2] }
  | _ => none }
def fnExactTracesAfterRow : OpenClaim := { program := "ytkibabajalajeaa", sum := "b662c53c6fddb28233b14b91038a69552057825624ad1e0179230a75b6a09df2", func := "loop.example/g03310/laws.FnExactTracesAfter", spec := "fnExactTracesAfter", apart := false }
def FnExactTracesAfterSaid : Prop := fnExactTracesAfterRow.holds Try.pinned (OpenSpec.ofChange fnExactTracesAfterSpec)

/-- ITS FALSE NEIGHBOUR: 'it returns false'. Refute it at one input. -/
def fnExactTracesAfterWrong : ChangeSpec := { name := "fnExactTracesAfter", fn := fun _ => fun
  | [d1, d2] => { results := [.lit (.bool false)], args := [d1, d2] }
  | _ => none }
def FnExactTracesAfterWrongFalsely : Prop := fnExactTracesAfterRow.holds Try.pinned (OpenSpec.ofChange fnExactTracesAfterWrong)

/- THE SECOND FORM. 'bulk': how many values and letters a reading holds, each counted each time it is reached (what is shared counts as often as it is met; a slice's spare places count too). A statement '..UptoSaid' is the law's where the arguments, and the package variables that the reading takes, are together of bulk at most 1048576: NARROWER than '..Said'. Prove '..Said' where nothing that the law and all that it calls make is longer than what came in: it says more and counts as full. Else prove '..UptoSaid'. A law counts once. -/
mutual
def uptoBulk {H : Type} : DataW H → Nat
  | .lit (.string bytes) => bytes.length + 1
  | .lit _ => 1
  | .nil => 1
  | .ptr d => uptoBulk d + 1
  | .slice elems spare => uptoBulkAll elems + uptoBulkAll spare + 1
  | .agg parts => uptoBulkAll parts + 1
  | .iface _ d => uptoBulk d + 1
  | .map entries => uptoBulkEntries entries + 1
  | .held _ => 1
def uptoBulkAll {H : Type} : List (DataW H) → Nat
  | [] => 0
  | d :: r => uptoBulk d + uptoBulkAll r
def uptoBulkEntries {H : Type} : List (Lit × DataW H) → Nat
  | [] => 0
  | x :: r => uptoBulkEntry x + uptoBulkEntries r
def uptoBulkEntry {H : Type} : Lit × DataW H → Nat
  | (.string bytes, d) => bytes.length + uptoBulk d + 1
  | (_, d) => uptoBulk d + 1
 end
def uptoSmall : (H : Type) → List (DataW H) → Bool := fun _ ds => decide (uptoBulkAll ds ≤ 1048576)
def OpenSpec.upto (s : _root_.Go.ChangeSpec) : _root_.Go.OpenSpec := { _root_.Go.OpenSpec.ofChange s with cond := some uptoSmall }

/-- 'laws.FnExactTripsOk', WHERE WHAT IT READS IS OF BULK AT MOST 1048576: true; the input reads as it did. -/
def fnExactTripsOkUptoRow : OpenClaim := { program := "ytkibabajalajeaa", sum := "b662c53c6fddb28233b14b91038a69552057825624ad1e0179230a75b6a09df2", func := "loop.example/g03310/laws.FnExactTripsOk", spec := "fnExactTripsOk", apart := false, narrowed := true }
def FnExactTripsOkUptoSaid : Prop := fnExactTripsOkUptoRow.holds Try.pinned (OpenSpec.upto fnExactTripsOkSpec)

/-- 'laws.FnExactWayOf', WHERE WHAT IT READS IS OF BULK AT MOST 1048576: true; the input reads as it did. -/
def fnExactWayOfUptoRow : OpenClaim := { program := "ytkibabajalajeaa", sum := "b662c53c6fddb28233b14b91038a69552057825624ad1e0179230a75b6a09df2", func := "loop.example/g03310/laws.FnExactWayOf", spec := "fnExactWayOf", apart := false, narrowed := true }
def FnExactWayOfUptoSaid : Prop := fnExactWayOfUptoRow.holds Try.pinned (OpenSpec.upto fnExactWayOfSpec)

/-- 'laws.FnExactStrongestFor', WHERE WHAT IT READS IS OF BULK AT MOST 1048576: true; the input reads as it did. -/
def fnExactStrongestForUptoRow : OpenClaim := { program := "ytkibabajalajeaa", sum := "b662c53c6fddb28233b14b91038a69552057825624ad1e0179230a75b6a09df2", func := "loop.example/g03310/laws.FnExactStrongestFor", spec := "fnExactStrongestFor", unfollowed := true, recurses := true, apart := false, narrowed := true }
def FnExactStrongestForUptoSaid : Prop := fnExactStrongestForUptoRow.holds Try.pinned (OpenSpec.upto fnExactStrongestForSpec)

/-- 'laws.FnExactJoinSame', WHERE WHAT IT READS IS OF BULK AT MOST 1048576: true; the input reads as it did. -/
def fnExactJoinSameUptoRow : OpenClaim := { program := "ytkibabajalajeaa", sum := "b662c53c6fddb28233b14b91038a69552057825624ad1e0179230a75b6a09df2", func := "loop.example/g03310/laws.FnExactJoinSame", spec := "fnExactJoinSame", unfollowed := true, recurses := true, apart := false, narrowed := true }
def FnExactJoinSameUptoSaid : Prop := fnExactJoinSameUptoRow.holds Try.pinned (OpenSpec.upto fnExactJoinSameSpec)

/-- 'laws.FnExactMostShifts', WHERE WHAT IT READS IS OF BULK AT MOST 1048576: true; the input reads as it did. -/
def fnExactMostShiftsUptoRow : OpenClaim := { program := "ytkibabajalajeaa", sum := "b662c53c6fddb28233b14b91038a69552057825624ad1e0179230a75b6a09df2", func := "loop.example/g03310/laws.FnExactMostShifts", spec := "fnExactMostShifts", apart := false, narrowed := true }
def FnExactMostShiftsUptoSaid : Prop := fnExactMostShiftsUptoRow.holds Try.pinned (OpenSpec.upto fnExactMostShiftsSpec)

/-- 'laws.FnExactTracesAfter', WHERE WHAT IT READS IS OF BULK AT MOST 1048576: true; the input reads as it did. -/
def fnExactTracesAfterUptoRow : OpenClaim := { program := "ytkibabajalajeaa", sum := "b662c53c6fddb28233b14b91038a69552057825624ad1e0179230a75b6a09df2", func := "loop.example/g03310/laws.FnExactTracesAfter", spec := "fnExactTracesAfter", apart := false, narrowed := true }
def FnExactTracesAfterUptoSaid : Prop := fnExactTracesAfterUptoRow.holds Try.pinned (OpenSpec.upto fnExactTracesAfterSpec)

end Rows
end Go.Proofs.Ytkibabajalajeaa
