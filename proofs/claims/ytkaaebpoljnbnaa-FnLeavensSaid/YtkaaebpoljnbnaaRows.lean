/-
  No cell of these rows narrows 'for every input' (looked for: loops, veiled, ifaces, maps, wideKeys, modest, calm, conditions, laid).
  DERIVED. THE GIVEN ROWS OF THIS SEAT. 4 by the template 'for every input the law returns true; each argument reads behind the call as it read before'; 0 by the template 'total and deterministic' (their statements: YtkaaebpoljnbnaaTotals.lean).
  GIVEN WITH THE SEED: the statements are not yours to turn. If you find one false, say at which input.
  Laid BY PROGRAM, IN A SANDBOX (cutbox-rows.mjs): the forced cells as the released guide's own fill.sh prints them over the translation d13faaa7cd115d21… (all of the seat's roots in one cut). By AI agents, Wed Nov 11 2026. No macro, syntax, notation, axiom, sorry.
-/
import Derived.Test.YtkaaebpoljnbnaaChecked
import GoSem.Claim
import GoSem.ClaimJoined
import GoSem.ClaimMapViews
import Derived.JoinedTies
import Derived.KernelRfl
namespace Go.Proofs.Ytkaaebpoljnbnaa
/- THE CELL 'sum', in the pinned program and in every row, IS THE sha256 OF THE DUMP (.gsa) THAT YtkaaebpoljnbnaaProg.lean LOADS. Nothing in Lean hashes anything: it is a label: what it is worth is what the hold of that sum in a sandbox is worth. -/
noncomputable def Try.pinned : Pinned := { name := "ytkaaebpoljnbnaa", sum := "d13faaa7cd115d21df70c036565daf27783daa1321ce1819b67c0ec14d16cfea", checked := Try.checked }
namespace Rows
def none {H : Type} : Left H := { results := [], args := [] }

/-- 'laws.FnLeavens': WHATEVER THE INPUT: true; the input reads as it did. -/
def fnLeavensSpec : ChangeSpec := { name := "fnLeavens", fn := fun _ => fun
  | [d] => { results := [.lit (.bool true)], args := [d] }
  | _ => none }
def fnLeavensRow : OpenClaim := { program := "ytkaaebpoljnbnaa", sum := "d13faaa7cd115d21df70c036565daf27783daa1321ce1819b67c0ec14d16cfea", func := "loop.example/g03310/laws.FnLeavens", spec := "fnLeavens", apart := false }
def FnLeavensSaid : Prop := fnLeavensRow.holds Try.pinned (OpenSpec.ofChange fnLeavensSpec)

/-- ITS FALSE NEIGHBOUR: 'it returns false'. Refute it at one input. -/
def fnLeavensWrong : ChangeSpec := { name := "fnLeavens", fn := fun _ => fun
  | [d] => { results := [.lit (.bool false)], args := [d] }
  | _ => none }
def FnLeavensWrongFalsely : Prop := fnLeavensRow.holds Try.pinned (OpenSpec.ofChange fnLeavensWrong)

/-- 'laws.FnForecasts': WHATEVER THE INPUT: true; the input reads as it did. -/
def fnForecastsSpec : ChangeSpec := { name := "fnForecasts", fn := fun _ => fun
  | [d] => { results := [.lit (.bool true)], args := [d] }
  | _ => none }
def fnForecastsRow : OpenClaim := { program := "ytkaaebpoljnbnaa", sum := "d13faaa7cd115d21df70c036565daf27783daa1321ce1819b67c0ec14d16cfea", func := "loop.example/g03310/laws.FnForecasts", spec := "fnForecasts", apart := false }
def FnForecastsSaid : Prop := fnForecastsRow.holds Try.pinned (OpenSpec.ofChange fnForecastsSpec)

/-- ITS FALSE NEIGHBOUR: 'it returns false'. Refute it at one input. -/
def fnForecastsWrong : ChangeSpec := { name := "fnForecasts", fn := fun _ => fun
  | [d] => { results := [.lit (.bool false)], args := [d] }
  | _ => none }
def FnForecastsWrongFalsely : Prop := fnForecastsRow.holds Try.pinned (OpenSpec.ofChange fnForecastsWrong)

/-- 'laws.FnBakings': WHATEVER THE INPUT: true; the input reads as it did. -/
def fnBakingsSpec : ChangeSpec := { name := "fnBakings", fn := fun _ => fun
  | [d] => { results := [.lit (.bool true)], args := [d] }
  | _ => none }
def fnBakingsRow : OpenClaim := { program := "ytkaaebpoljnbnaa", sum := "d13faaa7cd115d21df70c036565daf27783daa1321ce1819b67c0ec14d16cfea", func := "loop.example/g03310/laws.FnBakings", spec := "fnBakings", unfollowed := true, recurses := true, apart := false }
def FnBakingsSaid : Prop := fnBakingsRow.holds Try.pinned (OpenSpec.ofChange fnBakingsSpec)

/-- ITS FALSE NEIGHBOUR: 'it returns false'. Refute it at one input. -/
def fnBakingsWrong : ChangeSpec := { name := "fnBakings", fn := fun _ => fun
  | [d] => { results := [.lit (.bool false)], args := [d] }
  | _ => none }
def FnBakingsWrongFalsely : Prop := fnBakingsRow.holds Try.pinned (OpenSpec.ofChange fnBakingsWrong)

/-- 'laws.FnSlices': WHATEVER THE INPUT: true; the input reads as it did. -/
def fnSlicesSpec : ChangeSpec := { name := "fnSlices", fn := fun _ => fun
  | [d] => { results := [.lit (.bool true)], args := [d] }
  | _ => none }
def fnSlicesRow : OpenClaim := { program := "ytkaaebpoljnbnaa", sum := "d13faaa7cd115d21df70c036565daf27783daa1321ce1819b67c0ec14d16cfea", func := "loop.example/g03310/laws.FnSlices", spec := "fnSlices", unfollowed := true, recurses := true, apart := false }
def FnSlicesSaid : Prop := fnSlicesRow.holds Try.pinned (OpenSpec.ofChange fnSlicesSpec)

/-- ITS FALSE NEIGHBOUR: 'it returns false'. Refute it at one input. -/
def fnSlicesWrong : ChangeSpec := { name := "fnSlices", fn := fun _ => fun
  | [d] => { results := [.lit (.bool false)], args := [d] }
  | _ => none }
def FnSlicesWrongFalsely : Prop := fnSlicesRow.holds Try.pinned (OpenSpec.ofChange fnSlicesWrong)

/- THE SECOND FORM. 'bulk': how many values and letters a reading holds, each counted each time it is reached (what is shared counts as often as it is met; a slice's spare places count too). A statement '..UptoSaid' is the law's where the arguments, and the package variables that the reading takes, are together of bulk at most 1048576: NARROWER than '..Said'. Prove '..Said' where nothing that the law and all that it calls make is longer than what came in: it says more and counts as full. Else prove '..UptoSaid'. A law counts once. -/
mutual
def uptoBulk {H : Type} : DataW H → Nat
  | .lit (.string bytes) => bytes.length + 1
  | .lit _ => 1
  | .nil => 1
  | .ptr d => uptoBulk d + 1
  | .slice elems spare => uptoBulkAll elems + uptoBulkAll spare + 1
  | .agg parts => uptoBulkAll parts + 1
  | .iface _ d => uptoBulk d + 1
  | .map entries => uptoBulkEntries entries + 1
  | .held _ => 1
def uptoBulkAll {H : Type} : List (DataW H) → Nat
  | [] => 0
  | d :: r => uptoBulk d + uptoBulkAll r
def uptoBulkEntries {H : Type} : List (Lit × DataW H) → Nat
  | [] => 0
  | x :: r => uptoBulkEntry x + uptoBulkEntries r
def uptoBulkEntry {H : Type} : Lit × DataW H → Nat
  | (.string bytes, d) => bytes.length + uptoBulk d + 1
  | (_, d) => uptoBulk d + 1
 end
def uptoSmall : (H : Type) → List (DataW H) → Bool := fun _ ds => decide (uptoBulkAll ds ≤ 1048576)
def OpenSpec.upto (s : _root_.Go.ChangeSpec) : _root_.Go.OpenSpec := { _root_.Go.OpenSpec.ofChange s with cond := some uptoSmall }

/-- 'laws.FnLeavens', WHERE WHAT IT READS IS OF BULK AT MOST 1048576: true; the input reads as it did. -/
def fnLeavensUptoRow : OpenClaim := { program := "ytkaaebpoljnbnaa", sum := "d13faaa7cd115d21df70c036565daf27783daa1321ce1819b67c0ec14d16cfea", func := "loop.example/g03310/laws.FnLeavens", spec := "fnLeavens", apart := false, narrowed := true }
def FnLeavensUptoSaid : Prop := fnLeavensUptoRow.holds Try.pinned (OpenSpec.upto fnLeavensSpec)

/-- 'laws.FnForecasts', WHERE WHAT IT READS IS OF BULK AT MOST 1048576: true; the input reads as it did. -/
def fnForecastsUptoRow : OpenClaim := { program := "ytkaaebpoljnbnaa", sum := "d13faaa7cd115d21df70c036565daf27783daa1321ce1819b67c0ec14d16cfea", func := "loop.example/g03310/laws.FnForecasts", spec := "fnForecasts", apart := false, narrowed := true }
def FnForecastsUptoSaid : Prop := fnForecastsUptoRow.holds Try.pinned (OpenSpec.upto fnForecastsSpec)

/-- 'laws.FnBakings', WHERE WHAT IT READS IS OF BULK AT MOST 1048576: true; the input reads as it did. -/
def fnBakingsUptoRow : OpenClaim := { program := "ytkaaebpoljnbnaa", sum := "d13faaa7cd115d21df70c036565daf27783daa1321ce1819b67c0ec14d16cfea", func := "loop.example/g03310/laws.FnBakings", spec := "fnBakings", unfollowed := true, recurses := true, apart := false, narrowed := true }
def FnBakingsUptoSaid : Prop := fnBakingsUptoRow.holds Try.pinned (OpenSpec.upto fnBakingsSpec)

/-- 'laws.FnSlices', WHERE WHAT IT READS IS OF BULK AT MOST 1048576: true; the input reads as it did. -/
def fnSlicesUptoRow : OpenClaim := { program := "ytkaaebpoljnbnaa", sum := "d13faaa7cd115d21df70c036565daf27783daa1321ce1819b67c0ec14d16cfea", func := "loop.example/g03310/laws.FnSlices", spec := "fnSlices", unfollowed := true, recurses := true, apart := false, narrowed := true }
def FnSlicesUptoSaid : Prop := fnSlicesUptoRow.holds Try.pinned (OpenSpec.upto fnSlicesSpec)

end Rows
end Go.Proofs.Ytkaaebpoljnbnaa
