/-
  No cell of these rows narrows 'for every input' (looked for: loops, veiled, ifaces, maps, wideKeys, modest, calm, conditions, laid).
  DERIVED. THE GIVEN ROWS OF THIS SEAT. 6 by the template 'for every input the law returns true; each argument reads behind the call as it read before'; 0 by the template 'total and deterministic' (their statements: YtlilmpclkhmkoadTotals.lean).
  GIVEN WITH THE SEED: the statements are not yours to turn. If you find one false, say at which input.
  Laid BY PROGRAM, IN A SANDBOX (cutbox-rows.mjs): the forced cells as the released guide's own fill.sh prints them over the translation 766c6bbd8f9116ca… (all of the seat's roots in one cut). By AI agents, Wed Nov 11 2026. No macro, syntax, notation, axiom, sorry.
-/
import Derived.Test.YtlilmpclkhmkoadChecked
import GoSem.Claim
import GoSem.ClaimJoined
import GoSem.ClaimMapViews
import Derived.JoinedTies
import Derived.KernelRfl
namespace Go.Proofs.Ytlilmpclkhmkoad
/- THE CELL 'sum', in the pinned program and in every row, IS THE sha256 OF THE DUMP (.gsa) THAT YtlilmpclkhmkoadProg.lean LOADS. Nothing in Lean hashes anything: it is a label: what it is worth is what the hold of that sum in a sandbox is worth. -/
noncomputable def Try.pinned : Pinned := { name := "ytlilmpclkhmkoad", sum := "766c6bbd8f9116ca2f289cd74c08887277fcd9d2eae1c093fb1b9d14dd5b77d4", checked := Try.checked }
namespace Rows
def none {H : Type} : Left H := { results := [], args := [] }

/-- 'laws.FnExactIsBetter': WHATEVER THE INPUT: true; the input reads as it did. -/
def fnExactIsBetterSpec : ChangeSpec := { name := "fnExactIsBetter", fn := fun _ => fun
  | [d1, d2, d3, d4, d5] => { results := [.lit (.bool true)], args := [d1, d2, d3, d4, d5] }
  | _ => none }
def fnExactIsBetterRow : OpenClaim := { program := "ytlilmpclkhmkoad", sum := "766c6bbd8f9116ca2f289cd74c08887277fcd9d2eae1c093fb1b9d14dd5b77d4", func := "loop.example/g03310/laws.FnExactIsBetter", spec := "fnExactIsBetter", unfollowed := true, recurses := true, apart := false }
def FnExactIsBetterSaid : Prop := fnExactIsBetterRow.holds Try.pinned (OpenSpec.ofChange fnExactIsBetterSpec)

/-- ITS FALSE NEIGHBOUR: 'it returns false'. Refute it at one input. -/
def fnExactIsBetterWrong : ChangeSpec := { name := "fnExactIsBetter", fn := fun _ => fun
  | [d1, d2, d3, d4, d5] => { results := [.lit (.bool false)], args := [d1, d2, d3, d4, d5] }
  | _ => none }
def FnExactIsBetterWrongFalsely : Prop := fnExactIsBetterRow.holds Try.pinned (OpenSpec.ofChange fnExactIsBetterWrong)

/-- 'laws.FnCleanings': WHATEVER THE INPUT: true; the input reads as it did. -/
def fnCleaningsSpec : ChangeSpec := { name := "fnCleanings", fn := fun _ => fun
  | [d] => { results := [.lit (.bool true)], args := [d] }
  | _ => none }
def fnCleaningsRow : OpenClaim := { program := "ytlilmpclkhmkoad", sum := "766c6bbd8f9116ca2f289cd74c08887277fcd9d2eae1c093fb1b9d14dd5b77d4", func := "loop.example/g03310/laws.FnCleanings", spec := "fnCleanings", unfollowed := true, recurses := true, apart := false }
def FnCleaningsSaid : Prop := fnCleaningsRow.holds Try.pinned (OpenSpec.ofChange fnCleaningsSpec)

/-- ITS FALSE NEIGHBOUR: 'it returns false'. Refute it at one input. -/
def fnCleaningsWrong : ChangeSpec := { name := "fnCleanings", fn := fun _ => fun
  | [d] => { results := [.lit (.bool false)], args := [d] }
  | _ => none }
def FnCleaningsWrongFalsely : Prop := fnCleaningsRow.holds Try.pinned (OpenSpec.ofChange fnCleaningsWrong)

/-- 'laws.FnExactCleanCost': WHATEVER THE INPUT: true; the input reads as it did. -/
def fnExactCleanCostSpec : ChangeSpec := { name := "fnExactCleanCost", fn := fun _ => fun
  | [d1, d2] => { results := [.lit (.bool true)], args := [d1, d2] }
  | _ => none }
def fnExactCleanCostRow : OpenClaim := { program := "ytlilmpclkhmkoad", sum := "766c6bbd8f9116ca2f289cd74c08887277fcd9d2eae1c093fb1b9d14dd5b77d4", func := "loop.example/g03310/laws.FnExactCleanCost", spec := "fnExactCleanCost", apart := false }
def FnExactCleanCostSaid : Prop := fnExactCleanCostRow.holds Try.pinned (OpenSpec.ofChange fnExactCleanCostSpec)

/-- ITS FALSE NEIGHBOUR: 'it returns false'. Refute it at one input. -/
def fnExactCleanCostWrong : ChangeSpec := { name := "fnExactCleanCost", fn := fun _ => fun
  | [d1, d2] => { results := [.lit (.bool false)], args := [d1, d2] }
  | _ => none }
def FnExactCleanCostWrongFalsely : Prop := fnExactCleanCostRow.holds Try.pinned (OpenSpec.ofChange fnExactCleanCostWrong)

/-- 'laws.FnExactDayCost': WHATEVER THE INPUT: true; the input reads as it did. -/
def fnExactDayCostSpec : ChangeSpec := { name := "fnExactDayCost", fn := fun _ => fun
  | [d1, d2] => { results := [.lit (.bool true)], args := [d1, d2] }
  | _ => none }
def fnExactDayCostRow : OpenClaim := { program := "ytlilmpclkhmkoad", sum := "766c6bbd8f9116ca2f289cd74c08887277fcd9d2eae1c093fb1b9d14dd5b77d4", func := "loop.example/g03310/laws.FnExactDayCost", spec := "fnExactDayCost", apart := false }
def FnExactDayCostSaid : Prop := fnExactDayCostRow.holds Try.pinned (OpenSpec.ofChange fnExactDayCostSpec)

/-- ITS FALSE NEIGHBOUR: 'it returns false'. Refute it at one input. -/
def fnExactDayCostWrong : ChangeSpec := { name := "fnExactDayCost", fn := fun _ => fun
  | [d1, d2] => { results := [.lit (.bool false)], args := [d1, d2] }
  | _ => none }
def FnExactDayCostWrongFalsely : Prop := fnExactDayCostRow.holds Try.pinned (OpenSpec.ofChange fnExactDayCostWrong)

/-- 'laws.FnExactBestDay': WHATEVER THE INPUT: true; the input reads as it did. -/
def fnExactBestDaySpec : ChangeSpec := { name := "fnExactBestDay", fn := fun _ => fun
  | [d] => { results := [.lit (.bool true)], args := [d] }
  | _ => none }
def fnExactBestDayRow : OpenClaim := { program := "ytlilmpclkhmkoad", sum := "766c6bbd8f9116ca2f289cd74c08887277fcd9d2eae1c093fb1b9d14dd5b77d4", func := "loop.example/g03310/laws.FnExactBestDay", spec := "fnExactBestDay", unfollowed := true, recurses := true, apart := false }
def FnExactBestDaySaid : Prop := fnExactBestDayRow.holds Try.pinned (OpenSpec.ofChange fnExactBestDaySpec)

/-- ITS FALSE NEIGHBOUR: 'it returns false'. Refute it at one input. -/
def fnExactBestDayWrong : ChangeSpec := { name := "fnExactBestDay", fn := fun _ => fun
  | [d] => { results := [.lit (.bool false)], args := [d] }
  | _ => none }
def FnExactBestDayWrongFalsely : Prop := fnExactBestDayRow.holds Try.pinned (OpenSpec.ofChange fnExactBestDayWrong)

/-- 'laws.FnExactNeedsNoCleaning': WHATEVER THE INPUT: true; the input reads as it did. -/
def fnExactNeedsNoCleaningSpec : ChangeSpec := { name := "fnExactNeedsNoCleaning", fn := fun _ => fun
  | [d] => { results := [.lit (.bool true)], args := [d] }
  | _ => none }
def fnExactNeedsNoCleaningRow : OpenClaim := { program := "ytlilmpclkhmkoad", sum := "766c6bbd8f9116ca2f289cd74c08887277fcd9d2eae1c093fb1b9d14dd5b77d4", func := "loop.example/g03310/laws.FnExactNeedsNoCleaning", spec := "fnExactNeedsNoCleaning", apart := false }
def FnExactNeedsNoCleaningSaid : Prop := fnExactNeedsNoCleaningRow.holds Try.pinned (OpenSpec.ofChange fnExactNeedsNoCleaningSpec)

/-- ITS FALSE NEIGHBOUR: 'it returns false'. Refute it at one input. -/
def fnExactNeedsNoCleaningWrong : ChangeSpec := { name := "fnExactNeedsNoCleaning", fn := fun _ => fun
  | [d] => { results := [.lit (.bool false)], args := [d] }
  | _ => none }
def FnExactNeedsNoCleaningWrongFalsely : Prop := fnExactNeedsNoCleaningRow.holds Try.pinned (OpenSpec.ofChange fnExactNeedsNoCleaningWrong)

/- THE SECOND FORM. 'bulk': how many values and letters a reading holds, each counted each time it is reached (what is shared counts as often as it is met; a slice's spare places count too). A statement '..UptoSaid' is the law's where the arguments, and the package variables that the reading takes, are together of bulk at most 1048576: NARROWER than '..Said'. Prove '..Said' where nothing that the law and all that it calls make is longer than what came in: it says more and counts as full. Else prove '..UptoSaid'. A law counts once. -/
mutual
def uptoBulk {H : Type} : DataW H → Nat
  | .lit (.string bytes) => bytes.length + 1
  | .lit _ => 1
  | .nil => 1
  | .ptr d => uptoBulk d + 1
  | .slice elems spare => uptoBulkAll elems + uptoBulkAll spare + 1
  | .agg parts => uptoBulkAll parts + 1
  | .iface _ d => uptoBulk d + 1
  | .map entries => uptoBulkEntries entries + 1
  | .held _ => 1
def uptoBulkAll {H : Type} : List (DataW H) → Nat
  | [] => 0
  | d :: r => uptoBulk d + uptoBulkAll r
def uptoBulkEntries {H : Type} : List (Lit × DataW H) → Nat
  | [] => 0
  | x :: r => uptoBulkEntry x + uptoBulkEntries r
def uptoBulkEntry {H : Type} : Lit × DataW H → Nat
  | (.string bytes, d) => bytes.length + uptoBulk d + 1
  | (_, d) => uptoBulk d + 1
 end
def uptoSmall : (H : Type) → List (DataW H) → Bool := fun _ ds => decide (uptoBulkAll ds ≤ 1048576)
def OpenSpec.upto (s : _root_.Go.ChangeSpec) : _root_.Go.OpenSpec := { _root_.Go.OpenSpec.ofChange s with cond := some uptoSmall }

/-- 'laws.FnExactIsBetter', WHERE WHAT IT READS IS OF BULK AT MOST 1048576: true; the input reads as it did. -/
def fnExactIsBetterUptoRow : OpenClaim := { program := "ytlilmpclkhmkoad", sum := "766c6bbd8f9116ca2f289cd74c08887277fcd9d2eae1c093fb1b9d14dd5b77d4", func := "loop.example/g03310/laws.FnExactIsBetter", spec := "fnExactIsBetter", unfollowed := true, recurses := true, apart := false, narrowed := true }
def FnExactIsBetterUptoSaid : Prop := fnExactIsBetterUptoRow.holds Try.pinned (OpenSpec.upto fnExactIsBetterSpec)

/-- 'laws.FnCleanings', WHERE WHAT IT READS IS OF BULK AT MOST 1048576: true; the input reads as it did. -/
def fnCleaningsUptoRow : OpenClaim := { program := "ytlilmpclkhmkoad", sum := "766c6bbd8f9116ca2f289cd74c08887277fcd9d2eae1c093fb1b9d14dd5b77d4", func := "loop.example/g03310/laws.FnCleanings", spec := "fnCleanings", unfollowed := true, recurses := true, apart := false, narrowed := true }
def FnCleaningsUptoSaid : Prop := fnCleaningsUptoRow.holds Try.pinned (OpenSpec.upto fnCleaningsSpec)

/-- 'laws.FnExactCleanCost', WHERE WHAT IT READS IS OF BULK AT MOST 1048576: true; the input reads as it did. -/
def fnExactCleanCostUptoRow : OpenClaim := { program := "ytlilmpclkhmkoad", sum := "766c6bbd8f9116ca2f289cd74c08887277fcd9d2eae1c093fb1b9d14dd5b77d4", func := "loop.example/g03310/laws.FnExactCleanCost", spec := "fnExactCleanCost", apart := false, narrowed := true }
def FnExactCleanCostUptoSaid : Prop := fnExactCleanCostUptoRow.holds Try.pinned (OpenSpec.upto fnExactCleanCostSpec)

/-- 'laws.FnExactDayCost', WHERE WHAT IT READS IS OF BULK AT MOST 1048576: true; the input reads as it did. -/
def fnExactDayCostUptoRow : OpenClaim := { program := "ytlilmpclkhmkoad", sum := "766c6bbd8f9116ca2f289cd74c08887277fcd9d2eae1c093fb1b9d14dd5b77d4", func := "loop.example/g03310/laws.FnExactDayCost", spec := "fnExactDayCost", apart := false, narrowed := true }
def FnExactDayCostUptoSaid : Prop := fnExactDayCostUptoRow.holds Try.pinned (OpenSpec.upto fnExactDayCostSpec)

/-- 'laws.FnExactBestDay', WHERE WHAT IT READS IS OF BULK AT MOST 1048576: true; the input reads as it did. -/
def fnExactBestDayUptoRow : OpenClaim := { program := "ytlilmpclkhmkoad", sum := "766c6bbd8f9116ca2f289cd74c08887277fcd9d2eae1c093fb1b9d14dd5b77d4", func := "loop.example/g03310/laws.FnExactBestDay", spec := "fnExactBestDay", unfollowed := true, recurses := true, apart := false, narrowed := true }
def FnExactBestDayUptoSaid : Prop := fnExactBestDayUptoRow.holds Try.pinned (OpenSpec.upto fnExactBestDaySpec)

/-- 'laws.FnExactNeedsNoCleaning', WHERE WHAT IT READS IS OF BULK AT MOST 1048576: true; the input reads as it did. -/
def fnExactNeedsNoCleaningUptoRow : OpenClaim := { program := "ytlilmpclkhmkoad", sum := "766c6bbd8f9116ca2f289cd74c08887277fcd9d2eae1c093fb1b9d14dd5b77d4", func := "loop.example/g03310/laws.FnExactNeedsNoCleaning", spec := "fnExactNeedsNoCleaning", apart := false, narrowed := true }
def FnExactNeedsNoCleaningUptoSaid : Prop := fnExactNeedsNoCleaningUptoRow.holds Try.pinned (OpenSpec.upto fnExactNeedsNoCleaningSpec)

end Rows
end Go.Proofs.Ytlilmpclkhmkoad
