/-
  No cell of these rows narrows 'for every input' (looked for: loops, veiled, ifaces, maps, wideKeys, modest, calm, conditions, laid).
  DERIVED. THE GIVEN ROWS OF THIS SEAT. 6 by the template 'for every input the law returns true; each argument reads behind the call as it read before'; 0 by the template 'total and deterministic' (their statements: YtlilmpclkhmkoabTotals.lean).
  GIVEN WITH THE SEED: the statements are not yours to turn. If you find one false, say at which input.
  Laid BY PROGRAM, IN A SANDBOX (cutbox-rows.mjs): the forced cells as the released guide's own fill.sh prints them over the translation cbe44be9bd4436f1… (all of the seat's roots in one cut). By AI agents, Wed Nov 11 2026. No macro, syntax, notation, axiom, sorry.
-/
import Derived.Test.YtlilmpclkhmkoabChecked
import GoSem.Claim
import GoSem.ClaimJoined
import GoSem.ClaimMapViews
import Derived.JoinedTies
import Derived.KernelRfl
namespace Go.Proofs.Ytlilmpclkhmkoab
/- THE CELL 'sum', in the pinned program and in every row, IS THE sha256 OF THE DUMP (.gsa) THAT YtlilmpclkhmkoabProg.lean LOADS. Nothing in Lean hashes anything: it is a label: what it is worth is what the hold of that sum in a sandbox is worth. -/
noncomputable def Try.pinned : Pinned := { name := "ytlilmpclkhmkoab", sum := "cbe44be9bd4436f1cd0ecb2e31a9039ced1a91561be30fc25bf97ed8fce93352", checked := Try.checked }
namespace Rows
def none {H : Type} : Left H := { results := [], args := [] }

/-- 'laws.FnForecasts': WHATEVER THE INPUT: true; the input reads as it did. -/
def fnForecastsSpec : ChangeSpec := { name := "fnForecasts", fn := fun _ => fun
  | [d] => { results := [.lit (.bool true)], args := [d] }
  | _ => none }
def fnForecastsRow : OpenClaim := { program := "ytlilmpclkhmkoab", sum := "cbe44be9bd4436f1cd0ecb2e31a9039ced1a91561be30fc25bf97ed8fce93352", func := "loop.example/g03310/laws.FnForecasts", spec := "fnForecasts", apart := false }
def FnForecastsSaid : Prop := fnForecastsRow.holds Try.pinned (OpenSpec.ofChange fnForecastsSpec)

/-- ITS FALSE NEIGHBOUR: 'it returns false'. Refute it at one input. -/
def fnForecastsWrong : ChangeSpec := { name := "fnForecasts", fn := fun _ => fun
  | [d] => { results := [.lit (.bool false)], args := [d] }
  | _ => none }
def FnForecastsWrongFalsely : Prop := fnForecastsRow.holds Try.pinned (OpenSpec.ofChange fnForecastsWrong)

/-- 'laws.FnExactSalesOk': WHATEVER THE INPUT: true; the input reads as it did. -/
def fnExactSalesOkSpec : ChangeSpec := { name := "fnExactSalesOk", fn := fun _ => fun
  | [d] => { results := [.lit (.bool true)], args := [d] }
  | _ => none }
def fnExactSalesOkRow : OpenClaim := { program := "ytlilmpclkhmkoab", sum := "cbe44be9bd4436f1cd0ecb2e31a9039ced1a91561be30fc25bf97ed8fce93352", func := "loop.example/g03310/laws.FnExactSalesOk", spec := "fnExactSalesOk", apart := false }
def FnExactSalesOkSaid : Prop := fnExactSalesOkRow.holds Try.pinned (OpenSpec.ofChange fnExactSalesOkSpec)

/-- ITS FALSE NEIGHBOUR: 'it returns false'. Refute it at one input. -/
def fnExactSalesOkWrong : ChangeSpec := { name := "fnExactSalesOk", fn := fun _ => fun
  | [d] => { results := [.lit (.bool false)], args := [d] }
  | _ => none }
def FnExactSalesOkWrongFalsely : Prop := fnExactSalesOkRow.holds Try.pinned (OpenSpec.ofChange fnExactSalesOkWrong)

/-- 'laws.FnExactMeanOf': WHATEVER THE INPUT: true; the input reads as it did. -/
def fnExactMeanOfSpec : ChangeSpec := { name := "fnExactMeanOf", fn := fun _ => fun
  | [d1, d2] => { results := [.lit (.bool true)], args := [d1, d2] }
  | _ => none }
def fnExactMeanOfRow : OpenClaim := { program := "ytlilmpclkhmkoab", sum := "cbe44be9bd4436f1cd0ecb2e31a9039ced1a91561be30fc25bf97ed8fce93352", func := "loop.example/g03310/laws.FnExactMeanOf", spec := "fnExactMeanOf", apart := false }
def FnExactMeanOfSaid : Prop := fnExactMeanOfRow.holds Try.pinned (OpenSpec.ofChange fnExactMeanOfSpec)

/-- ITS FALSE NEIGHBOUR: 'it returns false'. Refute it at one input. -/
def fnExactMeanOfWrong : ChangeSpec := { name := "fnExactMeanOf", fn := fun _ => fun
  | [d1, d2] => { results := [.lit (.bool false)], args := [d1, d2] }
  | _ => none }
def FnExactMeanOfWrongFalsely : Prop := fnExactMeanOfRow.holds Try.pinned (OpenSpec.ofChange fnExactMeanOfWrong)

/-- 'laws.FnExactNextSales': WHATEVER THE INPUT: true; the input reads as it did. -/
def fnExactNextSalesSpec : ChangeSpec := { name := "fnExactNextSales", fn := fun _ => fun
  | [d] => { results := [.lit (.bool true)], args := [d] }
  | _ => none }
def fnExactNextSalesRow : OpenClaim := { program := "ytlilmpclkhmkoab", sum := "cbe44be9bd4436f1cd0ecb2e31a9039ced1a91561be30fc25bf97ed8fce93352", func := "loop.example/g03310/laws.FnExactNextSales", spec := "fnExactNextSales", apart := false }
def FnExactNextSalesSaid : Prop := fnExactNextSalesRow.holds Try.pinned (OpenSpec.ofChange fnExactNextSalesSpec)

/-- ITS FALSE NEIGHBOUR: 'it returns false'. Refute it at one input. -/
def fnExactNextSalesWrong : ChangeSpec := { name := "fnExactNextSales", fn := fun _ => fun
  | [d] => { results := [.lit (.bool false)], args := [d] }
  | _ => none }
def FnExactNextSalesWrongFalsely : Prop := fnExactNextSalesRow.holds Try.pinned (OpenSpec.ofChange fnExactNextSalesWrong)

/-- 'laws.FnExactBusiestDay': WHATEVER THE INPUT: true; the input reads as it did. -/
def fnExactBusiestDaySpec : ChangeSpec := { name := "fnExactBusiestDay", fn := fun _ => fun
  | [d] => { results := [.lit (.bool true)], args := [d] }
  | _ => none }
def fnExactBusiestDayRow : OpenClaim := { program := "ytlilmpclkhmkoab", sum := "cbe44be9bd4436f1cd0ecb2e31a9039ced1a91561be30fc25bf97ed8fce93352", func := "loop.example/g03310/laws.FnExactBusiestDay", spec := "fnExactBusiestDay", apart := false }
def FnExactBusiestDaySaid : Prop := fnExactBusiestDayRow.holds Try.pinned (OpenSpec.ofChange fnExactBusiestDaySpec)

/-- ITS FALSE NEIGHBOUR: 'it returns false'. Refute it at one input. -/
def fnExactBusiestDayWrong : ChangeSpec := { name := "fnExactBusiestDay", fn := fun _ => fun
  | [d] => { results := [.lit (.bool false)], args := [d] }
  | _ => none }
def FnExactBusiestDayWrongFalsely : Prop := fnExactBusiestDayRow.holds Try.pinned (OpenSpec.ofChange fnExactBusiestDayWrong)

/-- 'laws.FnExactErrorSum': WHATEVER THE INPUT: true; the input reads as it did. -/
def fnExactErrorSumSpec : ChangeSpec := { name := "fnExactErrorSum", fn := fun _ => fun
  | [d] => { results := [.lit (.bool true)], args := [d] }
  | _ => none }
def fnExactErrorSumRow : OpenClaim := { program := "ytlilmpclkhmkoab", sum := "cbe44be9bd4436f1cd0ecb2e31a9039ced1a91561be30fc25bf97ed8fce93352", func := "loop.example/g03310/laws.FnExactErrorSum", spec := "fnExactErrorSum", apart := false }
def FnExactErrorSumSaid : Prop := fnExactErrorSumRow.holds Try.pinned (OpenSpec.ofChange fnExactErrorSumSpec)

/-- ITS FALSE NEIGHBOUR: 'it returns false'. Refute it at one input. -/
def fnExactErrorSumWrong : ChangeSpec := { name := "fnExactErrorSum", fn := fun _ => fun
  | [d] => { results := [.lit (.bool false)], args := [d] }
  | _ => none }
def FnExactErrorSumWrongFalsely : Prop := fnExactErrorSumRow.holds Try.pinned (OpenSpec.ofChange fnExactErrorSumWrong)

/- THE SECOND FORM. 'bulk': how many values and letters a reading holds, each counted each time it is reached (what is shared counts as often as it is met; a slice's spare places count too). A statement '..UptoSaid' is the law's where the arguments, and the package variables that the reading takes, are together of bulk at most 1048576: NARROWER than '..Said'. Prove '..Said' where nothing that the law and all that it calls make is longer than what came in: it says more and counts as full. Else prove '..UptoSaid'. A law counts once. -/
mutual
def uptoBulk {H : Type} : DataW H → Nat
  | .lit (.string bytes) => bytes.length + 1
  | .lit _ => 1
  | .nil => 1
  | .ptr d => uptoBulk d + 1
  | .slice elems spare => uptoBulkAll elems + uptoBulkAll spare + 1
  | .agg parts => uptoBulkAll parts + 1
  | .iface _ d => uptoBulk d + 1
  | .map entries => uptoBulkEntries entries + 1
  | .held _ => 1
def uptoBulkAll {H : Type} : List (DataW H) → Nat
  | [] => 0
  | d :: r => uptoBulk d + uptoBulkAll r
def uptoBulkEntries {H : Type} : List (Lit × DataW H) → Nat
  | [] => 0
  | x :: r => uptoBulkEntry x + uptoBulkEntries r
def uptoBulkEntry {H : Type} : Lit × DataW H → Nat
  | (.string bytes, d) => bytes.length + uptoBulk d + 1
  | (_, d) => uptoBulk d + 1
 end
def uptoSmall : (H : Type) → List (DataW H) → Bool := fun _ ds => decide (uptoBulkAll ds ≤ 1048576)
def OpenSpec.upto (s : _root_.Go.ChangeSpec) : _root_.Go.OpenSpec := { _root_.Go.OpenSpec.ofChange s with cond := some uptoSmall }

/-- 'laws.FnForecasts', WHERE WHAT IT READS IS OF BULK AT MOST 1048576: true; the input reads as it did. -/
def fnForecastsUptoRow : OpenClaim := { program := "ytlilmpclkhmkoab", sum := "cbe44be9bd4436f1cd0ecb2e31a9039ced1a91561be30fc25bf97ed8fce93352", func := "loop.example/g03310/laws.FnForecasts", spec := "fnForecasts", apart := false, narrowed := true }
def FnForecastsUptoSaid : Prop := fnForecastsUptoRow.holds Try.pinned (OpenSpec.upto fnForecastsSpec)

/-- 'laws.FnExactSalesOk', WHERE WHAT IT READS IS OF BULK AT MOST 1048576: true; the input reads as it did. -/
def fnExactSalesOkUptoRow : OpenClaim := { program := "ytlilmpclkhmkoab", sum := "cbe44be9bd4436f1cd0ecb2e31a9039ced1a91561be30fc25bf97ed8fce93352", func := "loop.example/g03310/laws.FnExactSalesOk", spec := "fnExactSalesOk", apart := false, narrowed := true }
def FnExactSalesOkUptoSaid : Prop := fnExactSalesOkUptoRow.holds Try.pinned (OpenSpec.upto fnExactSalesOkSpec)

/-- 'laws.FnExactMeanOf', WHERE WHAT IT READS IS OF BULK AT MOST 1048576: true; the input reads as it did. -/
def fnExactMeanOfUptoRow : OpenClaim := { program := "ytlilmpclkhmkoab", sum := "cbe44be9bd4436f1cd0ecb2e31a9039ced1a91561be30fc25bf97ed8fce93352", func := "loop.example/g03310/laws.FnExactMeanOf", spec := "fnExactMeanOf", apart := false, narrowed := true }
def FnExactMeanOfUptoSaid : Prop := fnExactMeanOfUptoRow.holds Try.pinned (OpenSpec.upto fnExactMeanOfSpec)

/-- 'laws.FnExactNextSales', WHERE WHAT IT READS IS OF BULK AT MOST 1048576: true; the input reads as it did. -/
def fnExactNextSalesUptoRow : OpenClaim := { program := "ytlilmpclkhmkoab", sum := "cbe44be9bd4436f1cd0ecb2e31a9039ced1a91561be30fc25bf97ed8fce93352", func := "loop.example/g03310/laws.FnExactNextSales", spec := "fnExactNextSales", apart := false, narrowed := true }
def FnExactNextSalesUptoSaid : Prop := fnExactNextSalesUptoRow.holds Try.pinned (OpenSpec.upto fnExactNextSalesSpec)

/-- 'laws.FnExactBusiestDay', WHERE WHAT IT READS IS OF BULK AT MOST 1048576: true; the input reads as it did. -/
def fnExactBusiestDayUptoRow : OpenClaim := { program := "ytlilmpclkhmkoab", sum := "cbe44be9bd4436f1cd0ecb2e31a9039ced1a91561be30fc25bf97ed8fce93352", func := "loop.example/g03310/laws.FnExactBusiestDay", spec := "fnExactBusiestDay", apart := false, narrowed := true }
def FnExactBusiestDayUptoSaid : Prop := fnExactBusiestDayUptoRow.holds Try.pinned (OpenSpec.upto fnExactBusiestDaySpec)

/-- 'laws.FnExactErrorSum', WHERE WHAT IT READS IS OF BULK AT MOST 1048576: true; the input reads as it did. -/
def fnExactErrorSumUptoRow : OpenClaim := { program := "ytlilmpclkhmkoab", sum := "cbe44be9bd4436f1cd0ecb2e31a9039ced1a91561be30fc25bf97ed8fce93352", func := "loop.example/g03310/laws.FnExactErrorSum", spec := "fnExactErrorSum", apart := false, narrowed := true }
def FnExactErrorSumUptoSaid : Prop := fnExactErrorSumUptoRow.holds Try.pinned (OpenSpec.upto fnExactErrorSumSpec)

end Rows
end Go.Proofs.Ytlilmpclkhmkoab
