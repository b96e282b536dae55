/-
  No cell of these rows narrows 'for every input' (looked for: loops, veiled, ifaces, maps, wideKeys, modest, calm, conditions, laid).
  DERIVED. THE GIVEN ROWS OF THIS SEAT. 8 by the template 'for every input the law returns true; each argument reads behind the call as it read before'; 0 by the template 'total and deterministic' (their statements: YtoekdckgbcilbaaTotals.lean).
  GIVEN WITH THE SEED: the statements are not yours to turn. If you find one false, say at which input.
  Laid BY PROGRAM, IN A SANDBOX (cutbox-rows.mjs): the forced cells as the released guide's own fill.sh prints them over the translation 4b569273e3925397… (all of the seat's roots in one cut). By AI agents, Wed Nov 11 2026. No macro, syntax, notation, axiom, sorry.
-/
import Derived.Test.YtoekdckgbcilbaaChecked
import GoSem.Claim
import GoSem.ClaimJoined
import GoSem.ClaimMapViews
import Derived.JoinedTies
import Derived.KernelRfl
namespace Go.Proofs.Ytoekdckgbcilbaa
/- THE CELL 'sum', in the pinned program and in every row, IS THE sha256 OF THE DUMP (.gsa) THAT YtoekdckgbcilbaaProg.lean LOADS. Nothing in Lean hashes anything: it is a label: what it is worth is what the hold of that sum in a sandbox is worth. -/
noncomputable def Try.pinned : Pinned := { name := "ytoekdckgbcilbaa", sum := "4b569273e39253978ce0b79951fce10370c8de50e5ad1b4f6b930a0d804b64b4", checked := Try.checked }
namespace Rows
def none {H : Type} : Left H := { results := [], args := [] }

/-- 'laws.FnDoughs': WHATEVER THE INPUT: true; the input reads as it did. -/
def fnDoughsSpec : ChangeSpec := { name := "fnDoughs", fn := fun _ => fun
  | [d] => { results := [.lit (.bool true)], args := [d] }
  | _ => none }
def fnDoughsRow : OpenClaim := { program := "ytoekdckgbcilbaa", sum := "4b569273e39253978ce0b79951fce10370c8de50e5ad1b4f6b930a0d804b64b4", func := "loop.example/g03310/laws.FnDoughs", spec := "fnDoughs", apart := false }
def FnDoughsSaid : Prop := fnDoughsRow.holds Try.pinned (OpenSpec.ofChange fnDoughsSpec)

/-- ITS FALSE NEIGHBOUR: 'it returns false'. Refute it at one input. -/
def fnDoughsWrong : ChangeSpec := { name := "fnDoughs", fn := fun _ => fun
  | [d] => { results := [.lit (.bool false)], args := [d] }
  | _ => none }
def FnDoughsWrongFalsely : Prop := fnDoughsRow.holds Try.pinned (OpenSpec.ofChange fnDoughsWrong)

/-- 'laws.FnExactDoughOk': WHATEVER THE INPUT: true; the input reads as it did. -/
def fnExactDoughOkSpec : ChangeSpec := { name := "fnExactDoughOk", fn := fun _ => fun
  | [d] => { results := [.lit (.bool true)], args := [d] }
  | _ => none }
def fnExactDoughOkRow : OpenClaim := { program := "ytoekdckgbcilbaa", sum := "4b569273e39253978ce0b79951fce10370c8de50e5ad1b4f6b930a0d804b64b4", func := "loop.example/g03310/laws.FnExactDoughOk", spec := "fnExactDoughOk", apart := false }
def FnExactDoughOkSaid : Prop := fnExactDoughOkRow.holds Try.pinned (OpenSpec.ofChange fnExactDoughOkSpec)

/-- ITS FALSE NEIGHBOUR: 'it returns false'. Refute it at one input. -/
def fnExactDoughOkWrong : ChangeSpec := { name := "fnExactDoughOk", fn := fun _ => fun
  | [d] => { results := [.lit (.bool false)], args := [d] }
  | _ => none }
def FnExactDoughOkWrongFalsely : Prop := fnExactDoughOkRow.holds Try.pinned (OpenSpec.ofChange fnExactDoughOkWrong)

/-- 'laws.FnExactWholeParts': WHATEVER THE INPUT: true; the input reads as it did. -/
def fnExactWholePartsSpec : ChangeSpec := { name := "fnExactWholeParts", fn := fun _ => fun
  | [d] => { results := [.lit (.bool true)], args := [d] }
  | _ => none }
def fnExactWholePartsRow : OpenClaim := { program := "ytoekdckgbcilbaa", sum := "4b569273e39253978ce0b79951fce10370c8de50e5ad1b4f6b930a0d804b64b4", func := "loop.example/g03310/laws.FnExactWholeParts", spec := "fnExactWholeParts", apart := false }
def FnExactWholePartsSaid : Prop := fnExactWholePartsRow.holds Try.pinned (OpenSpec.ofChange fnExactWholePartsSpec)

/-- ITS FALSE NEIGHBOUR: 'it returns false'. Refute it at one input. -/
def fnExactWholePartsWrong : ChangeSpec := { name := "fnExactWholeParts", fn := fun _ => fun
  | [d] => { results := [.lit (.bool false)], args := [d] }
  | _ => none }
def FnExactWholePartsWrongFalsely : Prop := fnExactWholePartsRow.holds Try.pinned (OpenSpec.ofChange fnExactWholePartsWrong)

/-- 'laws.FnExactFlourFor': WHATEVER THE INPUT: true; the input reads as it did. -/
def fnExactFlourForSpec : ChangeSpec := { name := "fnExactFlourFor", fn := fun _ => fun
  | [d1, d2] => { results := [.lit (.bool true)], args := [d1, d2] }
  | _ => none }
def fnExactFlourForRow : OpenClaim := { program := "ytoekdckgbcilbaa", sum := "4b569273e39253978ce0b79951fce10370c8de50e5ad1b4f6b930a0d804b64b4", func := "loop.example/g03310/laws.FnExactFlourFor", spec := "fnExactFlourFor", apart := false }
def FnExactFlourForSaid : Prop := fnExactFlourForRow.holds Try.pinned (OpenSpec.ofChange fnExactFlourForSpec)

/-- ITS FALSE NEIGHBOUR: 'it returns false'. Refute it at one input. -/
def fnExactFlourForWrong : ChangeSpec := { name := "fnExactFlourFor", fn := fun _ => fun
  | [d1, d2] => { results := [.lit (.bool false)], args := [d1, d2] }
  | _ => none }
def FnExactFlourForWrongFalsely : Prop := fnExactFlourForRow.holds Try.pinned (OpenSpec.ofChange fnExactFlourForWrong)

/-- 'laws.FnExactPartOf': WHATEVER THE INPUT: true; the input reads as it did. -/
def fnExactPartOfSpec : ChangeSpec := { name := "fnExactPartOf", fn := fun _ => fun
  | [d1, d2] => { results := [.lit (.bool true)], args := [d1, d2] }
  | _ => none }
def fnExactPartOfRow : OpenClaim := { program := "ytoekdckgbcilbaa", sum := "4b569273e39253978ce0b79951fce10370c8de50e5ad1b4f6b930a0d804b64b4", func := "loop.example/g03310/laws.FnExactPartOf", spec := "fnExactPartOf", apart := false }
def FnExactPartOfSaid : Prop := fnExactPartOfRow.holds Try.pinned (OpenSpec.ofChange fnExactPartOfSpec)

/-- ITS FALSE NEIGHBOUR: 'it returns false'. Refute it at one input. -/
def fnExactPartOfWrong : ChangeSpec := { name := "fnExactPartOf", fn := fun _ => fun
  | [d1, d2] => { results := [.lit (.bool false)], args := [d1, d2] }
  | _ => none }
def FnExactPartOfWrongFalsely : Prop := fnExactPartOfRow.holds Try.pinned (OpenSpec.ofChange fnExactPartOfWrong)

/-- 'laws.FnExactAmounts': WHATEVER THE INPUT: true; the input reads as it did. -/
def fnExactAmountsSpec : ChangeSpec := { name := "fnExactAmounts", fn := fun _ => fun
  | [d1, d2] => { results := [.lit (.bool true)], args := [d1, d2] }
  | _ => none }
def fnExactAmountsRow : OpenClaim := { program := "ytoekdckgbcilbaa", sum := "4b569273e39253978ce0b79951fce10370c8de50e5ad1b4f6b930a0d804b64b4", func := "loop.example/g03310/laws.FnExactAmounts", spec := "fnExactAmounts", apart := false }
def FnExactAmountsSaid : Prop := fnExactAmountsRow.holds Try.pinned (OpenSpec.ofChange fnExactAmountsSpec)

/-- ITS FALSE NEIGHBOUR: 'it returns false'. Refute it at one input. -/
def fnExactAmountsWrong : ChangeSpec := { name := "fnExactAmounts", fn := fun _ => fun
  | [d1, d2] => { results := [.lit (.bool false)], args := [d1, d2] }
  | _ => none }
def FnExactAmountsWrongFalsely : Prop := fnExactAmountsRow.holds Try.pinned (OpenSpec.ofChange fnExactAmountsWrong)

/-- 'laws.FnExactDoughWeight': WHATEVER THE INPUT: true; the input reads as it did. -/
def fnExactDoughWeightSpec : ChangeSpec := { name := "fnExactDoughWeight", fn := fun _ => fun
  | [d1, d2] => { results := [.lit (.bool true)], args := [d1, d2] }
  | _ => none }
def fnExactDoughWeightRow : OpenClaim := { program := "ytoekdckgbcilbaa", sum := "4b569273e39253978ce0b79951fce10370c8de50e5ad1b4f6b930a0d804b64b4", func := "loop.example/g03310/laws.FnExactDoughWeight", spec := "fnExactDoughWeight", apart := false }
def FnExactDoughWeightSaid : Prop := fnExactDoughWeightRow.holds Try.pinned (OpenSpec.ofChange fnExactDoughWeightSpec)

/-- ITS FALSE NEIGHBOUR: 'it returns false'. Refute it at one input. -/
def fnExactDoughWeightWrong : ChangeSpec := { name := "fnExactDoughWeight", fn := fun _ => fun
  | [d1, d2] => { results := [.lit (.bool false)], args := [d1, d2] }
  | _ => none }
def FnExactDoughWeightWrongFalsely : Prop := fnExactDoughWeightRow.holds Try.pinned (OpenSpec.ofChange fnExactDoughWeightWrong)

/-- 'laws.FnExactFirmer': WHATEVER THE INPUT: true; the input reads as it did. -/
def fnExactFirmerSpec : ChangeSpec := { name := "fnExactFirmer", fn := fun _ => fun
  | [d1, d2] => { results := [.lit (.bool true)], args := [d1, d2] }
  | _ => none }
def fnExactFirmerRow : OpenClaim := { program := "ytoekdckgbcilbaa", sum := "4b569273e39253978ce0b79951fce10370c8de50e5ad1b4f6b930a0d804b64b4", func := "loop.example/g03310/laws.FnExactFirmer", spec := "fnExactFirmer", apart := false }
def FnExactFirmerSaid : Prop := fnExactFirmerRow.holds Try.pinned (OpenSpec.ofChange fnExactFirmerSpec)

/-- ITS FALSE NEIGHBOUR: 'it returns false'. Refute it at one input. -/
def fnExactFirmerWrong : ChangeSpec := { name := "fnExactFirmer", fn := fun _ => fun
  | [d1, d2] => { results := [.lit (.bool false)], args := [d1, d2] }
  | _ => none }
def FnExactFirmerWrongFalsely : Prop := fnExactFirmerRow.holds Try.pinned (OpenSpec.ofChange fnExactFirmerWrong)

/- THE SECOND FORM. 'bulk': how many values and letters a reading holds, each counted each time it is reached (what is shared counts as often as it is met; a slice's spare places count too). A statement '..UptoSaid' is the law's where the arguments, and the package variables that the reading takes, are together of bulk at most 1048576: NARROWER than '..Said'. Prove '..Said' where nothing that the law and all that it calls make is longer than what came in: it says more and counts as full. Else prove '..UptoSaid'. A law counts once. -/
mutual
def uptoBulk {H : Type} : DataW H → Nat
  | .lit (.string bytes) => bytes.length + 1
  | .lit _ => 1
  | .nil => 1
  | .ptr d => uptoBulk d + 1
  | .slice elems spare => uptoBulkAll elems + uptoBulkAll spare + 1
  | .agg parts => uptoBulkAll parts + 1
  | .iface _ d => uptoBulk d + 1
  | .map entries => uptoBulkEntries entries + 1
  | .held _ => 1
def uptoBulkAll {H : Type} : List (DataW H) → Nat
  | [] => 0
  | d :: r => uptoBulk d + uptoBulkAll r
def uptoBulkEntries {H : Type} : List (Lit × DataW H) → Nat
  | [] => 0
  | x :: r => uptoBulkEntry x + uptoBulkEntries r
def uptoBulkEntry {H : Type} : Lit × DataW H → Nat
  | (.string bytes, d) => bytes.length + uptoBulk d + 1
  | (_, d) => uptoBulk d + 1
 end
def uptoSmall : (H : Type) → List (DataW H) → Bool := fun _ ds => decide (uptoBulkAll ds ≤ 1048576)
def OpenSpec.upto (s : _root_.Go.ChangeSpec) : _root_.Go.OpenSpec := { _root_.Go.OpenSpec.ofChange s with cond := some uptoSmall }

/-- 'laws.FnDoughs', WHERE WHAT IT READS IS OF BULK AT MOST 1048576: true; the input reads as it did. -/
def fnDoughsUptoRow : OpenClaim := { program := "ytoekdckgbcilbaa", sum := "4b569273e39253978ce0b79951fce10370c8de50e5ad1b4f6b930a0d804b64b4", func := "loop.example/g03310/laws.FnDoughs", spec := "fnDoughs", apart := false, narrowed := true }
def FnDoughsUptoSaid : Prop := fnDoughsUptoRow.holds Try.pinned (OpenSpec.upto fnDoughsSpec)

/-- 'laws.FnExactDoughOk', WHERE WHAT IT READS IS OF BULK AT MOST 1048576: true; the input reads as it did. -/
def fnExactDoughOkUptoRow : OpenClaim := { program := "ytoekdckgbcilbaa", sum := "4b569273e39253978ce0b79951fce10370c8de50e5ad1b4f6b930a0d804b64b4", func := "loop.example/g03310/laws.FnExactDoughOk", spec := "fnExactDoughOk", apart := false, narrowed := true }
def FnExactDoughOkUptoSaid : Prop := fnExactDoughOkUptoRow.holds Try.pinned (OpenSpec.upto fnExactDoughOkSpec)

/-- 'laws.FnExactWholeParts', WHERE WHAT IT READS IS OF BULK AT MOST 1048576: true; the input reads as it did. -/
def fnExactWholePartsUptoRow : OpenClaim := { program := "ytoekdckgbcilbaa", sum := "4b569273e39253978ce0b79951fce10370c8de50e5ad1b4f6b930a0d804b64b4", func := "loop.example/g03310/laws.FnExactWholeParts", spec := "fnExactWholeParts", apart := false, narrowed := true }
def FnExactWholePartsUptoSaid : Prop := fnExactWholePartsUptoRow.holds Try.pinned (OpenSpec.upto fnExactWholePartsSpec)

/-- 'laws.FnExactFlourFor', WHERE WHAT IT READS IS OF BULK AT MOST 1048576: true; the input reads as it did. -/
def fnExactFlourForUptoRow : OpenClaim := { program := "ytoekdckgbcilbaa", sum := "4b569273e39253978ce0b79951fce10370c8de50e5ad1b4f6b930a0d804b64b4", func := "loop.example/g03310/laws.FnExactFlourFor", spec := "fnExactFlourFor", apart := false, narrowed := true }
def FnExactFlourForUptoSaid : Prop := fnExactFlourForUptoRow.holds Try.pinned (OpenSpec.upto fnExactFlourForSpec)

/-- 'laws.FnExactPartOf', WHERE WHAT IT READS IS OF BULK AT MOST 1048576: true; the input reads as it did. -/
def fnExactPartOfUptoRow : OpenClaim := { program := "ytoekdckgbcilbaa", sum := "4b569273e39253978ce0b79951fce10370c8de50e5ad1b4f6b930a0d804b64b4", func := "loop.example/g03310/laws.FnExactPartOf", spec := "fnExactPartOf", apart := false, narrowed := true }
def FnExactPartOfUptoSaid : Prop := fnExactPartOfUptoRow.holds Try.pinned (OpenSpec.upto fnExactPartOfSpec)

/-- 'laws.FnExactAmounts', WHERE WHAT IT READS IS OF BULK AT MOST 1048576: true; the input reads as it did. -/
def fnExactAmountsUptoRow : OpenClaim := { program := "ytoekdckgbcilbaa", sum := "4b569273e39253978ce0b79951fce10370c8de50e5ad1b4f6b930a0d804b64b4", func := "loop.example/g03310/laws.FnExactAmounts", spec := "fnExactAmounts", apart := false, narrowed := true }
def FnExactAmountsUptoSaid : Prop := fnExactAmountsUptoRow.holds Try.pinned (OpenSpec.upto fnExactAmountsSpec)

/-- 'laws.FnExactDoughWeight', WHERE WHAT IT READS IS OF BULK AT MOST 1048576: true; the input reads as it did. -/
def fnExactDoughWeightUptoRow : OpenClaim := { program := "ytoekdckgbcilbaa", sum := "4b569273e39253978ce0b79951fce10370c8de50e5ad1b4f6b930a0d804b64b4", func := "loop.example/g03310/laws.FnExactDoughWeight", spec := "fnExactDoughWeight", apart := false, narrowed := true }
def FnExactDoughWeightUptoSaid : Prop := fnExactDoughWeightUptoRow.holds Try.pinned (OpenSpec.upto fnExactDoughWeightSpec)

/-- 'laws.FnExactFirmer', WHERE WHAT IT READS IS OF BULK AT MOST 1048576: true; the input reads as it did. -/
def fnExactFirmerUptoRow : OpenClaim := { program := "ytoekdckgbcilbaa", sum := "4b569273e39253978ce0b79951fce10370c8de50e5ad1b4f6b930a0d804b64b4", func := "loop.example/g03310/laws.FnExactFirmer", spec := "fnExactFirmer", apart := false, narrowed := true }
def FnExactFirmerUptoSaid : Prop := fnExactFirmerUptoRow.holds Try.pinned (OpenSpec.upto fnExactFirmerSpec)

end Rows
end Go.Proofs.Ytoekdckgbcilbaa
