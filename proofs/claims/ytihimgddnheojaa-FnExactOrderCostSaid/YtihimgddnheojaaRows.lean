/-
  No cell of these rows narrows 'for every input' (looked for: loops, veiled, ifaces, maps, wideKeys, modest, calm, conditions, laid).
  DERIVED. THE GIVEN ROWS OF THIS SEAT. 6 by the template 'for every input the law returns true; each argument reads behind the call as it read before'; 0 by the template 'total and deterministic' (their statements: YtihimgddnheojaaTotals.lean).
  GIVEN WITH THE SEED: the statements are not yours to turn. If you find one false, say at which input.
  Laid BY PROGRAM, IN A SANDBOX (cutbox-rows.mjs): the forced cells as the released guide's own fill.sh prints them over the translation c1fea38430ca7ae0… (all of the seat's roots in one cut). By AI agents, Wed Nov 11 2026. No macro, syntax, notation, axiom, sorry.
-/
import Derived.Test.YtihimgddnheojaaChecked
import GoSem.Claim
import GoSem.ClaimJoined
import GoSem.ClaimMapViews
import Derived.JoinedTies
import Derived.KernelRfl
namespace Go.Proofs.Ytihimgddnheojaa
/- THE CELL 'sum', in the pinned program and in every row, IS THE sha256 OF THE DUMP (.gsa) THAT YtihimgddnheojaaProg.lean LOADS. Nothing in Lean hashes anything: it is a label: what it is worth is what the hold of that sum in a sandbox is worth. -/
noncomputable def Try.pinned : Pinned := { name := "ytihimgddnheojaa", sum := "c1fea38430ca7ae0b83e542bfe4b8aef160f5c431e8968fe360b0d4f41fd7208", checked := Try.checked }
namespace Rows
def none {H : Type} : Left H := { results := [], args := [] }

/-- 'laws.FnHeats': WHATEVER THE INPUT: true; the input reads as it did. -/
def fnHeatsSpec : ChangeSpec := { name := "fnHeats", fn := fun _ => fun
  | [d] => { results := [.lit (.bool true)], args := [d] }
  | _ => none }
def fnHeatsRow : OpenClaim := { program := "ytihimgddnheojaa", sum := "c1fea38430ca7ae0b83e542bfe4b8aef160f5c431e8968fe360b0d4f41fd7208", func := "loop.example/g03310/laws.FnHeats", spec := "fnHeats", unfollowed := true, recurses := true, apart := false }
def FnHeatsSaid : Prop := fnHeatsRow.holds Try.pinned (OpenSpec.ofChange fnHeatsSpec)

/-- ITS FALSE NEIGHBOUR: 'it returns false'. Refute it at one input. -/
def fnHeatsWrong : ChangeSpec := { name := "fnHeats", fn := fun _ => fun
  | [d] => { results := [.lit (.bool false)], args := [d] }
  | _ => none }
def FnHeatsWrongFalsely : Prop := fnHeatsRow.holds Try.pinned (OpenSpec.ofChange fnHeatsWrong)

/-- 'laws.FnExactHeatCost': WHATEVER THE INPUT: true; the input reads as it did. -/
def fnExactHeatCostSpec : ChangeSpec := { name := "fnExactHeatCost", fn := fun _ => fun
  | [d1, d2] => { results := [.lit (.bool true)], args := [d1, d2] }
  | _ => none }
def fnExactHeatCostRow : OpenClaim := { program := "ytihimgddnheojaa", sum := "c1fea38430ca7ae0b83e542bfe4b8aef160f5c431e8968fe360b0d4f41fd7208", func := "loop.example/g03310/laws.FnExactHeatCost", spec := "fnExactHeatCost", apart := false }
def FnExactHeatCostSaid : Prop := fnExactHeatCostRow.holds Try.pinned (OpenSpec.ofChange fnExactHeatCostSpec)

/-- ITS FALSE NEIGHBOUR: 'it returns false'. Refute it at one input. -/
def fnExactHeatCostWrong : ChangeSpec := { name := "fnExactHeatCost", fn := fun _ => fun
  | [d1, d2] => { results := [.lit (.bool false)], args := [d1, d2] }
  | _ => none }
def FnExactHeatCostWrongFalsely : Prop := fnExactHeatCostRow.holds Try.pinned (OpenSpec.ofChange fnExactHeatCostWrong)

/-- 'laws.FnExactOrderCost': WHATEVER THE INPUT: true; the input reads as it did. -/
def fnExactOrderCostSpec : ChangeSpec := { name := "fnExactOrderCost", fn := fun _ => fun
  | [d1, d2, d3] => { results := [.lit (.bool true)], args := [d1, d2, d3] }
  | _ => none }
def fnExactOrderCostRow : OpenClaim := { program := "ytihimgddnheojaa", sum := "c1fea38430ca7ae0b83e542bfe4b8aef160f5c431e8968fe360b0d4f41fd7208", func := "loop.example/g03310/laws.FnExactOrderCost", spec := "fnExactOrderCost", apart := false }
def FnExactOrderCostSaid : Prop := fnExactOrderCostRow.holds Try.pinned (OpenSpec.ofChange fnExactOrderCostSpec)

/-- ITS FALSE NEIGHBOUR: 'it returns false'. Refute it at one input. -/
def fnExactOrderCostWrong : ChangeSpec := { name := "fnExactOrderCost", fn := fun _ => fun
  | [d1, d2, d3] => { results := [.lit (.bool false)], args := [d1, d2, d3] }
  | _ => none }
def FnExactOrderCostWrongFalsely : Prop := fnExactOrderCostRow.holds Try.pinned (OpenSpec.ofChange fnExactOrderCostWrong)

/-- 'laws.FnExactFallingOrder': WHATEVER THE INPUT: true; the input reads as it did. -/
def fnExactFallingOrderSpec : ChangeSpec := { name := "fnExactFallingOrder", fn := fun _ => fun
  | [d] => { results := [.lit (.bool true)], args := [d] }
  | _ => none }
def fnExactFallingOrderRow : OpenClaim := { program := "ytihimgddnheojaa", sum := "c1fea38430ca7ae0b83e542bfe4b8aef160f5c431e8968fe360b0d4f41fd7208", func := "loop.example/g03310/laws.FnExactFallingOrder", spec := "fnExactFallingOrder", unfollowed := true, recurses := true, apart := false }
def FnExactFallingOrderSaid : Prop := fnExactFallingOrderRow.holds Try.pinned (OpenSpec.ofChange fnExactFallingOrderSpec)

/-- ITS FALSE NEIGHBOUR: 'it returns false'. Refute it at one input. -/
def fnExactFallingOrderWrong : ChangeSpec := { name := "fnExactFallingOrder", fn := fun _ => fun
  | [d] => { results := [.lit (.bool false)], args := [d] }
  | _ => none }
def FnExactFallingOrderWrongFalsely : Prop := fnExactFallingOrderRow.holds Try.pinned (OpenSpec.ofChange fnExactFallingOrderWrong)

/-- 'laws.FnExactBestHeats': WHATEVER THE INPUT: true; the input reads as it did. -/
def fnExactBestHeatsSpec : ChangeSpec := { name := "fnExactBestHeats", fn := fun _ => fun
  | [d1, d2] => { results := [.lit (.bool true)], args := [d1, d2] }
  | _ => none }
def fnExactBestHeatsRow : OpenClaim := { program := "ytihimgddnheojaa", sum := "c1fea38430ca7ae0b83e542bfe4b8aef160f5c431e8968fe360b0d4f41fd7208", func := "loop.example/g03310/laws.FnExactBestHeats", spec := "fnExactBestHeats", unfollowed := true, recurses := true, apart := false }
def FnExactBestHeatsSaid : Prop := fnExactBestHeatsRow.holds Try.pinned (OpenSpec.ofChange fnExactBestHeatsSpec)

/-- ITS FALSE NEIGHBOUR: 'it returns false'. Refute it at one input. -/
def fnExactBestHeatsWrong : ChangeSpec := { name := "fnExactBestHeats", fn := fun _ => fun
  | [d1, d2] => { results := [.lit (.bool false)], args := [d1, d2] }
  | _ => none }
def FnExactBestHeatsWrongFalsely : Prop := fnExactBestHeatsRow.holds Try.pinned (OpenSpec.ofChange fnExactBestHeatsWrong)

/-- 'laws.FnExactCoolAfter': WHATEVER THE INPUT: true; the input reads as it did. -/
def fnExactCoolAfterSpec : ChangeSpec := { name := "fnExactCoolAfter", fn := fun _ => fun
  | [d1, d2] => { results := [.lit (.bool true)], args := [d1, d2] }
  | _ => none }
def fnExactCoolAfterRow : OpenClaim := { program := "ytihimgddnheojaa", sum := "c1fea38430ca7ae0b83e542bfe4b8aef160f5c431e8968fe360b0d4f41fd7208", func := "loop.example/g03310/laws.FnExactCoolAfter", spec := "fnExactCoolAfter", apart := false }
def FnExactCoolAfterSaid : Prop := fnExactCoolAfterRow.holds Try.pinned (OpenSpec.ofChange fnExactCoolAfterSpec)

/-- ITS FALSE NEIGHBOUR: 'it returns false'. Refute it at one input. -/
def fnExactCoolAfterWrong : ChangeSpec := { name := "fnExactCoolAfter", fn := fun _ => fun
  | [d1, d2] => { results := [.lit (.bool false)], args := [d1, d2] }
  | _ => none }
def FnExactCoolAfterWrongFalsely : Prop := fnExactCoolAfterRow.holds Try.pinned (OpenSpec.ofChange fnExactCoolAfterWrong)

/- THE SECOND FORM. 'bulk': how many values and letters a reading holds, each counted each time it is reached (what is shared counts as often as it is met; a slice's spare places count too). A statement '..UptoSaid' is the law's where the arguments, and the package variables that the reading takes, are together of bulk at most 1048576: NARROWER than '..Said'. Prove '..Said' where nothing that the law and all that it calls make is longer than what came in: it says more and counts as full. Else prove '..UptoSaid'. A law counts once. -/
mutual
def uptoBulk {H : Type} : DataW H → Nat
  | .lit (.string bytes) => bytes.length + 1
  | .lit _ => 1
  | .nil => 1
  | .ptr d => uptoBulk d + 1
  | .slice elems spare => uptoBulkAll elems + uptoBulkAll spare + 1
  | .agg parts => uptoBulkAll parts + 1
  | .iface _ d => uptoBulk d + 1
  | .map entries => uptoBulkEntries entries + 1
  | .held _ => 1
def uptoBulkAll {H : Type} : List (DataW H) → Nat
  | [] => 0
  | d :: r => uptoBulk d + uptoBulkAll r
def uptoBulkEntries {H : Type} : List (Lit × DataW H) → Nat
  | [] => 0
  | x :: r => uptoBulkEntry x + uptoBulkEntries r
def uptoBulkEntry {H : Type} : Lit × DataW H → Nat
  | (.string bytes, d) => bytes.length + uptoBulk d + 1
  | (_, d) => uptoBulk d + 1
 end
def uptoSmall : (H : Type) → List (DataW H) → Bool := fun _ ds => decide (uptoBulkAll ds ≤ 1048576)
def OpenSpec.upto (s : _root_.Go.ChangeSpec) : _root_.Go.OpenSpec := { _root_.Go.OpenSpec.ofChange s with cond := some uptoSmall }

/-- 'laws.FnHeats', WHERE WHAT IT READS IS OF BULK AT MOST 1048576: true; the input reads as it did. -/
def fnHeatsUptoRow : OpenClaim := { program := "ytihimgddnheojaa", sum := "c1fea38430ca7ae0b83e542bfe4b8aef160f5c431e8968fe360b0d4f41fd7208", func := "loop.example/g03310/laws.FnHeats", spec := "fnHeats", unfollowed := true, recurses := true, apart := false, narrowed := true }
def FnHeatsUptoSaid : Prop := fnHeatsUptoRow.holds Try.pinned (OpenSpec.upto fnHeatsSpec)

/-- 'laws.FnExactHeatCost', WHERE WHAT IT READS IS OF BULK AT MOST 1048576: true; the input reads as it did. -/
def fnExactHeatCostUptoRow : OpenClaim := { program := "ytihimgddnheojaa", sum := "c1fea38430ca7ae0b83e542bfe4b8aef160f5c431e8968fe360b0d4f41fd7208", func := "loop.example/g03310/laws.FnExactHeatCost", spec := "fnExactHeatCost", apart := false, narrowed := true }
def FnExactHeatCostUptoSaid : Prop := fnExactHeatCostUptoRow.holds Try.pinned (OpenSpec.upto fnExactHeatCostSpec)

/-- 'laws.FnExactOrderCost', WHERE WHAT IT READS IS OF BULK AT MOST 1048576: true; the input reads as it did. -/
def fnExactOrderCostUptoRow : OpenClaim := { program := "ytihimgddnheojaa", sum := "c1fea38430ca7ae0b83e542bfe4b8aef160f5c431e8968fe360b0d4f41fd7208", func := "loop.example/g03310/laws.FnExactOrderCost", spec := "fnExactOrderCost", apart := false, narrowed := true }
def FnExactOrderCostUptoSaid : Prop := fnExactOrderCostUptoRow.holds Try.pinned (OpenSpec.upto fnExactOrderCostSpec)

/-- 'laws.FnExactFallingOrder', WHERE WHAT IT READS IS OF BULK AT MOST 1048576: true; the input reads as it did. -/
def fnExactFallingOrderUptoRow : OpenClaim := { program := "ytihimgddnheojaa", sum := "c1fea38430ca7ae0b83e542bfe4b8aef160f5c431e8968fe360b0d4f41fd7208", func := "loop.example/g03310/laws.FnExactFallingOrder", spec := "fnExactFallingOrder", unfollowed := true, recurses := true, apart := false, narrowed := true }
def FnExactFallingOrderUptoSaid : Prop := fnExactFallingOrderUptoRow.holds Try.pinned (OpenSpec.upto fnExactFallingOrderSpec)

/-- 'laws.FnExactBestHeats', WHERE WHAT IT READS IS OF BULK AT MOST 1048576: true; the input reads as it did. -/
def fnExactBestHeatsUptoRow : OpenClaim := { program := "ytihimgddnheojaa", sum := "c1fea38430ca7ae0b83e542bfe4b8aef160f5c431e8968fe360b0d4f41fd7208", func := "loop.example/g03310/laws.FnExactBestHeats", spec := "fnExactBestHeats", unfollowed := true, recurses := true, apart := false, narrowed := true }
def FnExactBestHeatsUptoSaid : Prop := fnExactBestHeatsUptoRow.holds Try.pinned (OpenSpec.upto fnExactBestHeatsSpec)

/-- 'laws.FnExactCoolAfter', WHERE WHAT IT READS IS OF BULK AT MOST 1048576: true; the input reads as it did. -/
def fnExactCoolAfterUptoRow : OpenClaim := { program := "ytihimgddnheojaa", sum := "c1fea38430ca7ae0b83e542bfe4b8aef160f5c431e8968fe360b0d4f41fd7208", func := "loop.example/g03310/laws.FnExactCoolAfter", spec := "fnExactCoolAfter", apart := false, narrowed := true }
def FnExactCoolAfterUptoSaid : Prop := fnExactCoolAfterUptoRow.holds Try.pinned (OpenSpec.upto fnExactCoolAfterSpec)

end Rows
end Go.Proofs.Ytihimgddnheojaa
