/-
  No cell of these rows narrows 'for every input' (looked for: loops, veiled, ifaces, maps, wideKeys, modest, calm, conditions, laid).
  DERIVED. THE GIVEN ROWS OF THIS SEAT. 3 by the template 'for every input the law returns true; each argument reads behind the call as it read before'; 0 by the template 'total and deterministic' (their statements: YtbbinndegcnedadTotals.lean).
  GIVEN WITH THE SEED: the statements are not yours to turn. If you find one false, say at which input.
  Laid BY PROGRAM, IN A SANDBOX (cutbox-rows.mjs): the forced cells as the released guide's own fill.sh prints them over the translation fda81d3755be249f… (all of the seat's roots in one cut). By AI agents, Wed Nov 11 2026. No macro, syntax, notation, axiom, sorry.
-/
import Derived.Test.YtbbinndegcnedadChecked
import GoSem.Claim
import GoSem.ClaimJoined
import GoSem.ClaimMapViews
import Derived.JoinedTies
import Derived.KernelRfl
namespace Go.Proofs.Ytbbinndegcnedad
/- THE CELL 'sum', in the pinned program and in every row, IS THE sha256 OF THE DUMP (.gsa) THAT YtbbinndegcnedadProg.lean LOADS. Nothing in Lean hashes anything: it is a label: what it is worth is what the hold of that sum in a sandbox is worth. -/
noncomputable def Try.pinned : Pinned := { name := "ytbbinndegcnedad", sum := "fda81d3755be249fbf051efc9a3e6d4ab86bd4c4f538ffdc48b09e4bdfe41046", checked := Try.checked }
namespace Rows
def none {H : Type} : Left H := { results := [], args := [] }

/-- 'laws.FnExactLowestTill': WHATEVER THE INPUT: true; the input reads as it did. -/
def fnExactLowestTillSpec : ChangeSpec := { name := "fnExactLowestTill", fn := fun _ => fun
  | [d1, d2] => { results := [.lit (.bool true)], args := [d1, d2] }
  | _ => none }
def fnExactLowestTillRow : OpenClaim := { program := "ytbbinndegcnedad", sum := "fda81d3755be249fbf051efc9a3e6d4ab86bd4c4f538ffdc48b09e4bdfe41046", func := "loop.example/g03310/laws.FnExactLowestTill", spec := "fnExactLowestTill", apart := false }
def FnExactLowestTillSaid : Prop := fnExactLowestTillRow.holds Try.pinned (OpenSpec.ofChange fnExactLowestTillSpec)

/-- ITS FALSE NEIGHBOUR: 'it returns false'. Refute it at one input. -/
def fnExactLowestTillWrong : ChangeSpec := { name := "fnExactLowestTill", fn := fun _ => fun
  | [d1, d2] => { results := [.lit (.bool false)], args := [d1, d2] }
  | _ => none }
def FnExactLowestTillWrongFalsely : Prop := fnExactLowestTillRow.holds Try.pinned (OpenSpec.ofChange fnExactLowestTillWrong)

/-- 'laws.FnExactLeastStart': WHATEVER THE INPUT: true; the input reads as it did. -/
def fnExactLeastStartSpec : ChangeSpec := { name := "fnExactLeastStart", fn := fun _ => fun
  | [d] => { results := [.lit (.bool true)], args := [d] }
  | _ => none }
def fnExactLeastStartRow : OpenClaim := { program := "ytbbinndegcnedad", sum := "fda81d3755be249fbf051efc9a3e6d4ab86bd4c4f538ffdc48b09e4bdfe41046", func := "loop.example/g03310/laws.FnExactLeastStart", spec := "fnExactLeastStart", apart := false }
def FnExactLeastStartSaid : Prop := fnExactLeastStartRow.holds Try.pinned (OpenSpec.ofChange fnExactLeastStartSpec)

/-- ITS FALSE NEIGHBOUR: 'it returns false'. Refute it at one input. -/
def fnExactLeastStartWrong : ChangeSpec := { name := "fnExactLeastStart", fn := fun _ => fun
  | [d] => { results := [.lit (.bool false)], args := [d] }
  | _ => none }
def FnExactLeastStartWrongFalsely : Prop := fnExactLeastStartRow.holds Try.pinned (OpenSpec.ofChange fnExactLeastStartWrong)

/-- 'laws.FnExactMissingMoney': WHATEVER THE INPUT: true; the input reads as it did. -/
def fnExactMissingMoneySpec : ChangeSpec := { name := "fnExactMissingMoney", fn := fun _ => fun
  | [d1, d2, d3] => { results := [.lit (.bool true)], args := [d1, d2, d3] }
  | _ => none }
def fnExactMissingMoneyRow : OpenClaim := { program := "ytbbinndegcnedad", sum := "fda81d3755be249fbf051efc9a3e6d4ab86bd4c4f538ffdc48b09e4bdfe41046", func := "loop.example/g03310/laws.FnExactMissingMoney", spec := "fnExactMissingMoney", apart := false }
def FnExactMissingMoneySaid : Prop := fnExactMissingMoneyRow.holds Try.pinned (OpenSpec.ofChange fnExactMissingMoneySpec)

/-- ITS FALSE NEIGHBOUR: 'it returns false'. Refute it at one input. -/
def fnExactMissingMoneyWrong : ChangeSpec := { name := "fnExactMissingMoney", fn := fun _ => fun
  | [d1, d2, d3] => { results := [.lit (.bool false)], args := [d1, d2, d3] }
  | _ => none }
def FnExactMissingMoneyWrongFalsely : Prop := fnExactMissingMoneyRow.holds Try.pinned (OpenSpec.ofChange fnExactMissingMoneyWrong)

/- THE SECOND FORM. 'bulk': how many values and letters a reading holds, each counted each time it is reached (what is shared counts as often as it is met; a slice's spare places count too). A statement '..UptoSaid' is the law's where the arguments, and the package variables that the reading takes, are together of bulk at most 1048576: NARROWER than '..Said'. Prove '..Said' where nothing that the law and all that it calls make is longer than what came in: it says more and counts as full. Else prove '..UptoSaid'. A law counts once. -/
mutual
def uptoBulk {H : Type} : DataW H → Nat
  | .lit (.string bytes) => bytes.length + 1
  | .lit _ => 1
  | .nil => 1
  | .ptr d => uptoBulk d + 1
  | .slice elems spare => uptoBulkAll elems + uptoBulkAll spare + 1
  | .agg parts => uptoBulkAll parts + 1
  | .iface _ d => uptoBulk d + 1
  | .map entries => uptoBulkEntries entries + 1
  | .held _ => 1
def uptoBulkAll {H : Type} : List (DataW H) → Nat
  | [] => 0
  | d :: r => uptoBulk d + uptoBulkAll r
def uptoBulkEntries {H : Type} : List (Lit × DataW H) → Nat
  | [] => 0
  | x :: r => uptoBulkEntry x + uptoBulkEntries r
def uptoBulkEntry {H : Type} : Lit × DataW H → Nat
  | (.string bytes, d) => bytes.length + uptoBulk d + 1
  | (_, d) => uptoBulk d + 1
 end
def uptoSmall : (H : Type) → List (DataW H) → Bool := fun _ ds => decide (uptoBulkAll ds ≤ 1048576)
def OpenSpec.upto (s : _root_.Go.ChangeSpec) : _root_.Go.OpenSpec := { _root_.Go.OpenSpec.ofChange s with cond := some uptoSmall }

/-- 'laws.FnExactLowestTill', WHERE WHAT IT READS IS OF BULK AT MOST 1048576: true; the input reads as it did. -/
def fnExactLowestTillUptoRow : OpenClaim := { program := "ytbbinndegcnedad", sum := "fda81d3755be249fbf051efc9a3e6d4ab86bd4c4f538ffdc48b09e4bdfe41046", func := "loop.example/g03310/laws.FnExactLowestTill", spec := "fnExactLowestTill", apart := false, narrowed := true }
def FnExactLowestTillUptoSaid : Prop := fnExactLowestTillUptoRow.holds Try.pinned (OpenSpec.upto fnExactLowestTillSpec)

/-- 'laws.FnExactLeastStart', WHERE WHAT IT READS IS OF BULK AT MOST 1048576: true; the input reads as it did. -/
def fnExactLeastStartUptoRow : OpenClaim := { program := "ytbbinndegcnedad", sum := "fda81d3755be249fbf051efc9a3e6d4ab86bd4c4f538ffdc48b09e4bdfe41046", func := "loop.example/g03310/laws.FnExactLeastStart", spec := "fnExactLeastStart", apart := false, narrowed := true }
def FnExactLeastStartUptoSaid : Prop := fnExactLeastStartUptoRow.holds Try.pinned (OpenSpec.upto fnExactLeastStartSpec)

/-- 'laws.FnExactMissingMoney', WHERE WHAT IT READS IS OF BULK AT MOST 1048576: true; the input reads as it did. -/
def fnExactMissingMoneyUptoRow : OpenClaim := { program := "ytbbinndegcnedad", sum := "fda81d3755be249fbf051efc9a3e6d4ab86bd4c4f538ffdc48b09e4bdfe41046", func := "loop.example/g03310/laws.FnExactMissingMoney", spec := "fnExactMissingMoney", apart := false, narrowed := true }
def FnExactMissingMoneyUptoSaid : Prop := fnExactMissingMoneyUptoRow.holds Try.pinned (OpenSpec.upto fnExactMissingMoneySpec)

end Rows
end Go.Proofs.Ytbbinndegcnedad
