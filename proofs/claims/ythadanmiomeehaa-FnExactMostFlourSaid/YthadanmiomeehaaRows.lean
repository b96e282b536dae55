/-
  No cell of these rows narrows 'for every input' (looked for: loops, veiled, ifaces, maps, wideKeys, modest, calm, conditions, laid).
  DERIVED. THE GIVEN ROWS OF THIS SEAT. 6 by the template 'for every input the law returns true; each argument reads behind the call as it read before'; 0 by the template 'total and deterministic' (their statements: YthadanmiomeehaaTotals.lean).
  GIVEN WITH THE SEED: the statements are not yours to turn. If you find one false, say at which input.
  Laid BY PROGRAM, IN A SANDBOX (cutbox-rows.mjs): the forced cells as the released guide's own fill.sh prints them over the translation 535f63a0b2c79bac… (all of the seat's roots in one cut). By AI agents, Wed Nov 11 2026. No macro, syntax, notation, axiom, sorry.
-/
import Derived.Test.YthadanmiomeehaaChecked
import GoSem.Claim
import GoSem.ClaimJoined
import GoSem.ClaimMapViews
import Derived.JoinedTies
import Derived.KernelRfl
namespace Go.Proofs.Ythadanmiomeehaa
/- THE CELL 'sum', in the pinned program and in every row, IS THE sha256 OF THE DUMP (.gsa) THAT YthadanmiomeehaaProg.lean LOADS. Nothing in Lean hashes anything: it is a label: what it is worth is what the hold of that sum in a sandbox is worth. -/
noncomputable def Try.pinned : Pinned := { name := "ythadanmiomeehaa", sum := "535f63a0b2c79bac48669d0e3ad7f1a84e0356af86febad8755f4f3f71ed766c", checked := Try.checked }
namespace Rows
def none {H : Type} : Left H := { results := [], args := [] }

/-- 'laws.FnExactStoreOk': WHATEVER THE INPUT: true; the input reads as it did. -/
def fnExactStoreOkSpec : ChangeSpec := { name := "fnExactStoreOk", fn := fun _ => fun
  | [d] => { results := [.lit (.bool true)], args := [d] }
  | _ => none }
def fnExactStoreOkRow : OpenClaim := { program := "ythadanmiomeehaa", sum := "535f63a0b2c79bac48669d0e3ad7f1a84e0356af86febad8755f4f3f71ed766c", func := "loop.example/g03310/laws.FnExactStoreOk", spec := "fnExactStoreOk", apart := false }
def FnExactStoreOkSaid : Prop := fnExactStoreOkRow.holds Try.pinned (OpenSpec.ofChange fnExactStoreOkSpec)

/-- ITS FALSE NEIGHBOUR: 'it returns false'. Refute it at one input. -/
def fnExactStoreOkWrong : ChangeSpec := { name := "fnExactStoreOk", fn := fun _ => fun
  | [d] => { results := [.lit (.bool false)], args := [d] }
  | _ => none }
def FnExactStoreOkWrongFalsely : Prop := fnExactStoreOkRow.holds Try.pinned (OpenSpec.ofChange fnExactStoreOkWrong)

/-- 'laws.FnExactTakeFor': WHATEVER THE INPUT: true; the input reads as it did. -/
def fnExactTakeForSpec : ChangeSpec := { name := "fnExactTakeFor", fn := fun _ => fun
  | [d1, d2, d3] => { results := [.lit (.bool true)], args := [d1, d2, d3] }
  | _ => none }
def fnExactTakeForRow : OpenClaim := { program := "ythadanmiomeehaa", sum := "535f63a0b2c79bac48669d0e3ad7f1a84e0356af86febad8755f4f3f71ed766c", func := "loop.example/g03310/laws.FnExactTakeFor", spec := "fnExactTakeFor", unfollowed := true, recurses := true, apart := false }
def FnExactTakeForSaid : Prop := fnExactTakeForRow.holds Try.pinned (OpenSpec.ofChange fnExactTakeForSpec)

/-- ITS FALSE NEIGHBOUR: 'it returns false'. Refute it at one input. -/
def fnExactTakeForWrong : ChangeSpec := { name := "fnExactTakeFor", fn := fun _ => fun
  | [d1, d2, d3] => { results := [.lit (.bool false)], args := [d1, d2, d3] }
  | _ => none }
def FnExactTakeForWrongFalsely : Prop := fnExactTakeForRow.holds Try.pinned (OpenSpec.ofChange fnExactTakeForWrong)

/-- 'laws.FnExactMostFlour': WHATEVER THE INPUT: true; the input reads as it did. -/
def fnExactMostFlourSpec : ChangeSpec := { name := "fnExactMostFlour", fn := fun _ => fun
  | [d1, d2] => { results := [.lit (.bool true)], args := [d1, d2] }
  | _ => none }
def fnExactMostFlourRow : OpenClaim := { program := "ythadanmiomeehaa", sum := "535f63a0b2c79bac48669d0e3ad7f1a84e0356af86febad8755f4f3f71ed766c", func := "loop.example/g03310/laws.FnExactMostFlour", spec := "fnExactMostFlour", unfollowed := true, recurses := true, apart := false }
def FnExactMostFlourSaid : Prop := fnExactMostFlourRow.holds Try.pinned (OpenSpec.ofChange fnExactMostFlourSpec)

/-- ITS FALSE NEIGHBOUR: 'it returns false'. Refute it at one input. -/
def fnExactMostFlourWrong : ChangeSpec := { name := "fnExactMostFlour", fn := fun _ => fun
  | [d1, d2] => { results := [.lit (.bool false)], args := [d1, d2] }
  | _ => none }
def FnExactMostFlourWrongFalsely : Prop := fnExactMostFlourRow.holds Try.pinned (OpenSpec.ofChange fnExactMostFlourWrong)

/-- 'laws.FnExactFirstMissing': WHATEVER THE INPUT: true; the input reads as it did. -/
def fnExactFirstMissingSpec : ChangeSpec := { name := "fnExactFirstMissing", fn := fun _ => fun
  | [d1, d2, d3] => { results := [.lit (.bool true)], args := [d1, d2, d3] }
  | _ => none }
def fnExactFirstMissingRow : OpenClaim := { program := "ythadanmiomeehaa", sum := "535f63a0b2c79bac48669d0e3ad7f1a84e0356af86febad8755f4f3f71ed766c", func := "loop.example/g03310/laws.FnExactFirstMissing", spec := "fnExactFirstMissing", unfollowed := true, recurses := true, apart := false }
def FnExactFirstMissingSaid : Prop := fnExactFirstMissingRow.holds Try.pinned (OpenSpec.ofChange fnExactFirstMissingSpec)

/-- ITS FALSE NEIGHBOUR: 'it returns false'. Refute it at one input. -/
def fnExactFirstMissingWrong : ChangeSpec := { name := "fnExactFirstMissing", fn := fun _ => fun
  | [d1, d2, d3] => { results := [.lit (.bool false)], args := [d1, d2, d3] }
  | _ => none }
def FnExactFirstMissingWrongFalsely : Prop := fnExactFirstMissingRow.holds Try.pinned (OpenSpec.ofChange fnExactFirstMissingWrong)

/-- 'laws.FnExactFillStock': WHATEVER THE INPUT: true; the input reads as it did. -/
def fnExactFillStockSpec : ChangeSpec := { name := "fnExactFillStock", fn := fun _ => fun
  | [d1, d2, d3] => { results := [.lit (.bool true)], args := [d1, d2, d3] }
  | _ => none }
def fnExactFillStockRow : OpenClaim := { program := "ythadanmiomeehaa", sum := "535f63a0b2c79bac48669d0e3ad7f1a84e0356af86febad8755f4f3f71ed766c", func := "loop.example/g03310/laws.FnExactFillStock", spec := "fnExactFillStock", apart := false }
def FnExactFillStockSaid : Prop := fnExactFillStockRow.holds Try.pinned (OpenSpec.ofChange fnExactFillStockSpec)

/-- ITS FALSE NEIGHBOUR: 'it returns false'. Refute it at one input. -/
def fnExactFillStockWrong : ChangeSpec := { name := "fnExactFillStock", fn := fun _ => fun
  | [d1, d2, d3] => { results := [.lit (.bool false)], args := [d1, d2, d3] }
  | _ => none }
def FnExactFillStockWrongFalsely : Prop := fnExactFillStockRow.holds Try.pinned (OpenSpec.ofChange fnExactFillStockWrong)

/-- 'laws.FnExactMustBuy': WHATEVER THE INPUT: true; the input reads as it did. -/
def fnExactMustBuySpec : ChangeSpec := { name := "fnExactMustBuy", fn := fun _ => fun
  | [d1, d2, d3] => { results := [.lit (.bool true)], args := [d1, d2, d3] }
  | _ => none }
def fnExactMustBuyRow : OpenClaim := { program := "ythadanmiomeehaa", sum := "535f63a0b2c79bac48669d0e3ad7f1a84e0356af86febad8755f4f3f71ed766c", func := "loop.example/g03310/laws.FnExactMustBuy", spec := "fnExactMustBuy", unfollowed := true, recurses := true, apart := false }
def FnExactMustBuySaid : Prop := fnExactMustBuyRow.holds Try.pinned (OpenSpec.ofChange fnExactMustBuySpec)

/-- ITS FALSE NEIGHBOUR: 'it returns false'. Refute it at one input. -/
def fnExactMustBuyWrong : ChangeSpec := { name := "fnExactMustBuy", fn := fun _ => fun
  | [d1, d2, d3] => { results := [.lit (.bool false)], args := [d1, d2, d3] }
  | _ => none }
def FnExactMustBuyWrongFalsely : Prop := fnExactMustBuyRow.holds Try.pinned (OpenSpec.ofChange fnExactMustBuyWrong)

/- THE SECOND FORM. 'bulk': how many values and letters a reading holds, each counted each time it is reached (what is shared counts as often as it is met; a slice's spare places count too). A statement '..UptoSaid' is the law's where the arguments, and the package variables that the reading takes, are together of bulk at most 1048576: NARROWER than '..Said'. Prove '..Said' where nothing that the law and all that it calls make is longer than what came in: it says more and counts as full. Else prove '..UptoSaid'. A law counts once. -/
mutual
def uptoBulk {H : Type} : DataW H → Nat
  | .lit (.string bytes) => bytes.length + 1
  | .lit _ => 1
  | .nil => 1
  | .ptr d => uptoBulk d + 1
  | .slice elems spare => uptoBulkAll elems + uptoBulkAll spare + 1
  | .agg parts => uptoBulkAll parts + 1
  | .iface _ d => uptoBulk d + 1
  | .map entries => uptoBulkEntries entries + 1
  | .held _ => 1
def uptoBulkAll {H : Type} : List (DataW H) → Nat
  | [] => 0
  | d :: r => uptoBulk d + uptoBulkAll r
def uptoBulkEntries {H : Type} : List (Lit × DataW H) → Nat
  | [] => 0
  | x :: r => uptoBulkEntry x + uptoBulkEntries r
def uptoBulkEntry {H : Type} : Lit × DataW H → Nat
  | (.string bytes, d) => bytes.length + uptoBulk d + 1
  | (_, d) => uptoBulk d + 1
 end
def uptoSmall : (H : Type) → List (DataW H) → Bool := fun _ ds => decide (uptoBulkAll ds ≤ 1048576)
def OpenSpec.upto (s : _root_.Go.ChangeSpec) : _root_.Go.OpenSpec := { _root_.Go.OpenSpec.ofChange s with cond := some uptoSmall }

/-- 'laws.FnExactStoreOk', WHERE WHAT IT READS IS OF BULK AT MOST 1048576: true; the input reads as it did. -/
def fnExactStoreOkUptoRow : OpenClaim := { program := "ythadanmiomeehaa", sum := "535f63a0b2c79bac48669d0e3ad7f1a84e0356af86febad8755f4f3f71ed766c", func := "loop.example/g03310/laws.FnExactStoreOk", spec := "fnExactStoreOk", apart := false, narrowed := true }
def FnExactStoreOkUptoSaid : Prop := fnExactStoreOkUptoRow.holds Try.pinned (OpenSpec.upto fnExactStoreOkSpec)

/-- 'laws.FnExactTakeFor', WHERE WHAT IT READS IS OF BULK AT MOST 1048576: true; the input reads as it did. -/
def fnExactTakeForUptoRow : OpenClaim := { program := "ythadanmiomeehaa", sum := "535f63a0b2c79bac48669d0e3ad7f1a84e0356af86febad8755f4f3f71ed766c", func := "loop.example/g03310/laws.FnExactTakeFor", spec := "fnExactTakeFor", unfollowed := true, recurses := true, apart := false, narrowed := true }
def FnExactTakeForUptoSaid : Prop := fnExactTakeForUptoRow.holds Try.pinned (OpenSpec.upto fnExactTakeForSpec)

/-- 'laws.FnExactMostFlour', WHERE WHAT IT READS IS OF BULK AT MOST 1048576: true; the input reads as it did. -/
def fnExactMostFlourUptoRow : OpenClaim := { program := "ythadanmiomeehaa", sum := "535f63a0b2c79bac48669d0e3ad7f1a84e0356af86febad8755f4f3f71ed766c", func := "loop.example/g03310/laws.FnExactMostFlour", spec := "fnExactMostFlour", unfollowed := true, recurses := true, apart := false, narrowed := true }
def FnExactMostFlourUptoSaid : Prop := fnExactMostFlourUptoRow.holds Try.pinned (OpenSpec.upto fnExactMostFlourSpec)

/-- 'laws.FnExactFirstMissing', WHERE WHAT IT READS IS OF BULK AT MOST 1048576: true; the input reads as it did. -/
def fnExactFirstMissingUptoRow : OpenClaim := { program := "ythadanmiomeehaa", sum := "535f63a0b2c79bac48669d0e3ad7f1a84e0356af86febad8755f4f3f71ed766c", func := "loop.example/g03310/laws.FnExactFirstMissing", spec := "fnExactFirstMissing", unfollowed := true, recurses := true, apart := false, narrowed := true }
def FnExactFirstMissingUptoSaid : Prop := fnExactFirstMissingUptoRow.holds Try.pinned (OpenSpec.upto fnExactFirstMissingSpec)

/-- 'laws.FnExactFillStock', WHERE WHAT IT READS IS OF BULK AT MOST 1048576: true; the input reads as it did. -/
def fnExactFillStockUptoRow : OpenClaim := { program := "ythadanmiomeehaa", sum := "535f63a0b2c79bac48669d0e3ad7f1a84e0356af86febad8755f4f3f71ed766c", func := "loop.example/g03310/laws.FnExactFillStock", spec := "fnExactFillStock", apart := false, narrowed := true }
def FnExactFillStockUptoSaid : Prop := fnExactFillStockUptoRow.holds Try.pinned (OpenSpec.upto fnExactFillStockSpec)

/-- 'laws.FnExactMustBuy', WHERE WHAT IT READS IS OF BULK AT MOST 1048576: true; the input reads as it did. -/
def fnExactMustBuyUptoRow : OpenClaim := { program := "ythadanmiomeehaa", sum := "535f63a0b2c79bac48669d0e3ad7f1a84e0356af86febad8755f4f3f71ed766c", func := "loop.example/g03310/laws.FnExactMustBuy", spec := "fnExactMustBuy", unfollowed := true, recurses := true, apart := false, narrowed := true }
def FnExactMustBuyUptoSaid : Prop := fnExactMustBuyUptoRow.holds Try.pinned (OpenSpec.upto fnExactMustBuySpec)

end Rows
end Go.Proofs.Ythadanmiomeehaa
