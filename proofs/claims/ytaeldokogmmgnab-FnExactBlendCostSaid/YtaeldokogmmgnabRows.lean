/-
  No cell of these rows narrows 'for every input' (looked for: loops, veiled, ifaces, maps, wideKeys, modest, calm, conditions, laid).
  DERIVED. THE GIVEN ROWS OF THIS SEAT. 8 by the template 'for every input the law returns true; each argument reads behind the call as it read before'; 0 by the template 'total and deterministic' (their statements: YtaeldokogmmgnabTotals.lean).
  GIVEN WITH THE SEED: the statements are not yours to turn. If you find one false, say at which input.
  Laid BY PROGRAM, IN A SANDBOX (cutbox-rows.mjs): the forced cells as the released guide's own fill.sh prints them over the translation aff7ad43229f96fa… (all of the seat's roots in one cut). By AI agents, Wed Nov 11 2026. No macro, syntax, notation, axiom, sorry.
-/
import Derived.Test.YtaeldokogmmgnabChecked
import GoSem.Claim
import GoSem.ClaimJoined
import GoSem.ClaimMapViews
import Derived.JoinedTies
import Derived.KernelRfl
namespace Go.Proofs.Ytaeldokogmmgnab
/- THE CELL 'sum', in the pinned program and in every row, IS THE sha256 OF THE DUMP (.gsa) THAT YtaeldokogmmgnabProg.lean LOADS. Nothing in Lean hashes anything: it is a label: what it is worth is what the hold of that sum in a sandbox is worth. -/
noncomputable def Try.pinned : Pinned := { name := "ytaeldokogmmgnab", sum := "aff7ad43229f96fa19343c408ebb0de7cd488f4504c541fa171441d393438113", checked := Try.checked }
namespace Rows
def none {H : Type} : Left H := { results := [], args := [] }

/-- 'laws.FnExactFloursOk': WHATEVER THE INPUT: true; the input reads as it did. -/
def fnExactFloursOkSpec : ChangeSpec := { name := "fnExactFloursOk", fn := fun _ => fun
  | [d] => { results := [.lit (.bool true)], args := [d] }
  | _ => none }
def fnExactFloursOkRow : OpenClaim := { program := "ytaeldokogmmgnab", sum := "aff7ad43229f96fa19343c408ebb0de7cd488f4504c541fa171441d393438113", func := "loop.example/g03310/laws.FnExactFloursOk", spec := "fnExactFloursOk", apart := false }
def FnExactFloursOkSaid : Prop := fnExactFloursOkRow.holds Try.pinned (OpenSpec.ofChange fnExactFloursOkSpec)

/-- ITS FALSE NEIGHBOUR: 'it returns false'. Refute it at one input. -/
def fnExactFloursOkWrong : ChangeSpec := { name := "fnExactFloursOk", fn := fun _ => fun
  | [d] => { results := [.lit (.bool false)], args := [d] }
  | _ => none }
def FnExactFloursOkWrongFalsely : Prop := fnExactFloursOkRow.holds Try.pinned (OpenSpec.ofChange fnExactFloursOkWrong)

/-- 'laws.FnExactStrengthOf': WHATEVER THE INPUT: true; the input reads as it did. -/
def fnExactStrengthOfSpec : ChangeSpec := { name := "fnExactStrengthOf", fn := fun _ => fun
  | [d1, d2] => { results := [.lit (.bool true)], args := [d1, d2] }
  | _ => none }
def fnExactStrengthOfRow : OpenClaim := { program := "ytaeldokogmmgnab", sum := "aff7ad43229f96fa19343c408ebb0de7cd488f4504c541fa171441d393438113", func := "loop.example/g03310/laws.FnExactStrengthOf", spec := "fnExactStrengthOf", apart := false }
def FnExactStrengthOfSaid : Prop := fnExactStrengthOfRow.holds Try.pinned (OpenSpec.ofChange fnExactStrengthOfSpec)

/-- ITS FALSE NEIGHBOUR: 'it returns false'. Refute it at one input. -/
def fnExactStrengthOfWrong : ChangeSpec := { name := "fnExactStrengthOf", fn := fun _ => fun
  | [d1, d2] => { results := [.lit (.bool false)], args := [d1, d2] }
  | _ => none }
def FnExactStrengthOfWrongFalsely : Prop := fnExactStrengthOfRow.holds Try.pinned (OpenSpec.ofChange fnExactStrengthOfWrong)

/-- 'laws.FnExactBlendCost': WHATEVER THE INPUT: true; the input reads as it did. -/
def fnExactBlendCostSpec : ChangeSpec := { name := "fnExactBlendCost", fn := fun _ => fun
  | [d1, d2] => { results := [.lit (.bool true)], args := [d1, d2] }
  | _ => none }
def fnExactBlendCostRow : OpenClaim := { program := "ytaeldokogmmgnab", sum := "aff7ad43229f96fa19343c408ebb0de7cd488f4504c541fa171441d393438113", func := "loop.example/g03310/laws.FnExactBlendCost", spec := "fnExactBlendCost", apart := false }
def FnExactBlendCostSaid : Prop := fnExactBlendCostRow.holds Try.pinned (OpenSpec.ofChange fnExactBlendCostSpec)

/-- ITS FALSE NEIGHBOUR: 'it returns false'. Refute it at one input. -/
def fnExactBlendCostWrong : ChangeSpec := { name := "fnExactBlendCost", fn := fun _ => fun
  | [d1, d2] => { results := [.lit (.bool false)], args := [d1, d2] }
  | _ => none }
def FnExactBlendCostWrongFalsely : Prop := fnExactBlendCostRow.holds Try.pinned (OpenSpec.ofChange fnExactBlendCostWrong)

/-- 'laws.FnExactCheapestTwo': WHATEVER THE INPUT: true; the input reads as it did. -/
def fnExactCheapestTwoSpec : ChangeSpec := { name := "fnExactCheapestTwo", fn := fun _ => fun
  | [d1, d2, d3] => { results := [.lit (.bool true)], args := [d1, d2, d3] }
  | _ => none }
def fnExactCheapestTwoRow : OpenClaim := { program := "ytaeldokogmmgnab", sum := "aff7ad43229f96fa19343c408ebb0de7cd488f4504c541fa171441d393438113", func := "loop.example/g03310/laws.FnExactCheapestTwo", spec := "fnExactCheapestTwo", apart := false }
def FnExactCheapestTwoSaid : Prop := fnExactCheapestTwoRow.holds Try.pinned (OpenSpec.ofChange fnExactCheapestTwoSpec)

/-- ITS FALSE NEIGHBOUR: 'it returns false'. Refute it at one input. -/
def fnExactCheapestTwoWrong : ChangeSpec := { name := "fnExactCheapestTwo", fn := fun _ => fun
  | [d1, d2, d3] => { results := [.lit (.bool false)], args := [d1, d2, d3] }
  | _ => none }
def FnExactCheapestTwoWrongFalsely : Prop := fnExactCheapestTwoRow.holds Try.pinned (OpenSpec.ofChange fnExactCheapestTwoWrong)

/-- 'laws.FnExactStrongestFor': WHATEVER THE INPUT: true; the input reads as it did. -/
def fnExactStrongestForSpec : ChangeSpec := { name := "fnExactStrongestFor", fn := fun _ => fun
  | [d1, d2] => { results := [.lit (.bool true)], args := [d1, d2] }
  | _ => none }
def fnExactStrongestForRow : OpenClaim := { program := "ytaeldokogmmgnab", sum := "aff7ad43229f96fa19343c408ebb0de7cd488f4504c541fa171441d393438113", func := "loop.example/g03310/laws.FnExactStrongestFor", spec := "fnExactStrongestFor", unfollowed := true, recurses := true, apart := false }
def FnExactStrongestForSaid : Prop := fnExactStrongestForRow.holds Try.pinned (OpenSpec.ofChange fnExactStrongestForSpec)

/-- ITS FALSE NEIGHBOUR: 'it returns false'. Refute it at one input. -/
def fnExactStrongestForWrong : ChangeSpec := { name := "fnExactStrongestFor", fn := fun _ => fun
  | [d1, d2] => { results := [.lit (.bool false)], args := [d1, d2] }
  | _ => none }
def FnExactStrongestForWrongFalsely : Prop := fnExactStrongestForRow.holds Try.pinned (OpenSpec.ofChange fnExactStrongestForWrong)

/-- 'laws.FnThaws': WHATEVER THE INPUT: true; the input reads as it did. -/
def fnThawsSpec : ChangeSpec := { name := "fnThaws", fn := fun _ => fun
  | [d] => { results := [.lit (.bool true)], args := [d] }
  | _ => none }
def fnThawsRow : OpenClaim := { program := "ytaeldokogmmgnab", sum := "aff7ad43229f96fa19343c408ebb0de7cd488f4504c541fa171441d393438113", func := "loop.example/g03310/laws.FnThaws", spec := "fnThaws", unfollowed := true, recurses := true, apart := false }
def FnThawsSaid : Prop := fnThawsRow.holds Try.pinned (OpenSpec.ofChange fnThawsSpec)

/-- ITS FALSE NEIGHBOUR: 'it returns false'. Refute it at one input. -/
def fnThawsWrong : ChangeSpec := { name := "fnThaws", fn := fun _ => fun
  | [d] => { results := [.lit (.bool false)], args := [d] }
  | _ => none }
def FnThawsWrongFalsely : Prop := fnThawsRow.holds Try.pinned (OpenSpec.ofChange fnThawsWrong)

/-- 'laws.FnExactFrozenOk': WHATEVER THE INPUT: true; the input reads as it did. -/
def fnExactFrozenOkSpec : ChangeSpec := { name := "fnExactFrozenOk", fn := fun _ => fun
  | [d] => { results := [.lit (.bool true)], args := [d] }
  | _ => none }
def fnExactFrozenOkRow : OpenClaim := { program := "ytaeldokogmmgnab", sum := "aff7ad43229f96fa19343c408ebb0de7cd488f4504c541fa171441d393438113", func := "loop.example/g03310/laws.FnExactFrozenOk", spec := "fnExactFrozenOk", apart := false }
def FnExactFrozenOkSaid : Prop := fnExactFrozenOkRow.holds Try.pinned (OpenSpec.ofChange fnExactFrozenOkSpec)

/-- ITS FALSE NEIGHBOUR: 'it returns false'. Refute it at one input. -/
def fnExactFrozenOkWrong : ChangeSpec := { name := "fnExactFrozenOk", fn := fun _ => fun
  | [d] => { results := [.lit (.bool false)], args := [d] }
  | _ => none }
def FnExactFrozenOkWrongFalsely : Prop := fnExactFrozenOkRow.holds Try.pinned (OpenSpec.ofChange fnExactFrozenOkWrong)

/-- 'laws.FnExactOutAt': WHATEVER THE INPUT: true; the input reads as it did. -/
def fnExactOutAtSpec : ChangeSpec := { name := "fnExactOutAt", fn := fun _ => fun
  | [d1, d2] => { results := [.lit (.bool true)], args := [d1, d2] }
  | _ => none }
def fnExactOutAtRow : OpenClaim := { program := "ytaeldokogmmgnab", sum := "aff7ad43229f96fa19343c408ebb0de7cd488f4504c541fa171441d393438113", func := "loop.example/g03310/laws.FnExactOutAt", spec := "fnExactOutAt", apart := false }
def FnExactOutAtSaid : Prop := fnExactOutAtRow.holds Try.pinned (OpenSpec.ofChange fnExactOutAtSpec)

/-- ITS FALSE NEIGHBOUR: 'it returns false'. Refute it at one input. -/
def fnExactOutAtWrong : ChangeSpec := { name := "fnExactOutAt", fn := fun _ => fun
  | [d1, d2] => { results := [.lit (.bool false)], args := [d1, d2] }
  | _ => none }
def FnExactOutAtWrongFalsely : Prop := fnExactOutAtRow.holds Try.pinned (OpenSpec.ofChange fnExactOutAtWrong)

/- THE SECOND FORM. 'bulk': how many values and letters a reading holds, each counted each time it is reached (what is shared counts as often as it is met; a slice's spare places count too). A statement '..UptoSaid' is the law's where the arguments, and the package variables that the reading takes, are together of bulk at most 1048576: NARROWER than '..Said'. Prove '..Said' where nothing that the law and all that it calls make is longer than what came in: it says more and counts as full. Else prove '..UptoSaid'. A law counts once. -/
mutual
def uptoBulk {H : Type} : DataW H → Nat
  | .lit (.string bytes) => bytes.length + 1
  | .lit _ => 1
  | .nil => 1
  | .ptr d => uptoBulk d + 1
  | .slice elems spare => uptoBulkAll elems + uptoBulkAll spare + 1
  | .agg parts => uptoBulkAll parts + 1
  | .iface _ d => uptoBulk d + 1
  | .map entries => uptoBulkEntries entries + 1
  | .held _ => 1
def uptoBulkAll {H : Type} : List (DataW H) → Nat
  | [] => 0
  | d :: r => uptoBulk d + uptoBulkAll r
def uptoBulkEntries {H : Type} : List (Lit × DataW H) → Nat
  | [] => 0
  | x :: r => uptoBulkEntry x + uptoBulkEntries r
def uptoBulkEntry {H : Type} : Lit × DataW H → Nat
  | (.string bytes, d) => bytes.length + uptoBulk d + 1
  | (_, d) => uptoBulk d + 1
 end
def uptoSmall : (H : Type) → List (DataW H) → Bool := fun _ ds => decide (uptoBulkAll ds ≤ 1048576)
def OpenSpec.upto (s : _root_.Go.ChangeSpec) : _root_.Go.OpenSpec := { _root_.Go.OpenSpec.ofChange s with cond := some uptoSmall }

/-- 'laws.FnExactFloursOk', WHERE WHAT IT READS IS OF BULK AT MOST 1048576: true; the input reads as it did. -/
def fnExactFloursOkUptoRow : OpenClaim := { program := "ytaeldokogmmgnab", sum := "aff7ad43229f96fa19343c408ebb0de7cd488f4504c541fa171441d393438113", func := "loop.example/g03310/laws.FnExactFloursOk", spec := "fnExactFloursOk", apart := false, narrowed := true }
def FnExactFloursOkUptoSaid : Prop := fnExactFloursOkUptoRow.holds Try.pinned (OpenSpec.upto fnExactFloursOkSpec)

/-- 'laws.FnExactStrengthOf', WHERE WHAT IT READS IS OF BULK AT MOST 1048576: true; the input reads as it did. -/
def fnExactStrengthOfUptoRow : OpenClaim := { program := "ytaeldokogmmgnab", sum := "aff7ad43229f96fa19343c408ebb0de7cd488f4504c541fa171441d393438113", func := "loop.example/g03310/laws.FnExactStrengthOf", spec := "fnExactStrengthOf", apart := false, narrowed := true }
def FnExactStrengthOfUptoSaid : Prop := fnExactStrengthOfUptoRow.holds Try.pinned (OpenSpec.upto fnExactStrengthOfSpec)

/-- 'laws.FnExactBlendCost', WHERE WHAT IT READS IS OF BULK AT MOST 1048576: true; the input reads as it did. -/
def fnExactBlendCostUptoRow : OpenClaim := { program := "ytaeldokogmmgnab", sum := "aff7ad43229f96fa19343c408ebb0de7cd488f4504c541fa171441d393438113", func := "loop.example/g03310/laws.FnExactBlendCost", spec := "fnExactBlendCost", apart := false, narrowed := true }
def FnExactBlendCostUptoSaid : Prop := fnExactBlendCostUptoRow.holds Try.pinned (OpenSpec.upto fnExactBlendCostSpec)

/-- 'laws.FnExactCheapestTwo', WHERE WHAT IT READS IS OF BULK AT MOST 1048576: true; the input reads as it did. -/
def fnExactCheapestTwoUptoRow : OpenClaim := { program := "ytaeldokogmmgnab", sum := "aff7ad43229f96fa19343c408ebb0de7cd488f4504c541fa171441d393438113", func := "loop.example/g03310/laws.FnExactCheapestTwo", spec := "fnExactCheapestTwo", apart := false, narrowed := true }
def FnExactCheapestTwoUptoSaid : Prop := fnExactCheapestTwoUptoRow.holds Try.pinned (OpenSpec.upto fnExactCheapestTwoSpec)

/-- 'laws.FnExactStrongestFor', WHERE WHAT IT READS IS OF BULK AT MOST 1048576: true; the input reads as it did. -/
def fnExactStrongestForUptoRow : OpenClaim := { program := "ytaeldokogmmgnab", sum := "aff7ad43229f96fa19343c408ebb0de7cd488f4504c541fa171441d393438113", func := "loop.example/g03310/laws.FnExactStrongestFor", spec := "fnExactStrongestFor", unfollowed := true, recurses := true, apart := false, narrowed := true }
def FnExactStrongestForUptoSaid : Prop := fnExactStrongestForUptoRow.holds Try.pinned (OpenSpec.upto fnExactStrongestForSpec)

/-- 'laws.FnThaws', WHERE WHAT IT READS IS OF BULK AT MOST 1048576: true; the input reads as it did. -/
def fnThawsUptoRow : OpenClaim := { program := "ytaeldokogmmgnab", sum := "aff7ad43229f96fa19343c408ebb0de7cd488f4504c541fa171441d393438113", func := "loop.example/g03310/laws.FnThaws", spec := "fnThaws", unfollowed := true, recurses := true, apart := false, narrowed := true }
def FnThawsUptoSaid : Prop := fnThawsUptoRow.holds Try.pinned (OpenSpec.upto fnThawsSpec)

/-- 'laws.FnExactFrozenOk', WHERE WHAT IT READS IS OF BULK AT MOST 1048576: true; the input reads as it did. -/
def fnExactFrozenOkUptoRow : OpenClaim := { program := "ytaeldokogmmgnab", sum := "aff7ad43229f96fa19343c408ebb0de7cd488f4504c541fa171441d393438113", func := "loop.example/g03310/laws.FnExactFrozenOk", spec := "fnExactFrozenOk", apart := false, narrowed := true }
def FnExactFrozenOkUptoSaid : Prop := fnExactFrozenOkUptoRow.holds Try.pinned (OpenSpec.upto fnExactFrozenOkSpec)

/-- 'laws.FnExactOutAt', WHERE WHAT IT READS IS OF BULK AT MOST 1048576: true; the input reads as it did. -/
def fnExactOutAtUptoRow : OpenClaim := { program := "ytaeldokogmmgnab", sum := "aff7ad43229f96fa19343c408ebb0de7cd488f4504c541fa171441d393438113", func := "loop.example/g03310/laws.FnExactOutAt", spec := "fnExactOutAt", apart := false, narrowed := true }
def FnExactOutAtUptoSaid : Prop := fnExactOutAtUptoRow.holds Try.pinned (OpenSpec.upto fnExactOutAtSpec)

end Rows
end Go.Proofs.Ytaeldokogmmgnab
