/-
  No cell of these rows narrows 'for every input' (looked for: loops, veiled, ifaces, maps, wideKeys, modest, calm, conditions, laid).
  DERIVED. THE GIVEN ROWS OF THIS SEAT. 8 by the template 'for every input the law returns true; each argument reads behind the call as it read before'; 0 by the template 'total and deterministic' (their statements: YtbbinndegcnedacTotals.lean).
  GIVEN WITH THE SEED: the statements are not yours to turn. If you find one false, say at which input.
  Laid BY PROGRAM, IN A SANDBOX (cutbox-rows.mjs): the forced cells as the released guide's own fill.sh prints them over the translation 143bfce14a2cb726… (all of the seat's roots in one cut). By AI agents, Wed Nov 11 2026. No macro, syntax, notation, axiom, sorry.
-/
import Derived.Test.YtbbinndegcnedacChecked
import GoSem.Claim
import GoSem.ClaimJoined
import GoSem.ClaimMapViews
import Derived.JoinedTies
import Derived.KernelRfl
namespace Go.Proofs.Ytbbinndegcnedac
/- THE CELL 'sum', in the pinned program and in every row, IS THE sha256 OF THE DUMP (.gsa) THAT YtbbinndegcnedacProg.lean LOADS. Nothing in Lean hashes anything: it is a label: what it is worth is what the hold of that sum in a sandbox is worth. -/
noncomputable def Try.pinned : Pinned := { name := "ytbbinndegcnedac", sum := "143bfce14a2cb7260c146a80f0bc61083a09fdbd3e369a0de127762af4a4cefa", checked := Try.checked }
namespace Rows
def none {H : Type} : Left H := { results := [], args := [] }

/-- 'laws.FnExactBeatsAll': WHATEVER THE INPUT: true; the input reads as it did. -/
def fnExactBeatsAllSpec : ChangeSpec := { name := "fnExactBeatsAll", fn := fun _ => fun
  | [d1, d2] => { results := [.lit (.bool true)], args := [d1, d2] }
  | _ => none }
def fnExactBeatsAllRow : OpenClaim := { program := "ytbbinndegcnedac", sum := "143bfce14a2cb7260c146a80f0bc61083a09fdbd3e369a0de127762af4a4cefa", func := "loop.example/g03310/laws.FnExactBeatsAll", spec := "fnExactBeatsAll", apart := false }
def FnExactBeatsAllSaid : Prop := fnExactBeatsAllRow.holds Try.pinned (OpenSpec.ofChange fnExactBeatsAllSpec)

/-- ITS FALSE NEIGHBOUR: 'it returns false'. Refute it at one input. -/
def fnExactBeatsAllWrong : ChangeSpec := { name := "fnExactBeatsAll", fn := fun _ => fun
  | [d1, d2] => { results := [.lit (.bool false)], args := [d1, d2] }
  | _ => none }
def FnExactBeatsAllWrongFalsely : Prop := fnExactBeatsAllRow.holds Try.pinned (OpenSpec.ofChange fnExactBeatsAllWrong)

/-- 'laws.FnExactPointsOf': WHATEVER THE INPUT: true; the input reads as it did. -/
def fnExactPointsOfSpec : ChangeSpec := { name := "fnExactPointsOf", fn := fun _ => fun
  | [d1, d2] => { results := [.lit (.bool true)], args := [d1, d2] }
  | _ => none }
def fnExactPointsOfRow : OpenClaim := { program := "ytbbinndegcnedac", sum := "143bfce14a2cb7260c146a80f0bc61083a09fdbd3e369a0de127762af4a4cefa", func := "loop.example/g03310/laws.FnExactPointsOf", spec := "fnExactPointsOf", apart := false }
def FnExactPointsOfSaid : Prop := fnExactPointsOfRow.holds Try.pinned (OpenSpec.ofChange fnExactPointsOfSpec)

/-- ITS FALSE NEIGHBOUR: 'it returns false'. Refute it at one input. -/
def fnExactPointsOfWrong : ChangeSpec := { name := "fnExactPointsOf", fn := fun _ => fun
  | [d1, d2] => { results := [.lit (.bool false)], args := [d1, d2] }
  | _ => none }
def FnExactPointsOfWrongFalsely : Prop := fnExactPointsOfRow.holds Try.pinned (OpenSpec.ofChange fnExactPointsOfWrong)

/-- 'laws.FnExactWinnerByPoints': WHATEVER THE INPUT: true; the input reads as it did. -/
def fnExactWinnerByPointsSpec : ChangeSpec := { name := "fnExactWinnerByPoints", fn := fun _ => fun
  | [d1, d2] => { results := [.lit (.bool true)], args := [d1, d2] }
  | _ => none }
def fnExactWinnerByPointsRow : OpenClaim := { program := "ytbbinndegcnedac", sum := "143bfce14a2cb7260c146a80f0bc61083a09fdbd3e369a0de127762af4a4cefa", func := "loop.example/g03310/laws.FnExactWinnerByPoints", spec := "fnExactWinnerByPoints", apart := false }
def FnExactWinnerByPointsSaid : Prop := fnExactWinnerByPointsRow.holds Try.pinned (OpenSpec.ofChange fnExactWinnerByPointsSpec)

/-- ITS FALSE NEIGHBOUR: 'it returns false'. Refute it at one input. -/
def fnExactWinnerByPointsWrong : ChangeSpec := { name := "fnExactWinnerByPoints", fn := fun _ => fun
  | [d1, d2] => { results := [.lit (.bool false)], args := [d1, d2] }
  | _ => none }
def FnExactWinnerByPointsWrongFalsely : Prop := fnExactWinnerByPointsRow.holds Try.pinned (OpenSpec.ofChange fnExactWinnerByPointsWrong)

/-- 'laws.FnExactHasCircle': WHATEVER THE INPUT: true; the input reads as it did. -/
def fnExactHasCircleSpec : ChangeSpec := { name := "fnExactHasCircle", fn := fun _ => fun
  | [d1, d2] => { results := [.lit (.bool true)], args := [d1, d2] }
  | _ => none }
def fnExactHasCircleRow : OpenClaim := { program := "ytbbinndegcnedac", sum := "143bfce14a2cb7260c146a80f0bc61083a09fdbd3e369a0de127762af4a4cefa", func := "loop.example/g03310/laws.FnExactHasCircle", spec := "fnExactHasCircle", apart := false }
def FnExactHasCircleSaid : Prop := fnExactHasCircleRow.holds Try.pinned (OpenSpec.ofChange fnExactHasCircleSpec)

/-- ITS FALSE NEIGHBOUR: 'it returns false'. Refute it at one input. -/
def fnExactHasCircleWrong : ChangeSpec := { name := "fnExactHasCircle", fn := fun _ => fun
  | [d1, d2] => { results := [.lit (.bool false)], args := [d1, d2] }
  | _ => none }
def FnExactHasCircleWrongFalsely : Prop := fnExactHasCircleRow.holds Try.pinned (OpenSpec.ofChange fnExactHasCircleWrong)

/-- 'laws.FnTills': WHATEVER THE INPUT: true; the input reads as it did. -/
def fnTillsSpec : ChangeSpec := { name := "fnTills", fn := fun _ => fun
  | [d] => { results := [.lit (.bool true)], args := [d] }
  | _ => none }
def fnTillsRow : OpenClaim := { program := "ytbbinndegcnedac", sum := "143bfce14a2cb7260c146a80f0bc61083a09fdbd3e369a0de127762af4a4cefa", func := "loop.example/g03310/laws.FnTills", spec := "fnTills", apart := false }
def FnTillsSaid : Prop := fnTillsRow.holds Try.pinned (OpenSpec.ofChange fnTillsSpec)

/-- ITS FALSE NEIGHBOUR: 'it returns false'. Refute it at one input. -/
def fnTillsWrong : ChangeSpec := { name := "fnTills", fn := fun _ => fun
  | [d] => { results := [.lit (.bool false)], args := [d] }
  | _ => none }
def FnTillsWrongFalsely : Prop := fnTillsRow.holds Try.pinned (OpenSpec.ofChange fnTillsWrong)

/-- 'laws.FnExactSlipOk': WHATEVER THE INPUT: true; the input reads as it did. -/
def fnExactSlipOkSpec : ChangeSpec := { name := "fnExactSlipOk", fn := fun _ => fun
  | [d] => { results := [.lit (.bool true)], args := [d] }
  | _ => none }
def fnExactSlipOkRow : OpenClaim := { program := "ytbbinndegcnedac", sum := "143bfce14a2cb7260c146a80f0bc61083a09fdbd3e369a0de127762af4a4cefa", func := "loop.example/g03310/laws.FnExactSlipOk", spec := "fnExactSlipOk", apart := false }
def FnExactSlipOkSaid : Prop := fnExactSlipOkRow.holds Try.pinned (OpenSpec.ofChange fnExactSlipOkSpec)

/-- ITS FALSE NEIGHBOUR: 'it returns false'. Refute it at one input. -/
def fnExactSlipOkWrong : ChangeSpec := { name := "fnExactSlipOk", fn := fun _ => fun
  | [d] => { results := [.lit (.bool false)], args := [d] }
  | _ => none }
def FnExactSlipOkWrongFalsely : Prop := fnExactSlipOkRow.holds Try.pinned (OpenSpec.ofChange fnExactSlipOkWrong)

/-- 'laws.FnExactWrongSlips': WHATEVER THE INPUT: true; the input reads as it did. -/
def fnExactWrongSlipsSpec : ChangeSpec := { name := "fnExactWrongSlips", fn := fun _ => fun
  | [d] => { results := [.lit (.bool true)], args := [d] }
  | _ => none }
def fnExactWrongSlipsRow : OpenClaim := { program := "ytbbinndegcnedac", sum := "143bfce14a2cb7260c146a80f0bc61083a09fdbd3e369a0de127762af4a4cefa", func := "loop.example/g03310/laws.FnExactWrongSlips", spec := "fnExactWrongSlips", apart := false }
def FnExactWrongSlipsSaid : Prop := fnExactWrongSlipsRow.holds Try.pinned (OpenSpec.ofChange fnExactWrongSlipsSpec)

/-- ITS FALSE NEIGHBOUR: 'it returns false'. Refute it at one input. -/
def fnExactWrongSlipsWrong : ChangeSpec := { name := "fnExactWrongSlips", fn := fun _ => fun
  | [d] => { results := [.lit (.bool false)], args := [d] }
  | _ => none }
def FnExactWrongSlipsWrongFalsely : Prop := fnExactWrongSlipsRow.holds Try.pinned (OpenSpec.ofChange fnExactWrongSlipsWrong)

/-- 'laws.FnExactTillAfter': WHATEVER THE INPUT: true; the input reads as it did. -/
def fnExactTillAfterSpec : ChangeSpec := { name := "fnExactTillAfter", fn := fun _ => fun
  | [d1, d2] => { results := [.lit (.bool true)], args := [d1, d2] }
  | _ => none }
def fnExactTillAfterRow : OpenClaim := { program := "ytbbinndegcnedac", sum := "143bfce14a2cb7260c146a80f0bc61083a09fdbd3e369a0de127762af4a4cefa", func := "loop.example/g03310/laws.FnExactTillAfter", spec := "fnExactTillAfter", apart := false }
def FnExactTillAfterSaid : Prop := fnExactTillAfterRow.holds Try.pinned (OpenSpec.ofChange fnExactTillAfterSpec)

/-- ITS FALSE NEIGHBOUR: 'it returns false'. Refute it at one input. -/
def fnExactTillAfterWrong : ChangeSpec := { name := "fnExactTillAfter", fn := fun _ => fun
  | [d1, d2] => { results := [.lit (.bool false)], args := [d1, d2] }
  | _ => none }
def FnExactTillAfterWrongFalsely : Prop := fnExactTillAfterRow.holds Try.pinned (OpenSpec.ofChange fnExactTillAfterWrong)

/- THE SECOND FORM. 'bulk': how many values and letters a reading holds, each counted each time it is reached (what is shared counts as often as it is met; a slice's spare places count too). A statement '..UptoSaid' is the law's where the arguments, and the package variables that the reading takes, are together of bulk at most 1048576: NARROWER than '..Said'. Prove '..Said' where nothing that the law and all that it calls make is longer than what came in: it says more and counts as full. Else prove '..UptoSaid'. A law counts once. -/
mutual
def uptoBulk {H : Type} : DataW H → Nat
  | .lit (.string bytes) => bytes.length + 1
  | .lit _ => 1
  | .nil => 1
  | .ptr d => uptoBulk d + 1
  | .slice elems spare => uptoBulkAll elems + uptoBulkAll spare + 1
  | .agg parts => uptoBulkAll parts + 1
  | .iface _ d => uptoBulk d + 1
  | .map entries => uptoBulkEntries entries + 1
  | .held _ => 1
def uptoBulkAll {H : Type} : List (DataW H) → Nat
  | [] => 0
  | d :: r => uptoBulk d + uptoBulkAll r
def uptoBulkEntries {H : Type} : List (Lit × DataW H) → Nat
  | [] => 0
  | x :: r => uptoBulkEntry x + uptoBulkEntries r
def uptoBulkEntry {H : Type} : Lit × DataW H → Nat
  | (.string bytes, d) => bytes.length + uptoBulk d + 1
  | (_, d) => uptoBulk d + 1
 end
def uptoSmall : (H : Type) → List (DataW H) → Bool := fun _ ds => decide (uptoBulkAll ds ≤ 1048576)
def OpenSpec.upto (s : _root_.Go.ChangeSpec) : _root_.Go.OpenSpec := { _root_.Go.OpenSpec.ofChange s with cond := some uptoSmall }

/-- 'laws.FnExactBeatsAll', WHERE WHAT IT READS IS OF BULK AT MOST 1048576: true; the input reads as it did. -/
def fnExactBeatsAllUptoRow : OpenClaim := { program := "ytbbinndegcnedac", sum := "143bfce14a2cb7260c146a80f0bc61083a09fdbd3e369a0de127762af4a4cefa", func := "loop.example/g03310/laws.FnExactBeatsAll", spec := "fnExactBeatsAll", apart := false, narrowed := true }
def FnExactBeatsAllUptoSaid : Prop := fnExactBeatsAllUptoRow.holds Try.pinned (OpenSpec.upto fnExactBeatsAllSpec)

/-- 'laws.FnExactPointsOf', WHERE WHAT IT READS IS OF BULK AT MOST 1048576: true; the input reads as it did. -/
def fnExactPointsOfUptoRow : OpenClaim := { program := "ytbbinndegcnedac", sum := "143bfce14a2cb7260c146a80f0bc61083a09fdbd3e369a0de127762af4a4cefa", func := "loop.example/g03310/laws.FnExactPointsOf", spec := "fnExactPointsOf", apart := false, narrowed := true }
def FnExactPointsOfUptoSaid : Prop := fnExactPointsOfUptoRow.holds Try.pinned (OpenSpec.upto fnExactPointsOfSpec)

/-- 'laws.FnExactWinnerByPoints', WHERE WHAT IT READS IS OF BULK AT MOST 1048576: true; the input reads as it did. -/
def fnExactWinnerByPointsUptoRow : OpenClaim := { program := "ytbbinndegcnedac", sum := "143bfce14a2cb7260c146a80f0bc61083a09fdbd3e369a0de127762af4a4cefa", func := "loop.example/g03310/laws.FnExactWinnerByPoints", spec := "fnExactWinnerByPoints", apart := false, narrowed := true }
def FnExactWinnerByPointsUptoSaid : Prop := fnExactWinnerByPointsUptoRow.holds Try.pinned (OpenSpec.upto fnExactWinnerByPointsSpec)

/-- 'laws.FnExactHasCircle', WHERE WHAT IT READS IS OF BULK AT MOST 1048576: true; the input reads as it did. -/
def fnExactHasCircleUptoRow : OpenClaim := { program := "ytbbinndegcnedac", sum := "143bfce14a2cb7260c146a80f0bc61083a09fdbd3e369a0de127762af4a4cefa", func := "loop.example/g03310/laws.FnExactHasCircle", spec := "fnExactHasCircle", apart := false, narrowed := true }
def FnExactHasCircleUptoSaid : Prop := fnExactHasCircleUptoRow.holds Try.pinned (OpenSpec.upto fnExactHasCircleSpec)

/-- 'laws.FnTills', WHERE WHAT IT READS IS OF BULK AT MOST 1048576: true; the input reads as it did. -/
def fnTillsUptoRow : OpenClaim := { program := "ytbbinndegcnedac", sum := "143bfce14a2cb7260c146a80f0bc61083a09fdbd3e369a0de127762af4a4cefa", func := "loop.example/g03310/laws.FnTills", spec := "fnTills", apart := false, narrowed := true }
def FnTillsUptoSaid : Prop := fnTillsUptoRow.holds Try.pinned (OpenSpec.upto fnTillsSpec)

/-- 'laws.FnExactSlipOk', WHERE WHAT IT READS IS OF BULK AT MOST 1048576: true; the input reads as it did. -/
def fnExactSlipOkUptoRow : OpenClaim := { program := "ytbbinndegcnedac", sum := "143bfce14a2cb7260c146a80f0bc61083a09fdbd3e369a0de127762af4a4cefa", func := "loop.example/g03310/laws.FnExactSlipOk", spec := "fnExactSlipOk", apart := false, narrowed := true }
def FnExactSlipOkUptoSaid : Prop := fnExactSlipOkUptoRow.holds Try.pinned (OpenSpec.upto fnExactSlipOkSpec)

/-- 'laws.FnExactWrongSlips', WHERE WHAT IT READS IS OF BULK AT MOST 1048576: true; the input reads as it did. -/
def fnExactWrongSlipsUptoRow : OpenClaim := { program := "ytbbinndegcnedac", sum := "143bfce14a2cb7260c146a80f0bc61083a09fdbd3e369a0de127762af4a4cefa", func := "loop.example/g03310/laws.FnExactWrongSlips", spec := "fnExactWrongSlips", apart := false, narrowed := true }
def FnExactWrongSlipsUptoSaid : Prop := fnExactWrongSlipsUptoRow.holds Try.pinned (OpenSpec.upto fnExactWrongSlipsSpec)

/-- 'laws.FnExactTillAfter', WHERE WHAT IT READS IS OF BULK AT MOST 1048576: true; the input reads as it did. -/
def fnExactTillAfterUptoRow : OpenClaim := { program := "ytbbinndegcnedac", sum := "143bfce14a2cb7260c146a80f0bc61083a09fdbd3e369a0de127762af4a4cefa", func := "loop.example/g03310/laws.FnExactTillAfter", spec := "fnExactTillAfter", apart := false, narrowed := true }
def FnExactTillAfterUptoSaid : Prop := fnExactTillAfterUptoRow.holds Try.pinned (OpenSpec.upto fnExactTillAfterSpec)

end Rows
end Go.Proofs.Ytbbinndegcnedac
