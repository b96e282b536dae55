/-
  No cell of these rows narrows 'for every input' (looked for: loops, veiled, ifaces, maps, wideKeys, modest, calm, conditions, laid).
  DERIVED. THE GIVEN ROWS OF THIS SEAT. 6 by the template 'for every input the law returns true; each argument reads behind the call as it read before'; 0 by the template 'total and deterministic' (their statements: YtjcmdmiafeaeoabTotals.lean).
  GIVEN WITH THE SEED: the statements are not yours to turn. If you find one false, say at which input.
  Laid BY PROGRAM, IN A SANDBOX (cutbox-rows.mjs): the forced cells as the released guide's own fill.sh prints them over the translation 565b660738596a78… (all of the seat's roots in one cut). By AI agents, Wed Nov 11 2026. No macro, syntax, notation, axiom, sorry.
-/
import Derived.Test.YtjcmdmiafeaeoabChecked
import GoSem.Claim
import GoSem.ClaimJoined
import GoSem.ClaimMapViews
import Derived.JoinedTies
import Derived.KernelRfl
namespace Go.Proofs.Ytjcmdmiafeaeoab
/- THE CELL 'sum', in the pinned program and in every row, IS THE sha256 OF THE DUMP (.gsa) THAT YtjcmdmiafeaeoabProg.lean LOADS. Nothing in Lean hashes anything: it is a label: what it is worth is what the hold of that sum in a sandbox is worth. -/
noncomputable def Try.pinned : Pinned := { name := "ytjcmdmiafeaeoab", sum := "565b660738596a784d1d71f17fb27aa0574e5a738ef1620836bef8ee6521705f", checked := Try.checked }
namespace Rows
def none {H : Type} : Left H := { results := [], args := [] }

/-- 'laws.FnExactLongestShared': WHATEVER THE INPUT: true; the input reads as it did. -/
def fnExactLongestSharedSpec : ChangeSpec := { name := "fnExactLongestShared", fn := fun _ => fun
  | [d] => { results := [.lit (.bool true)], args := [d] }
  | _ => none }
def fnExactLongestSharedRow : OpenClaim := { program := "ytjcmdmiafeaeoab", sum := "565b660738596a784d1d71f17fb27aa0574e5a738ef1620836bef8ee6521705f", func := "loop.example/g03310/laws.FnExactLongestShared", spec := "fnExactLongestShared", apart := false }
def FnExactLongestSharedSaid : Prop := fnExactLongestSharedRow.holds Try.pinned (OpenSpec.ofChange fnExactLongestSharedSpec)

/-- ITS FALSE NEIGHBOUR: 'it returns false'. Refute it at one input. -/
def fnExactLongestSharedWrong : ChangeSpec := { name := "fnExactLongestShared", fn := fun _ => fun
  | [d] => { results := [.lit (.bool false)], args := [d] }
  | _ => none }
def FnExactLongestSharedWrongFalsely : Prop := fnExactLongestSharedRow.holds Try.pinned (OpenSpec.ofChange fnExactLongestSharedWrong)

/-- 'laws.FnFolds': WHATEVER THE INPUT: true; the input reads as it did. -/
def fnFoldsSpec : ChangeSpec := { name := "fnFolds", fn := fun _ => fun
  | [d] => { results := [.lit (.bool true)], args := [d] }
  | _ => none }
def fnFoldsRow : OpenClaim := { program := "ytjcmdmiafeaeoab", sum := "565b660738596a784d1d71f17fb27aa0574e5a738ef1620836bef8ee6521705f", func := "loop.example/g03310/laws.FnFolds", spec := "fnFolds", recurses := true, apart := false }
def FnFoldsSaid : Prop := fnFoldsRow.holds Try.pinned (OpenSpec.ofChange fnFoldsSpec)

/-- ITS FALSE NEIGHBOUR: 'it returns false'. Refute it at one input. -/
def fnFoldsWrong : ChangeSpec := { name := "fnFolds", fn := fun _ => fun
  | [d] => { results := [.lit (.bool false)], args := [d] }
  | _ => none }
def FnFoldsWrongFalsely : Prop := fnFoldsRow.holds Try.pinned (OpenSpec.ofChange fnFoldsWrong)

/-- 'laws.FnExactLayersAfter': WHATEVER THE INPUT: true; the input reads as it did. -/
def fnExactLayersAfterSpec : ChangeSpec := { name := "fnExactLayersAfter", fn := fun _ => fun
  | [d] => { results := [.lit (.bool true)], args := [d] }
  | _ => none }
def fnExactLayersAfterRow : OpenClaim := { program := "ytjcmdmiafeaeoab", sum := "565b660738596a784d1d71f17fb27aa0574e5a738ef1620836bef8ee6521705f", func := "loop.example/g03310/laws.FnExactLayersAfter", spec := "fnExactLayersAfter", apart := false }
def FnExactLayersAfterSaid : Prop := fnExactLayersAfterRow.holds Try.pinned (OpenSpec.ofChange fnExactLayersAfterSpec)

/-- ITS FALSE NEIGHBOUR: 'it returns false'. Refute it at one input. -/
def fnExactLayersAfterWrong : ChangeSpec := { name := "fnExactLayersAfter", fn := fun _ => fun
  | [d] => { results := [.lit (.bool false)], args := [d] }
  | _ => none }
def FnExactLayersAfterWrongFalsely : Prop := fnExactLayersAfterRow.holds Try.pinned (OpenSpec.ofChange fnExactLayersAfterWrong)

/-- 'laws.FnExactFoldsFor': WHATEVER THE INPUT: true; the input reads as it did. -/
def fnExactFoldsForSpec : ChangeSpec := { name := "fnExactFoldsFor", fn := fun _ => fun
  | [d] => { results := [.lit (.bool true)], args := [d] }
  | _ => none }
def fnExactFoldsForRow : OpenClaim := { program := "ytjcmdmiafeaeoab", sum := "565b660738596a784d1d71f17fb27aa0574e5a738ef1620836bef8ee6521705f", func := "loop.example/g03310/laws.FnExactFoldsFor", spec := "fnExactFoldsFor", apart := false }
def FnExactFoldsForSaid : Prop := fnExactFoldsForRow.holds Try.pinned (OpenSpec.ofChange fnExactFoldsForSpec)

/-- ITS FALSE NEIGHBOUR: 'it returns false'. Refute it at one input. -/
def fnExactFoldsForWrong : ChangeSpec := { name := "fnExactFoldsFor", fn := fun _ => fun
  | [d] => { results := [.lit (.bool false)], args := [d] }
  | _ => none }
def FnExactFoldsForWrongFalsely : Prop := fnExactFoldsForRow.holds Try.pinned (OpenSpec.ofChange fnExactFoldsForWrong)

/-- 'laws.FnExactClosestLayers': WHATEVER THE INPUT: true; the input reads as it did. -/
def fnExactClosestLayersSpec : ChangeSpec := { name := "fnExactClosestLayers", fn := fun _ => fun
  | [d1, d2] => { results := [.lit (.bool true)], args := [d1, d2] }
  | _ => none }
def fnExactClosestLayersRow : OpenClaim := { program := "ytjcmdmiafeaeoab", sum := "565b660738596a784d1d71f17fb27aa0574e5a738ef1620836bef8ee6521705f", func := "loop.example/g03310/laws.FnExactClosestLayers", spec := "fnExactClosestLayers", recurses := true, apart := false }
def FnExactClosestLayersSaid : Prop := fnExactClosestLayersRow.holds Try.pinned (OpenSpec.ofChange fnExactClosestLayersSpec)

/-- ITS FALSE NEIGHBOUR: 'it returns false'. Refute it at one input. -/
def fnExactClosestLayersWrong : ChangeSpec := { name := "fnExactClosestLayers", fn := fun _ => fun
  | [d1, d2] => { results := [.lit (.bool false)], args := [d1, d2] }
  | _ => none }
def FnExactClosestLayersWrongFalsely : Prop := fnExactClosestLayersRow.holds Try.pinned (OpenSpec.ofChange fnExactClosestLayersWrong)

/-- 'laws.FnExactThicknessOf': WHATEVER THE INPUT: true; the input reads as it did. -/
def fnExactThicknessOfSpec : ChangeSpec := { name := "fnExactThicknessOf", fn := fun _ => fun
  | [d1, d2] => { results := [.lit (.bool true)], args := [d1, d2] }
  | _ => none }
def fnExactThicknessOfRow : OpenClaim := { program := "ytjcmdmiafeaeoab", sum := "565b660738596a784d1d71f17fb27aa0574e5a738ef1620836bef8ee6521705f", func := "loop.example/g03310/laws.FnExactThicknessOf", spec := "fnExactThicknessOf", apart := false }
def FnExactThicknessOfSaid : Prop := fnExactThicknessOfRow.holds Try.pinned (OpenSpec.ofChange fnExactThicknessOfSpec)

/-- ITS FALSE NEIGHBOUR: 'it returns false'. Refute it at one input. -/
def fnExactThicknessOfWrong : ChangeSpec := { name := "fnExactThicknessOf", fn := fun _ => fun
  | [d1, d2] => { results := [.lit (.bool false)], args := [d1, d2] }
  | _ => none }
def FnExactThicknessOfWrongFalsely : Prop := fnExactThicknessOfRow.holds Try.pinned (OpenSpec.ofChange fnExactThicknessOfWrong)

/- THE SECOND FORM. 'bulk': how many values and letters a reading holds, each counted each time it is reached (what is shared counts as often as it is met; a slice's spare places count too). A statement '..UptoSaid' is the law's where the arguments, and the package variables that the reading takes, are together of bulk at most 1048576: NARROWER than '..Said'. Prove '..Said' where nothing that the law and all that it calls make is longer than what came in: it says more and counts as full. Else prove '..UptoSaid'. A law counts once. -/
mutual
def uptoBulk {H : Type} : DataW H → Nat
  | .lit (.string bytes) => bytes.length + 1
  | .lit _ => 1
  | .nil => 1
  | .ptr d => uptoBulk d + 1
  | .slice elems spare => uptoBulkAll elems + uptoBulkAll spare + 1
  | .agg parts => uptoBulkAll parts + 1
  | .iface _ d => uptoBulk d + 1
  | .map entries => uptoBulkEntries entries + 1
  | .held _ => 1
def uptoBulkAll {H : Type} : List (DataW H) → Nat
  | [] => 0
  | d :: r => uptoBulk d + uptoBulkAll r
def uptoBulkEntries {H : Type} : List (Lit × DataW H) → Nat
  | [] => 0
  | x :: r => uptoBulkEntry x + uptoBulkEntries r
def uptoBulkEntry {H : Type} : Lit × DataW H → Nat
  | (.string bytes, d) => bytes.length + uptoBulk d + 1
  | (_, d) => uptoBulk d + 1
 end
def uptoSmall : (H : Type) → List (DataW H) → Bool := fun _ ds => decide (uptoBulkAll ds ≤ 1048576)
def OpenSpec.upto (s : _root_.Go.ChangeSpec) : _root_.Go.OpenSpec := { _root_.Go.OpenSpec.ofChange s with cond := some uptoSmall }

/-- 'laws.FnExactLongestShared', WHERE WHAT IT READS IS OF BULK AT MOST 1048576: true; the input reads as it did. -/
def fnExactLongestSharedUptoRow : OpenClaim := { program := "ytjcmdmiafeaeoab", sum := "565b660738596a784d1d71f17fb27aa0574e5a738ef1620836bef8ee6521705f", func := "loop.example/g03310/laws.FnExactLongestShared", spec := "fnExactLongestShared", apart := false, narrowed := true }
def FnExactLongestSharedUptoSaid : Prop := fnExactLongestSharedUptoRow.holds Try.pinned (OpenSpec.upto fnExactLongestSharedSpec)

/-- 'laws.FnFolds', WHERE WHAT IT READS IS OF BULK AT MOST 1048576: true; the input reads as it did. -/
def fnFoldsUptoRow : OpenClaim := { program := "ytjcmdmiafeaeoab", sum := "565b660738596a784d1d71f17fb27aa0574e5a738ef1620836bef8ee6521705f", func := "loop.example/g03310/laws.FnFolds", spec := "fnFolds", recurses := true, apart := false, narrowed := true }
def FnFoldsUptoSaid : Prop := fnFoldsUptoRow.holds Try.pinned (OpenSpec.upto fnFoldsSpec)

/-- 'laws.FnExactLayersAfter', WHERE WHAT IT READS IS OF BULK AT MOST 1048576: true; the input reads as it did. -/
def fnExactLayersAfterUptoRow : OpenClaim := { program := "ytjcmdmiafeaeoab", sum := "565b660738596a784d1d71f17fb27aa0574e5a738ef1620836bef8ee6521705f", func := "loop.example/g03310/laws.FnExactLayersAfter", spec := "fnExactLayersAfter", apart := false, narrowed := true }
def FnExactLayersAfterUptoSaid : Prop := fnExactLayersAfterUptoRow.holds Try.pinned (OpenSpec.upto fnExactLayersAfterSpec)

/-- 'laws.FnExactFoldsFor', WHERE WHAT IT READS IS OF BULK AT MOST 1048576: true; the input reads as it did. -/
def fnExactFoldsForUptoRow : OpenClaim := { program := "ytjcmdmiafeaeoab", sum := "565b660738596a784d1d71f17fb27aa0574e5a738ef1620836bef8ee6521705f", func := "loop.example/g03310/laws.FnExactFoldsFor", spec := "fnExactFoldsFor", apart := false, narrowed := true }
def FnExactFoldsForUptoSaid : Prop := fnExactFoldsForUptoRow.holds Try.pinned (OpenSpec.upto fnExactFoldsForSpec)

/-- 'laws.FnExactClosestLayers', WHERE WHAT IT READS IS OF BULK AT MOST 1048576: true; the input reads as it did. -/
def fnExactClosestLayersUptoRow : OpenClaim := { program := "ytjcmdmiafeaeoab", sum := "565b660738596a784d1d71f17fb27aa0574e5a738ef1620836bef8ee6521705f", func := "loop.example/g03310/laws.FnExactClosestLayers", spec := "fnExactClosestLayers", recurses := true, apart := false, narrowed := true }
def FnExactClosestLayersUptoSaid : Prop := fnExactClosestLayersUptoRow.holds Try.pinned (OpenSpec.upto fnExactClosestLayersSpec)

/-- 'laws.FnExactThicknessOf', WHERE WHAT IT READS IS OF BULK AT MOST 1048576: true; the input reads as it did. -/
def fnExactThicknessOfUptoRow : OpenClaim := { program := "ytjcmdmiafeaeoab", sum := "565b660738596a784d1d71f17fb27aa0574e5a738ef1620836bef8ee6521705f", func := "loop.example/g03310/laws.FnExactThicknessOf", spec := "fnExactThicknessOf", apart := false, narrowed := true }
def FnExactThicknessOfUptoSaid : Prop := fnExactThicknessOfUptoRow.holds Try.pinned (OpenSpec.upto fnExactThicknessOfSpec)

end Rows
end Go.Proofs.Ytjcmdmiafeaeoab
