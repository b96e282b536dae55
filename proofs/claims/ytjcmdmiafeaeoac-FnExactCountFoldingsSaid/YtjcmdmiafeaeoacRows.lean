/-
  No cell of these rows narrows 'for every input' (looked for: loops, veiled, ifaces, maps, wideKeys, modest, calm, conditions, laid).
  DERIVED. THE GIVEN ROWS OF THIS SEAT. 6 by the template 'for every input the law returns true; each argument reads behind the call as it read before'; 0 by the template 'total and deterministic' (their statements: YtjcmdmiafeaeoacTotals.lean).
  GIVEN WITH THE SEED: the statements are not yours to turn. If you find one false, say at which input.
  Laid BY PROGRAM, IN A SANDBOX (cutbox-rows.mjs): the forced cells as the released guide's own fill.sh prints them over the translation cae217363ecf3d6f… (all of the seat's roots in one cut). By AI agents, Wed Nov 11 2026. No macro, syntax, notation, axiom, sorry.
-/
import Derived.Test.YtjcmdmiafeaeoacChecked
import GoSem.Claim
import GoSem.ClaimJoined
import GoSem.ClaimMapViews
import Derived.JoinedTies
import Derived.KernelRfl
namespace Go.Proofs.Ytjcmdmiafeaeoac
/- THE CELL 'sum', in the pinned program and in every row, IS THE sha256 OF THE DUMP (.gsa) THAT YtjcmdmiafeaeoacProg.lean LOADS. Nothing in Lean hashes anything: it is a label: what it is worth is what the hold of that sum in a sandbox is worth. -/
noncomputable def Try.pinned : Pinned := { name := "ytjcmdmiafeaeoac", sum := "cae217363ecf3d6ffc33c06d44c143cd4b21f8a94d2a0426890e315f719836b5", checked := Try.checked }
namespace Rows
def none {H : Type} : Left H := { results := [], args := [] }

/-- 'laws.FnExactCountFoldings': WHATEVER THE INPUT: true; the input reads as it did. -/
def fnExactCountFoldingsSpec : ChangeSpec := { name := "fnExactCountFoldings", fn := fun _ => fun
  | [d] => { results := [.lit (.bool true)], args := [d] }
  | _ => none }
def fnExactCountFoldingsRow : OpenClaim := { program := "ytjcmdmiafeaeoac", sum := "cae217363ecf3d6ffc33c06d44c143cd4b21f8a94d2a0426890e315f719836b5", func := "loop.example/g03310/laws.FnExactCountFoldings", spec := "fnExactCountFoldings", recurses := true, apart := false }
def FnExactCountFoldingsSaid : Prop := fnExactCountFoldingsRow.holds Try.pinned (OpenSpec.ofChange fnExactCountFoldingsSpec)

/-- ITS FALSE NEIGHBOUR: 'it returns false'. Refute it at one input. -/
def fnExactCountFoldingsWrong : ChangeSpec := { name := "fnExactCountFoldings", fn := fun _ => fun
  | [d] => { results := [.lit (.bool false)], args := [d] }
  | _ => none }
def FnExactCountFoldingsWrongFalsely : Prop := fnExactCountFoldingsRow.holds Try.pinned (OpenSpec.ofChange fnExactCountFoldingsWrong)

/-- 'laws.FnDivisions': WHATEVER THE INPUT: true; the input reads as it did. -/
def fnDivisionsSpec : ChangeSpec := { name := "fnDivisions", fn := fun _ => fun
  | [d] => { results := [.lit (.bool true)], args := [d] }
  | _ => none }
def fnDivisionsRow : OpenClaim := { program := "ytjcmdmiafeaeoac", sum := "cae217363ecf3d6ffc33c06d44c143cd4b21f8a94d2a0426890e315f719836b5", func := "loop.example/g03310/laws.FnDivisions", spec := "fnDivisions", unfollowed := true, recurses := true, apart := false }
def FnDivisionsSaid : Prop := fnDivisionsRow.holds Try.pinned (OpenSpec.ofChange fnDivisionsSpec)

/-- ITS FALSE NEIGHBOUR: 'it returns false'. Refute it at one input. -/
def fnDivisionsWrong : ChangeSpec := { name := "fnDivisions", fn := fun _ => fun
  | [d] => { results := [.lit (.bool false)], args := [d] }
  | _ => none }
def FnDivisionsWrongFalsely : Prop := fnDivisionsRow.holds Try.pinned (OpenSpec.ofChange fnDivisionsWrong)

/-- 'laws.FnExactPiecesOk': WHATEVER THE INPUT: true; the input reads as it did. -/
def fnExactPiecesOkSpec : ChangeSpec := { name := "fnExactPiecesOk", fn := fun _ => fun
  | [d] => { results := [.lit (.bool true)], args := [d] }
  | _ => none }
def fnExactPiecesOkRow : OpenClaim := { program := "ytjcmdmiafeaeoac", sum := "cae217363ecf3d6ffc33c06d44c143cd4b21f8a94d2a0426890e315f719836b5", func := "loop.example/g03310/laws.FnExactPiecesOk", spec := "fnExactPiecesOk", apart := false }
def FnExactPiecesOkSaid : Prop := fnExactPiecesOkRow.holds Try.pinned (OpenSpec.ofChange fnExactPiecesOkSpec)

/-- ITS FALSE NEIGHBOUR: 'it returns false'. Refute it at one input. -/
def fnExactPiecesOkWrong : ChangeSpec := { name := "fnExactPiecesOk", fn := fun _ => fun
  | [d] => { results := [.lit (.bool false)], args := [d] }
  | _ => none }
def FnExactPiecesOkWrongFalsely : Prop := fnExactPiecesOkRow.holds Try.pinned (OpenSpec.ofChange fnExactPiecesOkWrong)

/-- 'laws.FnExactBadPieces': WHATEVER THE INPUT: true; the input reads as it did. -/
def fnExactBadPiecesSpec : ChangeSpec := { name := "fnExactBadPieces", fn := fun _ => fun
  | [d1, d2, d3] => { results := [.lit (.bool true)], args := [d1, d2, d3] }
  | _ => none }
def fnExactBadPiecesRow : OpenClaim := { program := "ytjcmdmiafeaeoac", sum := "cae217363ecf3d6ffc33c06d44c143cd4b21f8a94d2a0426890e315f719836b5", func := "loop.example/g03310/laws.FnExactBadPieces", spec := "fnExactBadPieces", apart := false }
def FnExactBadPiecesSaid : Prop := fnExactBadPiecesRow.holds Try.pinned (OpenSpec.ofChange fnExactBadPiecesSpec)

/-- ITS FALSE NEIGHBOUR: 'it returns false'. Refute it at one input. -/
def fnExactBadPiecesWrong : ChangeSpec := { name := "fnExactBadPieces", fn := fun _ => fun
  | [d1, d2, d3] => { results := [.lit (.bool false)], args := [d1, d2, d3] }
  | _ => none }
def FnExactBadPiecesWrongFalsely : Prop := fnExactBadPiecesRow.holds Try.pinned (OpenSpec.ofChange fnExactBadPiecesWrong)

/-- 'laws.FnExactLeastMoves': WHATEVER THE INPUT: true; the input reads as it did. -/
def fnExactLeastMovesSpec : ChangeSpec := { name := "fnExactLeastMoves", fn := fun _ => fun
  | [d] => { results := [.lit (.bool true)], args := [d] }
  | _ => none }
def fnExactLeastMovesRow : OpenClaim := { program := "ytjcmdmiafeaeoac", sum := "cae217363ecf3d6ffc33c06d44c143cd4b21f8a94d2a0426890e315f719836b5", func := "loop.example/g03310/laws.FnExactLeastMoves", spec := "fnExactLeastMoves", unfollowed := true, recurses := true, apart := false }
def FnExactLeastMovesSaid : Prop := fnExactLeastMovesRow.holds Try.pinned (OpenSpec.ofChange fnExactLeastMovesSpec)

/-- ITS FALSE NEIGHBOUR: 'it returns false'. Refute it at one input. -/
def fnExactLeastMovesWrong : ChangeSpec := { name := "fnExactLeastMoves", fn := fun _ => fun
  | [d] => { results := [.lit (.bool false)], args := [d] }
  | _ => none }
def FnExactLeastMovesWrongFalsely : Prop := fnExactLeastMovesRow.holds Try.pinned (OpenSpec.ofChange fnExactLeastMovesWrong)

/-- 'laws.FnExactEqualPieces': WHATEVER THE INPUT: true; the input reads as it did. -/
def fnExactEqualPiecesSpec : ChangeSpec := { name := "fnExactEqualPieces", fn := fun _ => fun
  | [d1, d2] => { results := [.lit (.bool true)], args := [d1, d2] }
  | _ => none }
def fnExactEqualPiecesRow : OpenClaim := { program := "ytjcmdmiafeaeoac", sum := "cae217363ecf3d6ffc33c06d44c143cd4b21f8a94d2a0426890e315f719836b5", func := "loop.example/g03310/laws.FnExactEqualPieces", spec := "fnExactEqualPieces", apart := false }
def FnExactEqualPiecesSaid : Prop := fnExactEqualPiecesRow.holds Try.pinned (OpenSpec.ofChange fnExactEqualPiecesSpec)

/-- ITS FALSE NEIGHBOUR: 'it returns false'. Refute it at one input. -/
def fnExactEqualPiecesWrong : ChangeSpec := { name := "fnExactEqualPieces", fn := fun _ => fun
  | [d1, d2] => { results := [.lit (.bool false)], args := [d1, d2] }
  | _ => none }
def FnExactEqualPiecesWrongFalsely : Prop := fnExactEqualPiecesRow.holds Try.pinned (OpenSpec.ofChange fnExactEqualPiecesWrong)

/- THE SECOND FORM. 'bulk': how many values and letters a reading holds, each counted each time it is reached (what is shared counts as often as it is met; a slice's spare places count too). A statement '..UptoSaid' is the law's where the arguments, and the package variables that the reading takes, are together of bulk at most 1048576: NARROWER than '..Said'. Prove '..Said' where nothing that the law and all that it calls make is longer than what came in: it says more and counts as full. Else prove '..UptoSaid'. A law counts once. -/
mutual
def uptoBulk {H : Type} : DataW H → Nat
  | .lit (.string bytes) => bytes.length + 1
  | .lit _ => 1
  | .nil => 1
  | .ptr d => uptoBulk d + 1
  | .slice elems spare => uptoBulkAll elems + uptoBulkAll spare + 1
  | .agg parts => uptoBulkAll parts + 1
  | .iface _ d => uptoBulk d + 1
  | .map entries => uptoBulkEntries entries + 1
  | .held _ => 1
def uptoBulkAll {H : Type} : List (DataW H) → Nat
  | [] => 0
  | d :: r => uptoBulk d + uptoBulkAll r
def uptoBulkEntries {H : Type} : List (Lit × DataW H) → Nat
  | [] => 0
  | x :: r => uptoBulkEntry x + uptoBulkEntries r
def uptoBulkEntry {H : Type} : Lit × DataW H → Nat
  | (.string bytes, d) => bytes.length + uptoBulk d + 1
  | (_, d) => uptoBulk d + 1
 end
def uptoSmall : (H : Type) → List (DataW H) → Bool := fun _ ds => decide (uptoBulkAll ds ≤ 1048576)
def OpenSpec.upto (s : _root_.Go.ChangeSpec) : _root_.Go.OpenSpec := { _root_.Go.OpenSpec.ofChange s with cond := some uptoSmall }

/-- 'laws.FnExactCountFoldings', WHERE WHAT IT READS IS OF BULK AT MOST 1048576: true; the input reads as it did. -/
def fnExactCountFoldingsUptoRow : OpenClaim := { program := "ytjcmdmiafeaeoac", sum := "cae217363ecf3d6ffc33c06d44c143cd4b21f8a94d2a0426890e315f719836b5", func := "loop.example/g03310/laws.FnExactCountFoldings", spec := "fnExactCountFoldings", recurses := true, apart := false, narrowed := true }
def FnExactCountFoldingsUptoSaid : Prop := fnExactCountFoldingsUptoRow.holds Try.pinned (OpenSpec.upto fnExactCountFoldingsSpec)

/-- 'laws.FnDivisions', WHERE WHAT IT READS IS OF BULK AT MOST 1048576: true; the input reads as it did. -/
def fnDivisionsUptoRow : OpenClaim := { program := "ytjcmdmiafeaeoac", sum := "cae217363ecf3d6ffc33c06d44c143cd4b21f8a94d2a0426890e315f719836b5", func := "loop.example/g03310/laws.FnDivisions", spec := "fnDivisions", unfollowed := true, recurses := true, apart := false, narrowed := true }
def FnDivisionsUptoSaid : Prop := fnDivisionsUptoRow.holds Try.pinned (OpenSpec.upto fnDivisionsSpec)

/-- 'laws.FnExactPiecesOk', WHERE WHAT IT READS IS OF BULK AT MOST 1048576: true; the input reads as it did. -/
def fnExactPiecesOkUptoRow : OpenClaim := { program := "ytjcmdmiafeaeoac", sum := "cae217363ecf3d6ffc33c06d44c143cd4b21f8a94d2a0426890e315f719836b5", func := "loop.example/g03310/laws.FnExactPiecesOk", spec := "fnExactPiecesOk", apart := false, narrowed := true }
def FnExactPiecesOkUptoSaid : Prop := fnExactPiecesOkUptoRow.holds Try.pinned (OpenSpec.upto fnExactPiecesOkSpec)

/-- 'laws.FnExactBadPieces', WHERE WHAT IT READS IS OF BULK AT MOST 1048576: true; the input reads as it did. -/
def fnExactBadPiecesUptoRow : OpenClaim := { program := "ytjcmdmiafeaeoac", sum := "cae217363ecf3d6ffc33c06d44c143cd4b21f8a94d2a0426890e315f719836b5", func := "loop.example/g03310/laws.FnExactBadPieces", spec := "fnExactBadPieces", apart := false, narrowed := true }
def FnExactBadPiecesUptoSaid : Prop := fnExactBadPiecesUptoRow.holds Try.pinned (OpenSpec.upto fnExactBadPiecesSpec)

/-- 'laws.FnExactLeastMoves', WHERE WHAT IT READS IS OF BULK AT MOST 1048576: true; the input reads as it did. -/
def fnExactLeastMovesUptoRow : OpenClaim := { program := "ytjcmdmiafeaeoac", sum := "cae217363ecf3d6ffc33c06d44c143cd4b21f8a94d2a0426890e315f719836b5", func := "loop.example/g03310/laws.FnExactLeastMoves", spec := "fnExactLeastMoves", unfollowed := true, recurses := true, apart := false, narrowed := true }
def FnExactLeastMovesUptoSaid : Prop := fnExactLeastMovesUptoRow.holds Try.pinned (OpenSpec.upto fnExactLeastMovesSpec)

/-- 'laws.FnExactEqualPieces', WHERE WHAT IT READS IS OF BULK AT MOST 1048576: true; the input reads as it did. -/
def fnExactEqualPiecesUptoRow : OpenClaim := { program := "ytjcmdmiafeaeoac", sum := "cae217363ecf3d6ffc33c06d44c143cd4b21f8a94d2a0426890e315f719836b5", func := "loop.example/g03310/laws.FnExactEqualPieces", spec := "fnExactEqualPieces", apart := false, narrowed := true }
def FnExactEqualPiecesUptoSaid : Prop := fnExactEqualPiecesUptoRow.holds Try.pinned (OpenSpec.upto fnExactEqualPiecesSpec)

end Rows
end Go.Proofs.Ytjcmdmiafeaeoac
