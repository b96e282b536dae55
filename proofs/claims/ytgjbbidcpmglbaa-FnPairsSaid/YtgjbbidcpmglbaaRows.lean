/-
  No cell of these rows narrows 'for every input' (looked for: loops, veiled, ifaces, maps, wideKeys, modest, calm, conditions, laid).
  DERIVED. THE GIVEN ROWS OF THIS SEAT. 7 by the template 'for every input the law returns true; each argument reads behind the call as it read before'; 0 by the template 'total and deterministic' (their statements: YtgjbbidcpmglbaaTotals.lean).
  GIVEN WITH THE SEED: the statements are not yours to turn. If you find one false, say at which input.
  Laid BY PROGRAM, IN A SANDBOX (cutbox-rows.mjs): the forced cells as the released guide's own fill.sh prints them over the translation 9d4412f88aa6a4eb… (all of the seat's roots in one cut). By AI agents, Wed Nov 11 2026. No macro, syntax, notation, axiom, sorry.
-/
import Derived.Test.YtgjbbidcpmglbaaChecked
import GoSem.Claim
import GoSem.ClaimJoined
import GoSem.ClaimMapViews
import Derived.JoinedTies
import Derived.KernelRfl
namespace Go.Proofs.Ytgjbbidcpmglbaa
/- THE CELL 'sum', in the pinned program and in every row, IS THE sha256 OF THE DUMP (.gsa) THAT YtgjbbidcpmglbaaProg.lean LOADS. Nothing in Lean hashes anything: it is a label: what it is worth is what the hold of that sum in a sandbox is worth. -/
noncomputable def Try.pinned : Pinned := { name := "ytgjbbidcpmglbaa", sum := "9d4412f88aa6a4eb24617ebe2aad648602b5b252f99abb29536fc47f9daa37ba", checked := Try.checked }
namespace Rows
def none {H : Type} : Left H := { results := [], args := [] }

/-- 'laws.FnTills': WHATEVER THE INPUT: true; the input reads as it did. -/
def fnTillsSpec : ChangeSpec := { name := "fnTills", fn := fun _ => fun
  | [d] => { results := [.lit (.bool true)], args := [d] }
  | _ => none }
def fnTillsRow : OpenClaim := { program := "ytgjbbidcpmglbaa", sum := "9d4412f88aa6a4eb24617ebe2aad648602b5b252f99abb29536fc47f9daa37ba", func := "loop.example/g03310/laws.FnTills", spec := "fnTills", apart := false }
def FnTillsSaid : Prop := fnTillsRow.holds Try.pinned (OpenSpec.ofChange fnTillsSpec)

/-- ITS FALSE NEIGHBOUR: 'it returns false'. Refute it at one input. -/
def fnTillsWrong : ChangeSpec := { name := "fnTills", fn := fun _ => fun
  | [d] => { results := [.lit (.bool false)], args := [d] }
  | _ => none }
def FnTillsWrongFalsely : Prop := fnTillsRow.holds Try.pinned (OpenSpec.ofChange fnTillsWrong)

/-- 'laws.FnBackwards': WHATEVER THE INPUT: true; the input reads as it did. -/
def fnBackwardsSpec : ChangeSpec := { name := "fnBackwards", fn := fun _ => fun
  | [d] => { results := [.lit (.bool true)], args := [d] }
  | _ => none }
def fnBackwardsRow : OpenClaim := { program := "ytgjbbidcpmglbaa", sum := "9d4412f88aa6a4eb24617ebe2aad648602b5b252f99abb29536fc47f9daa37ba", func := "loop.example/g03310/laws.FnBackwards", spec := "fnBackwards", apart := false }
def FnBackwardsSaid : Prop := fnBackwardsRow.holds Try.pinned (OpenSpec.ofChange fnBackwardsSpec)

/-- ITS FALSE NEIGHBOUR: 'it returns false'. Refute it at one input. -/
def fnBackwardsWrong : ChangeSpec := { name := "fnBackwards", fn := fun _ => fun
  | [d] => { results := [.lit (.bool false)], args := [d] }
  | _ => none }
def FnBackwardsWrongFalsely : Prop := fnBackwardsRow.holds Try.pinned (OpenSpec.ofChange fnBackwardsWrong)

/-- 'laws.FnPairs': WHATEVER THE INPUT: true; the input reads as it did. -/
def fnPairsSpec : ChangeSpec := { name := "fnPairs", fn := fun _ => fun
  | [d] => { results := [.lit (.bool true)], args := [d] }
  | _ => none }
def fnPairsRow : OpenClaim := { program := "ytgjbbidcpmglbaa", sum := "9d4412f88aa6a4eb24617ebe2aad648602b5b252f99abb29536fc47f9daa37ba", func := "loop.example/g03310/laws.FnPairs", spec := "fnPairs", unfollowed := true, recurses := true, apart := false }
def FnPairsSaid : Prop := fnPairsRow.holds Try.pinned (OpenSpec.ofChange fnPairsSpec)

/-- ITS FALSE NEIGHBOUR: 'it returns false'. Refute it at one input. -/
def fnPairsWrong : ChangeSpec := { name := "fnPairs", fn := fun _ => fun
  | [d] => { results := [.lit (.bool false)], args := [d] }
  | _ => none }
def FnPairsWrongFalsely : Prop := fnPairsRow.holds Try.pinned (OpenSpec.ofChange fnPairsWrong)

/-- 'laws.FnFolds': WHATEVER THE INPUT: true; the input reads as it did. -/
def fnFoldsSpec : ChangeSpec := { name := "fnFolds", fn := fun _ => fun
  | [d] => { results := [.lit (.bool true)], args := [d] }
  | _ => none }
def fnFoldsRow : OpenClaim := { program := "ytgjbbidcpmglbaa", sum := "9d4412f88aa6a4eb24617ebe2aad648602b5b252f99abb29536fc47f9daa37ba", func := "loop.example/g03310/laws.FnFolds", spec := "fnFolds", recurses := true, apart := false }
def FnFoldsSaid : Prop := fnFoldsRow.holds Try.pinned (OpenSpec.ofChange fnFoldsSpec)

/-- ITS FALSE NEIGHBOUR: 'it returns false'. Refute it at one input. -/
def fnFoldsWrong : ChangeSpec := { name := "fnFolds", fn := fun _ => fun
  | [d] => { results := [.lit (.bool false)], args := [d] }
  | _ => none }
def FnFoldsWrongFalsely : Prop := fnFoldsRow.holds Try.pinned (OpenSpec.ofChange fnFoldsWrong)

/-- 'laws.FnLots': WHATEVER THE INPUT: true; the input reads as it did. -/
def fnLotsSpec : ChangeSpec := { name := "fnLots", fn := fun _ => fun
  | [d] => { results := [.lit (.bool true)], args := [d] }
  | _ => none }
def fnLotsRow : OpenClaim := { program := "ytgjbbidcpmglbaa", sum := "9d4412f88aa6a4eb24617ebe2aad648602b5b252f99abb29536fc47f9daa37ba", func := "loop.example/g03310/laws.FnLots", spec := "fnLots", unfollowed := true, recurses := true, apart := false }
def FnLotsSaid : Prop := fnLotsRow.holds Try.pinned (OpenSpec.ofChange fnLotsSpec)

/-- ITS FALSE NEIGHBOUR: 'it returns false'. Refute it at one input. -/
def fnLotsWrong : ChangeSpec := { name := "fnLots", fn := fun _ => fun
  | [d] => { results := [.lit (.bool false)], args := [d] }
  | _ => none }
def FnLotsWrongFalsely : Prop := fnLotsRow.holds Try.pinned (OpenSpec.ofChange fnLotsWrong)

/-- 'laws.FnTastes': WHATEVER THE INPUT: true; the input reads as it did. -/
def fnTastesSpec : ChangeSpec := { name := "fnTastes", fn := fun _ => fun
  | [d] => { results := [.lit (.bool true)], args := [d] }
  | _ => none }
def fnTastesRow : OpenClaim := { program := "ytgjbbidcpmglbaa", sum := "9d4412f88aa6a4eb24617ebe2aad648602b5b252f99abb29536fc47f9daa37ba", func := "loop.example/g03310/laws.FnTastes", spec := "fnTastes", apart := false }
def FnTastesSaid : Prop := fnTastesRow.holds Try.pinned (OpenSpec.ofChange fnTastesSpec)

/-- ITS FALSE NEIGHBOUR: 'it returns false'. Refute it at one input. -/
def fnTastesWrong : ChangeSpec := { name := "fnTastes", fn := fun _ => fun
  | [d] => { results := [.lit (.bool false)], args := [d] }
  | _ => none }
def FnTastesWrongFalsely : Prop := fnTastesRow.holds Try.pinned (OpenSpec.ofChange fnTastesWrong)

/-- 'laws.FnSkills': WHATEVER THE INPUT: true; the input reads as it did. -/
def fnSkillsSpec : ChangeSpec := { name := "fnSkills", fn := fun _ => fun
  | [d] => { results := [.lit (.bool true)], args := [d] }
  | _ => none }
def fnSkillsRow : OpenClaim := { program := "ytgjbbidcpmglbaa", sum := "9d4412f88aa6a4eb24617ebe2aad648602b5b252f99abb29536fc47f9daa37ba", func := "loop.example/g03310/laws.FnSkills", spec := "fnSkills", apart := false }
def FnSkillsSaid : Prop := fnSkillsRow.holds Try.pinned (OpenSpec.ofChange fnSkillsSpec)

/-- ITS FALSE NEIGHBOUR: 'it returns false'. Refute it at one input. -/
def fnSkillsWrong : ChangeSpec := { name := "fnSkills", fn := fun _ => fun
  | [d] => { results := [.lit (.bool false)], args := [d] }
  | _ => none }
def FnSkillsWrongFalsely : Prop := fnSkillsRow.holds Try.pinned (OpenSpec.ofChange fnSkillsWrong)

/- THE SECOND FORM. 'bulk': how many values and letters a reading holds, each counted each time it is reached (what is shared counts as often as it is met; a slice's spare places count too). A statement '..UptoSaid' is the law's where the arguments, and the package variables that the reading takes, are together of bulk at most 1048576: NARROWER than '..Said'. Prove '..Said' where nothing that the law and all that it calls make is longer than what came in: it says more and counts as full. Else prove '..UptoSaid'. A law counts once. -/
mutual
def uptoBulk {H : Type} : DataW H → Nat
  | .lit (.string bytes) => bytes.length + 1
  | .lit _ => 1
  | .nil => 1
  | .ptr d => uptoBulk d + 1
  | .slice elems spare => uptoBulkAll elems + uptoBulkAll spare + 1
  | .agg parts => uptoBulkAll parts + 1
  | .iface _ d => uptoBulk d + 1
  | .map entries => uptoBulkEntries entries + 1
  | .held _ => 1
def uptoBulkAll {H : Type} : List (DataW H) → Nat
  | [] => 0
  | d :: r => uptoBulk d + uptoBulkAll r
def uptoBulkEntries {H : Type} : List (Lit × DataW H) → Nat
  | [] => 0
  | x :: r => uptoBulkEntry x + uptoBulkEntries r
def uptoBulkEntry {H : Type} : Lit × DataW H → Nat
  | (.string bytes, d) => bytes.length + uptoBulk d + 1
  | (_, d) => uptoBulk d + 1
 end
def uptoSmall : (H : Type) → List (DataW H) → Bool := fun _ ds => decide (uptoBulkAll ds ≤ 1048576)
def OpenSpec.upto (s : _root_.Go.ChangeSpec) : _root_.Go.OpenSpec := { _root_.Go.OpenSpec.ofChange s with cond := some uptoSmall }

/-- 'laws.FnTills', WHERE WHAT IT READS IS OF BULK AT MOST 1048576: true; the input reads as it did. -/
def fnTillsUptoRow : OpenClaim := { program := "ytgjbbidcpmglbaa", sum := "9d4412f88aa6a4eb24617ebe2aad648602b5b252f99abb29536fc47f9daa37ba", func := "loop.example/g03310/laws.FnTills", spec := "fnTills", apart := false, narrowed := true }
def FnTillsUptoSaid : Prop := fnTillsUptoRow.holds Try.pinned (OpenSpec.upto fnTillsSpec)

/-- 'laws.FnBackwards', WHERE WHAT IT READS IS OF BULK AT MOST 1048576: true; the input reads as it did. -/
def fnBackwardsUptoRow : OpenClaim := { program := "ytgjbbidcpmglbaa", sum := "9d4412f88aa6a4eb24617ebe2aad648602b5b252f99abb29536fc47f9daa37ba", func := "loop.example/g03310/laws.FnBackwards", spec := "fnBackwards", apart := false, narrowed := true }
def FnBackwardsUptoSaid : Prop := fnBackwardsUptoRow.holds Try.pinned (OpenSpec.upto fnBackwardsSpec)

/-- 'laws.FnPairs', WHERE WHAT IT READS IS OF BULK AT MOST 1048576: true; the input reads as it did. -/
def fnPairsUptoRow : OpenClaim := { program := "ytgjbbidcpmglbaa", sum := "9d4412f88aa6a4eb24617ebe2aad648602b5b252f99abb29536fc47f9daa37ba", func := "loop.example/g03310/laws.FnPairs", spec := "fnPairs", unfollowed := true, recurses := true, apart := false, narrowed := true }
def FnPairsUptoSaid : Prop := fnPairsUptoRow.holds Try.pinned (OpenSpec.upto fnPairsSpec)

/-- 'laws.FnFolds', WHERE WHAT IT READS IS OF BULK AT MOST 1048576: true; the input reads as it did. -/
def fnFoldsUptoRow : OpenClaim := { program := "ytgjbbidcpmglbaa", sum := "9d4412f88aa6a4eb24617ebe2aad648602b5b252f99abb29536fc47f9daa37ba", func := "loop.example/g03310/laws.FnFolds", spec := "fnFolds", recurses := true, apart := false, narrowed := true }
def FnFoldsUptoSaid : Prop := fnFoldsUptoRow.holds Try.pinned (OpenSpec.upto fnFoldsSpec)

/-- 'laws.FnLots', WHERE WHAT IT READS IS OF BULK AT MOST 1048576: true; the input reads as it did. -/
def fnLotsUptoRow : OpenClaim := { program := "ytgjbbidcpmglbaa", sum := "9d4412f88aa6a4eb24617ebe2aad648602b5b252f99abb29536fc47f9daa37ba", func := "loop.example/g03310/laws.FnLots", spec := "fnLots", unfollowed := true, recurses := true, apart := false, narrowed := true }
def FnLotsUptoSaid : Prop := fnLotsUptoRow.holds Try.pinned (OpenSpec.upto fnLotsSpec)

/-- 'laws.FnTastes', WHERE WHAT IT READS IS OF BULK AT MOST 1048576: true; the input reads as it did. -/
def fnTastesUptoRow : OpenClaim := { program := "ytgjbbidcpmglbaa", sum := "9d4412f88aa6a4eb24617ebe2aad648602b5b252f99abb29536fc47f9daa37ba", func := "loop.example/g03310/laws.FnTastes", spec := "fnTastes", apart := false, narrowed := true }
def FnTastesUptoSaid : Prop := fnTastesUptoRow.holds Try.pinned (OpenSpec.upto fnTastesSpec)

/-- 'laws.FnSkills', WHERE WHAT IT READS IS OF BULK AT MOST 1048576: true; the input reads as it did. -/
def fnSkillsUptoRow : OpenClaim := { program := "ytgjbbidcpmglbaa", sum := "9d4412f88aa6a4eb24617ebe2aad648602b5b252f99abb29536fc47f9daa37ba", func := "loop.example/g03310/laws.FnSkills", spec := "fnSkills", apart := false, narrowed := true }
def FnSkillsUptoSaid : Prop := fnSkillsUptoRow.holds Try.pinned (OpenSpec.upto fnSkillsSpec)

end Rows
end Go.Proofs.Ytgjbbidcpmglbaa
