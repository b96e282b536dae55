/-
  No cell of these rows narrows 'for every input' (looked for: loops, veiled, ifaces, maps, wideKeys, modest, calm, conditions, laid).
  DERIVED. THE GIVEN ROWS OF THIS SEAT. 6 by the template 'for every input the law returns true; each argument reads behind the call as it read before'; 0 by the template 'total and deterministic' (their statements: YtbbinndegcnedabTotals.lean).
  GIVEN WITH THE SEED: the statements are not yours to turn. If you find one false, say at which input.
  Laid BY PROGRAM, IN A SANDBOX (cutbox-rows.mjs): the forced cells as the released guide's own fill.sh prints them over the translation 166d22b7b96a5688… (all of the seat's roots in one cut). By AI agents, Wed Nov 11 2026. No macro, syntax, notation, axiom, sorry.
-/
import Derived.Test.YtbbinndegcnedabChecked
import GoSem.Claim
import GoSem.ClaimJoined
import GoSem.ClaimMapViews
import Derived.JoinedTies
import Derived.KernelRfl
namespace Go.Proofs.Ytbbinndegcnedab
/- THE CELL 'sum', in the pinned program and in every row, IS THE sha256 OF THE DUMP (.gsa) THAT YtbbinndegcnedabProg.lean LOADS. Nothing in Lean hashes anything: it is a label: what it is worth is what the hold of that sum in a sandbox is worth. -/
noncomputable def Try.pinned : Pinned := { name := "ytbbinndegcnedab", sum := "166d22b7b96a56889f134260140548cede47142232ab7962f2b6e9cae4e19247", checked := Try.checked }
namespace Rows
def none {H : Type} : Left H := { results := [], args := [] }

/-- 'laws.FnExactFlourOf': WHATEVER THE INPUT: true; the input reads as it did. -/
def fnExactFlourOfSpec : ChangeSpec := { name := "fnExactFlourOf", fn := fun _ => fun
  | [d1, d2] => { results := [.lit (.bool true)], args := [d1, d2] }
  | _ => none }
def fnExactFlourOfRow : OpenClaim := { program := "ytbbinndegcnedab", sum := "166d22b7b96a56889f134260140548cede47142232ab7962f2b6e9cae4e19247", func := "loop.example/g03310/laws.FnExactFlourOf", spec := "fnExactFlourOf", unfollowed := true, recurses := true, apart := false }
def FnExactFlourOfSaid : Prop := fnExactFlourOfRow.holds Try.pinned (OpenSpec.ofChange fnExactFlourOfSpec)

/-- ITS FALSE NEIGHBOUR: 'it returns false'. Refute it at one input. -/
def fnExactFlourOfWrong : ChangeSpec := { name := "fnExactFlourOf", fn := fun _ => fun
  | [d1, d2] => { results := [.lit (.bool false)], args := [d1, d2] }
  | _ => none }
def FnExactFlourOfWrongFalsely : Prop := fnExactFlourOfRow.holds Try.pinned (OpenSpec.ofChange fnExactFlourOfWrong)

/-- 'laws.FnExactCanTell': WHATEVER THE INPUT: true; the input reads as it did. -/
def fnExactCanTellSpec : ChangeSpec := { name := "fnExactCanTell", fn := fun _ => fun
  | [d1, d2] => { results := [.lit (.bool true)], args := [d1, d2] }
  | _ => none }
def fnExactCanTellRow : OpenClaim := { program := "ytbbinndegcnedab", sum := "166d22b7b96a56889f134260140548cede47142232ab7962f2b6e9cae4e19247", func := "loop.example/g03310/laws.FnExactCanTell", spec := "fnExactCanTell", apart := false }
def FnExactCanTellSaid : Prop := fnExactCanTellRow.holds Try.pinned (OpenSpec.ofChange fnExactCanTellSpec)

/-- ITS FALSE NEIGHBOUR: 'it returns false'. Refute it at one input. -/
def fnExactCanTellWrong : ChangeSpec := { name := "fnExactCanTell", fn := fun _ => fun
  | [d1, d2] => { results := [.lit (.bool false)], args := [d1, d2] }
  | _ => none }
def FnExactCanTellWrongFalsely : Prop := fnExactCanTellRow.holds Try.pinned (OpenSpec.ofChange fnExactCanTellWrong)

/-- 'laws.FnExactSaltAfter': WHATEVER THE INPUT: true; the input reads as it did. -/
def fnExactSaltAfterSpec : ChangeSpec := { name := "fnExactSaltAfter", fn := fun _ => fun
  | [d1, d2] => { results := [.lit (.bool true)], args := [d1, d2] }
  | _ => none }
def fnExactSaltAfterRow : OpenClaim := { program := "ytbbinndegcnedab", sum := "166d22b7b96a56889f134260140548cede47142232ab7962f2b6e9cae4e19247", func := "loop.example/g03310/laws.FnExactSaltAfter", spec := "fnExactSaltAfter", apart := false }
def FnExactSaltAfterSaid : Prop := fnExactSaltAfterRow.holds Try.pinned (OpenSpec.ofChange fnExactSaltAfterSpec)

/-- ITS FALSE NEIGHBOUR: 'it returns false'. Refute it at one input. -/
def fnExactSaltAfterWrong : ChangeSpec := { name := "fnExactSaltAfter", fn := fun _ => fun
  | [d1, d2] => { results := [.lit (.bool false)], args := [d1, d2] }
  | _ => none }
def FnExactSaltAfterWrongFalsely : Prop := fnExactSaltAfterRow.holds Try.pinned (OpenSpec.ofChange fnExactSaltAfterWrong)

/-- 'laws.FnTastes': WHATEVER THE INPUT: true; the input reads as it did. -/
def fnTastesSpec : ChangeSpec := { name := "fnTastes", fn := fun _ => fun
  | [d] => { results := [.lit (.bool true)], args := [d] }
  | _ => none }
def fnTastesRow : OpenClaim := { program := "ytbbinndegcnedab", sum := "166d22b7b96a56889f134260140548cede47142232ab7962f2b6e9cae4e19247", func := "loop.example/g03310/laws.FnTastes", spec := "fnTastes", apart := false }
def FnTastesSaid : Prop := fnTastesRow.holds Try.pinned (OpenSpec.ofChange fnTastesSpec)

/-- ITS FALSE NEIGHBOUR: 'it returns false'. Refute it at one input. -/
def fnTastesWrong : ChangeSpec := { name := "fnTastes", fn := fun _ => fun
  | [d] => { results := [.lit (.bool false)], args := [d] }
  | _ => none }
def FnTastesWrongFalsely : Prop := fnTastesRow.holds Try.pinned (OpenSpec.ofChange fnTastesWrong)

/-- 'laws.FnExactVotesOk': WHATEVER THE INPUT: true; the input reads as it did. -/
def fnExactVotesOkSpec : ChangeSpec := { name := "fnExactVotesOk", fn := fun _ => fun
  | [d1, d2] => { results := [.lit (.bool true)], args := [d1, d2] }
  | _ => none }
def fnExactVotesOkRow : OpenClaim := { program := "ytbbinndegcnedab", sum := "166d22b7b96a56889f134260140548cede47142232ab7962f2b6e9cae4e19247", func := "loop.example/g03310/laws.FnExactVotesOk", spec := "fnExactVotesOk", apart := false }
def FnExactVotesOkSaid : Prop := fnExactVotesOkRow.holds Try.pinned (OpenSpec.ofChange fnExactVotesOkSpec)

/-- ITS FALSE NEIGHBOUR: 'it returns false'. Refute it at one input. -/
def fnExactVotesOkWrong : ChangeSpec := { name := "fnExactVotesOk", fn := fun _ => fun
  | [d1, d2] => { results := [.lit (.bool false)], args := [d1, d2] }
  | _ => none }
def FnExactVotesOkWrongFalsely : Prop := fnExactVotesOkRow.holds Try.pinned (OpenSpec.ofChange fnExactVotesOkWrong)

/-- 'laws.FnExactPrefers': WHATEVER THE INPUT: true; the input reads as it did. -/
def fnExactPrefersSpec : ChangeSpec := { name := "fnExactPrefers", fn := fun _ => fun
  | [d1, d2, d3, d4] => { results := [.lit (.bool true)], args := [d1, d2, d3, d4] }
  | _ => none }
def fnExactPrefersRow : OpenClaim := { program := "ytbbinndegcnedab", sum := "166d22b7b96a56889f134260140548cede47142232ab7962f2b6e9cae4e19247", func := "loop.example/g03310/laws.FnExactPrefers", spec := "fnExactPrefers", apart := false }
def FnExactPrefersSaid : Prop := fnExactPrefersRow.holds Try.pinned (OpenSpec.ofChange fnExactPrefersSpec)

/-- ITS FALSE NEIGHBOUR: 'it returns false'. Refute it at one input. -/
def fnExactPrefersWrong : ChangeSpec := { name := "fnExactPrefers", fn := fun _ => fun
  | [d1, d2, d3, d4] => { results := [.lit (.bool false)], args := [d1, d2, d3, d4] }
  | _ => none }
def FnExactPrefersWrongFalsely : Prop := fnExactPrefersRow.holds Try.pinned (OpenSpec.ofChange fnExactPrefersWrong)

/- THE SECOND FORM. 'bulk': how many values and letters a reading holds, each counted each time it is reached (what is shared counts as often as it is met; a slice's spare places count too). A statement '..UptoSaid' is the law's where the arguments, and the package variables that the reading takes, are together of bulk at most 1048576: NARROWER than '..Said'. Prove '..Said' where nothing that the law and all that it calls make is longer than what came in: it says more and counts as full. Else prove '..UptoSaid'. A law counts once. -/
mutual
def uptoBulk {H : Type} : DataW H → Nat
  | .lit (.string bytes) => bytes.length + 1
  | .lit _ => 1
  | .nil => 1
  | .ptr d => uptoBulk d + 1
  | .slice elems spare => uptoBulkAll elems + uptoBulkAll spare + 1
  | .agg parts => uptoBulkAll parts + 1
  | .iface _ d => uptoBulk d + 1
  | .map entries => uptoBulkEntries entries + 1
  | .held _ => 1
def uptoBulkAll {H : Type} : List (DataW H) → Nat
  | [] => 0
  | d :: r => uptoBulk d + uptoBulkAll r
def uptoBulkEntries {H : Type} : List (Lit × DataW H) → Nat
  | [] => 0
  | x :: r => uptoBulkEntry x + uptoBulkEntries r
def uptoBulkEntry {H : Type} : Lit × DataW H → Nat
  | (.string bytes, d) => bytes.length + uptoBulk d + 1
  | (_, d) => uptoBulk d + 1
 end
def uptoSmall : (H : Type) → List (DataW H) → Bool := fun _ ds => decide (uptoBulkAll ds ≤ 1048576)
def OpenSpec.upto (s : _root_.Go.ChangeSpec) : _root_.Go.OpenSpec := { _root_.Go.OpenSpec.ofChange s with cond := some uptoSmall }

/-- 'laws.FnExactFlourOf', WHERE WHAT IT READS IS OF BULK AT MOST 1048576: true; the input reads as it did. -/
def fnExactFlourOfUptoRow : OpenClaim := { program := "ytbbinndegcnedab", sum := "166d22b7b96a56889f134260140548cede47142232ab7962f2b6e9cae4e19247", func := "loop.example/g03310/laws.FnExactFlourOf", spec := "fnExactFlourOf", unfollowed := true, recurses := true, apart := false, narrowed := true }
def FnExactFlourOfUptoSaid : Prop := fnExactFlourOfUptoRow.holds Try.pinned (OpenSpec.upto fnExactFlourOfSpec)

/-- 'laws.FnExactCanTell', WHERE WHAT IT READS IS OF BULK AT MOST 1048576: true; the input reads as it did. -/
def fnExactCanTellUptoRow : OpenClaim := { program := "ytbbinndegcnedab", sum := "166d22b7b96a56889f134260140548cede47142232ab7962f2b6e9cae4e19247", func := "loop.example/g03310/laws.FnExactCanTell", spec := "fnExactCanTell", apart := false, narrowed := true }
def FnExactCanTellUptoSaid : Prop := fnExactCanTellUptoRow.holds Try.pinned (OpenSpec.upto fnExactCanTellSpec)

/-- 'laws.FnExactSaltAfter', WHERE WHAT IT READS IS OF BULK AT MOST 1048576: true; the input reads as it did. -/
def fnExactSaltAfterUptoRow : OpenClaim := { program := "ytbbinndegcnedab", sum := "166d22b7b96a56889f134260140548cede47142232ab7962f2b6e9cae4e19247", func := "loop.example/g03310/laws.FnExactSaltAfter", spec := "fnExactSaltAfter", apart := false, narrowed := true }
def FnExactSaltAfterUptoSaid : Prop := fnExactSaltAfterUptoRow.holds Try.pinned (OpenSpec.upto fnExactSaltAfterSpec)

/-- 'laws.FnTastes', WHERE WHAT IT READS IS OF BULK AT MOST 1048576: true; the input reads as it did. -/
def fnTastesUptoRow : OpenClaim := { program := "ytbbinndegcnedab", sum := "166d22b7b96a56889f134260140548cede47142232ab7962f2b6e9cae4e19247", func := "loop.example/g03310/laws.FnTastes", spec := "fnTastes", apart := false, narrowed := true }
def FnTastesUptoSaid : Prop := fnTastesUptoRow.holds Try.pinned (OpenSpec.upto fnTastesSpec)

/-- 'laws.FnExactVotesOk', WHERE WHAT IT READS IS OF BULK AT MOST 1048576: true; the input reads as it did. -/
def fnExactVotesOkUptoRow : OpenClaim := { program := "ytbbinndegcnedab", sum := "166d22b7b96a56889f134260140548cede47142232ab7962f2b6e9cae4e19247", func := "loop.example/g03310/laws.FnExactVotesOk", spec := "fnExactVotesOk", apart := false, narrowed := true }
def FnExactVotesOkUptoSaid : Prop := fnExactVotesOkUptoRow.holds Try.pinned (OpenSpec.upto fnExactVotesOkSpec)

/-- 'laws.FnExactPrefers', WHERE WHAT IT READS IS OF BULK AT MOST 1048576: true; the input reads as it did. -/
def fnExactPrefersUptoRow : OpenClaim := { program := "ytbbinndegcnedab", sum := "166d22b7b96a56889f134260140548cede47142232ab7962f2b6e9cae4e19247", func := "loop.example/g03310/laws.FnExactPrefers", spec := "fnExactPrefers", apart := false, narrowed := true }
def FnExactPrefersUptoSaid : Prop := fnExactPrefersUptoRow.holds Try.pinned (OpenSpec.upto fnExactPrefersSpec)

end Rows
end Go.Proofs.Ytbbinndegcnedab
