/-
  No cell of these rows narrows 'for every input' (looked for: loops, veiled, ifaces, maps, wideKeys, modest, calm, conditions, laid).
  DERIVED. THE GIVEN ROWS OF THIS SEAT. 6 by the template 'for every input the law returns true; each argument reads behind the call as it read before'; 0 by the template 'total and deterministic' (their statements: YthadanmiomeehabTotals.lean).
  GIVEN WITH THE SEED: the statements are not yours to turn. If you find one false, say at which input.
  Laid BY PROGRAM, IN A SANDBOX (cutbox-rows.mjs): the forced cells as the released guide's own fill.sh prints them over the translation 97e3079764a37c41… (all of the seat's roots in one cut). By AI agents, Wed Nov 11 2026. No macro, syntax, notation, axiom, sorry.
-/
import Derived.Test.YthadanmiomeehabChecked
import GoSem.Claim
import GoSem.ClaimJoined
import GoSem.ClaimMapViews
import Derived.JoinedTies
import Derived.KernelRfl
namespace Go.Proofs.Ythadanmiomeehab
/- THE CELL 'sum', in the pinned program and in every row, IS THE sha256 OF THE DUMP (.gsa) THAT YthadanmiomeehabProg.lean LOADS. Nothing in Lean hashes anything: it is a label: what it is worth is what the hold of that sum in a sandbox is worth. -/
noncomputable def Try.pinned : Pinned := { name := "ythadanmiomeehab", sum := "97e3079764a37c41716fc68d348becb78ba1374073da2a1a61c7377447f59645", checked := Try.checked }
namespace Rows
def none {H : Type} : Left H := { results := [], args := [] }

/-- 'laws.FnExactFallingOrder': WHATEVER THE INPUT: true; the input reads as it did. -/
def fnExactFallingOrderSpec : ChangeSpec := { name := "fnExactFallingOrder", fn := fun _ => fun
  | [d] => { results := [.lit (.bool true)], args := [d] }
  | _ => none }
def fnExactFallingOrderRow : OpenClaim := { program := "ythadanmiomeehab", sum := "97e3079764a37c41716fc68d348becb78ba1374073da2a1a61c7377447f59645", func := "loop.example/g03310/laws.FnExactFallingOrder", spec := "fnExactFallingOrder", unfollowed := true, recurses := true, apart := false }
def FnExactFallingOrderSaid : Prop := fnExactFallingOrderRow.holds Try.pinned (OpenSpec.ofChange fnExactFallingOrderSpec)

/-- ITS FALSE NEIGHBOUR: 'it returns false'. Refute it at one input. -/
def fnExactFallingOrderWrong : ChangeSpec := { name := "fnExactFallingOrder", fn := fun _ => fun
  | [d] => { results := [.lit (.bool false)], args := [d] }
  | _ => none }
def FnExactFallingOrderWrongFalsely : Prop := fnExactFallingOrderRow.holds Try.pinned (OpenSpec.ofChange fnExactFallingOrderWrong)

/-- 'laws.FnExactBestHeats': WHATEVER THE INPUT: true; the input reads as it did. -/
def fnExactBestHeatsSpec : ChangeSpec := { name := "fnExactBestHeats", fn := fun _ => fun
  | [d1, d2] => { results := [.lit (.bool true)], args := [d1, d2] }
  | _ => none }
def fnExactBestHeatsRow : OpenClaim := { program := "ythadanmiomeehab", sum := "97e3079764a37c41716fc68d348becb78ba1374073da2a1a61c7377447f59645", func := "loop.example/g03310/laws.FnExactBestHeats", spec := "fnExactBestHeats", unfollowed := true, recurses := true, apart := false }
def FnExactBestHeatsSaid : Prop := fnExactBestHeatsRow.holds Try.pinned (OpenSpec.ofChange fnExactBestHeatsSpec)

/-- ITS FALSE NEIGHBOUR: 'it returns false'. Refute it at one input. -/
def fnExactBestHeatsWrong : ChangeSpec := { name := "fnExactBestHeats", fn := fun _ => fun
  | [d1, d2] => { results := [.lit (.bool false)], args := [d1, d2] }
  | _ => none }
def FnExactBestHeatsWrongFalsely : Prop := fnExactBestHeatsRow.holds Try.pinned (OpenSpec.ofChange fnExactBestHeatsWrong)

/-- 'laws.FnExactFewestHeats': WHATEVER THE INPUT: true; the input reads as it did. -/
def fnExactFewestHeatsSpec : ChangeSpec := { name := "fnExactFewestHeats", fn := fun _ => fun
  | [d] => { results := [.lit (.bool true)], args := [d] }
  | _ => none }
def fnExactFewestHeatsRow : OpenClaim := { program := "ythadanmiomeehab", sum := "97e3079764a37c41716fc68d348becb78ba1374073da2a1a61c7377447f59645", func := "loop.example/g03310/laws.FnExactFewestHeats", spec := "fnExactFewestHeats", unfollowed := true, recurses := true, apart := false }
def FnExactFewestHeatsSaid : Prop := fnExactFewestHeatsRow.holds Try.pinned (OpenSpec.ofChange fnExactFewestHeatsSpec)

/-- ITS FALSE NEIGHBOUR: 'it returns false'. Refute it at one input. -/
def fnExactFewestHeatsWrong : ChangeSpec := { name := "fnExactFewestHeats", fn := fun _ => fun
  | [d] => { results := [.lit (.bool false)], args := [d] }
  | _ => none }
def FnExactFewestHeatsWrongFalsely : Prop := fnExactFewestHeatsRow.holds Try.pinned (OpenSpec.ofChange fnExactFewestHeatsWrong)

/-- 'laws.FnExactApartBreads': WHATEVER THE INPUT: true; the input reads as it did. -/
def fnExactApartBreadsSpec : ChangeSpec := { name := "fnExactApartBreads", fn := fun _ => fun
  | [d] => { results := [.lit (.bool true)], args := [d] }
  | _ => none }
def fnExactApartBreadsRow : OpenClaim := { program := "ythadanmiomeehab", sum := "97e3079764a37c41716fc68d348becb78ba1374073da2a1a61c7377447f59645", func := "loop.example/g03310/laws.FnExactApartBreads", spec := "fnExactApartBreads", unfollowed := true, recurses := true, apart := false }
def FnExactApartBreadsSaid : Prop := fnExactApartBreadsRow.holds Try.pinned (OpenSpec.ofChange fnExactApartBreadsSpec)

/-- ITS FALSE NEIGHBOUR: 'it returns false'. Refute it at one input. -/
def fnExactApartBreadsWrong : ChangeSpec := { name := "fnExactApartBreads", fn := fun _ => fun
  | [d] => { results := [.lit (.bool false)], args := [d] }
  | _ => none }
def FnExactApartBreadsWrongFalsely : Prop := fnExactApartBreadsRow.holds Try.pinned (OpenSpec.ofChange fnExactApartBreadsWrong)

/-- 'laws.FnExactStripsUsed': WHATEVER THE INPUT: true; the input reads as it did. -/
def fnExactStripsUsedSpec : ChangeSpec := { name := "fnExactStripsUsed", fn := fun _ => fun
  | [d1, d2, d3] => { results := [.lit (.bool true)], args := [d1, d2, d3] }
  | _ => none }
def fnExactStripsUsedRow : OpenClaim := { program := "ythadanmiomeehab", sum := "97e3079764a37c41716fc68d348becb78ba1374073da2a1a61c7377447f59645", func := "loop.example/g03310/laws.FnExactStripsUsed", spec := "fnExactStripsUsed", unfollowed := true, recurses := true, apart := false }
def FnExactStripsUsedSaid : Prop := fnExactStripsUsedRow.holds Try.pinned (OpenSpec.ofChange fnExactStripsUsedSpec)

/-- ITS FALSE NEIGHBOUR: 'it returns false'. Refute it at one input. -/
def fnExactStripsUsedWrong : ChangeSpec := { name := "fnExactStripsUsed", fn := fun _ => fun
  | [d1, d2, d3] => { results := [.lit (.bool false)], args := [d1, d2, d3] }
  | _ => none }
def FnExactStripsUsedWrongFalsely : Prop := fnExactStripsUsedRow.holds Try.pinned (OpenSpec.ofChange fnExactStripsUsedWrong)

/-- 'laws.FnExactLongFirst': WHATEVER THE INPUT: true; the input reads as it did. -/
def fnExactLongFirstSpec : ChangeSpec := { name := "fnExactLongFirst", fn := fun _ => fun
  | [d1, d2] => { results := [.lit (.bool true)], args := [d1, d2] }
  | _ => none }
def fnExactLongFirstRow : OpenClaim := { program := "ythadanmiomeehab", sum := "97e3079764a37c41716fc68d348becb78ba1374073da2a1a61c7377447f59645", func := "loop.example/g03310/laws.FnExactLongFirst", spec := "fnExactLongFirst", unfollowed := true, recurses := true, apart := false }
def FnExactLongFirstSaid : Prop := fnExactLongFirstRow.holds Try.pinned (OpenSpec.ofChange fnExactLongFirstSpec)

/-- ITS FALSE NEIGHBOUR: 'it returns false'. Refute it at one input. -/
def fnExactLongFirstWrong : ChangeSpec := { name := "fnExactLongFirst", fn := fun _ => fun
  | [d1, d2] => { results := [.lit (.bool false)], args := [d1, d2] }
  | _ => none }
def FnExactLongFirstWrongFalsely : Prop := fnExactLongFirstRow.holds Try.pinned (OpenSpec.ofChange fnExactLongFirstWrong)

/- THE SECOND FORM. 'bulk': how many values and letters a reading holds, each counted each time it is reached (what is shared counts as often as it is met; a slice's spare places count too). A statement '..UptoSaid' is the law's where the arguments, and the package variables that the reading takes, are together of bulk at most 1048576: NARROWER than '..Said'. Prove '..Said' where nothing that the law and all that it calls make is longer than what came in: it says more and counts as full. Else prove '..UptoSaid'. A law counts once. -/
mutual
def uptoBulk {H : Type} : DataW H → Nat
  | .lit (.string bytes) => bytes.length + 1
  | .lit _ => 1
  | .nil => 1
  | .ptr d => uptoBulk d + 1
  | .slice elems spare => uptoBulkAll elems + uptoBulkAll spare + 1
  | .agg parts => uptoBulkAll parts + 1
  | .iface _ d => uptoBulk d + 1
  | .map entries => uptoBulkEntries entries + 1
  | .held _ => 1
def uptoBulkAll {H : Type} : List (DataW H) → Nat
  | [] => 0
  | d :: r => uptoBulk d + uptoBulkAll r
def uptoBulkEntries {H : Type} : List (Lit × DataW H) → Nat
  | [] => 0
  | x :: r => uptoBulkEntry x + uptoBulkEntries r
def uptoBulkEntry {H : Type} : Lit × DataW H → Nat
  | (.string bytes, d) => bytes.length + uptoBulk d + 1
  | (_, d) => uptoBulk d + 1
 end
def uptoSmall : (H : Type) → List (DataW H) → Bool := fun _ ds => decide (uptoBulkAll ds ≤ 1048576)
def OpenSpec.upto (s : _root_.Go.ChangeSpec) : _root_.Go.OpenSpec := { _root_.Go.OpenSpec.ofChange s with cond := some uptoSmall }

/-- 'laws.FnExactFallingOrder', WHERE WHAT IT READS IS OF BULK AT MOST 1048576: true; the input reads as it did. -/
def fnExactFallingOrderUptoRow : OpenClaim := { program := "ythadanmiomeehab", sum := "97e3079764a37c41716fc68d348becb78ba1374073da2a1a61c7377447f59645", func := "loop.example/g03310/laws.FnExactFallingOrder", spec := "fnExactFallingOrder", unfollowed := true, recurses := true, apart := false, narrowed := true }
def FnExactFallingOrderUptoSaid : Prop := fnExactFallingOrderUptoRow.holds Try.pinned (OpenSpec.upto fnExactFallingOrderSpec)

/-- 'laws.FnExactBestHeats', WHERE WHAT IT READS IS OF BULK AT MOST 1048576: true; the input reads as it did. -/
def fnExactBestHeatsUptoRow : OpenClaim := { program := "ythadanmiomeehab", sum := "97e3079764a37c41716fc68d348becb78ba1374073da2a1a61c7377447f59645", func := "loop.example/g03310/laws.FnExactBestHeats", spec := "fnExactBestHeats", unfollowed := true, recurses := true, apart := false, narrowed := true }
def FnExactBestHeatsUptoSaid : Prop := fnExactBestHeatsUptoRow.holds Try.pinned (OpenSpec.upto fnExactBestHeatsSpec)

/-- 'laws.FnExactFewestHeats', WHERE WHAT IT READS IS OF BULK AT MOST 1048576: true; the input reads as it did. -/
def fnExactFewestHeatsUptoRow : OpenClaim := { program := "ythadanmiomeehab", sum := "97e3079764a37c41716fc68d348becb78ba1374073da2a1a61c7377447f59645", func := "loop.example/g03310/laws.FnExactFewestHeats", spec := "fnExactFewestHeats", unfollowed := true, recurses := true, apart := false, narrowed := true }
def FnExactFewestHeatsUptoSaid : Prop := fnExactFewestHeatsUptoRow.holds Try.pinned (OpenSpec.upto fnExactFewestHeatsSpec)

/-- 'laws.FnExactApartBreads', WHERE WHAT IT READS IS OF BULK AT MOST 1048576: true; the input reads as it did. -/
def fnExactApartBreadsUptoRow : OpenClaim := { program := "ythadanmiomeehab", sum := "97e3079764a37c41716fc68d348becb78ba1374073da2a1a61c7377447f59645", func := "loop.example/g03310/laws.FnExactApartBreads", spec := "fnExactApartBreads", unfollowed := true, recurses := true, apart := false, narrowed := true }
def FnExactApartBreadsUptoSaid : Prop := fnExactApartBreadsUptoRow.holds Try.pinned (OpenSpec.upto fnExactApartBreadsSpec)

/-- 'laws.FnExactStripsUsed', WHERE WHAT IT READS IS OF BULK AT MOST 1048576: true; the input reads as it did. -/
def fnExactStripsUsedUptoRow : OpenClaim := { program := "ythadanmiomeehab", sum := "97e3079764a37c41716fc68d348becb78ba1374073da2a1a61c7377447f59645", func := "loop.example/g03310/laws.FnExactStripsUsed", spec := "fnExactStripsUsed", unfollowed := true, recurses := true, apart := false, narrowed := true }
def FnExactStripsUsedUptoSaid : Prop := fnExactStripsUsedUptoRow.holds Try.pinned (OpenSpec.upto fnExactStripsUsedSpec)

/-- 'laws.FnExactLongFirst', WHERE WHAT IT READS IS OF BULK AT MOST 1048576: true; the input reads as it did. -/
def fnExactLongFirstUptoRow : OpenClaim := { program := "ythadanmiomeehab", sum := "97e3079764a37c41716fc68d348becb78ba1374073da2a1a61c7377447f59645", func := "loop.example/g03310/laws.FnExactLongFirst", spec := "fnExactLongFirst", unfollowed := true, recurses := true, apart := false, narrowed := true }
def FnExactLongFirstUptoSaid : Prop := fnExactLongFirstUptoRow.holds Try.pinned (OpenSpec.upto fnExactLongFirstSpec)

end Rows
end Go.Proofs.Ythadanmiomeehab
