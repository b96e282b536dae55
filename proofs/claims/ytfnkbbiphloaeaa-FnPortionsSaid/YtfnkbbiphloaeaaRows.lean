/-
  No cell of these rows narrows 'for every input' (looked for: loops, veiled, ifaces, maps, wideKeys, modest, calm, conditions, laid).
  DERIVED. THE GIVEN ROWS OF THIS SEAT. 6 by the template 'for every input the law returns true; each argument reads behind the call as it read before'; 0 by the template 'total and deterministic' (their statements: YtfnkbbiphloaeaaTotals.lean).
  GIVEN WITH THE SEED: the statements are not yours to turn. If you find one false, say at which input.
  Laid BY PROGRAM, IN A SANDBOX (cutbox-rows.mjs): the forced cells as the released guide's own fill.sh prints them over the translation df21bf3a9a532034… (all of the seat's roots in one cut). By AI agents, Wed Nov 11 2026. No macro, syntax, notation, axiom, sorry.
-/
import Derived.Test.YtfnkbbiphloaeaaChecked
import GoSem.Claim
import GoSem.ClaimJoined
import GoSem.ClaimMapViews
import Derived.JoinedTies
import Derived.KernelRfl
namespace Go.Proofs.Ytfnkbbiphloaeaa
/- THE CELL 'sum', in the pinned program and in every row, IS THE sha256 OF THE DUMP (.gsa) THAT YtfnkbbiphloaeaaProg.lean LOADS. Nothing in Lean hashes anything: it is a label: what it is worth is what the hold of that sum in a sandbox is worth. -/
noncomputable def Try.pinned : Pinned := { name := "ytfnkbbiphloaeaa", sum := "df21bf3a9a5320345752c8048fbcca831f026298b3dd00793dac51825a985208", checked := Try.checked }
namespace Rows
def none {H : Type} : Left H := { results := [], args := [] }

/-- 'laws.FnWarms': WHATEVER THE INPUT: true; the input reads as it did. -/
def fnWarmsSpec : ChangeSpec := { name := "fnWarms", fn := fun _ => fun
  | [d] => { results := [.lit (.bool true)], args := [d] }
  | _ => none }
def fnWarmsRow : OpenClaim := { program := "ytfnkbbiphloaeaa", sum := "df21bf3a9a5320345752c8048fbcca831f026298b3dd00793dac51825a985208", func := "loop.example/g03310/laws.FnWarms", spec := "fnWarms", apart := false }
def FnWarmsSaid : Prop := fnWarmsRow.holds Try.pinned (OpenSpec.ofChange fnWarmsSpec)

/-- ITS FALSE NEIGHBOUR: 'it returns false'. Refute it at one input. -/
def fnWarmsWrong : ChangeSpec := { name := "fnWarms", fn := fun _ => fun
  | [d] => { results := [.lit (.bool false)], args := [d] }
  | _ => none }
def FnWarmsWrongFalsely : Prop := fnWarmsRow.holds Try.pinned (OpenSpec.ofChange fnWarmsWrong)

/-- 'laws.FnCards': WHATEVER THE INPUT: true; the input reads as it did. -/
def fnCardsSpec : ChangeSpec := { name := "fnCards", fn := fun _ => fun
  | [d] => { results := [.lit (.bool true)], args := [d] }
  | _ => none }
def fnCardsRow : OpenClaim := { program := "ytfnkbbiphloaeaa", sum := "df21bf3a9a5320345752c8048fbcca831f026298b3dd00793dac51825a985208", func := "loop.example/g03310/laws.FnCards", spec := "fnCards", unfollowed := true, recurses := true, apart := false }
def FnCardsSaid : Prop := fnCardsRow.holds Try.pinned (OpenSpec.ofChange fnCardsSpec)

/-- ITS FALSE NEIGHBOUR: 'it returns false'. Refute it at one input. -/
def fnCardsWrong : ChangeSpec := { name := "fnCards", fn := fun _ => fun
  | [d] => { results := [.lit (.bool false)], args := [d] }
  | _ => none }
def FnCardsWrongFalsely : Prop := fnCardsRow.holds Try.pinned (OpenSpec.ofChange fnCardsWrong)

/-- 'laws.FnDoughs': WHATEVER THE INPUT: true; the input reads as it did. -/
def fnDoughsSpec : ChangeSpec := { name := "fnDoughs", fn := fun _ => fun
  | [d] => { results := [.lit (.bool true)], args := [d] }
  | _ => none }
def fnDoughsRow : OpenClaim := { program := "ytfnkbbiphloaeaa", sum := "df21bf3a9a5320345752c8048fbcca831f026298b3dd00793dac51825a985208", func := "loop.example/g03310/laws.FnDoughs", spec := "fnDoughs", apart := false }
def FnDoughsSaid : Prop := fnDoughsRow.holds Try.pinned (OpenSpec.ofChange fnDoughsSpec)

/-- ITS FALSE NEIGHBOUR: 'it returns false'. Refute it at one input. -/
def fnDoughsWrong : ChangeSpec := { name := "fnDoughs", fn := fun _ => fun
  | [d] => { results := [.lit (.bool false)], args := [d] }
  | _ => none }
def FnDoughsWrongFalsely : Prop := fnDoughsRow.holds Try.pinned (OpenSpec.ofChange fnDoughsWrong)

/-- 'laws.FnPortions': WHATEVER THE INPUT: true; the input reads as it did. -/
def fnPortionsSpec : ChangeSpec := { name := "fnPortions", fn := fun _ => fun
  | [d] => { results := [.lit (.bool true)], args := [d] }
  | _ => none }
def fnPortionsRow : OpenClaim := { program := "ytfnkbbiphloaeaa", sum := "df21bf3a9a5320345752c8048fbcca831f026298b3dd00793dac51825a985208", func := "loop.example/g03310/laws.FnPortions", spec := "fnPortions", unfollowed := true, recurses := true, apart := false }
def FnPortionsSaid : Prop := fnPortionsRow.holds Try.pinned (OpenSpec.ofChange fnPortionsSpec)

/-- ITS FALSE NEIGHBOUR: 'it returns false'. Refute it at one input. -/
def fnPortionsWrong : ChangeSpec := { name := "fnPortions", fn := fun _ => fun
  | [d] => { results := [.lit (.bool false)], args := [d] }
  | _ => none }
def FnPortionsWrongFalsely : Prop := fnPortionsRow.holds Try.pinned (OpenSpec.ofChange fnPortionsWrong)

/-- 'laws.FnShelves': WHATEVER THE INPUT: true; the input reads as it did. -/
def fnShelvesSpec : ChangeSpec := { name := "fnShelves", fn := fun _ => fun
  | [d] => { results := [.lit (.bool true)], args := [d] }
  | _ => none }
def fnShelvesRow : OpenClaim := { program := "ytfnkbbiphloaeaa", sum := "df21bf3a9a5320345752c8048fbcca831f026298b3dd00793dac51825a985208", func := "loop.example/g03310/laws.FnShelves", spec := "fnShelves", apart := false }
def FnShelvesSaid : Prop := fnShelvesRow.holds Try.pinned (OpenSpec.ofChange fnShelvesSpec)

/-- ITS FALSE NEIGHBOUR: 'it returns false'. Refute it at one input. -/
def fnShelvesWrong : ChangeSpec := { name := "fnShelves", fn := fun _ => fun
  | [d] => { results := [.lit (.bool false)], args := [d] }
  | _ => none }
def FnShelvesWrongFalsely : Prop := fnShelvesRow.holds Try.pinned (OpenSpec.ofChange fnShelvesWrong)

/-- 'laws.FnTrays': WHATEVER THE INPUT: true; the input reads as it did. -/
def fnTraysSpec : ChangeSpec := { name := "fnTrays", fn := fun _ => fun
  | [d] => { results := [.lit (.bool true)], args := [d] }
  | _ => none }
def fnTraysRow : OpenClaim := { program := "ytfnkbbiphloaeaa", sum := "df21bf3a9a5320345752c8048fbcca831f026298b3dd00793dac51825a985208", func := "loop.example/g03310/laws.FnTrays", spec := "fnTrays", apart := false }
def FnTraysSaid : Prop := fnTraysRow.holds Try.pinned (OpenSpec.ofChange fnTraysSpec)

/-- ITS FALSE NEIGHBOUR: 'it returns false'. Refute it at one input. -/
def fnTraysWrong : ChangeSpec := { name := "fnTrays", fn := fun _ => fun
  | [d] => { results := [.lit (.bool false)], args := [d] }
  | _ => none }
def FnTraysWrongFalsely : Prop := fnTraysRow.holds Try.pinned (OpenSpec.ofChange fnTraysWrong)

/- THE SECOND FORM. 'bulk': how many values and letters a reading holds, each counted each time it is reached (what is shared counts as often as it is met; a slice's spare places count too). A statement '..UptoSaid' is the law's where the arguments, and the package variables that the reading takes, are together of bulk at most 1048576: NARROWER than '..Said'. Prove '..Said' where nothing that the law and all that it calls make is longer than what came in: it says more and counts as full. Else prove '..UptoSaid'. A law counts once. -/
mutual
def uptoBulk {H : Type} : DataW H → Nat
  | .lit (.string bytes) => bytes.length + 1
  | .lit _ => 1
  | .nil => 1
  | .ptr d => uptoBulk d + 1
  | .slice elems spare => uptoBulkAll elems + uptoBulkAll spare + 1
  | .agg parts => uptoBulkAll parts + 1
  | .iface _ d => uptoBulk d + 1
  | .map entries => uptoBulkEntries entries + 1
  | .held _ => 1
def uptoBulkAll {H : Type} : List (DataW H) → Nat
  | [] => 0
  | d :: r => uptoBulk d + uptoBulkAll r
def uptoBulkEntries {H : Type} : List (Lit × DataW H) → Nat
  | [] => 0
  | x :: r => uptoBulkEntry x + uptoBulkEntries r
def uptoBulkEntry {H : Type} : Lit × DataW H → Nat
  | (.string bytes, d) => bytes.length + uptoBulk d + 1
  | (_, d) => uptoBulk d + 1
 end
def uptoSmall : (H : Type) → List (DataW H) → Bool := fun _ ds => decide (uptoBulkAll ds ≤ 1048576)
def OpenSpec.upto (s : _root_.Go.ChangeSpec) : _root_.Go.OpenSpec := { _root_.Go.OpenSpec.ofChange s with cond := some uptoSmall }

/-- 'laws.FnWarms', WHERE WHAT IT READS IS OF BULK AT MOST 1048576: true; the input reads as it did. -/
def fnWarmsUptoRow : OpenClaim := { program := "ytfnkbbiphloaeaa", sum := "df21bf3a9a5320345752c8048fbcca831f026298b3dd00793dac51825a985208", func := "loop.example/g03310/laws.FnWarms", spec := "fnWarms", apart := false, narrowed := true }
def FnWarmsUptoSaid : Prop := fnWarmsUptoRow.holds Try.pinned (OpenSpec.upto fnWarmsSpec)

/-- 'laws.FnCards', WHERE WHAT IT READS IS OF BULK AT MOST 1048576: true; the input reads as it did. -/
def fnCardsUptoRow : OpenClaim := { program := "ytfnkbbiphloaeaa", sum := "df21bf3a9a5320345752c8048fbcca831f026298b3dd00793dac51825a985208", func := "loop.example/g03310/laws.FnCards", spec := "fnCards", unfollowed := true, recurses := true, apart := false, narrowed := true }
def FnCardsUptoSaid : Prop := fnCardsUptoRow.holds Try.pinned (OpenSpec.upto fnCardsSpec)

/-- 'laws.FnDoughs', WHERE WHAT IT READS IS OF BULK AT MOST 1048576: true; the input reads as it did. -/
def fnDoughsUptoRow : OpenClaim := { program := "ytfnkbbiphloaeaa", sum := "df21bf3a9a5320345752c8048fbcca831f026298b3dd00793dac51825a985208", func := "loop.example/g03310/laws.FnDoughs", spec := "fnDoughs", apart := false, narrowed := true }
def FnDoughsUptoSaid : Prop := fnDoughsUptoRow.holds Try.pinned (OpenSpec.upto fnDoughsSpec)

/-- 'laws.FnPortions', WHERE WHAT IT READS IS OF BULK AT MOST 1048576: true; the input reads as it did. -/
def fnPortionsUptoRow : OpenClaim := { program := "ytfnkbbiphloaeaa", sum := "df21bf3a9a5320345752c8048fbcca831f026298b3dd00793dac51825a985208", func := "loop.example/g03310/laws.FnPortions", spec := "fnPortions", unfollowed := true, recurses := true, apart := false, narrowed := true }
def FnPortionsUptoSaid : Prop := fnPortionsUptoRow.holds Try.pinned (OpenSpec.upto fnPortionsSpec)

/-- 'laws.FnShelves', WHERE WHAT IT READS IS OF BULK AT MOST 1048576: true; the input reads as it did. -/
def fnShelvesUptoRow : OpenClaim := { program := "ytfnkbbiphloaeaa", sum := "df21bf3a9a5320345752c8048fbcca831f026298b3dd00793dac51825a985208", func := "loop.example/g03310/laws.FnShelves", spec := "fnShelves", apart := false, narrowed := true }
def FnShelvesUptoSaid : Prop := fnShelvesUptoRow.holds Try.pinned (OpenSpec.upto fnShelvesSpec)

/-- 'laws.FnTrays', WHERE WHAT IT READS IS OF BULK AT MOST 1048576: true; the input reads as it did. -/
def fnTraysUptoRow : OpenClaim := { program := "ytfnkbbiphloaeaa", sum := "df21bf3a9a5320345752c8048fbcca831f026298b3dd00793dac51825a985208", func := "loop.example/g03310/laws.FnTrays", spec := "fnTrays", apart := false, narrowed := true }
def FnTraysUptoSaid : Prop := fnTraysUptoRow.holds Try.pinned (OpenSpec.upto fnTraysSpec)

end Rows
end Go.Proofs.Ytfnkbbiphloaeaa
