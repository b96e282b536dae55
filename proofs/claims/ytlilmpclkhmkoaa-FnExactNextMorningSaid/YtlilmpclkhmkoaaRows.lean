/-
  No cell of these rows narrows 'for every input' (looked for: loops, veiled, ifaces, maps, wideKeys, modest, calm, conditions, laid).
  DERIVED. THE GIVEN ROWS OF THIS SEAT. 6 by the template 'for every input the law returns true; each argument reads behind the call as it read before'; 0 by the template 'total and deterministic' (their statements: YtlilmpclkhmkoaaTotals.lean).
  GIVEN WITH THE SEED: the statements are not yours to turn. If you find one false, say at which input.
  Laid BY PROGRAM, IN A SANDBOX (cutbox-rows.mjs): the forced cells as the released guide's own fill.sh prints them over the translation b41a65c24479aad3… (all of the seat's roots in one cut). By AI agents, Wed Nov 11 2026. No macro, syntax, notation, axiom, sorry.
-/
import Derived.Test.YtlilmpclkhmkoaaChecked
import GoSem.Claim
import GoSem.ClaimJoined
import GoSem.ClaimMapViews
import Derived.JoinedTies
import Derived.KernelRfl
namespace Go.Proofs.Ytlilmpclkhmkoaa
/- THE CELL 'sum', in the pinned program and in every row, IS THE sha256 OF THE DUMP (.gsa) THAT YtlilmpclkhmkoaaProg.lean LOADS. Nothing in Lean hashes anything: it is a label: what it is worth is what the hold of that sum in a sandbox is worth. -/
noncomputable def Try.pinned : Pinned := { name := "ytlilmpclkhmkoaa", sum := "b41a65c24479aad3470dfdc924a02d7af3bb1f98ed1aeb35b88efcad43170301", checked := Try.checked }
namespace Rows
def none {H : Type} : Left H := { results := [], args := [] }

/-- 'laws.FnShelves': WHATEVER THE INPUT: true; the input reads as it did. -/
def fnShelvesSpec : ChangeSpec := { name := "fnShelves", fn := fun _ => fun
  | [d] => { results := [.lit (.bool true)], args := [d] }
  | _ => none }
def fnShelvesRow : OpenClaim := { program := "ytlilmpclkhmkoaa", sum := "b41a65c24479aad3470dfdc924a02d7af3bb1f98ed1aeb35b88efcad43170301", func := "loop.example/g03310/laws.FnShelves", spec := "fnShelves", apart := false }
def FnShelvesSaid : Prop := fnShelvesRow.holds Try.pinned (OpenSpec.ofChange fnShelvesSpec)

/-- ITS FALSE NEIGHBOUR: 'it returns false'. Refute it at one input. -/
def fnShelvesWrong : ChangeSpec := { name := "fnShelves", fn := fun _ => fun
  | [d] => { results := [.lit (.bool false)], args := [d] }
  | _ => none }
def FnShelvesWrongFalsely : Prop := fnShelvesRow.holds Try.pinned (OpenSpec.ofChange fnShelvesWrong)

/-- 'laws.FnExactRackOk': WHATEVER THE INPUT: true; the input reads as it did. -/
def fnExactRackOkSpec : ChangeSpec := { name := "fnExactRackOk", fn := fun _ => fun
  | [d] => { results := [.lit (.bool true)], args := [d] }
  | _ => none }
def fnExactRackOkRow : OpenClaim := { program := "ytlilmpclkhmkoaa", sum := "b41a65c24479aad3470dfdc924a02d7af3bb1f98ed1aeb35b88efcad43170301", func := "loop.example/g03310/laws.FnExactRackOk", spec := "fnExactRackOk", apart := false }
def FnExactRackOkSaid : Prop := fnExactRackOkRow.holds Try.pinned (OpenSpec.ofChange fnExactRackOkSpec)

/-- ITS FALSE NEIGHBOUR: 'it returns false'. Refute it at one input. -/
def fnExactRackOkWrong : ChangeSpec := { name := "fnExactRackOk", fn := fun _ => fun
  | [d] => { results := [.lit (.bool false)], args := [d] }
  | _ => none }
def FnExactRackOkWrongFalsely : Prop := fnExactRackOkRow.holds Try.pinned (OpenSpec.ofChange fnExactRackOkWrong)

/-- 'laws.FnExactSellFresh': WHATEVER THE INPUT: true; the input reads as it did. -/
def fnExactSellFreshSpec : ChangeSpec := { name := "fnExactSellFresh", fn := fun _ => fun
  | [d1, d2] => { results := [.lit (.bool true)], args := [d1, d2] }
  | _ => none }
def fnExactSellFreshRow : OpenClaim := { program := "ytlilmpclkhmkoaa", sum := "b41a65c24479aad3470dfdc924a02d7af3bb1f98ed1aeb35b88efcad43170301", func := "loop.example/g03310/laws.FnExactSellFresh", spec := "fnExactSellFresh", apart := false }
def FnExactSellFreshSaid : Prop := fnExactSellFreshRow.holds Try.pinned (OpenSpec.ofChange fnExactSellFreshSpec)

/-- ITS FALSE NEIGHBOUR: 'it returns false'. Refute it at one input. -/
def fnExactSellFreshWrong : ChangeSpec := { name := "fnExactSellFresh", fn := fun _ => fun
  | [d1, d2] => { results := [.lit (.bool false)], args := [d1, d2] }
  | _ => none }
def FnExactSellFreshWrongFalsely : Prop := fnExactSellFreshRow.holds Try.pinned (OpenSpec.ofChange fnExactSellFreshWrong)

/-- 'laws.FnExactSellCheap': WHATEVER THE INPUT: true; the input reads as it did. -/
def fnExactSellCheapSpec : ChangeSpec := { name := "fnExactSellCheap", fn := fun _ => fun
  | [d1, d2] => { results := [.lit (.bool true)], args := [d1, d2] }
  | _ => none }
def fnExactSellCheapRow : OpenClaim := { program := "ytlilmpclkhmkoaa", sum := "b41a65c24479aad3470dfdc924a02d7af3bb1f98ed1aeb35b88efcad43170301", func := "loop.example/g03310/laws.FnExactSellCheap", spec := "fnExactSellCheap", apart := false }
def FnExactSellCheapSaid : Prop := fnExactSellCheapRow.holds Try.pinned (OpenSpec.ofChange fnExactSellCheapSpec)

/-- ITS FALSE NEIGHBOUR: 'it returns false'. Refute it at one input. -/
def fnExactSellCheapWrong : ChangeSpec := { name := "fnExactSellCheap", fn := fun _ => fun
  | [d1, d2] => { results := [.lit (.bool false)], args := [d1, d2] }
  | _ => none }
def FnExactSellCheapWrongFalsely : Prop := fnExactSellCheapRow.holds Try.pinned (OpenSpec.ofChange fnExactSellCheapWrong)

/-- 'laws.FnExactNextMorning': WHATEVER THE INPUT: true; the input reads as it did. -/
def fnExactNextMorningSpec : ChangeSpec := { name := "fnExactNextMorning", fn := fun _ => fun
  | [d1, d2] => { results := [.lit (.bool true)], args := [d1, d2] }
  | _ => none }
def fnExactNextMorningRow : OpenClaim := { program := "ytlilmpclkhmkoaa", sum := "b41a65c24479aad3470dfdc924a02d7af3bb1f98ed1aeb35b88efcad43170301", func := "loop.example/g03310/laws.FnExactNextMorning", spec := "fnExactNextMorning", apart := false }
def FnExactNextMorningSaid : Prop := fnExactNextMorningRow.holds Try.pinned (OpenSpec.ofChange fnExactNextMorningSpec)

/-- ITS FALSE NEIGHBOUR: 'it returns false'. Refute it at one input. -/
def fnExactNextMorningWrong : ChangeSpec := { name := "fnExactNextMorning", fn := fun _ => fun
  | [d1, d2] => { results := [.lit (.bool false)], args := [d1, d2] }
  | _ => none }
def FnExactNextMorningWrongFalsely : Prop := fnExactNextMorningRow.holds Try.pinned (OpenSpec.ofChange fnExactNextMorningWrong)

/-- 'laws.FnExactValueOf': WHATEVER THE INPUT: true; the input reads as it did. -/
def fnExactValueOfSpec : ChangeSpec := { name := "fnExactValueOf", fn := fun _ => fun
  | [d1, d2] => { results := [.lit (.bool true)], args := [d1, d2] }
  | _ => none }
def fnExactValueOfRow : OpenClaim := { program := "ytlilmpclkhmkoaa", sum := "b41a65c24479aad3470dfdc924a02d7af3bb1f98ed1aeb35b88efcad43170301", func := "loop.example/g03310/laws.FnExactValueOf", spec := "fnExactValueOf", apart := false }
def FnExactValueOfSaid : Prop := fnExactValueOfRow.holds Try.pinned (OpenSpec.ofChange fnExactValueOfSpec)

/-- ITS FALSE NEIGHBOUR: 'it returns false'. Refute it at one input. -/
def fnExactValueOfWrong : ChangeSpec := { name := "fnExactValueOf", fn := fun _ => fun
  | [d1, d2] => { results := [.lit (.bool false)], args := [d1, d2] }
  | _ => none }
def FnExactValueOfWrongFalsely : Prop := fnExactValueOfRow.holds Try.pinned (OpenSpec.ofChange fnExactValueOfWrong)

/- THE SECOND FORM. 'bulk': how many values and letters a reading holds, each counted each time it is reached (what is shared counts as often as it is met; a slice's spare places count too). A statement '..UptoSaid' is the law's where the arguments, and the package variables that the reading takes, are together of bulk at most 1048576: NARROWER than '..Said'. Prove '..Said' where nothing that the law and all that it calls make is longer than what came in: it says more and counts as full. Else prove '..UptoSaid'. A law counts once. -/
mutual
def uptoBulk {H : Type} : DataW H → Nat
  | .lit (.string bytes) => bytes.length + 1
  | .lit _ => 1
  | .nil => 1
  | .ptr d => uptoBulk d + 1
  | .slice elems spare => uptoBulkAll elems + uptoBulkAll spare + 1
  | .agg parts => uptoBulkAll parts + 1
  | .iface _ d => uptoBulk d + 1
  | .map entries => uptoBulkEntries entries + 1
  | .held _ => 1
def uptoBulkAll {H : Type} : List (DataW H) → Nat
  | [] => 0
  | d :: r => uptoBulk d + uptoBulkAll r
def uptoBulkEntries {H : Type} : List (Lit × DataW H) → Nat
  | [] => 0
  | x :: r => uptoBulkEntry x + uptoBulkEntries r
def uptoBulkEntry {H : Type} : Lit × DataW H → Nat
  | (.string bytes, d) => bytes.length + uptoBulk d + 1
  | (_, d) => uptoBulk d + 1
 end
def uptoSmall : (H : Type) → List (DataW H) → Bool := fun _ ds => decide (uptoBulkAll ds ≤ 1048576)
def OpenSpec.upto (s : _root_.Go.ChangeSpec) : _root_.Go.OpenSpec := { _root_.Go.OpenSpec.ofChange s with cond := some uptoSmall }

/-- 'laws.FnShelves', WHERE WHAT IT READS IS OF BULK AT MOST 1048576: true; the input reads as it did. -/
def fnShelvesUptoRow : OpenClaim := { program := "ytlilmpclkhmkoaa", sum := "b41a65c24479aad3470dfdc924a02d7af3bb1f98ed1aeb35b88efcad43170301", func := "loop.example/g03310/laws.FnShelves", spec := "fnShelves", apart := false, narrowed := true }
def FnShelvesUptoSaid : Prop := fnShelvesUptoRow.holds Try.pinned (OpenSpec.upto fnShelvesSpec)

/-- 'laws.FnExactRackOk', WHERE WHAT IT READS IS OF BULK AT MOST 1048576: true; the input reads as it did. -/
def fnExactRackOkUptoRow : OpenClaim := { program := "ytlilmpclkhmkoaa", sum := "b41a65c24479aad3470dfdc924a02d7af3bb1f98ed1aeb35b88efcad43170301", func := "loop.example/g03310/laws.FnExactRackOk", spec := "fnExactRackOk", apart := false, narrowed := true }
def FnExactRackOkUptoSaid : Prop := fnExactRackOkUptoRow.holds Try.pinned (OpenSpec.upto fnExactRackOkSpec)

/-- 'laws.FnExactSellFresh', WHERE WHAT IT READS IS OF BULK AT MOST 1048576: true; the input reads as it did. -/
def fnExactSellFreshUptoRow : OpenClaim := { program := "ytlilmpclkhmkoaa", sum := "b41a65c24479aad3470dfdc924a02d7af3bb1f98ed1aeb35b88efcad43170301", func := "loop.example/g03310/laws.FnExactSellFresh", spec := "fnExactSellFresh", apart := false, narrowed := true }
def FnExactSellFreshUptoSaid : Prop := fnExactSellFreshUptoRow.holds Try.pinned (OpenSpec.upto fnExactSellFreshSpec)

/-- 'laws.FnExactSellCheap', WHERE WHAT IT READS IS OF BULK AT MOST 1048576: true; the input reads as it did. -/
def fnExactSellCheapUptoRow : OpenClaim := { program := "ytlilmpclkhmkoaa", sum := "b41a65c24479aad3470dfdc924a02d7af3bb1f98ed1aeb35b88efcad43170301", func := "loop.example/g03310/laws.FnExactSellCheap", spec := "fnExactSellCheap", apart := false, narrowed := true }
def FnExactSellCheapUptoSaid : Prop := fnExactSellCheapUptoRow.holds Try.pinned (OpenSpec.upto fnExactSellCheapSpec)

/-- 'laws.FnExactNextMorning', WHERE WHAT IT READS IS OF BULK AT MOST 1048576: true; the input reads as it did. -/
def fnExactNextMorningUptoRow : OpenClaim := { program := "ytlilmpclkhmkoaa", sum := "b41a65c24479aad3470dfdc924a02d7af3bb1f98ed1aeb35b88efcad43170301", func := "loop.example/g03310/laws.FnExactNextMorning", spec := "fnExactNextMorning", apart := false, narrowed := true }
def FnExactNextMorningUptoSaid : Prop := fnExactNextMorningUptoRow.holds Try.pinned (OpenSpec.upto fnExactNextMorningSpec)

/-- 'laws.FnExactValueOf', WHERE WHAT IT READS IS OF BULK AT MOST 1048576: true; the input reads as it did. -/
def fnExactValueOfUptoRow : OpenClaim := { program := "ytlilmpclkhmkoaa", sum := "b41a65c24479aad3470dfdc924a02d7af3bb1f98ed1aeb35b88efcad43170301", func := "loop.example/g03310/laws.FnExactValueOf", spec := "fnExactValueOf", apart := false, narrowed := true }
def FnExactValueOfUptoSaid : Prop := fnExactValueOfUptoRow.holds Try.pinned (OpenSpec.upto fnExactValueOfSpec)

end Rows
end Go.Proofs.Ytlilmpclkhmkoaa
