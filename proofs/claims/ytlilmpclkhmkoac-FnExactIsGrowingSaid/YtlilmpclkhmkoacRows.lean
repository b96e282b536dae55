/-
  No cell of these rows narrows 'for every input' (looked for: loops, veiled, ifaces, maps, wideKeys, modest, calm, conditions, laid).
  DERIVED. THE GIVEN ROWS OF THIS SEAT. 6 by the template 'for every input the law returns true; each argument reads behind the call as it read before'; 0 by the template 'total and deterministic' (their statements: YtlilmpclkhmkoacTotals.lean).
  GIVEN WITH THE SEED: the statements are not yours to turn. If you find one false, say at which input.
  Laid BY PROGRAM, IN A SANDBOX (cutbox-rows.mjs): the forced cells as the released guide's own fill.sh prints them over the translation a0d13616e341b273… (all of the seat's roots in one cut). By AI agents, Wed Nov 11 2026. No macro, syntax, notation, axiom, sorry.
-/
import Derived.Test.YtlilmpclkhmkoacChecked
import GoSem.Claim
import GoSem.ClaimJoined
import GoSem.ClaimMapViews
import Derived.JoinedTies
import Derived.KernelRfl
namespace Go.Proofs.Ytlilmpclkhmkoac
/- THE CELL 'sum', in the pinned program and in every row, IS THE sha256 OF THE DUMP (.gsa) THAT YtlilmpclkhmkoacProg.lean LOADS. Nothing in Lean hashes anything: it is a label: what it is worth is what the hold of that sum in a sandbox is worth. -/
noncomputable def Try.pinned : Pinned := { name := "ytlilmpclkhmkoac", sum := "a0d13616e341b273408c4cf42ae67299c2d838386825e97a39cb134e29af7952", checked := Try.checked }
namespace Rows
def none {H : Type} : Left H := { results := [], args := [] }

/-- 'laws.FnExactIsGrowing': WHATEVER THE INPUT: true; the input reads as it did. -/
def fnExactIsGrowingSpec : ChangeSpec := { name := "fnExactIsGrowing", fn := fun _ => fun
  | [d] => { results := [.lit (.bool true)], args := [d] }
  | _ => none }
def fnExactIsGrowingRow : OpenClaim := { program := "ytlilmpclkhmkoac", sum := "a0d13616e341b273408c4cf42ae67299c2d838386825e97a39cb134e29af7952", func := "loop.example/g03310/laws.FnExactIsGrowing", spec := "fnExactIsGrowing", apart := false }
def FnExactIsGrowingSaid : Prop := fnExactIsGrowingRow.holds Try.pinned (OpenSpec.ofChange fnExactIsGrowingSpec)

/-- ITS FALSE NEIGHBOUR: 'it returns false'. Refute it at one input. -/
def fnExactIsGrowingWrong : ChangeSpec := { name := "fnExactIsGrowing", fn := fun _ => fun
  | [d] => { results := [.lit (.bool false)], args := [d] }
  | _ => none }
def FnExactIsGrowingWrongFalsely : Prop := fnExactIsGrowingRow.holds Try.pinned (OpenSpec.ofChange fnExactIsGrowingWrong)

/-- 'laws.FnBakings': WHATEVER THE INPUT: true; the input reads as it did. -/
def fnBakingsSpec : ChangeSpec := { name := "fnBakings", fn := fun _ => fun
  | [d] => { results := [.lit (.bool true)], args := [d] }
  | _ => none }
def fnBakingsRow : OpenClaim := { program := "ytlilmpclkhmkoac", sum := "a0d13616e341b273408c4cf42ae67299c2d838386825e97a39cb134e29af7952", func := "loop.example/g03310/laws.FnBakings", spec := "fnBakings", unfollowed := true, recurses := true, apart := false }
def FnBakingsSaid : Prop := fnBakingsRow.holds Try.pinned (OpenSpec.ofChange fnBakingsSpec)

/-- ITS FALSE NEIGHBOUR: 'it returns false'. Refute it at one input. -/
def fnBakingsWrong : ChangeSpec := { name := "fnBakings", fn := fun _ => fun
  | [d] => { results := [.lit (.bool false)], args := [d] }
  | _ => none }
def FnBakingsWrongFalsely : Prop := fnBakingsRow.holds Try.pinned (OpenSpec.ofChange fnBakingsWrong)

/-- 'laws.FnExactOddsOk': WHATEVER THE INPUT: true; the input reads as it did. -/
def fnExactOddsOkSpec : ChangeSpec := { name := "fnExactOddsOk", fn := fun _ => fun
  | [d] => { results := [.lit (.bool true)], args := [d] }
  | _ => none }
def fnExactOddsOkRow : OpenClaim := { program := "ytlilmpclkhmkoac", sum := "a0d13616e341b273408c4cf42ae67299c2d838386825e97a39cb134e29af7952", func := "loop.example/g03310/laws.FnExactOddsOk", spec := "fnExactOddsOk", apart := false }
def FnExactOddsOkSaid : Prop := fnExactOddsOkRow.holds Try.pinned (OpenSpec.ofChange fnExactOddsOkSpec)

/-- ITS FALSE NEIGHBOUR: 'it returns false'. Refute it at one input. -/
def fnExactOddsOkWrong : ChangeSpec := { name := "fnExactOddsOk", fn := fun _ => fun
  | [d] => { results := [.lit (.bool false)], args := [d] }
  | _ => none }
def FnExactOddsOkWrongFalsely : Prop := fnExactOddsOkRow.holds Try.pinned (OpenSpec.ofChange fnExactOddsOkWrong)

/-- 'laws.FnExactGainFor': WHATEVER THE INPUT: true; the input reads as it did. -/
def fnExactGainForSpec : ChangeSpec := { name := "fnExactGainFor", fn := fun _ => fun
  | [d1, d2, d3, d4] => { results := [.lit (.bool true)], args := [d1, d2, d3, d4] }
  | _ => none }
def fnExactGainForRow : OpenClaim := { program := "ytlilmpclkhmkoac", sum := "a0d13616e341b273408c4cf42ae67299c2d838386825e97a39cb134e29af7952", func := "loop.example/g03310/laws.FnExactGainFor", spec := "fnExactGainFor", unfollowed := true, recurses := true, apart := false }
def FnExactGainForSaid : Prop := fnExactGainForRow.holds Try.pinned (OpenSpec.ofChange fnExactGainForSpec)

/-- ITS FALSE NEIGHBOUR: 'it returns false'. Refute it at one input. -/
def fnExactGainForWrong : ChangeSpec := { name := "fnExactGainFor", fn := fun _ => fun
  | [d1, d2, d3, d4] => { results := [.lit (.bool false)], args := [d1, d2, d3, d4] }
  | _ => none }
def FnExactGainForWrongFalsely : Prop := fnExactGainForRow.holds Try.pinned (OpenSpec.ofChange fnExactGainForWrong)

/-- 'laws.FnExactBestBake': WHATEVER THE INPUT: true; the input reads as it did. -/
def fnExactBestBakeSpec : ChangeSpec := { name := "fnExactBestBake", fn := fun _ => fun
  | [d1, d2, d3] => { results := [.lit (.bool true)], args := [d1, d2, d3] }
  | _ => none }
def fnExactBestBakeRow : OpenClaim := { program := "ytlilmpclkhmkoac", sum := "a0d13616e341b273408c4cf42ae67299c2d838386825e97a39cb134e29af7952", func := "loop.example/g03310/laws.FnExactBestBake", spec := "fnExactBestBake", unfollowed := true, recurses := true, apart := false }
def FnExactBestBakeSaid : Prop := fnExactBestBakeRow.holds Try.pinned (OpenSpec.ofChange fnExactBestBakeSpec)

/-- ITS FALSE NEIGHBOUR: 'it returns false'. Refute it at one input. -/
def fnExactBestBakeWrong : ChangeSpec := { name := "fnExactBestBake", fn := fun _ => fun
  | [d1, d2, d3] => { results := [.lit (.bool false)], args := [d1, d2, d3] }
  | _ => none }
def FnExactBestBakeWrongFalsely : Prop := fnExactBestBakeRow.holds Try.pinned (OpenSpec.ofChange fnExactBestBakeWrong)

/-- 'laws.FnExactSoldOutWeight': WHATEVER THE INPUT: true; the input reads as it did. -/
def fnExactSoldOutWeightSpec : ChangeSpec := { name := "fnExactSoldOutWeight", fn := fun _ => fun
  | [d1, d2] => { results := [.lit (.bool true)], args := [d1, d2] }
  | _ => none }
def fnExactSoldOutWeightRow : OpenClaim := { program := "ytlilmpclkhmkoac", sum := "a0d13616e341b273408c4cf42ae67299c2d838386825e97a39cb134e29af7952", func := "loop.example/g03310/laws.FnExactSoldOutWeight", spec := "fnExactSoldOutWeight", apart := false }
def FnExactSoldOutWeightSaid : Prop := fnExactSoldOutWeightRow.holds Try.pinned (OpenSpec.ofChange fnExactSoldOutWeightSpec)

/-- ITS FALSE NEIGHBOUR: 'it returns false'. Refute it at one input. -/
def fnExactSoldOutWeightWrong : ChangeSpec := { name := "fnExactSoldOutWeight", fn := fun _ => fun
  | [d1, d2] => { results := [.lit (.bool false)], args := [d1, d2] }
  | _ => none }
def FnExactSoldOutWeightWrongFalsely : Prop := fnExactSoldOutWeightRow.holds Try.pinned (OpenSpec.ofChange fnExactSoldOutWeightWrong)

/- THE SECOND FORM. 'bulk': how many values and letters a reading holds, each counted each time it is reached (what is shared counts as often as it is met; a slice's spare places count too). A statement '..UptoSaid' is the law's where the arguments, and the package variables that the reading takes, are together of bulk at most 1048576: NARROWER than '..Said'. Prove '..Said' where nothing that the law and all that it calls make is longer than what came in: it says more and counts as full. Else prove '..UptoSaid'. A law counts once. -/
mutual
def uptoBulk {H : Type} : DataW H → Nat
  | .lit (.string bytes) => bytes.length + 1
  | .lit _ => 1
  | .nil => 1
  | .ptr d => uptoBulk d + 1
  | .slice elems spare => uptoBulkAll elems + uptoBulkAll spare + 1
  | .agg parts => uptoBulkAll parts + 1
  | .iface _ d => uptoBulk d + 1
  | .map entries => uptoBulkEntries entries + 1
  | .held _ => 1
def uptoBulkAll {H : Type} : List (DataW H) → Nat
  | [] => 0
  | d :: r => uptoBulk d + uptoBulkAll r
def uptoBulkEntries {H : Type} : List (Lit × DataW H) → Nat
  | [] => 0
  | x :: r => uptoBulkEntry x + uptoBulkEntries r
def uptoBulkEntry {H : Type} : Lit × DataW H → Nat
  | (.string bytes, d) => bytes.length + uptoBulk d + 1
  | (_, d) => uptoBulk d + 1
 end
def uptoSmall : (H : Type) → List (DataW H) → Bool := fun _ ds => decide (uptoBulkAll ds ≤ 1048576)
def OpenSpec.upto (s : _root_.Go.ChangeSpec) : _root_.Go.OpenSpec := { _root_.Go.OpenSpec.ofChange s with cond := some uptoSmall }

/-- 'laws.FnExactIsGrowing', WHERE WHAT IT READS IS OF BULK AT MOST 1048576: true; the input reads as it did. -/
def fnExactIsGrowingUptoRow : OpenClaim := { program := "ytlilmpclkhmkoac", sum := "a0d13616e341b273408c4cf42ae67299c2d838386825e97a39cb134e29af7952", func := "loop.example/g03310/laws.FnExactIsGrowing", spec := "fnExactIsGrowing", apart := false, narrowed := true }
def FnExactIsGrowingUptoSaid : Prop := fnExactIsGrowingUptoRow.holds Try.pinned (OpenSpec.upto fnExactIsGrowingSpec)

/-- 'laws.FnBakings', WHERE WHAT IT READS IS OF BULK AT MOST 1048576: true; the input reads as it did. -/
def fnBakingsUptoRow : OpenClaim := { program := "ytlilmpclkhmkoac", sum := "a0d13616e341b273408c4cf42ae67299c2d838386825e97a39cb134e29af7952", func := "loop.example/g03310/laws.FnBakings", spec := "fnBakings", unfollowed := true, recurses := true, apart := false, narrowed := true }
def FnBakingsUptoSaid : Prop := fnBakingsUptoRow.holds Try.pinned (OpenSpec.upto fnBakingsSpec)

/-- 'laws.FnExactOddsOk', WHERE WHAT IT READS IS OF BULK AT MOST 1048576: true; the input reads as it did. -/
def fnExactOddsOkUptoRow : OpenClaim := { program := "ytlilmpclkhmkoac", sum := "a0d13616e341b273408c4cf42ae67299c2d838386825e97a39cb134e29af7952", func := "loop.example/g03310/laws.FnExactOddsOk", spec := "fnExactOddsOk", apart := false, narrowed := true }
def FnExactOddsOkUptoSaid : Prop := fnExactOddsOkUptoRow.holds Try.pinned (OpenSpec.upto fnExactOddsOkSpec)

/-- 'laws.FnExactGainFor', WHERE WHAT IT READS IS OF BULK AT MOST 1048576: true; the input reads as it did. -/
def fnExactGainForUptoRow : OpenClaim := { program := "ytlilmpclkhmkoac", sum := "a0d13616e341b273408c4cf42ae67299c2d838386825e97a39cb134e29af7952", func := "loop.example/g03310/laws.FnExactGainFor", spec := "fnExactGainFor", unfollowed := true, recurses := true, apart := false, narrowed := true }
def FnExactGainForUptoSaid : Prop := fnExactGainForUptoRow.holds Try.pinned (OpenSpec.upto fnExactGainForSpec)

/-- 'laws.FnExactBestBake', WHERE WHAT IT READS IS OF BULK AT MOST 1048576: true; the input reads as it did. -/
def fnExactBestBakeUptoRow : OpenClaim := { program := "ytlilmpclkhmkoac", sum := "a0d13616e341b273408c4cf42ae67299c2d838386825e97a39cb134e29af7952", func := "loop.example/g03310/laws.FnExactBestBake", spec := "fnExactBestBake", unfollowed := true, recurses := true, apart := false, narrowed := true }
def FnExactBestBakeUptoSaid : Prop := fnExactBestBakeUptoRow.holds Try.pinned (OpenSpec.upto fnExactBestBakeSpec)

/-- 'laws.FnExactSoldOutWeight', WHERE WHAT IT READS IS OF BULK AT MOST 1048576: true; the input reads as it did. -/
def fnExactSoldOutWeightUptoRow : OpenClaim := { program := "ytlilmpclkhmkoac", sum := "a0d13616e341b273408c4cf42ae67299c2d838386825e97a39cb134e29af7952", func := "loop.example/g03310/laws.FnExactSoldOutWeight", spec := "fnExactSoldOutWeight", apart := false, narrowed := true }
def FnExactSoldOutWeightUptoSaid : Prop := fnExactSoldOutWeightUptoRow.holds Try.pinned (OpenSpec.upto fnExactSoldOutWeightSpec)

end Rows
end Go.Proofs.Ytlilmpclkhmkoac
