/-
  No cell of these rows narrows 'for every input' (looked for: loops, veiled, ifaces, maps, wideKeys, modest, calm, conditions, laid).
  DERIVED. THE GIVEN ROWS OF THIS SEAT. 6 by the template 'for every input the law returns true; each argument reads behind the call as it read before'; 0 by the template 'total and deterministic' (their statements: YtkchjkhcpenpfaaTotals.lean).
  GIVEN WITH THE SEED: the statements are not yours to turn. If you find one false, say at which input.
  Laid BY PROGRAM, IN A SANDBOX (cutbox-rows.mjs): the forced cells as the released guide's own fill.sh prints them over the translation 1b97aa87a41f4171… (all of the seat's roots in one cut). By AI agents, Wed Nov 11 2026. No macro, syntax, notation, axiom, sorry.
-/
import Derived.Test.YtkchjkhcpenpfaaChecked
import GoSem.Claim
import GoSem.ClaimJoined
import GoSem.ClaimMapViews
import Derived.JoinedTies
import Derived.KernelRfl
namespace Go.Proofs.Ytkchjkhcpenpfaa
/- THE CELL 'sum', in the pinned program and in every row, IS THE sha256 OF THE DUMP (.gsa) THAT YtkchjkhcpenpfaaProg.lean LOADS. Nothing in Lean hashes anything: it is a label: what it is worth is what the hold of that sum in a sandbox is worth. -/
noncomputable def Try.pinned : Pinned := { name := "ytkchjkhcpenpfaa", sum := "1b97aa87a41f41715a16e986df18e3a7fc46713ce8c64a9abd87f64cb67d3f2f", checked := Try.checked }
namespace Rows
def none {H : Type} : Left H := { results := [], args := [] }

/-- 'laws.FnPortions': WHATEVER THE INPUT: true; the input reads as it did. -/
def fnPortionsSpec : ChangeSpec := { name := "fnPortions", fn := fun _ => fun
  | [d] => { results := [.lit (.bool true)], args := [d] }
  | _ => none }
def fnPortionsRow : OpenClaim := { program := "ytkchjkhcpenpfaa", sum := "1b97aa87a41f41715a16e986df18e3a7fc46713ce8c64a9abd87f64cb67d3f2f", func := "loop.example/g03310/laws.FnPortions", spec := "fnPortions", unfollowed := true, recurses := true, apart := false }
def FnPortionsSaid : Prop := fnPortionsRow.holds Try.pinned (OpenSpec.ofChange fnPortionsSpec)

/-- ITS FALSE NEIGHBOUR: 'it returns false'. Refute it at one input. -/
def fnPortionsWrong : ChangeSpec := { name := "fnPortions", fn := fun _ => fun
  | [d] => { results := [.lit (.bool false)], args := [d] }
  | _ => none }
def FnPortionsWrongFalsely : Prop := fnPortionsRow.holds Try.pinned (OpenSpec.ofChange fnPortionsWrong)

/-- 'laws.FnExactLoafOk': WHATEVER THE INPUT: true; the input reads as it did. -/
def fnExactLoafOkSpec : ChangeSpec := { name := "fnExactLoafOk", fn := fun _ => fun
  | [d] => { results := [.lit (.bool true)], args := [d] }
  | _ => none }
def fnExactLoafOkRow : OpenClaim := { program := "ytkchjkhcpenpfaa", sum := "1b97aa87a41f41715a16e986df18e3a7fc46713ce8c64a9abd87f64cb67d3f2f", func := "loop.example/g03310/laws.FnExactLoafOk", spec := "fnExactLoafOk", apart := false }
def FnExactLoafOkSaid : Prop := fnExactLoafOkRow.holds Try.pinned (OpenSpec.ofChange fnExactLoafOkSpec)

/-- ITS FALSE NEIGHBOUR: 'it returns false'. Refute it at one input. -/
def fnExactLoafOkWrong : ChangeSpec := { name := "fnExactLoafOk", fn := fun _ => fun
  | [d] => { results := [.lit (.bool false)], args := [d] }
  | _ => none }
def FnExactLoafOkWrongFalsely : Prop := fnExactLoafOkRow.holds Try.pinned (OpenSpec.ofChange fnExactLoafOkWrong)

/-- 'laws.FnExactDoughFor': WHATEVER THE INPUT: true; the input reads as it did. -/
def fnExactDoughForSpec : ChangeSpec := { name := "fnExactDoughFor", fn := fun _ => fun
  | [d] => { results := [.lit (.bool true)], args := [d] }
  | _ => none }
def fnExactDoughForRow : OpenClaim := { program := "ytkchjkhcpenpfaa", sum := "1b97aa87a41f41715a16e986df18e3a7fc46713ce8c64a9abd87f64cb67d3f2f", func := "loop.example/g03310/laws.FnExactDoughFor", spec := "fnExactDoughFor", unfollowed := true, recurses := true, apart := false }
def FnExactDoughForSaid : Prop := fnExactDoughForRow.holds Try.pinned (OpenSpec.ofChange fnExactDoughForSpec)

/-- ITS FALSE NEIGHBOUR: 'it returns false'. Refute it at one input. -/
def fnExactDoughForWrong : ChangeSpec := { name := "fnExactDoughFor", fn := fun _ => fun
  | [d] => { results := [.lit (.bool false)], args := [d] }
  | _ => none }
def FnExactDoughForWrongFalsely : Prop := fnExactDoughForRow.holds Try.pinned (OpenSpec.ofChange fnExactDoughForWrong)

/-- 'laws.FnExactBakedWeight': WHATEVER THE INPUT: true; the input reads as it did. -/
def fnExactBakedWeightSpec : ChangeSpec := { name := "fnExactBakedWeight", fn := fun _ => fun
  | [d1, d2] => { results := [.lit (.bool true)], args := [d1, d2] }
  | _ => none }
def fnExactBakedWeightRow : OpenClaim := { program := "ytkchjkhcpenpfaa", sum := "1b97aa87a41f41715a16e986df18e3a7fc46713ce8c64a9abd87f64cb67d3f2f", func := "loop.example/g03310/laws.FnExactBakedWeight", spec := "fnExactBakedWeight", unfollowed := true, recurses := true, apart := false }
def FnExactBakedWeightSaid : Prop := fnExactBakedWeightRow.holds Try.pinned (OpenSpec.ofChange fnExactBakedWeightSpec)

/-- ITS FALSE NEIGHBOUR: 'it returns false'. Refute it at one input. -/
def fnExactBakedWeightWrong : ChangeSpec := { name := "fnExactBakedWeight", fn := fun _ => fun
  | [d1, d2] => { results := [.lit (.bool false)], args := [d1, d2] }
  | _ => none }
def FnExactBakedWeightWrongFalsely : Prop := fnExactBakedWeightRow.holds Try.pinned (OpenSpec.ofChange fnExactBakedWeightWrong)

/-- 'laws.FnExactLoavesFrom': WHATEVER THE INPUT: true; the input reads as it did. -/
def fnExactLoavesFromSpec : ChangeSpec := { name := "fnExactLoavesFrom", fn := fun _ => fun
  | [d1, d2] => { results := [.lit (.bool true)], args := [d1, d2] }
  | _ => none }
def fnExactLoavesFromRow : OpenClaim := { program := "ytkchjkhcpenpfaa", sum := "1b97aa87a41f41715a16e986df18e3a7fc46713ce8c64a9abd87f64cb67d3f2f", func := "loop.example/g03310/laws.FnExactLoavesFrom", spec := "fnExactLoavesFrom", unfollowed := true, recurses := true, apart := false }
def FnExactLoavesFromSaid : Prop := fnExactLoavesFromRow.holds Try.pinned (OpenSpec.ofChange fnExactLoavesFromSpec)

/-- ITS FALSE NEIGHBOUR: 'it returns false'. Refute it at one input. -/
def fnExactLoavesFromWrong : ChangeSpec := { name := "fnExactLoavesFrom", fn := fun _ => fun
  | [d1, d2] => { results := [.lit (.bool false)], args := [d1, d2] }
  | _ => none }
def FnExactLoavesFromWrongFalsely : Prop := fnExactLoavesFromRow.holds Try.pinned (OpenSpec.ofChange fnExactLoavesFromWrong)

/-- 'laws.FnExactDoughForAll': WHATEVER THE INPUT: true; the input reads as it did. -/
def fnExactDoughForAllSpec : ChangeSpec := { name := "fnExactDoughForAll", fn := fun _ => fun
  | [d1, d2] => { results := [.lit (.bool true)], args := [d1, d2] }
  | _ => none }
def fnExactDoughForAllRow : OpenClaim := { program := "ytkchjkhcpenpfaa", sum := "1b97aa87a41f41715a16e986df18e3a7fc46713ce8c64a9abd87f64cb67d3f2f", func := "loop.example/g03310/laws.FnExactDoughForAll", spec := "fnExactDoughForAll", unfollowed := true, recurses := true, apart := false }
def FnExactDoughForAllSaid : Prop := fnExactDoughForAllRow.holds Try.pinned (OpenSpec.ofChange fnExactDoughForAllSpec)

/-- ITS FALSE NEIGHBOUR: 'it returns false'. Refute it at one input. -/
def fnExactDoughForAllWrong : ChangeSpec := { name := "fnExactDoughForAll", fn := fun _ => fun
  | [d1, d2] => { results := [.lit (.bool false)], args := [d1, d2] }
  | _ => none }
def FnExactDoughForAllWrongFalsely : Prop := fnExactDoughForAllRow.holds Try.pinned (OpenSpec.ofChange fnExactDoughForAllWrong)

/- THE SECOND FORM. 'bulk': how many values and letters a reading holds, each counted each time it is reached (what is shared counts as often as it is met; a slice's spare places count too). A statement '..UptoSaid' is the law's where the arguments, and the package variables that the reading takes, are together of bulk at most 1048576: NARROWER than '..Said'. Prove '..Said' where nothing that the law and all that it calls make is longer than what came in: it says more and counts as full. Else prove '..UptoSaid'. A law counts once. -/
mutual
def uptoBulk {H : Type} : DataW H → Nat
  | .lit (.string bytes) => bytes.length + 1
  | .lit _ => 1
  | .nil => 1
  | .ptr d => uptoBulk d + 1
  | .slice elems spare => uptoBulkAll elems + uptoBulkAll spare + 1
  | .agg parts => uptoBulkAll parts + 1
  | .iface _ d => uptoBulk d + 1
  | .map entries => uptoBulkEntries entries + 1
  | .held _ => 1
def uptoBulkAll {H : Type} : List (DataW H) → Nat
  | [] => 0
  | d :: r => uptoBulk d + uptoBulkAll r
def uptoBulkEntries {H : Type} : List (Lit × DataW H) → Nat
  | [] => 0
  | x :: r => uptoBulkEntry x + uptoBulkEntries r
def uptoBulkEntry {H : Type} : Lit × DataW H → Nat
  | (.string bytes, d) => bytes.length + uptoBulk d + 1
  | (_, d) => uptoBulk d + 1
 end
def uptoSmall : (H : Type) → List (DataW H) → Bool := fun _ ds => decide (uptoBulkAll ds ≤ 1048576)
def OpenSpec.upto (s : _root_.Go.ChangeSpec) : _root_.Go.OpenSpec := { _root_.Go.OpenSpec.ofChange s with cond := some uptoSmall }

/-- 'laws.FnPortions', WHERE WHAT IT READS IS OF BULK AT MOST 1048576: true; the input reads as it did. -/
def fnPortionsUptoRow : OpenClaim := { program := "ytkchjkhcpenpfaa", sum := "1b97aa87a41f41715a16e986df18e3a7fc46713ce8c64a9abd87f64cb67d3f2f", func := "loop.example/g03310/laws.FnPortions", spec := "fnPortions", unfollowed := true, recurses := true, apart := false, narrowed := true }
def FnPortionsUptoSaid : Prop := fnPortionsUptoRow.holds Try.pinned (OpenSpec.upto fnPortionsSpec)

/-- 'laws.FnExactLoafOk', WHERE WHAT IT READS IS OF BULK AT MOST 1048576: true; the input reads as it did. -/
def fnExactLoafOkUptoRow : OpenClaim := { program := "ytkchjkhcpenpfaa", sum := "1b97aa87a41f41715a16e986df18e3a7fc46713ce8c64a9abd87f64cb67d3f2f", func := "loop.example/g03310/laws.FnExactLoafOk", spec := "fnExactLoafOk", apart := false, narrowed := true }
def FnExactLoafOkUptoSaid : Prop := fnExactLoafOkUptoRow.holds Try.pinned (OpenSpec.upto fnExactLoafOkSpec)

/-- 'laws.FnExactDoughFor', WHERE WHAT IT READS IS OF BULK AT MOST 1048576: true; the input reads as it did. -/
def fnExactDoughForUptoRow : OpenClaim := { program := "ytkchjkhcpenpfaa", sum := "1b97aa87a41f41715a16e986df18e3a7fc46713ce8c64a9abd87f64cb67d3f2f", func := "loop.example/g03310/laws.FnExactDoughFor", spec := "fnExactDoughFor", unfollowed := true, recurses := true, apart := false, narrowed := true }
def FnExactDoughForUptoSaid : Prop := fnExactDoughForUptoRow.holds Try.pinned (OpenSpec.upto fnExactDoughForSpec)

/-- 'laws.FnExactBakedWeight', WHERE WHAT IT READS IS OF BULK AT MOST 1048576: true; the input reads as it did. -/
def fnExactBakedWeightUptoRow : OpenClaim := { program := "ytkchjkhcpenpfaa", sum := "1b97aa87a41f41715a16e986df18e3a7fc46713ce8c64a9abd87f64cb67d3f2f", func := "loop.example/g03310/laws.FnExactBakedWeight", spec := "fnExactBakedWeight", unfollowed := true, recurses := true, apart := false, narrowed := true }
def FnExactBakedWeightUptoSaid : Prop := fnExactBakedWeightUptoRow.holds Try.pinned (OpenSpec.upto fnExactBakedWeightSpec)

/-- 'laws.FnExactLoavesFrom', WHERE WHAT IT READS IS OF BULK AT MOST 1048576: true; the input reads as it did. -/
def fnExactLoavesFromUptoRow : OpenClaim := { program := "ytkchjkhcpenpfaa", sum := "1b97aa87a41f41715a16e986df18e3a7fc46713ce8c64a9abd87f64cb67d3f2f", func := "loop.example/g03310/laws.FnExactLoavesFrom", spec := "fnExactLoavesFrom", unfollowed := true, recurses := true, apart := false, narrowed := true }
def FnExactLoavesFromUptoSaid : Prop := fnExactLoavesFromUptoRow.holds Try.pinned (OpenSpec.upto fnExactLoavesFromSpec)

/-- 'laws.FnExactDoughForAll', WHERE WHAT IT READS IS OF BULK AT MOST 1048576: true; the input reads as it did. -/
def fnExactDoughForAllUptoRow : OpenClaim := { program := "ytkchjkhcpenpfaa", sum := "1b97aa87a41f41715a16e986df18e3a7fc46713ce8c64a9abd87f64cb67d3f2f", func := "loop.example/g03310/laws.FnExactDoughForAll", spec := "fnExactDoughForAll", unfollowed := true, recurses := true, apart := false, narrowed := true }
def FnExactDoughForAllUptoSaid : Prop := fnExactDoughForAllUptoRow.holds Try.pinned (OpenSpec.upto fnExactDoughForAllSpec)

end Rows
end Go.Proofs.Ytkchjkhcpenpfaa
