/-
  No cell of these rows narrows 'for every input' (looked for: loops, veiled, ifaces, maps, wideKeys, modest, calm, conditions, laid).
  DERIVED. THE GIVEN ROWS OF THIS SEAT. 6 by the template 'for every input the law returns true; each argument reads behind the call as it read before'; 0 by the template 'total and deterministic' (their statements: YtkchjkhcpenpfabTotals.lean).
  GIVEN WITH THE SEED: the statements are not yours to turn. If you find one false, say at which input.
  Laid BY PROGRAM, IN A SANDBOX (cutbox-rows.mjs): the forced cells as the released guide's own fill.sh prints them over the translation db8bad243829b3b7… (all of the seat's roots in one cut). By AI agents, Wed Nov 11 2026. No macro, syntax, notation, axiom, sorry.
-/
import Derived.Test.YtkchjkhcpenpfabChecked
import GoSem.Claim
import GoSem.ClaimJoined
import GoSem.ClaimMapViews
import Derived.JoinedTies
import Derived.KernelRfl
namespace Go.Proofs.Ytkchjkhcpenpfab
/- THE CELL 'sum', in the pinned program and in every row, IS THE sha256 OF THE DUMP (.gsa) THAT YtkchjkhcpenpfabProg.lean LOADS. Nothing in Lean hashes anything: it is a label: what it is worth is what the hold of that sum in a sandbox is worth. -/
noncomputable def Try.pinned : Pinned := { name := "ytkchjkhcpenpfab", sum := "db8bad243829b3b7e2f2325562601bed7ce62480cdfbdc2b9854ab2f0e89bf15", checked := Try.checked }
namespace Rows
def none {H : Type} : Left H := { results := [], args := [] }

/-- 'laws.FnLeavens': WHATEVER THE INPUT: true; the input reads as it did. -/
def fnLeavensSpec : ChangeSpec := { name := "fnLeavens", fn := fun _ => fun
  | [d] => { results := [.lit (.bool true)], args := [d] }
  | _ => none }
def fnLeavensRow : OpenClaim := { program := "ytkchjkhcpenpfab", sum := "db8bad243829b3b7e2f2325562601bed7ce62480cdfbdc2b9854ab2f0e89bf15", func := "loop.example/g03310/laws.FnLeavens", spec := "fnLeavens", apart := false }
def FnLeavensSaid : Prop := fnLeavensRow.holds Try.pinned (OpenSpec.ofChange fnLeavensSpec)

/-- ITS FALSE NEIGHBOUR: 'it returns false'. Refute it at one input. -/
def fnLeavensWrong : ChangeSpec := { name := "fnLeavens", fn := fun _ => fun
  | [d] => { results := [.lit (.bool false)], args := [d] }
  | _ => none }
def FnLeavensWrongFalsely : Prop := fnLeavensRow.holds Try.pinned (OpenSpec.ofChange fnLeavensWrong)

/-- 'laws.FnExactLeavenOk': WHATEVER THE INPUT: true; the input reads as it did. -/
def fnExactLeavenOkSpec : ChangeSpec := { name := "fnExactLeavenOk", fn := fun _ => fun
  | [d] => { results := [.lit (.bool true)], args := [d] }
  | _ => none }
def fnExactLeavenOkRow : OpenClaim := { program := "ytkchjkhcpenpfab", sum := "db8bad243829b3b7e2f2325562601bed7ce62480cdfbdc2b9854ab2f0e89bf15", func := "loop.example/g03310/laws.FnExactLeavenOk", spec := "fnExactLeavenOk", apart := false }
def FnExactLeavenOkSaid : Prop := fnExactLeavenOkRow.holds Try.pinned (OpenSpec.ofChange fnExactLeavenOkSpec)

/-- ITS FALSE NEIGHBOUR: 'it returns false'. Refute it at one input. -/
def fnExactLeavenOkWrong : ChangeSpec := { name := "fnExactLeavenOk", fn := fun _ => fun
  | [d] => { results := [.lit (.bool false)], args := [d] }
  | _ => none }
def FnExactLeavenOkWrongFalsely : Prop := fnExactLeavenOkRow.holds Try.pinned (OpenSpec.ofChange fnExactLeavenOkWrong)

/-- 'laws.FnExactFeed': WHATEVER THE INPUT: true; the input reads as it did. -/
def fnExactFeedSpec : ChangeSpec := { name := "fnExactFeed", fn := fun _ => fun
  | [d1, d2] => { results := [.lit (.bool true)], args := [d1, d2] }
  | _ => none }
def fnExactFeedRow : OpenClaim := { program := "ytkchjkhcpenpfab", sum := "db8bad243829b3b7e2f2325562601bed7ce62480cdfbdc2b9854ab2f0e89bf15", func := "loop.example/g03310/laws.FnExactFeed", spec := "fnExactFeed", apart := false }
def FnExactFeedSaid : Prop := fnExactFeedRow.holds Try.pinned (OpenSpec.ofChange fnExactFeedSpec)

/-- ITS FALSE NEIGHBOUR: 'it returns false'. Refute it at one input. -/
def fnExactFeedWrong : ChangeSpec := { name := "fnExactFeed", fn := fun _ => fun
  | [d1, d2] => { results := [.lit (.bool false)], args := [d1, d2] }
  | _ => none }
def FnExactFeedWrongFalsely : Prop := fnExactFeedRow.holds Try.pinned (OpenSpec.ofChange fnExactFeedWrong)

/-- 'laws.FnExactTakeLeaven': WHATEVER THE INPUT: true; the input reads as it did. -/
def fnExactTakeLeavenSpec : ChangeSpec := { name := "fnExactTakeLeaven", fn := fun _ => fun
  | [d1, d2, d3] => { results := [.lit (.bool true)], args := [d1, d2, d3] }
  | _ => none }
def fnExactTakeLeavenRow : OpenClaim := { program := "ytkchjkhcpenpfab", sum := "db8bad243829b3b7e2f2325562601bed7ce62480cdfbdc2b9854ab2f0e89bf15", func := "loop.example/g03310/laws.FnExactTakeLeaven", spec := "fnExactTakeLeaven", apart := false }
def FnExactTakeLeavenSaid : Prop := fnExactTakeLeavenRow.holds Try.pinned (OpenSpec.ofChange fnExactTakeLeavenSpec)

/-- ITS FALSE NEIGHBOUR: 'it returns false'. Refute it at one input. -/
def fnExactTakeLeavenWrong : ChangeSpec := { name := "fnExactTakeLeaven", fn := fun _ => fun
  | [d1, d2, d3] => { results := [.lit (.bool false)], args := [d1, d2, d3] }
  | _ => none }
def FnExactTakeLeavenWrongFalsely : Prop := fnExactTakeLeavenRow.holds Try.pinned (OpenSpec.ofChange fnExactTakeLeavenWrong)

/-- 'laws.FnExactFeedingsFor': WHATEVER THE INPUT: true; the input reads as it did. -/
def fnExactFeedingsForSpec : ChangeSpec := { name := "fnExactFeedingsFor", fn := fun _ => fun
  | [d1, d2, d3] => { results := [.lit (.bool true)], args := [d1, d2, d3] }
  | _ => none }
def fnExactFeedingsForRow : OpenClaim := { program := "ytkchjkhcpenpfab", sum := "db8bad243829b3b7e2f2325562601bed7ce62480cdfbdc2b9854ab2f0e89bf15", func := "loop.example/g03310/laws.FnExactFeedingsFor", spec := "fnExactFeedingsFor", apart := false }
def FnExactFeedingsForSaid : Prop := fnExactFeedingsForRow.holds Try.pinned (OpenSpec.ofChange fnExactFeedingsForSpec)

/-- ITS FALSE NEIGHBOUR: 'it returns false'. Refute it at one input. -/
def fnExactFeedingsForWrong : ChangeSpec := { name := "fnExactFeedingsFor", fn := fun _ => fun
  | [d1, d2, d3] => { results := [.lit (.bool false)], args := [d1, d2, d3] }
  | _ => none }
def FnExactFeedingsForWrongFalsely : Prop := fnExactFeedingsForRow.holds Try.pinned (OpenSpec.ofChange fnExactFeedingsForWrong)

/-- 'laws.FnExactKeepForDays': WHATEVER THE INPUT: true; the input reads as it did. -/
def fnExactKeepForDaysSpec : ChangeSpec := { name := "fnExactKeepForDays", fn := fun _ => fun
  | [d1, d2] => { results := [.lit (.bool true)], args := [d1, d2] }
  | _ => none }
def fnExactKeepForDaysRow : OpenClaim := { program := "ytkchjkhcpenpfab", sum := "db8bad243829b3b7e2f2325562601bed7ce62480cdfbdc2b9854ab2f0e89bf15", func := "loop.example/g03310/laws.FnExactKeepForDays", spec := "fnExactKeepForDays", apart := false }
def FnExactKeepForDaysSaid : Prop := fnExactKeepForDaysRow.holds Try.pinned (OpenSpec.ofChange fnExactKeepForDaysSpec)

/-- ITS FALSE NEIGHBOUR: 'it returns false'. Refute it at one input. -/
def fnExactKeepForDaysWrong : ChangeSpec := { name := "fnExactKeepForDays", fn := fun _ => fun
  | [d1, d2] => { results := [.lit (.bool false)], args := [d1, d2] }
  | _ => none }
def FnExactKeepForDaysWrongFalsely : Prop := fnExactKeepForDaysRow.holds Try.pinned (OpenSpec.ofChange fnExactKeepForDaysWrong)

/- THE SECOND FORM. 'bulk': how many values and letters a reading holds, each counted each time it is reached (what is shared counts as often as it is met; a slice's spare places count too). A statement '..UptoSaid' is the law's where the arguments, and the package variables that the reading takes, are together of bulk at most 1048576: NARROWER than '..Said'. Prove '..Said' where nothing that the law and all that it calls make is longer than what came in: it says more and counts as full. Else prove '..UptoSaid'. A law counts once. -/
mutual
def uptoBulk {H : Type} : DataW H → Nat
  | .lit (.string bytes) => bytes.length + 1
  | .lit _ => 1
  | .nil => 1
  | .ptr d => uptoBulk d + 1
  | .slice elems spare => uptoBulkAll elems + uptoBulkAll spare + 1
  | .agg parts => uptoBulkAll parts + 1
  | .iface _ d => uptoBulk d + 1
  | .map entries => uptoBulkEntries entries + 1
  | .held _ => 1
def uptoBulkAll {H : Type} : List (DataW H) → Nat
  | [] => 0
  | d :: r => uptoBulk d + uptoBulkAll r
def uptoBulkEntries {H : Type} : List (Lit × DataW H) → Nat
  | [] => 0
  | x :: r => uptoBulkEntry x + uptoBulkEntries r
def uptoBulkEntry {H : Type} : Lit × DataW H → Nat
  | (.string bytes, d) => bytes.length + uptoBulk d + 1
  | (_, d) => uptoBulk d + 1
 end
def uptoSmall : (H : Type) → List (DataW H) → Bool := fun _ ds => decide (uptoBulkAll ds ≤ 1048576)
def OpenSpec.upto (s : _root_.Go.ChangeSpec) : _root_.Go.OpenSpec := { _root_.Go.OpenSpec.ofChange s with cond := some uptoSmall }

/-- 'laws.FnLeavens', WHERE WHAT IT READS IS OF BULK AT MOST 1048576: true; the input reads as it did. -/
def fnLeavensUptoRow : OpenClaim := { program := "ytkchjkhcpenpfab", sum := "db8bad243829b3b7e2f2325562601bed7ce62480cdfbdc2b9854ab2f0e89bf15", func := "loop.example/g03310/laws.FnLeavens", spec := "fnLeavens", apart := false, narrowed := true }
def FnLeavensUptoSaid : Prop := fnLeavensUptoRow.holds Try.pinned (OpenSpec.upto fnLeavensSpec)

/-- 'laws.FnExactLeavenOk', WHERE WHAT IT READS IS OF BULK AT MOST 1048576: true; the input reads as it did. -/
def fnExactLeavenOkUptoRow : OpenClaim := { program := "ytkchjkhcpenpfab", sum := "db8bad243829b3b7e2f2325562601bed7ce62480cdfbdc2b9854ab2f0e89bf15", func := "loop.example/g03310/laws.FnExactLeavenOk", spec := "fnExactLeavenOk", apart := false, narrowed := true }
def FnExactLeavenOkUptoSaid : Prop := fnExactLeavenOkUptoRow.holds Try.pinned (OpenSpec.upto fnExactLeavenOkSpec)

/-- 'laws.FnExactFeed', WHERE WHAT IT READS IS OF BULK AT MOST 1048576: true; the input reads as it did. -/
def fnExactFeedUptoRow : OpenClaim := { program := "ytkchjkhcpenpfab", sum := "db8bad243829b3b7e2f2325562601bed7ce62480cdfbdc2b9854ab2f0e89bf15", func := "loop.example/g03310/laws.FnExactFeed", spec := "fnExactFeed", apart := false, narrowed := true }
def FnExactFeedUptoSaid : Prop := fnExactFeedUptoRow.holds Try.pinned (OpenSpec.upto fnExactFeedSpec)

/-- 'laws.FnExactTakeLeaven', WHERE WHAT IT READS IS OF BULK AT MOST 1048576: true; the input reads as it did. -/
def fnExactTakeLeavenUptoRow : OpenClaim := { program := "ytkchjkhcpenpfab", sum := "db8bad243829b3b7e2f2325562601bed7ce62480cdfbdc2b9854ab2f0e89bf15", func := "loop.example/g03310/laws.FnExactTakeLeaven", spec := "fnExactTakeLeaven", apart := false, narrowed := true }
def FnExactTakeLeavenUptoSaid : Prop := fnExactTakeLeavenUptoRow.holds Try.pinned (OpenSpec.upto fnExactTakeLeavenSpec)

/-- 'laws.FnExactFeedingsFor', WHERE WHAT IT READS IS OF BULK AT MOST 1048576: true; the input reads as it did. -/
def fnExactFeedingsForUptoRow : OpenClaim := { program := "ytkchjkhcpenpfab", sum := "db8bad243829b3b7e2f2325562601bed7ce62480cdfbdc2b9854ab2f0e89bf15", func := "loop.example/g03310/laws.FnExactFeedingsFor", spec := "fnExactFeedingsFor", apart := false, narrowed := true }
def FnExactFeedingsForUptoSaid : Prop := fnExactFeedingsForUptoRow.holds Try.pinned (OpenSpec.upto fnExactFeedingsForSpec)

/-- 'laws.FnExactKeepForDays', WHERE WHAT IT READS IS OF BULK AT MOST 1048576: true; the input reads as it did. -/
def fnExactKeepForDaysUptoRow : OpenClaim := { program := "ytkchjkhcpenpfab", sum := "db8bad243829b3b7e2f2325562601bed7ce62480cdfbdc2b9854ab2f0e89bf15", func := "loop.example/g03310/laws.FnExactKeepForDays", spec := "fnExactKeepForDays", apart := false, narrowed := true }
def FnExactKeepForDaysUptoSaid : Prop := fnExactKeepForDaysUptoRow.holds Try.pinned (OpenSpec.upto fnExactKeepForDaysSpec)

end Rows
end Go.Proofs.Ytkchjkhcpenpfab
