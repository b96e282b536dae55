/-
  NARROWER THAN 'FOR EVERY INPUT', by the rows' own cells (each row's printed sentence says how): FnRises: laid · FnExactSpeedAt: laid · FnExactRiseAfter: laid · FnExactMinutesAt: laid · FnExactReadyAt: laid · FnExactCoolestFor: laid.
  DERIVED. THE GIVEN ROWS OF THIS SEAT. 6 by the template 'for every input the law returns true; each argument reads behind the call as it read before'; 0 by the template 'total and deterministic' (their statements: YtkchjkhcpenpfacDoorTotals.lean).
  GIVEN WITH THE SEED: the statements are not yours to turn. If you find one false, say at which input.
  Laid BY PROGRAM, IN A SANDBOX (cutbox-rows.mjs): the forced cells as the released guide's own fill.sh prints them over the translation 9c6e88810c05a406… (all of the seat's roots in one cut). By AI agents, Wed Nov 11 2026. No macro, syntax, notation, axiom, sorry.
-/
import Derived.Test.YtkchjkhcpenpfacDoorChecked
import GoSem.Claim
import GoSem.ClaimJoined
import GoSem.ClaimMapViews
import Derived.JoinedTies
import Derived.KernelRfl
namespace Go.Proofs.YtkchjkhcpenpfacDoor
/- THE CELL 'sum', in the pinned program and in every row, IS THE sha256 OF THE DUMP (.gsa) THAT YtkchjkhcpenpfacDoorProg.lean LOADS. Nothing in Lean hashes anything: it is a label: what it is worth is what the hold of that sum in a sandbox is worth. -/
noncomputable def Tryd.pinned : Pinned := { name := "ytkchjkhcpenpfacdoor", sum := "9c6e88810c05a406a7446a2be6812669bd5be8bed2a3e62e1c9a40732036c10d", checked := Tryd.checked }
namespace Rows
def none {H : Type} : Left H := { results := [], args := [] }

/- WHAT THE LISTED PACKAGE-LEVEL VARIABLES READ AS WHEN THE CALL BEGINS. Each datum BY PROGRAM (the guide's laid-datum.mjs) off the statement by which the dump's own 'gosem.cut.vars' lays the variable. In a bare row this is a premise. The card (YtkchjkhcpenpfacDoorCards.lean) ties it to the program's text. -/
def laid_loop_example_g03310_impl_bands {H : Type} : DataW H := .agg [.agg [.lit (.int .i64 4), .lit (.int .i64 1)], .agg [.lit (.int .i64 10), .lit (.int .i64 2)], .agg [.lit (.int .i64 16), .lit (.int .i64 4)], .agg [.lit (.int .i64 22), .lit (.int .i64 8)], .agg [.lit (.int .i64 28), .lit (.int .i64 16)], .agg [.lit (.int .i64 35), .lit (.int .i64 0)]]

/-- 'laws.FnRises': WHATEVER THE INPUT: true; the input reads as it did. -/
def fnRisesSpec : ChangeSpec := { name := "fnRises", vars := ["loop.example/g03310/impl.bands"], fn := fun _ => fun
  | [d, g1] => { results := [.lit (.bool true)], args := [d], vars := [g1] }
  | _ => none }
def fnRisesRow : OpenClaim := { program := "ytkchjkhcpenpfacdoor", sum := "9c6e88810c05a406a7446a2be6812669bd5be8bed2a3e62e1c9a40732036c10d", func := "loop.example/g03310/laws.FnRises", spec := "fnRises", named := ["loop.example/g03310/impl.bands"], apart := false, laid := [("loop.example/g03310/impl.bands", laid_loop_example_g03310_impl_bands)] }
def FnRisesSaid : Prop := fnRisesRow.holds Tryd.pinned (OpenSpec.ofChange fnRisesSpec)

/-- ITS FALSE NEIGHBOUR: 'it returns false'. Refute it at one input. -/
def fnRisesWrong : ChangeSpec := { name := "fnRises", vars := ["loop.example/g03310/impl.bands"], fn := fun _ => fun
  | [d, g1] => { results := [.lit (.bool false)], args := [d], vars := [g1] }
  | _ => none }
def FnRisesWrongFalsely : Prop := fnRisesRow.holds Tryd.pinned (OpenSpec.ofChange fnRisesWrong)

/-- 'laws.FnExactSpeedAt': WHATEVER THE INPUT: true; the input reads as it did. -/
def fnExactSpeedAtSpec : ChangeSpec := { name := "fnExactSpeedAt", vars := ["loop.example/g03310/impl.bands"], fn := fun _ => fun
  | [d, g1] => { results := [.lit (.bool true)], args := [d], vars := [g1] }
  | _ => none }
def fnExactSpeedAtRow : OpenClaim := { program := "ytkchjkhcpenpfacdoor", sum := "9c6e88810c05a406a7446a2be6812669bd5be8bed2a3e62e1c9a40732036c10d", func := "loop.example/g03310/laws.FnExactSpeedAt", spec := "fnExactSpeedAt", named := ["loop.example/g03310/impl.bands"], apart := false, laid := [("loop.example/g03310/impl.bands", laid_loop_example_g03310_impl_bands)] }
def FnExactSpeedAtSaid : Prop := fnExactSpeedAtRow.holds Tryd.pinned (OpenSpec.ofChange fnExactSpeedAtSpec)

/-- ITS FALSE NEIGHBOUR: 'it returns false'. Refute it at one input. -/
def fnExactSpeedAtWrong : ChangeSpec := { name := "fnExactSpeedAt", vars := ["loop.example/g03310/impl.bands"], fn := fun _ => fun
  | [d, g1] => { results := [.lit (.bool false)], args := [d], vars := [g1] }
  | _ => none }
def FnExactSpeedAtWrongFalsely : Prop := fnExactSpeedAtRow.holds Tryd.pinned (OpenSpec.ofChange fnExactSpeedAtWrong)

/-- 'laws.FnExactRiseAfter': WHATEVER THE INPUT: true; the input reads as it did. -/
def fnExactRiseAfterSpec : ChangeSpec := { name := "fnExactRiseAfter", vars := ["loop.example/g03310/impl.bands"], fn := fun _ => fun
  | [d, g1] => { results := [.lit (.bool true)], args := [d], vars := [g1] }
  | _ => none }
def fnExactRiseAfterRow : OpenClaim := { program := "ytkchjkhcpenpfacdoor", sum := "9c6e88810c05a406a7446a2be6812669bd5be8bed2a3e62e1c9a40732036c10d", func := "loop.example/g03310/laws.FnExactRiseAfter", spec := "fnExactRiseAfter", named := ["loop.example/g03310/impl.bands"], apart := false, laid := [("loop.example/g03310/impl.bands", laid_loop_example_g03310_impl_bands)] }
def FnExactRiseAfterSaid : Prop := fnExactRiseAfterRow.holds Tryd.pinned (OpenSpec.ofChange fnExactRiseAfterSpec)

/-- ITS FALSE NEIGHBOUR: 'it returns false'. Refute it at one input. -/
def fnExactRiseAfterWrong : ChangeSpec := { name := "fnExactRiseAfter", vars := ["loop.example/g03310/impl.bands"], fn := fun _ => fun
  | [d, g1] => { results := [.lit (.bool false)], args := [d], vars := [g1] }
  | _ => none }
def FnExactRiseAfterWrongFalsely : Prop := fnExactRiseAfterRow.holds Tryd.pinned (OpenSpec.ofChange fnExactRiseAfterWrong)

/-- 'laws.FnExactMinutesAt': WHATEVER THE INPUT: true; the input reads as it did. -/
def fnExactMinutesAtSpec : ChangeSpec := { name := "fnExactMinutesAt", vars := ["loop.example/g03310/impl.bands"], fn := fun _ => fun
  | [d1, d2, g1] => { results := [.lit (.bool true)], args := [d1, d2], vars := [g1] }
  | _ => none }
def fnExactMinutesAtRow : OpenClaim := { program := "ytkchjkhcpenpfacdoor", sum := "9c6e88810c05a406a7446a2be6812669bd5be8bed2a3e62e1c9a40732036c10d", func := "loop.example/g03310/laws.FnExactMinutesAt", spec := "fnExactMinutesAt", named := ["loop.example/g03310/impl.bands"], apart := false, laid := [("loop.example/g03310/impl.bands", laid_loop_example_g03310_impl_bands)] }
def FnExactMinutesAtSaid : Prop := fnExactMinutesAtRow.holds Tryd.pinned (OpenSpec.ofChange fnExactMinutesAtSpec)

/-- ITS FALSE NEIGHBOUR: 'it returns false'. Refute it at one input. -/
def fnExactMinutesAtWrong : ChangeSpec := { name := "fnExactMinutesAt", vars := ["loop.example/g03310/impl.bands"], fn := fun _ => fun
  | [d1, d2, g1] => { results := [.lit (.bool false)], args := [d1, d2], vars := [g1] }
  | _ => none }
def FnExactMinutesAtWrongFalsely : Prop := fnExactMinutesAtRow.holds Tryd.pinned (OpenSpec.ofChange fnExactMinutesAtWrong)

/-- 'laws.FnExactReadyAt': WHATEVER THE INPUT: true; the input reads as it did. -/
def fnExactReadyAtSpec : ChangeSpec := { name := "fnExactReadyAt", vars := ["loop.example/g03310/impl.bands"], fn := fun _ => fun
  | [d1, d2, g1] => { results := [.lit (.bool true)], args := [d1, d2], vars := [g1] }
  | _ => none }
def fnExactReadyAtRow : OpenClaim := { program := "ytkchjkhcpenpfacdoor", sum := "9c6e88810c05a406a7446a2be6812669bd5be8bed2a3e62e1c9a40732036c10d", func := "loop.example/g03310/laws.FnExactReadyAt", spec := "fnExactReadyAt", named := ["loop.example/g03310/impl.bands"], apart := false, laid := [("loop.example/g03310/impl.bands", laid_loop_example_g03310_impl_bands)] }
def FnExactReadyAtSaid : Prop := fnExactReadyAtRow.holds Tryd.pinned (OpenSpec.ofChange fnExactReadyAtSpec)

/-- ITS FALSE NEIGHBOUR: 'it returns false'. Refute it at one input. -/
def fnExactReadyAtWrong : ChangeSpec := { name := "fnExactReadyAt", vars := ["loop.example/g03310/impl.bands"], fn := fun _ => fun
  | [d1, d2, g1] => { results := [.lit (.bool false)], args := [d1, d2], vars := [g1] }
  | _ => none }
def FnExactReadyAtWrongFalsely : Prop := fnExactReadyAtRow.holds Tryd.pinned (OpenSpec.ofChange fnExactReadyAtWrong)

/-- 'laws.FnExactCoolestFor': WHATEVER THE INPUT: true; the input reads as it did. -/
def fnExactCoolestForSpec : ChangeSpec := { name := "fnExactCoolestFor", vars := ["loop.example/g03310/impl.bands"], fn := fun _ => fun
  | [d1, d2, g1] => { results := [.lit (.bool true)], args := [d1, d2], vars := [g1] }
  | _ => none }
def fnExactCoolestForRow : OpenClaim := { program := "ytkchjkhcpenpfacdoor", sum := "9c6e88810c05a406a7446a2be6812669bd5be8bed2a3e62e1c9a40732036c10d", func := "loop.example/g03310/laws.FnExactCoolestFor", spec := "fnExactCoolestFor", named := ["loop.example/g03310/impl.bands"], apart := false, laid := [("loop.example/g03310/impl.bands", laid_loop_example_g03310_impl_bands)] }
def FnExactCoolestForSaid : Prop := fnExactCoolestForRow.holds Tryd.pinned (OpenSpec.ofChange fnExactCoolestForSpec)

/-- ITS FALSE NEIGHBOUR: 'it returns false'. Refute it at one input. -/
def fnExactCoolestForWrong : ChangeSpec := { name := "fnExactCoolestFor", vars := ["loop.example/g03310/impl.bands"], fn := fun _ => fun
  | [d1, d2, g1] => { results := [.lit (.bool false)], args := [d1, d2], vars := [g1] }
  | _ => none }
def FnExactCoolestForWrongFalsely : Prop := fnExactCoolestForRow.holds Tryd.pinned (OpenSpec.ofChange fnExactCoolestForWrong)

/- THE SECOND FORM. 'bulk': how many values and letters a reading holds, each counted each time it is reached (what is shared counts as often as it is met; a slice's spare places count too). A statement '..UptoSaid' is the law's where the arguments, and the package variables that the reading takes, are together of bulk at most 1048576: NARROWER than '..Said'. Prove '..Said' where nothing that the law and all that it calls make is longer than what came in: it says more and counts as full. Else prove '..UptoSaid'. A law counts once. -/
mutual
def uptoBulk {H : Type} : DataW H → Nat
  | .lit (.string bytes) => bytes.length + 1
  | .lit _ => 1
  | .nil => 1
  | .ptr d => uptoBulk d + 1
  | .slice elems spare => uptoBulkAll elems + uptoBulkAll spare + 1
  | .agg parts => uptoBulkAll parts + 1
  | .iface _ d => uptoBulk d + 1
  | .map entries => uptoBulkEntries entries + 1
  | .held _ => 1
def uptoBulkAll {H : Type} : List (DataW H) → Nat
  | [] => 0
  | d :: r => uptoBulk d + uptoBulkAll r
def uptoBulkEntries {H : Type} : List (Lit × DataW H) → Nat
  | [] => 0
  | x :: r => uptoBulkEntry x + uptoBulkEntries r
def uptoBulkEntry {H : Type} : Lit × DataW H → Nat
  | (.string bytes, d) => bytes.length + uptoBulk d + 1
  | (_, d) => uptoBulk d + 1
 end
def uptoSmall : (H : Type) → List (DataW H) → Bool := fun _ ds => decide (uptoBulkAll ds ≤ 1048576)
def OpenSpec.upto (s : _root_.Go.ChangeSpec) : _root_.Go.OpenSpec := { _root_.Go.OpenSpec.ofChange s with cond := some uptoSmall }

/-- 'laws.FnRises', WHERE WHAT IT READS IS OF BULK AT MOST 1048576: true; the input reads as it did. -/
def fnRisesUptoRow : OpenClaim := { program := "ytkchjkhcpenpfacdoor", sum := "9c6e88810c05a406a7446a2be6812669bd5be8bed2a3e62e1c9a40732036c10d", func := "loop.example/g03310/laws.FnRises", spec := "fnRises", named := ["loop.example/g03310/impl.bands"], apart := false, laid := [("loop.example/g03310/impl.bands", laid_loop_example_g03310_impl_bands)], narrowed := true }
def FnRisesUptoSaid : Prop := fnRisesUptoRow.holds Tryd.pinned (OpenSpec.upto fnRisesSpec)

/-- 'laws.FnExactSpeedAt', WHERE WHAT IT READS IS OF BULK AT MOST 1048576: true; the input reads as it did. -/
def fnExactSpeedAtUptoRow : OpenClaim := { program := "ytkchjkhcpenpfacdoor", sum := "9c6e88810c05a406a7446a2be6812669bd5be8bed2a3e62e1c9a40732036c10d", func := "loop.example/g03310/laws.FnExactSpeedAt", spec := "fnExactSpeedAt", named := ["loop.example/g03310/impl.bands"], apart := false, laid := [("loop.example/g03310/impl.bands", laid_loop_example_g03310_impl_bands)], narrowed := true }
def FnExactSpeedAtUptoSaid : Prop := fnExactSpeedAtUptoRow.holds Tryd.pinned (OpenSpec.upto fnExactSpeedAtSpec)

/-- 'laws.FnExactRiseAfter', WHERE WHAT IT READS IS OF BULK AT MOST 1048576: true; the input reads as it did. -/
def fnExactRiseAfterUptoRow : OpenClaim := { program := "ytkchjkhcpenpfacdoor", sum := "9c6e88810c05a406a7446a2be6812669bd5be8bed2a3e62e1c9a40732036c10d", func := "loop.example/g03310/laws.FnExactRiseAfter", spec := "fnExactRiseAfter", named := ["loop.example/g03310/impl.bands"], apart := false, laid := [("loop.example/g03310/impl.bands", laid_loop_example_g03310_impl_bands)], narrowed := true }
def FnExactRiseAfterUptoSaid : Prop := fnExactRiseAfterUptoRow.holds Tryd.pinned (OpenSpec.upto fnExactRiseAfterSpec)

/-- 'laws.FnExactMinutesAt', WHERE WHAT IT READS IS OF BULK AT MOST 1048576: true; the input reads as it did. -/
def fnExactMinutesAtUptoRow : OpenClaim := { program := "ytkchjkhcpenpfacdoor", sum := "9c6e88810c05a406a7446a2be6812669bd5be8bed2a3e62e1c9a40732036c10d", func := "loop.example/g03310/laws.FnExactMinutesAt", spec := "fnExactMinutesAt", named := ["loop.example/g03310/impl.bands"], apart := false, laid := [("loop.example/g03310/impl.bands", laid_loop_example_g03310_impl_bands)], narrowed := true }
def FnExactMinutesAtUptoSaid : Prop := fnExactMinutesAtUptoRow.holds Tryd.pinned (OpenSpec.upto fnExactMinutesAtSpec)

/-- 'laws.FnExactReadyAt', WHERE WHAT IT READS IS OF BULK AT MOST 1048576: true; the input reads as it did. -/
def fnExactReadyAtUptoRow : OpenClaim := { program := "ytkchjkhcpenpfacdoor", sum := "9c6e88810c05a406a7446a2be6812669bd5be8bed2a3e62e1c9a40732036c10d", func := "loop.example/g03310/laws.FnExactReadyAt", spec := "fnExactReadyAt", named := ["loop.example/g03310/impl.bands"], apart := false, laid := [("loop.example/g03310/impl.bands", laid_loop_example_g03310_impl_bands)], narrowed := true }
def FnExactReadyAtUptoSaid : Prop := fnExactReadyAtUptoRow.holds Tryd.pinned (OpenSpec.upto fnExactReadyAtSpec)

/-- 'laws.FnExactCoolestFor', WHERE WHAT IT READS IS OF BULK AT MOST 1048576: true; the input reads as it did. -/
def fnExactCoolestForUptoRow : OpenClaim := { program := "ytkchjkhcpenpfacdoor", sum := "9c6e88810c05a406a7446a2be6812669bd5be8bed2a3e62e1c9a40732036c10d", func := "loop.example/g03310/laws.FnExactCoolestFor", spec := "fnExactCoolestFor", named := ["loop.example/g03310/impl.bands"], apart := false, laid := [("loop.example/g03310/impl.bands", laid_loop_example_g03310_impl_bands)], narrowed := true }
def FnExactCoolestForUptoSaid : Prop := fnExactCoolestForUptoRow.holds Tryd.pinned (OpenSpec.upto fnExactCoolestForSpec)

end Rows
end Go.Proofs.YtkchjkhcpenpfacDoor
