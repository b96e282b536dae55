/-
  NARROWER THAN 'FOR EVERY INPUT', by the rows' own cells (each row's printed sentence says how): FnCosts: ifaces, laid · FnRises: laid.
  DERIVED. THE GIVEN ROWS OF THIS SEAT. 2 by the template 'for every input the law returns true; each argument reads behind the call as it read before'; 0 by the template 'total and deterministic' (their statements: YtkaaebpoljnbnaaDoorTotals.lean).
  GIVEN WITH THE SEED: the statements are not yours to turn. If you find one false, say at which input.
  Laid BY PROGRAM, IN A SANDBOX (cutbox-rows.mjs): the forced cells as the released guide's own fill.sh prints them over the translation 56ba3823cc9a3c6f… (all of the seat's roots in one cut). By AI agents, Wed Nov 11 2026. No macro, syntax, notation, axiom, sorry.
-/
import Derived.Test.YtkaaebpoljnbnaaDoorChecked
import GoSem.Claim
import GoSem.ClaimJoined
import GoSem.ClaimMapViews
import Derived.JoinedTies
import Derived.KernelRfl
namespace Go.Proofs.YtkaaebpoljnbnaaDoor
/- THE CELL 'sum', in the pinned program and in every row, IS THE sha256 OF THE DUMP (.gsa) THAT YtkaaebpoljnbnaaDoorProg.lean LOADS. Nothing in Lean hashes anything: it is a label: what it is worth is what the hold of that sum in a sandbox is worth. -/
noncomputable def Tryd.pinned : Pinned := { name := "ytkaaebpoljnbnaadoor", sum := "56ba3823cc9a3c6f26012758311a2247c246d08e7d262abe74befef10dde5cf5", checked := Tryd.checked }
namespace Rows
def none {H : Type} : Left H := { results := [], args := [] }

/- WHAT THE LISTED PACKAGE-LEVEL VARIABLES READ AS WHEN THE CALL BEGINS. Each datum BY PROGRAM (the guide's laid-datum.mjs) off the statement by which the dump's own 'gosem.cut.vars' lays the variable. In a bare row this is a premise. The card (YtkaaebpoljnbnaaDoorCards.lean) ties it to the program's text. -/
def laid_loop_example_g03310_impl_errNoPrice {H : Type} : DataW H := .iface "*errors.errorString" (.ptr (.agg [.lit (.string [110, 111, 32, 112, 114, 105, 99, 101, 32, 105, 115, 32, 112, 111, 115, 115, 105, 98, 108, 101])]))
def laid_loop_example_g03310_impl_bands {H : Type} : DataW H := .agg [.agg [.lit (.int .i64 4), .lit (.int .i64 1)], .agg [.lit (.int .i64 10), .lit (.int .i64 2)], .agg [.lit (.int .i64 16), .lit (.int .i64 4)], .agg [.lit (.int .i64 22), .lit (.int .i64 8)], .agg [.lit (.int .i64 28), .lit (.int .i64 16)], .agg [.lit (.int .i64 35), .lit (.int .i64 0)]]

/-- 'laws.FnCosts': WHATEVER THE INPUT: true; the input reads as it did. -/
def fnCostsSpec : ChangeSpec := { name := "fnCosts", vars := ["loop.example/g03310/impl.errNoPrice"], fn := fun _ => fun
  | [d, g1] => { results := [.lit (.bool true)], args := [d], vars := [g1] }
  | _ => none }
def fnCostsRow : OpenClaim := { program := "ytkaaebpoljnbnaadoor", sum := "56ba3823cc9a3c6f26012758311a2247c246d08e7d262abe74befef10dde5cf5", func := "loop.example/g03310/laws.FnCosts", spec := "fnCosts", inPlace := ["internal/reflectlite.TypeOf"], unfollowed := true, recurses := true, named := ["loop.example/g03310/impl.errNoPrice"], ifaces := true, apart := false, laid := [("loop.example/g03310/impl.errNoPrice", laid_loop_example_g03310_impl_errNoPrice)] }
def FnCostsSaid : Prop := fnCostsRow.holds Tryd.pinned (OpenSpec.ofChange fnCostsSpec)

/-- ITS FALSE NEIGHBOUR: 'it returns false'. Refute it at one input. -/
def fnCostsWrong : ChangeSpec := { name := "fnCosts", vars := ["loop.example/g03310/impl.errNoPrice"], fn := fun _ => fun
  | [d, g1] => { results := [.lit (.bool false)], args := [d], vars := [g1] }
  | _ => none }
def FnCostsWrongFalsely : Prop := fnCostsRow.holds Tryd.pinned (OpenSpec.ofChange fnCostsWrong)

/-- 'laws.FnRises': WHATEVER THE INPUT: true; the input reads as it did. -/
def fnRisesSpec : ChangeSpec := { name := "fnRises", vars := ["loop.example/g03310/impl.bands"], fn := fun _ => fun
  | [d, g1] => { results := [.lit (.bool true)], args := [d], vars := [g1] }
  | _ => none }
def fnRisesRow : OpenClaim := { program := "ytkaaebpoljnbnaadoor", sum := "56ba3823cc9a3c6f26012758311a2247c246d08e7d262abe74befef10dde5cf5", func := "loop.example/g03310/laws.FnRises", spec := "fnRises", named := ["loop.example/g03310/impl.bands"], apart := false, laid := [("loop.example/g03310/impl.bands", laid_loop_example_g03310_impl_bands)] }
def FnRisesSaid : Prop := fnRisesRow.holds Tryd.pinned (OpenSpec.ofChange fnRisesSpec)

/-- ITS FALSE NEIGHBOUR: 'it returns false'. Refute it at one input. -/
def fnRisesWrong : ChangeSpec := { name := "fnRises", vars := ["loop.example/g03310/impl.bands"], fn := fun _ => fun
  | [d, g1] => { results := [.lit (.bool false)], args := [d], vars := [g1] }
  | _ => none }
def FnRisesWrongFalsely : Prop := fnRisesRow.holds Tryd.pinned (OpenSpec.ofChange fnRisesWrong)

/- THE SECOND FORM. 'bulk': how many values and letters a reading holds, each counted each time it is reached (what is shared counts as often as it is met; a slice's spare places count too). A statement '..UptoSaid' is the law's where the arguments, and the package variables that the reading takes, are together of bulk at most 1048576: NARROWER than '..Said'. Prove '..Said' where nothing that the law and all that it calls make is longer than what came in: it says more and counts as full. Else prove '..UptoSaid'. A law counts once. -/
mutual
def uptoBulk {H : Type} : DataW H → Nat
  | .lit (.string bytes) => bytes.length + 1
  | .lit _ => 1
  | .nil => 1
  | .ptr d => uptoBulk d + 1
  | .slice elems spare => uptoBulkAll elems + uptoBulkAll spare + 1
  | .agg parts => uptoBulkAll parts + 1
  | .iface _ d => uptoBulk d + 1
  | .map entries => uptoBulkEntries entries + 1
  | .held _ => 1
def uptoBulkAll {H : Type} : List (DataW H) → Nat
  | [] => 0
  | d :: r => uptoBulk d + uptoBulkAll r
def uptoBulkEntries {H : Type} : List (Lit × DataW H) → Nat
  | [] => 0
  | x :: r => uptoBulkEntry x + uptoBulkEntries r
def uptoBulkEntry {H : Type} : Lit × DataW H → Nat
  | (.string bytes, d) => bytes.length + uptoBulk d + 1
  | (_, d) => uptoBulk d + 1
 end
def uptoSmall : (H : Type) → List (DataW H) → Bool := fun _ ds => decide (uptoBulkAll ds ≤ 1048576)
def OpenSpec.upto (s : _root_.Go.ChangeSpec) : _root_.Go.OpenSpec := { _root_.Go.OpenSpec.ofChange s with cond := some uptoSmall }

/-- 'laws.FnCosts', WHERE WHAT IT READS IS OF BULK AT MOST 1048576: true; the input reads as it did. -/
def fnCostsUptoRow : OpenClaim := { program := "ytkaaebpoljnbnaadoor", sum := "56ba3823cc9a3c6f26012758311a2247c246d08e7d262abe74befef10dde5cf5", func := "loop.example/g03310/laws.FnCosts", spec := "fnCosts", inPlace := ["internal/reflectlite.TypeOf"], unfollowed := true, recurses := true, named := ["loop.example/g03310/impl.errNoPrice"], ifaces := true, apart := false, laid := [("loop.example/g03310/impl.errNoPrice", laid_loop_example_g03310_impl_errNoPrice)], narrowed := true }
def FnCostsUptoSaid : Prop := fnCostsUptoRow.holds Tryd.pinned (OpenSpec.upto fnCostsSpec)

/-- 'laws.FnRises', WHERE WHAT IT READS IS OF BULK AT MOST 1048576: true; the input reads as it did. -/
def fnRisesUptoRow : OpenClaim := { program := "ytkaaebpoljnbnaadoor", sum := "56ba3823cc9a3c6f26012758311a2247c246d08e7d262abe74befef10dde5cf5", func := "loop.example/g03310/laws.FnRises", spec := "fnRises", named := ["loop.example/g03310/impl.bands"], apart := false, laid := [("loop.example/g03310/impl.bands", laid_loop_example_g03310_impl_bands)], narrowed := true }
def FnRisesUptoSaid : Prop := fnRisesUptoRow.holds Tryd.pinned (OpenSpec.upto fnRisesSpec)

end Rows
end Go.Proofs.YtkaaebpoljnbnaaDoor
