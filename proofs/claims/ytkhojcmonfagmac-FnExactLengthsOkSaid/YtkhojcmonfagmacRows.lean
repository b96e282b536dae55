/-
  No cell of these rows narrows 'for every input' (looked for: loops, veiled, ifaces, maps, wideKeys, modest, calm, conditions, laid).
  DERIVED. THE GIVEN ROWS OF THIS SEAT. 6 by the template 'for every input the law returns true; each argument reads behind the call as it read before'; 0 by the template 'total and deterministic' (their statements: YtkhojcmonfagmacTotals.lean).
  GIVEN WITH THE SEED: the statements are not yours to turn. If you find one false, say at which input.
  Laid BY PROGRAM, IN A SANDBOX (cutbox-rows.mjs): the forced cells as the released guide's own fill.sh prints them over the translation a4dfd51b5f576f9e… (all of the seat's roots in one cut). By AI agents, Wed Nov 11 2026. No macro, syntax, notation, axiom, sorry.
-/
import Derived.Test.YtkhojcmonfagmacChecked
import GoSem.Claim
import GoSem.ClaimJoined
import GoSem.ClaimMapViews
import Derived.JoinedTies
import Derived.KernelRfl
namespace Go.Proofs.Ytkhojcmonfagmac
/- THE CELL 'sum', in the pinned program and in every row, IS THE sha256 OF THE DUMP (.gsa) THAT YtkhojcmonfagmacProg.lean LOADS. Nothing in Lean hashes anything: it is a label: what it is worth is what the hold of that sum in a sandbox is worth. -/
noncomputable def Try.pinned : Pinned := { name := "ytkhojcmonfagmac", sum := "a4dfd51b5f576f9e4f6efdbfd16973613868a51a47f955b688a6981dd08cf664", checked := Try.checked }
namespace Rows
def none {H : Type} : Left H := { results := [], args := [] }

/-- 'laws.FnExactSortedParts': WHATEVER THE INPUT: true; the input reads as it did. -/
def fnExactSortedPartsSpec : ChangeSpec := { name := "fnExactSortedParts", fn := fun _ => fun
  | [d] => { results := [.lit (.bool true)], args := [d] }
  | _ => none }
def fnExactSortedPartsRow : OpenClaim := { program := "ytkhojcmonfagmac", sum := "a4dfd51b5f576f9e4f6efdbfd16973613868a51a47f955b688a6981dd08cf664", func := "loop.example/g03310/laws.FnExactSortedParts", spec := "fnExactSortedParts", unfollowed := true, recurses := true, leaving := true, apart := false }
def FnExactSortedPartsSaid : Prop := fnExactSortedPartsRow.holds Try.pinned (OpenSpec.ofChange fnExactSortedPartsSpec)

/-- ITS FALSE NEIGHBOUR: 'it returns false'. Refute it at one input. -/
def fnExactSortedPartsWrong : ChangeSpec := { name := "fnExactSortedParts", fn := fun _ => fun
  | [d] => { results := [.lit (.bool false)], args := [d] }
  | _ => none }
def FnExactSortedPartsWrongFalsely : Prop := fnExactSortedPartsRow.holds Try.pinned (OpenSpec.ofChange fnExactSortedPartsWrong)

/-- 'laws.FnExactLabelText': WHATEVER THE INPUT: true; the input reads as it did. -/
def fnExactLabelTextSpec : ChangeSpec := { name := "fnExactLabelText", fn := fun _ => fun
  | [d] => { results := [.lit (.bool true)], args := [d] }
  | _ => none }
def fnExactLabelTextRow : OpenClaim := { program := "ytkhojcmonfagmac", sum := "a4dfd51b5f576f9e4f6efdbfd16973613868a51a47f955b688a6981dd08cf664", func := "loop.example/g03310/laws.FnExactLabelText", spec := "fnExactLabelText", inPlace := ["internal/abi.NoEscape", "internal/bytealg.MakeNoZero"], unfollowed := true, recurses := true, leaving := true, apart := false }
def FnExactLabelTextSaid : Prop := fnExactLabelTextRow.holds Try.pinned (OpenSpec.ofChange fnExactLabelTextSpec)

/-- ITS FALSE NEIGHBOUR: 'it returns false'. Refute it at one input. -/
def fnExactLabelTextWrong : ChangeSpec := { name := "fnExactLabelText", fn := fun _ => fun
  | [d] => { results := [.lit (.bool false)], args := [d] }
  | _ => none }
def FnExactLabelTextWrongFalsely : Prop := fnExactLabelTextRow.holds Try.pinned (OpenSpec.ofChange fnExactLabelTextWrong)

/-- 'laws.FnExactMustName': WHATEVER THE INPUT: true; the input reads as it did. -/
def fnExactMustNameSpec : ChangeSpec := { name := "fnExactMustName", fn := fun _ => fun
  | [d1, d2] => { results := [.lit (.bool true)], args := [d1, d2] }
  | _ => none }
def fnExactMustNameRow : OpenClaim := { program := "ytkhojcmonfagmac", sum := "a4dfd51b5f576f9e4f6efdbfd16973613868a51a47f955b688a6981dd08cf664", func := "loop.example/g03310/laws.FnExactMustName", spec := "fnExactMustName", unfollowed := true, recurses := true, leaving := true, apart := false }
def FnExactMustNameSaid : Prop := fnExactMustNameRow.holds Try.pinned (OpenSpec.ofChange fnExactMustNameSpec)

/-- ITS FALSE NEIGHBOUR: 'it returns false'. Refute it at one input. -/
def fnExactMustNameWrong : ChangeSpec := { name := "fnExactMustName", fn := fun _ => fun
  | [d1, d2] => { results := [.lit (.bool false)], args := [d1, d2] }
  | _ => none }
def FnExactMustNameWrongFalsely : Prop := fnExactMustNameRow.holds Try.pinned (OpenSpec.ofChange fnExactMustNameWrong)

/-- 'laws.FnSheets': WHATEVER THE INPUT: true; the input reads as it did. -/
def fnSheetsSpec : ChangeSpec := { name := "fnSheets", fn := fun _ => fun
  | [d] => { results := [.lit (.bool true)], args := [d] }
  | _ => none }
def fnSheetsRow : OpenClaim := { program := "ytkhojcmonfagmac", sum := "a4dfd51b5f576f9e4f6efdbfd16973613868a51a47f955b688a6981dd08cf664", func := "loop.example/g03310/laws.FnSheets", spec := "fnSheets", inPlace := ["(*sync.WaitGroup).Add", "internal/race.ReleaseMerge", "internal/race.Disable", "internal/race.Enable", "internal/synctest.IsInBubble", "internal/synctest.Associate[sync.WaitGroup]", "sync.fatal", "sync/atomic.OrUint64", "sync/atomic.AddUint64", "internal/race.Read", "sync/atomic.LoadUint64", "sync/atomic.StoreUint64", "internal/synctest.Disassociate[sync.WaitGroup]", "sync.runtime_Semrelease", "(*sync.WaitGroup).Done", "(*sync.WaitGroup).Wait", "internal/race.Acquire", "internal/synctest.IsAssociated[sync.WaitGroup]", "sync/atomic.CompareAndSwapUint64", "internal/race.Write", "sync.runtime_SemacquireWaitGroup"], unfollowed := true, recurses := true, leaving := true, apart := false }
def FnSheetsSaid : Prop := fnSheetsRow.holds Try.pinned (OpenSpec.ofChange fnSheetsSpec)

/-- ITS FALSE NEIGHBOUR: 'it returns false'. Refute it at one input. -/
def fnSheetsWrong : ChangeSpec := { name := "fnSheets", fn := fun _ => fun
  | [d] => { results := [.lit (.bool false)], args := [d] }
  | _ => none }
def FnSheetsWrongFalsely : Prop := fnSheetsRow.holds Try.pinned (OpenSpec.ofChange fnSheetsWrong)

/-- 'laws.FnExactLengthsOk': WHATEVER THE INPUT: true; the input reads as it did. -/
def fnExactLengthsOkSpec : ChangeSpec := { name := "fnExactLengthsOk", fn := fun _ => fun
  | [d1, d2] => { results := [.lit (.bool true)], args := [d1, d2] }
  | _ => none }
def fnExactLengthsOkRow : OpenClaim := { program := "ytkhojcmonfagmac", sum := "a4dfd51b5f576f9e4f6efdbfd16973613868a51a47f955b688a6981dd08cf664", func := "loop.example/g03310/laws.FnExactLengthsOk", spec := "fnExactLengthsOk", apart := false }
def FnExactLengthsOkSaid : Prop := fnExactLengthsOkRow.holds Try.pinned (OpenSpec.ofChange fnExactLengthsOkSpec)

/-- ITS FALSE NEIGHBOUR: 'it returns false'. Refute it at one input. -/
def fnExactLengthsOkWrong : ChangeSpec := { name := "fnExactLengthsOk", fn := fun _ => fun
  | [d1, d2] => { results := [.lit (.bool false)], args := [d1, d2] }
  | _ => none }
def FnExactLengthsOkWrongFalsely : Prop := fnExactLengthsOkRow.holds Try.pinned (OpenSpec.ofChange fnExactLengthsOkWrong)

/-- 'laws.FnExactStripsUsed': WHATEVER THE INPUT: true; the input reads as it did. -/
def fnExactStripsUsedSpec : ChangeSpec := { name := "fnExactStripsUsed", fn := fun _ => fun
  | [d1, d2, d3] => { results := [.lit (.bool true)], args := [d1, d2, d3] }
  | _ => none }
def fnExactStripsUsedRow : OpenClaim := { program := "ytkhojcmonfagmac", sum := "a4dfd51b5f576f9e4f6efdbfd16973613868a51a47f955b688a6981dd08cf664", func := "loop.example/g03310/laws.FnExactStripsUsed", spec := "fnExactStripsUsed", unfollowed := true, recurses := true, leaving := true, apart := false }
def FnExactStripsUsedSaid : Prop := fnExactStripsUsedRow.holds Try.pinned (OpenSpec.ofChange fnExactStripsUsedSpec)

/-- ITS FALSE NEIGHBOUR: 'it returns false'. Refute it at one input. -/
def fnExactStripsUsedWrong : ChangeSpec := { name := "fnExactStripsUsed", fn := fun _ => fun
  | [d1, d2, d3] => { results := [.lit (.bool false)], args := [d1, d2, d3] }
  | _ => none }
def FnExactStripsUsedWrongFalsely : Prop := fnExactStripsUsedRow.holds Try.pinned (OpenSpec.ofChange fnExactStripsUsedWrong)

/- THE SECOND FORM. 'bulk': how many values and letters a reading holds, each counted each time it is reached (what is shared counts as often as it is met; a slice's spare places count too). A statement '..UptoSaid' is the law's where the arguments, and the package variables that the reading takes, are together of bulk at most 1048576: NARROWER than '..Said'. Prove '..Said' where nothing that the law and all that it calls make is longer than what came in: it says more and counts as full. Else prove '..UptoSaid'. A law counts once. -/
mutual
def uptoBulk {H : Type} : DataW H → Nat
  | .lit (.string bytes) => bytes.length + 1
  | .lit _ => 1
  | .nil => 1
  | .ptr d => uptoBulk d + 1
  | .slice elems spare => uptoBulkAll elems + uptoBulkAll spare + 1
  | .agg parts => uptoBulkAll parts + 1
  | .iface _ d => uptoBulk d + 1
  | .map entries => uptoBulkEntries entries + 1
  | .held _ => 1
def uptoBulkAll {H : Type} : List (DataW H) → Nat
  | [] => 0
  | d :: r => uptoBulk d + uptoBulkAll r
def uptoBulkEntries {H : Type} : List (Lit × DataW H) → Nat
  | [] => 0
  | x :: r => uptoBulkEntry x + uptoBulkEntries r
def uptoBulkEntry {H : Type} : Lit × DataW H → Nat
  | (.string bytes, d) => bytes.length + uptoBulk d + 1
  | (_, d) => uptoBulk d + 1
 end
def uptoSmall : (H : Type) → List (DataW H) → Bool := fun _ ds => decide (uptoBulkAll ds ≤ 1048576)
def OpenSpec.upto (s : _root_.Go.ChangeSpec) : _root_.Go.OpenSpec := { _root_.Go.OpenSpec.ofChange s with cond := some uptoSmall }

/-- 'laws.FnExactSortedParts', WHERE WHAT IT READS IS OF BULK AT MOST 1048576: true; the input reads as it did. -/
def fnExactSortedPartsUptoRow : OpenClaim := { program := "ytkhojcmonfagmac", sum := "a4dfd51b5f576f9e4f6efdbfd16973613868a51a47f955b688a6981dd08cf664", func := "loop.example/g03310/laws.FnExactSortedParts", spec := "fnExactSortedParts", unfollowed := true, recurses := true, leaving := true, apart := false, narrowed := true }
def FnExactSortedPartsUptoSaid : Prop := fnExactSortedPartsUptoRow.holds Try.pinned (OpenSpec.upto fnExactSortedPartsSpec)

/-- 'laws.FnExactLabelText', WHERE WHAT IT READS IS OF BULK AT MOST 1048576: true; the input reads as it did. -/
def fnExactLabelTextUptoRow : OpenClaim := { program := "ytkhojcmonfagmac", sum := "a4dfd51b5f576f9e4f6efdbfd16973613868a51a47f955b688a6981dd08cf664", func := "loop.example/g03310/laws.FnExactLabelText", spec := "fnExactLabelText", inPlace := ["internal/abi.NoEscape", "internal/bytealg.MakeNoZero"], unfollowed := true, recurses := true, leaving := true, apart := false, narrowed := true }
def FnExactLabelTextUptoSaid : Prop := fnExactLabelTextUptoRow.holds Try.pinned (OpenSpec.upto fnExactLabelTextSpec)

/-- 'laws.FnExactMustName', WHERE WHAT IT READS IS OF BULK AT MOST 1048576: true; the input reads as it did. -/
def fnExactMustNameUptoRow : OpenClaim := { program := "ytkhojcmonfagmac", sum := "a4dfd51b5f576f9e4f6efdbfd16973613868a51a47f955b688a6981dd08cf664", func := "loop.example/g03310/laws.FnExactMustName", spec := "fnExactMustName", unfollowed := true, recurses := true, leaving := true, apart := false, narrowed := true }
def FnExactMustNameUptoSaid : Prop := fnExactMustNameUptoRow.holds Try.pinned (OpenSpec.upto fnExactMustNameSpec)

/-- 'laws.FnSheets', WHERE WHAT IT READS IS OF BULK AT MOST 1048576: true; the input reads as it did. -/
def fnSheetsUptoRow : OpenClaim := { program := "ytkhojcmonfagmac", sum := "a4dfd51b5f576f9e4f6efdbfd16973613868a51a47f955b688a6981dd08cf664", func := "loop.example/g03310/laws.FnSheets", spec := "fnSheets", inPlace := ["(*sync.WaitGroup).Add", "internal/race.ReleaseMerge", "internal/race.Disable", "internal/race.Enable", "internal/synctest.IsInBubble", "internal/synctest.Associate[sync.WaitGroup]", "sync.fatal", "sync/atomic.OrUint64", "sync/atomic.AddUint64", "internal/race.Read", "sync/atomic.LoadUint64", "sync/atomic.StoreUint64", "internal/synctest.Disassociate[sync.WaitGroup]", "sync.runtime_Semrelease", "(*sync.WaitGroup).Done", "(*sync.WaitGroup).Wait", "internal/race.Acquire", "internal/synctest.IsAssociated[sync.WaitGroup]", "sync/atomic.CompareAndSwapUint64", "internal/race.Write", "sync.runtime_SemacquireWaitGroup"], unfollowed := true, recurses := true, leaving := true, apart := false, narrowed := true }
def FnSheetsUptoSaid : Prop := fnSheetsUptoRow.holds Try.pinned (OpenSpec.upto fnSheetsSpec)

/-- 'laws.FnExactLengthsOk', WHERE WHAT IT READS IS OF BULK AT MOST 1048576: true; the input reads as it did. -/
def fnExactLengthsOkUptoRow : OpenClaim := { program := "ytkhojcmonfagmac", sum := "a4dfd51b5f576f9e4f6efdbfd16973613868a51a47f955b688a6981dd08cf664", func := "loop.example/g03310/laws.FnExactLengthsOk", spec := "fnExactLengthsOk", apart := false, narrowed := true }
def FnExactLengthsOkUptoSaid : Prop := fnExactLengthsOkUptoRow.holds Try.pinned (OpenSpec.upto fnExactLengthsOkSpec)

/-- 'laws.FnExactStripsUsed', WHERE WHAT IT READS IS OF BULK AT MOST 1048576: true; the input reads as it did. -/
def fnExactStripsUsedUptoRow : OpenClaim := { program := "ytkhojcmonfagmac", sum := "a4dfd51b5f576f9e4f6efdbfd16973613868a51a47f955b688a6981dd08cf664", func := "loop.example/g03310/laws.FnExactStripsUsed", spec := "fnExactStripsUsed", unfollowed := true, recurses := true, leaving := true, apart := false, narrowed := true }
def FnExactStripsUsedUptoSaid : Prop := fnExactStripsUsedUptoRow.holds Try.pinned (OpenSpec.upto fnExactStripsUsedSpec)

end Rows
end Go.Proofs.Ytkhojcmonfagmac
