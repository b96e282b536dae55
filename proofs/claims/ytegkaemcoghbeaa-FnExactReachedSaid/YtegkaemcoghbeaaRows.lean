/-
  No cell of these rows narrows 'for every input' (looked for: loops, veiled, ifaces, maps, wideKeys, modest, calm, conditions, laid).
  DERIVED. THE GIVEN ROWS OF THIS SEAT. 6 by the template 'for every input the law returns true; each argument reads behind the call as it read before'; 0 by the template 'total and deterministic' (their statements: YtegkaemcoghbeaaTotals.lean).
  GIVEN WITH THE SEED: the statements are not yours to turn. If you find one false, say at which input.
  Laid BY PROGRAM, IN A SANDBOX (cutbox-rows.mjs): the forced cells as the released guide's own fill.sh prints them over the translation 0c13d00e2e3a6177… (all of the seat's roots in one cut). By AI agents, Wed Nov 11 2026. No macro, syntax, notation, axiom, sorry.
-/
import Derived.Test.YtegkaemcoghbeaaChecked
import GoSem.Claim
import GoSem.ClaimJoined
import GoSem.ClaimMapViews
import Derived.JoinedTies
import Derived.KernelRfl
namespace Go.Proofs.Ytegkaemcoghbeaa
/- THE CELL 'sum', in the pinned program and in every row, IS THE sha256 OF THE DUMP (.gsa) THAT YtegkaemcoghbeaaProg.lean LOADS. Nothing in Lean hashes anything: it is a label: what it is worth is what the hold of that sum in a sandbox is worth. -/
noncomputable def Try.pinned : Pinned := { name := "ytegkaemcoghbeaa", sum := "0c13d00e2e3a61777ddd6117589d2682f34702377110b68ecb310c2400aed172", checked := Try.checked }
namespace Rows
def none {H : Type} : Left H := { results := [], args := [] }

/-- 'laws.FnExactBreadsOf': WHATEVER THE INPUT: true; the input reads as it did. -/
def fnExactBreadsOfSpec : ChangeSpec := { name := "fnExactBreadsOf", fn := fun _ => fun
  | [d1, d2] => { results := [.lit (.bool true)], args := [d1, d2] }
  | _ => none }
def fnExactBreadsOfRow : OpenClaim := { program := "ytegkaemcoghbeaa", sum := "0c13d00e2e3a61777ddd6117589d2682f34702377110b68ecb310c2400aed172", func := "loop.example/g03310/laws.FnExactBreadsOf", spec := "fnExactBreadsOf", unfollowed := true, recurses := true, apart := false }
def FnExactBreadsOfSaid : Prop := fnExactBreadsOfRow.holds Try.pinned (OpenSpec.ofChange fnExactBreadsOfSpec)

/-- ITS FALSE NEIGHBOUR: 'it returns false'. Refute it at one input. -/
def fnExactBreadsOfWrong : ChangeSpec := { name := "fnExactBreadsOf", fn := fun _ => fun
  | [d1, d2] => { results := [.lit (.bool false)], args := [d1, d2] }
  | _ => none }
def FnExactBreadsOfWrongFalsely : Prop := fnExactBreadsOfRow.holds Try.pinned (OpenSpec.ofChange fnExactBreadsOfWrong)

/-- 'laws.FnExactLotsOf': WHATEVER THE INPUT: true; the input reads as it did. -/
def fnExactLotsOfSpec : ChangeSpec := { name := "fnExactLotsOf", fn := fun _ => fun
  | [d1, d2] => { results := [.lit (.bool true)], args := [d1, d2] }
  | _ => none }
def fnExactLotsOfRow : OpenClaim := { program := "ytegkaemcoghbeaa", sum := "0c13d00e2e3a61777ddd6117589d2682f34702377110b68ecb310c2400aed172", func := "loop.example/g03310/laws.FnExactLotsOf", spec := "fnExactLotsOf", unfollowed := true, recurses := true, apart := false }
def FnExactLotsOfSaid : Prop := fnExactLotsOfRow.holds Try.pinned (OpenSpec.ofChange fnExactLotsOfSpec)

/-- ITS FALSE NEIGHBOUR: 'it returns false'. Refute it at one input. -/
def fnExactLotsOfWrong : ChangeSpec := { name := "fnExactLotsOf", fn := fun _ => fun
  | [d1, d2] => { results := [.lit (.bool false)], args := [d1, d2] }
  | _ => none }
def FnExactLotsOfWrongFalsely : Prop := fnExactLotsOfRow.holds Try.pinned (OpenSpec.ofChange fnExactLotsOfWrong)

/-- 'laws.FnExactReached': WHATEVER THE INPUT: true; the input reads as it did. -/
def fnExactReachedSpec : ChangeSpec := { name := "fnExactReached", fn := fun _ => fun
  | [d1, d2] => { results := [.lit (.bool true)], args := [d1, d2] }
  | _ => none }
def fnExactReachedRow : OpenClaim := { program := "ytegkaemcoghbeaa", sum := "0c13d00e2e3a61777ddd6117589d2682f34702377110b68ecb310c2400aed172", func := "loop.example/g03310/laws.FnExactReached", spec := "fnExactReached", unfollowed := true, recurses := true, apart := false }
def FnExactReachedSaid : Prop := fnExactReachedRow.holds Try.pinned (OpenSpec.ofChange fnExactReachedSpec)

/-- ITS FALSE NEIGHBOUR: 'it returns false'. Refute it at one input. -/
def fnExactReachedWrong : ChangeSpec := { name := "fnExactReached", fn := fun _ => fun
  | [d1, d2] => { results := [.lit (.bool false)], args := [d1, d2] }
  | _ => none }
def FnExactReachedWrongFalsely : Prop := fnExactReachedRow.holds Try.pinned (OpenSpec.ofChange fnExactReachedWrong)

/-- 'laws.FnExactSuspects': WHATEVER THE INPUT: true; the input reads as it did. -/
def fnExactSuspectsSpec : ChangeSpec := { name := "fnExactSuspects", fn := fun _ => fun
  | [d1, d2] => { results := [.lit (.bool true)], args := [d1, d2] }
  | _ => none }
def fnExactSuspectsRow : OpenClaim := { program := "ytegkaemcoghbeaa", sum := "0c13d00e2e3a61777ddd6117589d2682f34702377110b68ecb310c2400aed172", func := "loop.example/g03310/laws.FnExactSuspects", spec := "fnExactSuspects", unfollowed := true, recurses := true, apart := false }
def FnExactSuspectsSaid : Prop := fnExactSuspectsRow.holds Try.pinned (OpenSpec.ofChange fnExactSuspectsSpec)

/-- ITS FALSE NEIGHBOUR: 'it returns false'. Refute it at one input. -/
def fnExactSuspectsWrong : ChangeSpec := { name := "fnExactSuspects", fn := fun _ => fun
  | [d1, d2] => { results := [.lit (.bool false)], args := [d1, d2] }
  | _ => none }
def FnExactSuspectsWrongFalsely : Prop := fnExactSuspectsRow.holds Try.pinned (OpenSpec.ofChange fnExactSuspectsWrong)

/-- 'laws.FnExactJoinSame': WHATEVER THE INPUT: true; the input reads as it did. -/
def fnExactJoinSameSpec : ChangeSpec := { name := "fnExactJoinSame", fn := fun _ => fun
  | [d] => { results := [.lit (.bool true)], args := [d] }
  | _ => none }
def fnExactJoinSameRow : OpenClaim := { program := "ytegkaemcoghbeaa", sum := "0c13d00e2e3a61777ddd6117589d2682f34702377110b68ecb310c2400aed172", func := "loop.example/g03310/laws.FnExactJoinSame", spec := "fnExactJoinSame", unfollowed := true, recurses := true, apart := false }
def FnExactJoinSameSaid : Prop := fnExactJoinSameRow.holds Try.pinned (OpenSpec.ofChange fnExactJoinSameSpec)

/-- ITS FALSE NEIGHBOUR: 'it returns false'. Refute it at one input. -/
def fnExactJoinSameWrong : ChangeSpec := { name := "fnExactJoinSame", fn := fun _ => fun
  | [d] => { results := [.lit (.bool false)], args := [d] }
  | _ => none }
def FnExactJoinSameWrongFalsely : Prop := fnExactJoinSameRow.holds Try.pinned (OpenSpec.ofChange fnExactJoinSameWrong)

/-- 'laws.FnExactMostShifts': WHATEVER THE INPUT: true; the input reads as it did. -/
def fnExactMostShiftsSpec : ChangeSpec := { name := "fnExactMostShifts", fn := fun _ => fun
  | [d1, d2] => { results := [.lit (.bool true)], args := [d1, d2] }
  | _ => none }
def fnExactMostShiftsRow : OpenClaim := { program := "ytegkaemcoghbeaa", sum := "0c13d00e2e3a61777ddd6117589d2682f34702377110b68ecb310c2400aed172", func := "loop.example/g03310/laws.FnExactMostShifts", spec := "fnExactMostShifts", apart := false }
def FnExactMostShiftsSaid : Prop := fnExactMostShiftsRow.holds Try.pinned (OpenSpec.ofChange fnExactMostShiftsSpec)

/-- ITS FALSE NEIGHBOUR: 'it returns false'. Refute it at one input. -/
def fnExactMostShiftsWrong : ChangeSpec := { name := "fnExactMostShifts", fn := fun _ => fun
  | [d1, d2] => { results := [.lit (.bool false)], args := [d1, d2] }
  | _ => none }
def FnExactMostShiftsWrongFalsely : Prop := fnExactMostShiftsRow.holds Try.pinned (OpenSpec.ofChange fnExactMostShiftsWrong)

/- THE SECOND FORM. 'bulk': how many values and letters a reading holds, each counted each time it is reached (what is shared counts as often as it is met; a slice's spare places count too). A statement '..UptoSaid' is the law's where the arguments, and the package variables that the reading takes, are together of bulk at most 1048576: NARROWER than '..Said'. Prove '..Said' where nothing that the law and all that it calls make is longer than what came in: it says more and counts as full. Else prove '..UptoSaid'. A law counts once. -/
mutual
def uptoBulk {H : Type} : DataW H → Nat
  | .lit (.string bytes) => bytes.length + 1
  | .lit _ => 1
  | .nil => 1
  | .ptr d => uptoBulk d + 1
  | .slice elems spare => uptoBulkAll elems + uptoBulkAll spare + 1
  | .agg parts => uptoBulkAll parts + 1
  | .iface _ d => uptoBulk d + 1
  | .map entries => uptoBulkEntries entries + 1
  | .held _ => 1
def uptoBulkAll {H : Type} : List (DataW H) → Nat
  | [] => 0
  | d :: r => uptoBulk d + uptoBulkAll r
def uptoBulkEntries {H : Type} : List (Lit × DataW H) → Nat
  | [] => 0
  | x :: r => uptoBulkEntry x + uptoBulkEntries r
def uptoBulkEntry {H : Type} : Lit × DataW H → Nat
  | (.string bytes, d) => bytes.length + uptoBulk d + 1
  | (_, d) => uptoBulk d + 1
 end
def uptoSmall : (H : Type) → List (DataW H) → Bool := fun _ ds => decide (uptoBulkAll ds ≤ 1048576)
def OpenSpec.upto (s : _root_.Go.ChangeSpec) : _root_.Go.OpenSpec := { _root_.Go.OpenSpec.ofChange s with cond := some uptoSmall }

/-- 'laws.FnExactBreadsOf', WHERE WHAT IT READS IS OF BULK AT MOST 1048576: true; the input reads as it did. -/
def fnExactBreadsOfUptoRow : OpenClaim := { program := "ytegkaemcoghbeaa", sum := "0c13d00e2e3a61777ddd6117589d2682f34702377110b68ecb310c2400aed172", func := "loop.example/g03310/laws.FnExactBreadsOf", spec := "fnExactBreadsOf", unfollowed := true, recurses := true, apart := false, narrowed := true }
def FnExactBreadsOfUptoSaid : Prop := fnExactBreadsOfUptoRow.holds Try.pinned (OpenSpec.upto fnExactBreadsOfSpec)

/-- 'laws.FnExactLotsOf', WHERE WHAT IT READS IS OF BULK AT MOST 1048576: true; the input reads as it did. -/
def fnExactLotsOfUptoRow : OpenClaim := { program := "ytegkaemcoghbeaa", sum := "0c13d00e2e3a61777ddd6117589d2682f34702377110b68ecb310c2400aed172", func := "loop.example/g03310/laws.FnExactLotsOf", spec := "fnExactLotsOf", unfollowed := true, recurses := true, apart := false, narrowed := true }
def FnExactLotsOfUptoSaid : Prop := fnExactLotsOfUptoRow.holds Try.pinned (OpenSpec.upto fnExactLotsOfSpec)

/-- 'laws.FnExactReached', WHERE WHAT IT READS IS OF BULK AT MOST 1048576: true; the input reads as it did. -/
def fnExactReachedUptoRow : OpenClaim := { program := "ytegkaemcoghbeaa", sum := "0c13d00e2e3a61777ddd6117589d2682f34702377110b68ecb310c2400aed172", func := "loop.example/g03310/laws.FnExactReached", spec := "fnExactReached", unfollowed := true, recurses := true, apart := false, narrowed := true }
def FnExactReachedUptoSaid : Prop := fnExactReachedUptoRow.holds Try.pinned (OpenSpec.upto fnExactReachedSpec)

/-- 'laws.FnExactSuspects', WHERE WHAT IT READS IS OF BULK AT MOST 1048576: true; the input reads as it did. -/
def fnExactSuspectsUptoRow : OpenClaim := { program := "ytegkaemcoghbeaa", sum := "0c13d00e2e3a61777ddd6117589d2682f34702377110b68ecb310c2400aed172", func := "loop.example/g03310/laws.FnExactSuspects", spec := "fnExactSuspects", unfollowed := true, recurses := true, apart := false, narrowed := true }
def FnExactSuspectsUptoSaid : Prop := fnExactSuspectsUptoRow.holds Try.pinned (OpenSpec.upto fnExactSuspectsSpec)

/-- 'laws.FnExactJoinSame', WHERE WHAT IT READS IS OF BULK AT MOST 1048576: true; the input reads as it did. -/
def fnExactJoinSameUptoRow : OpenClaim := { program := "ytegkaemcoghbeaa", sum := "0c13d00e2e3a61777ddd6117589d2682f34702377110b68ecb310c2400aed172", func := "loop.example/g03310/laws.FnExactJoinSame", spec := "fnExactJoinSame", unfollowed := true, recurses := true, apart := false, narrowed := true }
def FnExactJoinSameUptoSaid : Prop := fnExactJoinSameUptoRow.holds Try.pinned (OpenSpec.upto fnExactJoinSameSpec)

/-- 'laws.FnExactMostShifts', WHERE WHAT IT READS IS OF BULK AT MOST 1048576: true; the input reads as it did. -/
def fnExactMostShiftsUptoRow : OpenClaim := { program := "ytegkaemcoghbeaa", sum := "0c13d00e2e3a61777ddd6117589d2682f34702377110b68ecb310c2400aed172", func := "loop.example/g03310/laws.FnExactMostShifts", spec := "fnExactMostShifts", apart := false, narrowed := true }
def FnExactMostShiftsUptoSaid : Prop := fnExactMostShiftsUptoRow.holds Try.pinned (OpenSpec.upto fnExactMostShiftsSpec)

end Rows
end Go.Proofs.Ytegkaemcoghbeaa
