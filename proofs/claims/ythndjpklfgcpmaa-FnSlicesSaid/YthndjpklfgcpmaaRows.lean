/-
  No cell of these rows narrows 'for every input' (looked for: loops, veiled, ifaces, maps, wideKeys, modest, calm, conditions, laid).
  DERIVED. THE GIVEN ROWS OF THIS SEAT. 8 by the template 'for every input the law returns true; each argument reads behind the call as it read before'; 0 by the template 'total and deterministic' (their statements: YthndjpklfgcpmaaTotals.lean).
  GIVEN WITH THE SEED: the statements are not yours to turn. If you find one false, say at which input.
  Laid BY PROGRAM, IN A SANDBOX (cutbox-rows.mjs): the forced cells as the released guide's own fill.sh prints them over the translation 9a92383f306808f8… (all of the seat's roots in one cut). By AI agents, Wed Nov 11 2026. No macro, syntax, notation, axiom, sorry.
-/
import Derived.Test.YthndjpklfgcpmaaChecked
import GoSem.Claim
import GoSem.ClaimJoined
import GoSem.ClaimMapViews
import Derived.JoinedTies
import Derived.KernelRfl
namespace Go.Proofs.Ythndjpklfgcpmaa
/- THE CELL 'sum', in the pinned program and in every row, IS THE sha256 OF THE DUMP (.gsa) THAT YthndjpklfgcpmaaProg.lean LOADS. Nothing in Lean hashes anything: it is a label: what it is worth is what the hold of that sum in a sandbox is worth. -/
noncomputable def Try.pinned : Pinned := { name := "ythndjpklfgcpmaa", sum := "9a92383f306808f8a1329837b0764d7f99202b7e8d15d744743669ff4398eb29", checked := Try.checked }
namespace Rows
def none {H : Type} : Left H := { results := [], args := [] }

/-- 'laws.FnExactEvenSlices': WHATEVER THE INPUT: true; the input reads as it did. -/
def fnExactEvenSlicesSpec : ChangeSpec := { name := "fnExactEvenSlices", fn := fun _ => fun
  | [d1, d2] => { results := [.lit (.bool true)], args := [d1, d2] }
  | _ => none }
def fnExactEvenSlicesRow : OpenClaim := { program := "ythndjpklfgcpmaa", sum := "9a92383f306808f8a1329837b0764d7f99202b7e8d15d744743669ff4398eb29", func := "loop.example/g03310/laws.FnExactEvenSlices", spec := "fnExactEvenSlices", unfollowed := true, recurses := true, apart := false }
def FnExactEvenSlicesSaid : Prop := fnExactEvenSlicesRow.holds Try.pinned (OpenSpec.ofChange fnExactEvenSlicesSpec)

/-- ITS FALSE NEIGHBOUR: 'it returns false'. Refute it at one input. -/
def fnExactEvenSlicesWrong : ChangeSpec := { name := "fnExactEvenSlices", fn := fun _ => fun
  | [d1, d2] => { results := [.lit (.bool false)], args := [d1, d2] }
  | _ => none }
def FnExactEvenSlicesWrongFalsely : Prop := fnExactEvenSlicesRow.holds Try.pinned (OpenSpec.ofChange fnExactEvenSlicesWrong)

/-- 'laws.FnExactCutsNeeded': WHATEVER THE INPUT: true; the input reads as it did. -/
def fnExactCutsNeededSpec : ChangeSpec := { name := "fnExactCutsNeeded", fn := fun _ => fun
  | [d1, d2] => { results := [.lit (.bool true)], args := [d1, d2] }
  | _ => none }
def fnExactCutsNeededRow : OpenClaim := { program := "ythndjpklfgcpmaa", sum := "9a92383f306808f8a1329837b0764d7f99202b7e8d15d744743669ff4398eb29", func := "loop.example/g03310/laws.FnExactCutsNeeded", spec := "fnExactCutsNeeded", unfollowed := true, recurses := true, apart := false }
def FnExactCutsNeededSaid : Prop := fnExactCutsNeededRow.holds Try.pinned (OpenSpec.ofChange fnExactCutsNeededSpec)

/-- ITS FALSE NEIGHBOUR: 'it returns false'. Refute it at one input. -/
def fnExactCutsNeededWrong : ChangeSpec := { name := "fnExactCutsNeeded", fn := fun _ => fun
  | [d1, d2] => { results := [.lit (.bool false)], args := [d1, d2] }
  | _ => none }
def FnExactCutsNeededWrongFalsely : Prop := fnExactCutsNeededRow.holds Try.pinned (OpenSpec.ofChange fnExactCutsNeededWrong)

/-- 'laws.FnSlices': WHATEVER THE INPUT: true; the input reads as it did. -/
def fnSlicesSpec : ChangeSpec := { name := "fnSlices", fn := fun _ => fun
  | [d] => { results := [.lit (.bool true)], args := [d] }
  | _ => none }
def fnSlicesRow : OpenClaim := { program := "ythndjpklfgcpmaa", sum := "9a92383f306808f8a1329837b0764d7f99202b7e8d15d744743669ff4398eb29", func := "loop.example/g03310/laws.FnSlices", spec := "fnSlices", unfollowed := true, recurses := true, apart := false }
def FnSlicesSaid : Prop := fnSlicesRow.holds Try.pinned (OpenSpec.ofChange fnSlicesSpec)

/-- ITS FALSE NEIGHBOUR: 'it returns false'. Refute it at one input. -/
def fnSlicesWrong : ChangeSpec := { name := "fnSlices", fn := fun _ => fun
  | [d] => { results := [.lit (.bool false)], args := [d] }
  | _ => none }
def FnSlicesWrongFalsely : Prop := fnSlicesRow.holds Try.pinned (OpenSpec.ofChange fnSlicesWrong)

/-- 'laws.FnShifts': WHATEVER THE INPUT: true; the input reads as it did. -/
def fnShiftsSpec : ChangeSpec := { name := "fnShifts", fn := fun _ => fun
  | [d] => { results := [.lit (.bool true)], args := [d] }
  | _ => none }
def fnShiftsRow : OpenClaim := { program := "ythndjpklfgcpmaa", sum := "9a92383f306808f8a1329837b0764d7f99202b7e8d15d744743669ff4398eb29", func := "loop.example/g03310/laws.FnShifts", spec := "fnShifts", apart := false }
def FnShiftsSaid : Prop := fnShiftsRow.holds Try.pinned (OpenSpec.ofChange fnShiftsSpec)

/-- ITS FALSE NEIGHBOUR: 'it returns false'. Refute it at one input. -/
def fnShiftsWrong : ChangeSpec := { name := "fnShifts", fn := fun _ => fun
  | [d] => { results := [.lit (.bool false)], args := [d] }
  | _ => none }
def FnShiftsWrongFalsely : Prop := fnShiftsRow.holds Try.pinned (OpenSpec.ofChange fnShiftsWrong)

/-- 'laws.FnExactPeakPower': WHATEVER THE INPUT: true; the input reads as it did. -/
def fnExactPeakPowerSpec : ChangeSpec := { name := "fnExactPeakPower", fn := fun _ => fun
  | [d] => { results := [.lit (.bool true)], args := [d] }
  | _ => none }
def fnExactPeakPowerRow : OpenClaim := { program := "ythndjpklfgcpmaa", sum := "9a92383f306808f8a1329837b0764d7f99202b7e8d15d744743669ff4398eb29", func := "loop.example/g03310/laws.FnExactPeakPower", spec := "fnExactPeakPower", apart := false }
def FnExactPeakPowerSaid : Prop := fnExactPeakPowerRow.holds Try.pinned (OpenSpec.ofChange fnExactPeakPowerSpec)

/-- ITS FALSE NEIGHBOUR: 'it returns false'. Refute it at one input. -/
def fnExactPeakPowerWrong : ChangeSpec := { name := "fnExactPeakPower", fn := fun _ => fun
  | [d] => { results := [.lit (.bool false)], args := [d] }
  | _ => none }
def FnExactPeakPowerWrongFalsely : Prop := fnExactPeakPowerRow.holds Try.pinned (OpenSpec.ofChange fnExactPeakPowerWrong)

/-- 'laws.FnExactOverTimes': WHATEVER THE INPUT: true; the input reads as it did. -/
def fnExactOverTimesSpec : ChangeSpec := { name := "fnExactOverTimes", fn := fun _ => fun
  | [d1, d2] => { results := [.lit (.bool true)], args := [d1, d2] }
  | _ => none }
def fnExactOverTimesRow : OpenClaim := { program := "ythndjpklfgcpmaa", sum := "9a92383f306808f8a1329837b0764d7f99202b7e8d15d744743669ff4398eb29", func := "loop.example/g03310/laws.FnExactOverTimes", spec := "fnExactOverTimes", apart := false }
def FnExactOverTimesSaid : Prop := fnExactOverTimesRow.holds Try.pinned (OpenSpec.ofChange fnExactOverTimesSpec)

/-- ITS FALSE NEIGHBOUR: 'it returns false'. Refute it at one input. -/
def fnExactOverTimesWrong : ChangeSpec := { name := "fnExactOverTimes", fn := fun _ => fun
  | [d1, d2] => { results := [.lit (.bool false)], args := [d1, d2] }
  | _ => none }
def FnExactOverTimesWrongFalsely : Prop := fnExactOverTimesRow.holds Try.pinned (OpenSpec.ofChange fnExactOverTimesWrong)

/-- 'laws.FnExactBestStart': WHATEVER THE INPUT: true; the input reads as it did. -/
def fnExactBestStartSpec : ChangeSpec := { name := "fnExactBestStart", fn := fun _ => fun
  | [d1, d2, d3] => { results := [.lit (.bool true)], args := [d1, d2, d3] }
  | _ => none }
def fnExactBestStartRow : OpenClaim := { program := "ythndjpklfgcpmaa", sum := "9a92383f306808f8a1329837b0764d7f99202b7e8d15d744743669ff4398eb29", func := "loop.example/g03310/laws.FnExactBestStart", spec := "fnExactBestStart", apart := false }
def FnExactBestStartSaid : Prop := fnExactBestStartRow.holds Try.pinned (OpenSpec.ofChange fnExactBestStartSpec)

/-- ITS FALSE NEIGHBOUR: 'it returns false'. Refute it at one input. -/
def fnExactBestStartWrong : ChangeSpec := { name := "fnExactBestStart", fn := fun _ => fun
  | [d1, d2, d3] => { results := [.lit (.bool false)], args := [d1, d2, d3] }
  | _ => none }
def FnExactBestStartWrongFalsely : Prop := fnExactBestStartRow.holds Try.pinned (OpenSpec.ofChange fnExactBestStartWrong)

/-- 'laws.FnPowers': WHATEVER THE INPUT: true; the input reads as it did. -/
def fnPowersSpec : ChangeSpec := { name := "fnPowers", fn := fun _ => fun
  | [d] => { results := [.lit (.bool true)], args := [d] }
  | _ => none }
def fnPowersRow : OpenClaim := { program := "ythndjpklfgcpmaa", sum := "9a92383f306808f8a1329837b0764d7f99202b7e8d15d744743669ff4398eb29", func := "loop.example/g03310/laws.FnPowers", spec := "fnPowers", apart := false }
def FnPowersSaid : Prop := fnPowersRow.holds Try.pinned (OpenSpec.ofChange fnPowersSpec)

/-- ITS FALSE NEIGHBOUR: 'it returns false'. Refute it at one input. -/
def fnPowersWrong : ChangeSpec := { name := "fnPowers", fn := fun _ => fun
  | [d] => { results := [.lit (.bool false)], args := [d] }
  | _ => none }
def FnPowersWrongFalsely : Prop := fnPowersRow.holds Try.pinned (OpenSpec.ofChange fnPowersWrong)

/- THE SECOND FORM. 'bulk': how many values and letters a reading holds, each counted each time it is reached (what is shared counts as often as it is met; a slice's spare places count too). A statement '..UptoSaid' is the law's where the arguments, and the package variables that the reading takes, are together of bulk at most 1048576: NARROWER than '..Said'. Prove '..Said' where nothing that the law and all that it calls make is longer than what came in: it says more and counts as full. Else prove '..UptoSaid'. A law counts once. -/
mutual
def uptoBulk {H : Type} : DataW H → Nat
  | .lit (.string bytes) => bytes.length + 1
  | .lit _ => 1
  | .nil => 1
  | .ptr d => uptoBulk d + 1
  | .slice elems spare => uptoBulkAll elems + uptoBulkAll spare + 1
  | .agg parts => uptoBulkAll parts + 1
  | .iface _ d => uptoBulk d + 1
  | .map entries => uptoBulkEntries entries + 1
  | .held _ => 1
def uptoBulkAll {H : Type} : List (DataW H) → Nat
  | [] => 0
  | d :: r => uptoBulk d + uptoBulkAll r
def uptoBulkEntries {H : Type} : List (Lit × DataW H) → Nat
  | [] => 0
  | x :: r => uptoBulkEntry x + uptoBulkEntries r
def uptoBulkEntry {H : Type} : Lit × DataW H → Nat
  | (.string bytes, d) => bytes.length + uptoBulk d + 1
  | (_, d) => uptoBulk d + 1
 end
def uptoSmall : (H : Type) → List (DataW H) → Bool := fun _ ds => decide (uptoBulkAll ds ≤ 1048576)
def OpenSpec.upto (s : _root_.Go.ChangeSpec) : _root_.Go.OpenSpec := { _root_.Go.OpenSpec.ofChange s with cond := some uptoSmall }

/-- 'laws.FnExactEvenSlices', WHERE WHAT IT READS IS OF BULK AT MOST 1048576: true; the input reads as it did. -/
def fnExactEvenSlicesUptoRow : OpenClaim := { program := "ythndjpklfgcpmaa", sum := "9a92383f306808f8a1329837b0764d7f99202b7e8d15d744743669ff4398eb29", func := "loop.example/g03310/laws.FnExactEvenSlices", spec := "fnExactEvenSlices", unfollowed := true, recurses := true, apart := false, narrowed := true }
def FnExactEvenSlicesUptoSaid : Prop := fnExactEvenSlicesUptoRow.holds Try.pinned (OpenSpec.upto fnExactEvenSlicesSpec)

/-- 'laws.FnExactCutsNeeded', WHERE WHAT IT READS IS OF BULK AT MOST 1048576: true; the input reads as it did. -/
def fnExactCutsNeededUptoRow : OpenClaim := { program := "ythndjpklfgcpmaa", sum := "9a92383f306808f8a1329837b0764d7f99202b7e8d15d744743669ff4398eb29", func := "loop.example/g03310/laws.FnExactCutsNeeded", spec := "fnExactCutsNeeded", unfollowed := true, recurses := true, apart := false, narrowed := true }
def FnExactCutsNeededUptoSaid : Prop := fnExactCutsNeededUptoRow.holds Try.pinned (OpenSpec.upto fnExactCutsNeededSpec)

/-- 'laws.FnSlices', WHERE WHAT IT READS IS OF BULK AT MOST 1048576: true; the input reads as it did. -/
def fnSlicesUptoRow : OpenClaim := { program := "ythndjpklfgcpmaa", sum := "9a92383f306808f8a1329837b0764d7f99202b7e8d15d744743669ff4398eb29", func := "loop.example/g03310/laws.FnSlices", spec := "fnSlices", unfollowed := true, recurses := true, apart := false, narrowed := true }
def FnSlicesUptoSaid : Prop := fnSlicesUptoRow.holds Try.pinned (OpenSpec.upto fnSlicesSpec)

/-- 'laws.FnShifts', WHERE WHAT IT READS IS OF BULK AT MOST 1048576: true; the input reads as it did. -/
def fnShiftsUptoRow : OpenClaim := { program := "ythndjpklfgcpmaa", sum := "9a92383f306808f8a1329837b0764d7f99202b7e8d15d744743669ff4398eb29", func := "loop.example/g03310/laws.FnShifts", spec := "fnShifts", apart := false, narrowed := true }
def FnShiftsUptoSaid : Prop := fnShiftsUptoRow.holds Try.pinned (OpenSpec.upto fnShiftsSpec)

/-- 'laws.FnExactPeakPower', WHERE WHAT IT READS IS OF BULK AT MOST 1048576: true; the input reads as it did. -/
def fnExactPeakPowerUptoRow : OpenClaim := { program := "ythndjpklfgcpmaa", sum := "9a92383f306808f8a1329837b0764d7f99202b7e8d15d744743669ff4398eb29", func := "loop.example/g03310/laws.FnExactPeakPower", spec := "fnExactPeakPower", apart := false, narrowed := true }
def FnExactPeakPowerUptoSaid : Prop := fnExactPeakPowerUptoRow.holds Try.pinned (OpenSpec.upto fnExactPeakPowerSpec)

/-- 'laws.FnExactOverTimes', WHERE WHAT IT READS IS OF BULK AT MOST 1048576: true; the input reads as it did. -/
def fnExactOverTimesUptoRow : OpenClaim := { program := "ythndjpklfgcpmaa", sum := "9a92383f306808f8a1329837b0764d7f99202b7e8d15d744743669ff4398eb29", func := "loop.example/g03310/laws.FnExactOverTimes", spec := "fnExactOverTimes", apart := false, narrowed := true }
def FnExactOverTimesUptoSaid : Prop := fnExactOverTimesUptoRow.holds Try.pinned (OpenSpec.upto fnExactOverTimesSpec)

/-- 'laws.FnExactBestStart', WHERE WHAT IT READS IS OF BULK AT MOST 1048576: true; the input reads as it did. -/
def fnExactBestStartUptoRow : OpenClaim := { program := "ythndjpklfgcpmaa", sum := "9a92383f306808f8a1329837b0764d7f99202b7e8d15d744743669ff4398eb29", func := "loop.example/g03310/laws.FnExactBestStart", spec := "fnExactBestStart", apart := false, narrowed := true }
def FnExactBestStartUptoSaid : Prop := fnExactBestStartUptoRow.holds Try.pinned (OpenSpec.upto fnExactBestStartSpec)

/-- 'laws.FnPowers', WHERE WHAT IT READS IS OF BULK AT MOST 1048576: true; the input reads as it did. -/
def fnPowersUptoRow : OpenClaim := { program := "ythndjpklfgcpmaa", sum := "9a92383f306808f8a1329837b0764d7f99202b7e8d15d744743669ff4398eb29", func := "loop.example/g03310/laws.FnPowers", spec := "fnPowers", apart := false, narrowed := true }
def FnPowersUptoSaid : Prop := fnPowersUptoRow.holds Try.pinned (OpenSpec.upto fnPowersSpec)

end Rows
end Go.Proofs.Ythndjpklfgcpmaa
