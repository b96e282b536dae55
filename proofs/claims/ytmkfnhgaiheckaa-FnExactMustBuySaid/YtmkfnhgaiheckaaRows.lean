/-
  No cell of these rows narrows 'for every input' (looked for: loops, veiled, ifaces, maps, wideKeys, modest, calm, conditions, laid).
  DERIVED. THE GIVEN ROWS OF THIS SEAT. 12 by the template 'for every input the law returns true; each argument reads behind the call as it read before'; 0 by the template 'total and deterministic' (their statements: YtmkfnhgaiheckaaTotals.lean).
  GIVEN WITH THE SEED: the statements are not yours to turn. If you find one false, say at which input.
  Laid BY PROGRAM, IN A SANDBOX (cutbox-rows.mjs): the forced cells as the released guide's own fill.sh prints them over the translation f7eaf10382e55969… (all of the seat's roots in one cut). By AI agents, Wed Nov 11 2026. No macro, syntax, notation, axiom, sorry.
-/
import Derived.Test.YtmkfnhgaiheckaaChecked
import GoSem.Claim
import GoSem.ClaimJoined
import GoSem.ClaimMapViews
import Derived.JoinedTies
import Derived.KernelRfl
namespace Go.Proofs.Ytmkfnhgaiheckaa
/- THE CELL 'sum', in the pinned program and in every row, IS THE sha256 OF THE DUMP (.gsa) THAT YtmkfnhgaiheckaaProg.lean LOADS. Nothing in Lean hashes anything: it is a label: what it is worth is what the hold of that sum in a sandbox is worth. -/
noncomputable def Try.pinned : Pinned := { name := "ytmkfnhgaiheckaa", sum := "f7eaf10382e559696c8986beadb23246279c341d93ed34050609e5044823038a", checked := Try.checked }
namespace Rows
def none {H : Type} : Left H := { results := [], args := [] }

/-- 'laws.FnExactCommonPairs': WHATEVER THE INPUT: true; the input reads as it did. -/
def fnExactCommonPairsSpec : ChangeSpec := { name := "fnExactCommonPairs", fn := fun _ => fun
  | [d1, d2] => { results := [.lit (.bool true)], args := [d1, d2] }
  | _ => none }
def fnExactCommonPairsRow : OpenClaim := { program := "ytmkfnhgaiheckaa", sum := "f7eaf10382e559696c8986beadb23246279c341d93ed34050609e5044823038a", func := "loop.example/g03310/laws.FnExactCommonPairs", spec := "fnExactCommonPairs", apart := false }
def FnExactCommonPairsSaid : Prop := fnExactCommonPairsRow.holds Try.pinned (OpenSpec.ofChange fnExactCommonPairsSpec)

/-- ITS FALSE NEIGHBOUR: 'it returns false'. Refute it at one input. -/
def fnExactCommonPairsWrong : ChangeSpec := { name := "fnExactCommonPairs", fn := fun _ => fun
  | [d1, d2] => { results := [.lit (.bool false)], args := [d1, d2] }
  | _ => none }
def FnExactCommonPairsWrongFalsely : Prop := fnExactCommonPairsRow.holds Try.pinned (OpenSpec.ofChange fnExactCommonPairsWrong)

/-- 'laws.FnExactCheapestTwo': WHATEVER THE INPUT: true; the input reads as it did. -/
def fnExactCheapestTwoSpec : ChangeSpec := { name := "fnExactCheapestTwo", fn := fun _ => fun
  | [d1, d2, d3] => { results := [.lit (.bool true)], args := [d1, d2, d3] }
  | _ => none }
def fnExactCheapestTwoRow : OpenClaim := { program := "ytmkfnhgaiheckaa", sum := "f7eaf10382e559696c8986beadb23246279c341d93ed34050609e5044823038a", func := "loop.example/g03310/laws.FnExactCheapestTwo", spec := "fnExactCheapestTwo", apart := false }
def FnExactCheapestTwoSaid : Prop := fnExactCheapestTwoRow.holds Try.pinned (OpenSpec.ofChange fnExactCheapestTwoSpec)

/-- ITS FALSE NEIGHBOUR: 'it returns false'. Refute it at one input. -/
def fnExactCheapestTwoWrong : ChangeSpec := { name := "fnExactCheapestTwo", fn := fun _ => fun
  | [d1, d2, d3] => { results := [.lit (.bool false)], args := [d1, d2, d3] }
  | _ => none }
def FnExactCheapestTwoWrongFalsely : Prop := fnExactCheapestTwoRow.holds Try.pinned (OpenSpec.ofChange fnExactCheapestTwoWrong)

/-- 'laws.FnCakes': WHATEVER THE INPUT: true; the input reads as it did. -/
def fnCakesSpec : ChangeSpec := { name := "fnCakes", fn := fun _ => fun
  | [d] => { results := [.lit (.bool true)], args := [d] }
  | _ => none }
def fnCakesRow : OpenClaim := { program := "ytmkfnhgaiheckaa", sum := "f7eaf10382e559696c8986beadb23246279c341d93ed34050609e5044823038a", func := "loop.example/g03310/laws.FnCakes", spec := "fnCakes", unfollowed := true, recurses := true, apart := false }
def FnCakesSaid : Prop := fnCakesRow.holds Try.pinned (OpenSpec.ofChange fnCakesSpec)

/-- ITS FALSE NEIGHBOUR: 'it returns false'. Refute it at one input. -/
def fnCakesWrong : ChangeSpec := { name := "fnCakes", fn := fun _ => fun
  | [d] => { results := [.lit (.bool false)], args := [d] }
  | _ => none }
def FnCakesWrongFalsely : Prop := fnCakesRow.holds Try.pinned (OpenSpec.ofChange fnCakesWrong)

/-- 'laws.FnBlends': WHATEVER THE INPUT: true; the input reads as it did. -/
def fnBlendsSpec : ChangeSpec := { name := "fnBlends", fn := fun _ => fun
  | [d] => { results := [.lit (.bool true)], args := [d] }
  | _ => none }
def fnBlendsRow : OpenClaim := { program := "ytmkfnhgaiheckaa", sum := "f7eaf10382e559696c8986beadb23246279c341d93ed34050609e5044823038a", func := "loop.example/g03310/laws.FnBlends", spec := "fnBlends", unfollowed := true, recurses := true, apart := false }
def FnBlendsSaid : Prop := fnBlendsRow.holds Try.pinned (OpenSpec.ofChange fnBlendsSpec)

/-- ITS FALSE NEIGHBOUR: 'it returns false'. Refute it at one input. -/
def fnBlendsWrong : ChangeSpec := { name := "fnBlends", fn := fun _ => fun
  | [d] => { results := [.lit (.bool false)], args := [d] }
  | _ => none }
def FnBlendsWrongFalsely : Prop := fnBlendsRow.holds Try.pinned (OpenSpec.ofChange fnBlendsWrong)

/-- 'laws.FnSkills': WHATEVER THE INPUT: true; the input reads as it did. -/
def fnSkillsSpec : ChangeSpec := { name := "fnSkills", fn := fun _ => fun
  | [d] => { results := [.lit (.bool true)], args := [d] }
  | _ => none }
def fnSkillsRow : OpenClaim := { program := "ytmkfnhgaiheckaa", sum := "f7eaf10382e559696c8986beadb23246279c341d93ed34050609e5044823038a", func := "loop.example/g03310/laws.FnSkills", spec := "fnSkills", apart := false }
def FnSkillsSaid : Prop := fnSkillsRow.holds Try.pinned (OpenSpec.ofChange fnSkillsSpec)

/-- ITS FALSE NEIGHBOUR: 'it returns false'. Refute it at one input. -/
def fnSkillsWrong : ChangeSpec := { name := "fnSkills", fn := fun _ => fun
  | [d] => { results := [.lit (.bool false)], args := [d] }
  | _ => none }
def FnSkillsWrongFalsely : Prop := fnSkillsRow.holds Try.pinned (OpenSpec.ofChange fnSkillsWrong)

/-- 'laws.FnTastes': WHATEVER THE INPUT: true; the input reads as it did. -/
def fnTastesSpec : ChangeSpec := { name := "fnTastes", fn := fun _ => fun
  | [d] => { results := [.lit (.bool true)], args := [d] }
  | _ => none }
def fnTastesRow : OpenClaim := { program := "ytmkfnhgaiheckaa", sum := "f7eaf10382e559696c8986beadb23246279c341d93ed34050609e5044823038a", func := "loop.example/g03310/laws.FnTastes", spec := "fnTastes", apart := false }
def FnTastesSaid : Prop := fnTastesRow.holds Try.pinned (OpenSpec.ofChange fnTastesSpec)

/-- ITS FALSE NEIGHBOUR: 'it returns false'. Refute it at one input. -/
def fnTastesWrong : ChangeSpec := { name := "fnTastes", fn := fun _ => fun
  | [d] => { results := [.lit (.bool false)], args := [d] }
  | _ => none }
def FnTastesWrongFalsely : Prop := fnTastesRow.holds Try.pinned (OpenSpec.ofChange fnTastesWrong)

/-- 'laws.FnExactMostShifts': WHATEVER THE INPUT: true; the input reads as it did. -/
def fnExactMostShiftsSpec : ChangeSpec := { name := "fnExactMostShifts", fn := fun _ => fun
  | [d1, d2] => { results := [.lit (.bool true)], args := [d1, d2] }
  | _ => none }
def fnExactMostShiftsRow : OpenClaim := { program := "ytmkfnhgaiheckaa", sum := "f7eaf10382e559696c8986beadb23246279c341d93ed34050609e5044823038a", func := "loop.example/g03310/laws.FnExactMostShifts", spec := "fnExactMostShifts", apart := false }
def FnExactMostShiftsSaid : Prop := fnExactMostShiftsRow.holds Try.pinned (OpenSpec.ofChange fnExactMostShiftsSpec)

/-- ITS FALSE NEIGHBOUR: 'it returns false'. Refute it at one input. -/
def fnExactMostShiftsWrong : ChangeSpec := { name := "fnExactMostShifts", fn := fun _ => fun
  | [d1, d2] => { results := [.lit (.bool false)], args := [d1, d2] }
  | _ => none }
def FnExactMostShiftsWrongFalsely : Prop := fnExactMostShiftsRow.holds Try.pinned (OpenSpec.ofChange fnExactMostShiftsWrong)

/-- 'laws.FnExactMustBuy': WHATEVER THE INPUT: true; the input reads as it did. -/
def fnExactMustBuySpec : ChangeSpec := { name := "fnExactMustBuy", fn := fun _ => fun
  | [d1, d2, d3] => { results := [.lit (.bool true)], args := [d1, d2, d3] }
  | _ => none }
def fnExactMustBuyRow : OpenClaim := { program := "ytmkfnhgaiheckaa", sum := "f7eaf10382e559696c8986beadb23246279c341d93ed34050609e5044823038a", func := "loop.example/g03310/laws.FnExactMustBuy", spec := "fnExactMustBuy", unfollowed := true, recurses := true, apart := false }
def FnExactMustBuySaid : Prop := fnExactMustBuyRow.holds Try.pinned (OpenSpec.ofChange fnExactMustBuySpec)

/-- ITS FALSE NEIGHBOUR: 'it returns false'. Refute it at one input. -/
def fnExactMustBuyWrong : ChangeSpec := { name := "fnExactMustBuy", fn := fun _ => fun
  | [d1, d2, d3] => { results := [.lit (.bool false)], args := [d1, d2, d3] }
  | _ => none }
def FnExactMustBuyWrongFalsely : Prop := fnExactMustBuyRow.holds Try.pinned (OpenSpec.ofChange fnExactMustBuyWrong)

/-- 'laws.FnExactLargestCommon': WHATEVER THE INPUT: true; the input reads as it did. -/
def fnExactLargestCommonSpec : ChangeSpec := { name := "fnExactLargestCommon", fn := fun _ => fun
  | [d1, d2] => { results := [.lit (.bool true)], args := [d1, d2] }
  | _ => none }
def fnExactLargestCommonRow : OpenClaim := { program := "ytmkfnhgaiheckaa", sum := "f7eaf10382e559696c8986beadb23246279c341d93ed34050609e5044823038a", func := "loop.example/g03310/laws.FnExactLargestCommon", spec := "fnExactLargestCommon", recurses := true, apart := false }
def FnExactLargestCommonSaid : Prop := fnExactLargestCommonRow.holds Try.pinned (OpenSpec.ofChange fnExactLargestCommonSpec)

/-- ITS FALSE NEIGHBOUR: 'it returns false'. Refute it at one input. -/
def fnExactLargestCommonWrong : ChangeSpec := { name := "fnExactLargestCommon", fn := fun _ => fun
  | [d1, d2] => { results := [.lit (.bool false)], args := [d1, d2] }
  | _ => none }
def FnExactLargestCommonWrongFalsely : Prop := fnExactLargestCommonRow.holds Try.pinned (OpenSpec.ofChange fnExactLargestCommonWrong)

/-- 'laws.FnExactFarFirst': WHATEVER THE INPUT: true; the input reads as it did. -/
def fnExactFarFirstSpec : ChangeSpec := { name := "fnExactFarFirst", fn := fun _ => fun
  | [d1, d2] => { results := [.lit (.bool true)], args := [d1, d2] }
  | _ => none }
def fnExactFarFirstRow : OpenClaim := { program := "ytmkfnhgaiheckaa", sum := "f7eaf10382e559696c8986beadb23246279c341d93ed34050609e5044823038a", func := "loop.example/g03310/laws.FnExactFarFirst", spec := "fnExactFarFirst", apart := false }
def FnExactFarFirstSaid : Prop := fnExactFarFirstRow.holds Try.pinned (OpenSpec.ofChange fnExactFarFirstSpec)

/-- ITS FALSE NEIGHBOUR: 'it returns false'. Refute it at one input. -/
def fnExactFarFirstWrong : ChangeSpec := { name := "fnExactFarFirst", fn := fun _ => fun
  | [d1, d2] => { results := [.lit (.bool false)], args := [d1, d2] }
  | _ => none }
def FnExactFarFirstWrongFalsely : Prop := fnExactFarFirstRow.holds Try.pinned (OpenSpec.ofChange fnExactFarFirstWrong)

/-- 'laws.FnExactLeastWay': WHATEVER THE INPUT: true; the input reads as it did. -/
def fnExactLeastWaySpec : ChangeSpec := { name := "fnExactLeastWay", fn := fun _ => fun
  | [d1, d2] => { results := [.lit (.bool true)], args := [d1, d2] }
  | _ => none }
def fnExactLeastWayRow : OpenClaim := { program := "ytmkfnhgaiheckaa", sum := "f7eaf10382e559696c8986beadb23246279c341d93ed34050609e5044823038a", func := "loop.example/g03310/laws.FnExactLeastWay", spec := "fnExactLeastWay", apart := false }
def FnExactLeastWaySaid : Prop := fnExactLeastWayRow.holds Try.pinned (OpenSpec.ofChange fnExactLeastWaySpec)

/-- ITS FALSE NEIGHBOUR: 'it returns false'. Refute it at one input. -/
def fnExactLeastWayWrong : ChangeSpec := { name := "fnExactLeastWay", fn := fun _ => fun
  | [d1, d2] => { results := [.lit (.bool false)], args := [d1, d2] }
  | _ => none }
def FnExactLeastWayWrongFalsely : Prop := fnExactLeastWayRow.holds Try.pinned (OpenSpec.ofChange fnExactLeastWayWrong)

/-- 'laws.FnExactFewestTimes': WHATEVER THE INPUT: true; the input reads as it did. -/
def fnExactFewestTimesSpec : ChangeSpec := { name := "fnExactFewestTimes", fn := fun _ => fun
  | [d1, d2] => { results := [.lit (.bool true)], args := [d1, d2] }
  | _ => none }
def fnExactFewestTimesRow : OpenClaim := { program := "ytmkfnhgaiheckaa", sum := "f7eaf10382e559696c8986beadb23246279c341d93ed34050609e5044823038a", func := "loop.example/g03310/laws.FnExactFewestTimes", spec := "fnExactFewestTimes", unfollowed := true, recurses := true, apart := false }
def FnExactFewestTimesSaid : Prop := fnExactFewestTimesRow.holds Try.pinned (OpenSpec.ofChange fnExactFewestTimesSpec)

/-- ITS FALSE NEIGHBOUR: 'it returns false'. Refute it at one input. -/
def fnExactFewestTimesWrong : ChangeSpec := { name := "fnExactFewestTimes", fn := fun _ => fun
  | [d1, d2] => { results := [.lit (.bool false)], args := [d1, d2] }
  | _ => none }
def FnExactFewestTimesWrongFalsely : Prop := fnExactFewestTimesRow.holds Try.pinned (OpenSpec.ofChange fnExactFewestTimesWrong)

/- THE SECOND FORM. 'bulk': how many values and letters a reading holds, each counted each time it is reached (what is shared counts as often as it is met; a slice's spare places count too). A statement '..UptoSaid' is the law's where the arguments, and the package variables that the reading takes, are together of bulk at most 1048576: NARROWER than '..Said'. Prove '..Said' where nothing that the law and all that it calls make is longer than what came in: it says more and counts as full. Else prove '..UptoSaid'. A law counts once. -/
mutual
def uptoBulk {H : Type} : DataW H → Nat
  | .lit (.string bytes) => bytes.length + 1
  | .lit _ => 1
  | .nil => 1
  | .ptr d => uptoBulk d + 1
  | .slice elems spare => uptoBulkAll elems + uptoBulkAll spare + 1
  | .agg parts => uptoBulkAll parts + 1
  | .iface _ d => uptoBulk d + 1
  | .map entries => uptoBulkEntries entries + 1
  | .held _ => 1
def uptoBulkAll {H : Type} : List (DataW H) → Nat
  | [] => 0
  | d :: r => uptoBulk d + uptoBulkAll r
def uptoBulkEntries {H : Type} : List (Lit × DataW H) → Nat
  | [] => 0
  | x :: r => uptoBulkEntry x + uptoBulkEntries r
def uptoBulkEntry {H : Type} : Lit × DataW H → Nat
  | (.string bytes, d) => bytes.length + uptoBulk d + 1
  | (_, d) => uptoBulk d + 1
 end
def uptoSmall : (H : Type) → List (DataW H) → Bool := fun _ ds => decide (uptoBulkAll ds ≤ 1048576)
def OpenSpec.upto (s : _root_.Go.ChangeSpec) : _root_.Go.OpenSpec := { _root_.Go.OpenSpec.ofChange s with cond := some uptoSmall }

/-- 'laws.FnExactCommonPairs', WHERE WHAT IT READS IS OF BULK AT MOST 1048576: true; the input reads as it did. -/
def fnExactCommonPairsUptoRow : OpenClaim := { program := "ytmkfnhgaiheckaa", sum := "f7eaf10382e559696c8986beadb23246279c341d93ed34050609e5044823038a", func := "loop.example/g03310/laws.FnExactCommonPairs", spec := "fnExactCommonPairs", apart := false, narrowed := true }
def FnExactCommonPairsUptoSaid : Prop := fnExactCommonPairsUptoRow.holds Try.pinned (OpenSpec.upto fnExactCommonPairsSpec)

/-- 'laws.FnExactCheapestTwo', WHERE WHAT IT READS IS OF BULK AT MOST 1048576: true; the input reads as it did. -/
def fnExactCheapestTwoUptoRow : OpenClaim := { program := "ytmkfnhgaiheckaa", sum := "f7eaf10382e559696c8986beadb23246279c341d93ed34050609e5044823038a", func := "loop.example/g03310/laws.FnExactCheapestTwo", spec := "fnExactCheapestTwo", apart := false, narrowed := true }
def FnExactCheapestTwoUptoSaid : Prop := fnExactCheapestTwoUptoRow.holds Try.pinned (OpenSpec.upto fnExactCheapestTwoSpec)

/-- 'laws.FnCakes', WHERE WHAT IT READS IS OF BULK AT MOST 1048576: true; the input reads as it did. -/
def fnCakesUptoRow : OpenClaim := { program := "ytmkfnhgaiheckaa", sum := "f7eaf10382e559696c8986beadb23246279c341d93ed34050609e5044823038a", func := "loop.example/g03310/laws.FnCakes", spec := "fnCakes", unfollowed := true, recurses := true, apart := false, narrowed := true }
def FnCakesUptoSaid : Prop := fnCakesUptoRow.holds Try.pinned (OpenSpec.upto fnCakesSpec)

/-- 'laws.FnBlends', WHERE WHAT IT READS IS OF BULK AT MOST 1048576: true; the input reads as it did. -/
def fnBlendsUptoRow : OpenClaim := { program := "ytmkfnhgaiheckaa", sum := "f7eaf10382e559696c8986beadb23246279c341d93ed34050609e5044823038a", func := "loop.example/g03310/laws.FnBlends", spec := "fnBlends", unfollowed := true, recurses := true, apart := false, narrowed := true }
def FnBlendsUptoSaid : Prop := fnBlendsUptoRow.holds Try.pinned (OpenSpec.upto fnBlendsSpec)

/-- 'laws.FnSkills', WHERE WHAT IT READS IS OF BULK AT MOST 1048576: true; the input reads as it did. -/
def fnSkillsUptoRow : OpenClaim := { program := "ytmkfnhgaiheckaa", sum := "f7eaf10382e559696c8986beadb23246279c341d93ed34050609e5044823038a", func := "loop.example/g03310/laws.FnSkills", spec := "fnSkills", apart := false, narrowed := true }
def FnSkillsUptoSaid : Prop := fnSkillsUptoRow.holds Try.pinned (OpenSpec.upto fnSkillsSpec)

/-- 'laws.FnTastes', WHERE WHAT IT READS IS OF BULK AT MOST 1048576: true; the input reads as it did. -/
def fnTastesUptoRow : OpenClaim := { program := "ytmkfnhgaiheckaa", sum := "f7eaf10382e559696c8986beadb23246279c341d93ed34050609e5044823038a", func := "loop.example/g03310/laws.FnTastes", spec := "fnTastes", apart := false, narrowed := true }
def FnTastesUptoSaid : Prop := fnTastesUptoRow.holds Try.pinned (OpenSpec.upto fnTastesSpec)

/-- 'laws.FnExactMostShifts', WHERE WHAT IT READS IS OF BULK AT MOST 1048576: true; the input reads as it did. -/
def fnExactMostShiftsUptoRow : OpenClaim := { program := "ytmkfnhgaiheckaa", sum := "f7eaf10382e559696c8986beadb23246279c341d93ed34050609e5044823038a", func := "loop.example/g03310/laws.FnExactMostShifts", spec := "fnExactMostShifts", apart := false, narrowed := true }
def FnExactMostShiftsUptoSaid : Prop := fnExactMostShiftsUptoRow.holds Try.pinned (OpenSpec.upto fnExactMostShiftsSpec)

/-- 'laws.FnExactMustBuy', WHERE WHAT IT READS IS OF BULK AT MOST 1048576: true; the input reads as it did. -/
def fnExactMustBuyUptoRow : OpenClaim := { program := "ytmkfnhgaiheckaa", sum := "f7eaf10382e559696c8986beadb23246279c341d93ed34050609e5044823038a", func := "loop.example/g03310/laws.FnExactMustBuy", spec := "fnExactMustBuy", unfollowed := true, recurses := true, apart := false, narrowed := true }
def FnExactMustBuyUptoSaid : Prop := fnExactMustBuyUptoRow.holds Try.pinned (OpenSpec.upto fnExactMustBuySpec)

/-- 'laws.FnExactLargestCommon', WHERE WHAT IT READS IS OF BULK AT MOST 1048576: true; the input reads as it did. -/
def fnExactLargestCommonUptoRow : OpenClaim := { program := "ytmkfnhgaiheckaa", sum := "f7eaf10382e559696c8986beadb23246279c341d93ed34050609e5044823038a", func := "loop.example/g03310/laws.FnExactLargestCommon", spec := "fnExactLargestCommon", recurses := true, apart := false, narrowed := true }
def FnExactLargestCommonUptoSaid : Prop := fnExactLargestCommonUptoRow.holds Try.pinned (OpenSpec.upto fnExactLargestCommonSpec)

/-- 'laws.FnExactFarFirst', WHERE WHAT IT READS IS OF BULK AT MOST 1048576: true; the input reads as it did. -/
def fnExactFarFirstUptoRow : OpenClaim := { program := "ytmkfnhgaiheckaa", sum := "f7eaf10382e559696c8986beadb23246279c341d93ed34050609e5044823038a", func := "loop.example/g03310/laws.FnExactFarFirst", spec := "fnExactFarFirst", apart := false, narrowed := true }
def FnExactFarFirstUptoSaid : Prop := fnExactFarFirstUptoRow.holds Try.pinned (OpenSpec.upto fnExactFarFirstSpec)

/-- 'laws.FnExactLeastWay', WHERE WHAT IT READS IS OF BULK AT MOST 1048576: true; the input reads as it did. -/
def fnExactLeastWayUptoRow : OpenClaim := { program := "ytmkfnhgaiheckaa", sum := "f7eaf10382e559696c8986beadb23246279c341d93ed34050609e5044823038a", func := "loop.example/g03310/laws.FnExactLeastWay", spec := "fnExactLeastWay", apart := false, narrowed := true }
def FnExactLeastWayUptoSaid : Prop := fnExactLeastWayUptoRow.holds Try.pinned (OpenSpec.upto fnExactLeastWaySpec)

/-- 'laws.FnExactFewestTimes', WHERE WHAT IT READS IS OF BULK AT MOST 1048576: true; the input reads as it did. -/
def fnExactFewestTimesUptoRow : OpenClaim := { program := "ytmkfnhgaiheckaa", sum := "f7eaf10382e559696c8986beadb23246279c341d93ed34050609e5044823038a", func := "loop.example/g03310/laws.FnExactFewestTimes", spec := "fnExactFewestTimes", unfollowed := true, recurses := true, apart := false, narrowed := true }
def FnExactFewestTimesUptoSaid : Prop := fnExactFewestTimesUptoRow.holds Try.pinned (OpenSpec.upto fnExactFewestTimesSpec)

end Rows
end Go.Proofs.Ytmkfnhgaiheckaa
