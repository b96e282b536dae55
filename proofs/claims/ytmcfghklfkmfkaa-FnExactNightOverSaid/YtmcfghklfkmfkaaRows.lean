/-
  No cell of these rows narrows 'for every input' (looked for: loops, veiled, ifaces, maps, wideKeys, modest, calm, conditions, laid).
  DERIVED. THE GIVEN ROWS OF THIS SEAT. 5 by the template 'for every input the law returns true; each argument reads behind the call as it read before'; 0 by the template 'total and deterministic' (their statements: YtmcfghklfkmfkaaTotals.lean).
  GIVEN WITH THE SEED: the statements are not yours to turn. If you find one false, say at which input.
  Laid BY PROGRAM, IN A SANDBOX (cutbox-rows.mjs): the forced cells as the released guide's own fill.sh prints them over the translation 4e3c7fbbd4b3eb7f… (all of the seat's roots in one cut). By AI agents, Wed Nov 11 2026. No macro, syntax, notation, axiom, sorry.
-/
import Derived.Test.YtmcfghklfkmfkaaChecked
import GoSem.Claim
import GoSem.ClaimJoined
import GoSem.ClaimMapViews
import Derived.JoinedTies
import Derived.KernelRfl
namespace Go.Proofs.Ytmcfghklfkmfkaa
/- THE CELL 'sum', in the pinned program and in every row, IS THE sha256 OF THE DUMP (.gsa) THAT YtmcfghklfkmfkaaProg.lean LOADS. Nothing in Lean hashes anything: it is a label: what it is worth is what the hold of that sum in a sandbox is worth. -/
noncomputable def Try.pinned : Pinned := { name := "ytmcfghklfkmfkaa", sum := "4e3c7fbbd4b3eb7f0ed3ccf11c9264dd3cacb12529b8098988a2f1b8183b17fb", checked := Try.checked }
namespace Rows
def none {H : Type} : Left H := { results := [], args := [] }

/-- 'laws.FnExactNightOver': WHATEVER THE INPUT: true; the input reads as it did. -/
def fnExactNightOverSpec : ChangeSpec := { name := "fnExactNightOver", fn := fun _ => fun
  | [d] => { results := [.lit (.bool true)], args := [d] }
  | _ => none }
def fnExactNightOverRow : OpenClaim := { program := "ytmcfghklfkmfkaa", sum := "4e3c7fbbd4b3eb7f0ed3ccf11c9264dd3cacb12529b8098988a2f1b8183b17fb", func := "loop.example/g03310/laws.FnExactNightOver", spec := "fnExactNightOver", inPlace := ["(*internal/sync.Mutex).Lock", "internal/race.Disable", "sync/atomic.CompareAndSwapInt32", "internal/race.Enable", "internal/race.Acquire", "(*internal/sync.Mutex).lockSlow", "internal/sync.runtime_canSpin", "internal/sync.runtime_doSpin", "internal/sync.throw", "internal/sync.runtime_nanotime", "internal/sync.runtime_SemacquireMutex", "sync/atomic.AddInt32", "(*internal/sync.Mutex).Unlock", "internal/race.ReleaseMerge", "(*internal/sync.Mutex).unlockSlow", "internal/sync.fatal", "internal/sync.runtime_Semrelease"], unfollowed := true, recurses := true, apart := false }
def FnExactNightOverSaid : Prop := fnExactNightOverRow.holds Try.pinned (OpenSpec.ofChange fnExactNightOverSpec)

/-- ITS FALSE NEIGHBOUR: 'it returns false'. Refute it at one input. -/
def fnExactNightOverWrong : ChangeSpec := { name := "fnExactNightOver", fn := fun _ => fun
  | [d] => { results := [.lit (.bool false)], args := [d] }
  | _ => none }
def FnExactNightOverWrongFalsely : Prop := fnExactNightOverRow.holds Try.pinned (OpenSpec.ofChange fnExactNightOverWrong)

/-- 'laws.FnExactSellLoaves': WHATEVER THE INPUT: true; the input reads as it did. -/
def fnExactSellLoavesSpec : ChangeSpec := { name := "fnExactSellLoaves", fn := fun _ => fun
  | [d1, d2, d3] => { results := [.lit (.bool true)], args := [d1, d2, d3] }
  | _ => none }
def fnExactSellLoavesRow : OpenClaim := { program := "ytmcfghklfkmfkaa", sum := "4e3c7fbbd4b3eb7f0ed3ccf11c9264dd3cacb12529b8098988a2f1b8183b17fb", func := "loop.example/g03310/laws.FnExactSellLoaves", spec := "fnExactSellLoaves", inPlace := ["(*internal/sync.Mutex).Lock", "internal/race.Disable", "sync/atomic.CompareAndSwapInt32", "internal/race.Enable", "internal/race.Acquire", "(*internal/sync.Mutex).lockSlow", "internal/sync.runtime_canSpin", "internal/sync.runtime_doSpin", "internal/sync.throw", "internal/sync.runtime_nanotime", "internal/sync.runtime_SemacquireMutex", "sync/atomic.AddInt32", "(*internal/sync.Mutex).Unlock", "internal/race.ReleaseMerge", "(*internal/sync.Mutex).unlockSlow", "internal/sync.fatal", "internal/sync.runtime_Semrelease"], unfollowed := true, recurses := true, apart := false }
def FnExactSellLoavesSaid : Prop := fnExactSellLoavesRow.holds Try.pinned (OpenSpec.ofChange fnExactSellLoavesSpec)

/-- ITS FALSE NEIGHBOUR: 'it returns false'. Refute it at one input. -/
def fnExactSellLoavesWrong : ChangeSpec := { name := "fnExactSellLoaves", fn := fun _ => fun
  | [d1, d2, d3] => { results := [.lit (.bool false)], args := [d1, d2, d3] }
  | _ => none }
def FnExactSellLoavesWrongFalsely : Prop := fnExactSellLoavesRow.holds Try.pinned (OpenSpec.ofChange fnExactSellLoavesWrong)

/-- 'laws.FnExactBuyStock': WHATEVER THE INPUT: true; the input reads as it did. -/
def fnExactBuyStockSpec : ChangeSpec := { name := "fnExactBuyStock", fn := fun _ => fun
  | [d1, d2, d3] => { results := [.lit (.bool true)], args := [d1, d2, d3] }
  | _ => none }
def fnExactBuyStockRow : OpenClaim := { program := "ytmcfghklfkmfkaa", sum := "4e3c7fbbd4b3eb7f0ed3ccf11c9264dd3cacb12529b8098988a2f1b8183b17fb", func := "loop.example/g03310/laws.FnExactBuyStock", spec := "fnExactBuyStock", inPlace := ["(*internal/sync.Mutex).Lock", "internal/race.Disable", "sync/atomic.CompareAndSwapInt32", "internal/race.Enable", "internal/race.Acquire", "(*internal/sync.Mutex).lockSlow", "internal/sync.runtime_canSpin", "internal/sync.runtime_doSpin", "internal/sync.throw", "internal/sync.runtime_nanotime", "internal/sync.runtime_SemacquireMutex", "sync/atomic.AddInt32", "(*internal/sync.Mutex).Unlock", "internal/race.ReleaseMerge", "(*internal/sync.Mutex).unlockSlow", "internal/sync.fatal", "internal/sync.runtime_Semrelease"], unfollowed := true, recurses := true, apart := false }
def FnExactBuyStockSaid : Prop := fnExactBuyStockRow.holds Try.pinned (OpenSpec.ofChange fnExactBuyStockSpec)

/-- ITS FALSE NEIGHBOUR: 'it returns false'. Refute it at one input. -/
def fnExactBuyStockWrong : ChangeSpec := { name := "fnExactBuyStock", fn := fun _ => fun
  | [d1, d2, d3] => { results := [.lit (.bool false)], args := [d1, d2, d3] }
  | _ => none }
def FnExactBuyStockWrongFalsely : Prop := fnExactBuyStockRow.holds Try.pinned (OpenSpec.ofChange fnExactBuyStockWrong)

/-- 'laws.FnExactOpenBakery': WHATEVER THE INPUT: true; the input reads as it did. -/
def fnExactOpenBakerySpec : ChangeSpec := { name := "fnExactOpenBakery", fn := fun _ => fun
  | [d1, d2, d3, d4] => { results := [.lit (.bool true)], args := [d1, d2, d3, d4] }
  | _ => none }
def fnExactOpenBakeryRow : OpenClaim := { program := "ytmcfghklfkmfkaa", sum := "4e3c7fbbd4b3eb7f0ed3ccf11c9264dd3cacb12529b8098988a2f1b8183b17fb", func := "loop.example/g03310/laws.FnExactOpenBakery", spec := "fnExactOpenBakery", apart := false }
def FnExactOpenBakerySaid : Prop := fnExactOpenBakeryRow.holds Try.pinned (OpenSpec.ofChange fnExactOpenBakerySpec)

/-- ITS FALSE NEIGHBOUR: 'it returns false'. Refute it at one input. -/
def fnExactOpenBakeryWrong : ChangeSpec := { name := "fnExactOpenBakery", fn := fun _ => fun
  | [d1, d2, d3, d4] => { results := [.lit (.bool false)], args := [d1, d2, d3, d4] }
  | _ => none }
def FnExactOpenBakeryWrongFalsely : Prop := fnExactOpenBakeryRow.holds Try.pinned (OpenSpec.ofChange fnExactOpenBakeryWrong)

/-- 'laws.FnExactMustBuy': WHATEVER THE INPUT: true; the input reads as it did. -/
def fnExactMustBuySpec : ChangeSpec := { name := "fnExactMustBuy", fn := fun _ => fun
  | [d1, d2, d3] => { results := [.lit (.bool true)], args := [d1, d2, d3] }
  | _ => none }
def fnExactMustBuyRow : OpenClaim := { program := "ytmcfghklfkmfkaa", sum := "4e3c7fbbd4b3eb7f0ed3ccf11c9264dd3cacb12529b8098988a2f1b8183b17fb", func := "loop.example/g03310/laws.FnExactMustBuy", spec := "fnExactMustBuy", unfollowed := true, recurses := true, apart := false }
def FnExactMustBuySaid : Prop := fnExactMustBuyRow.holds Try.pinned (OpenSpec.ofChange fnExactMustBuySpec)

/-- ITS FALSE NEIGHBOUR: 'it returns false'. Refute it at one input. -/
def fnExactMustBuyWrong : ChangeSpec := { name := "fnExactMustBuy", fn := fun _ => fun
  | [d1, d2, d3] => { results := [.lit (.bool false)], args := [d1, d2, d3] }
  | _ => none }
def FnExactMustBuyWrongFalsely : Prop := fnExactMustBuyRow.holds Try.pinned (OpenSpec.ofChange fnExactMustBuyWrong)

/- THE SECOND FORM. 'bulk': how many values and letters a reading holds, each counted each time it is reached (what is shared counts as often as it is met; a slice's spare places count too). A statement '..UptoSaid' is the law's where the arguments, and the package variables that the reading takes, are together of bulk at most 1048576: NARROWER than '..Said'. Prove '..Said' where nothing that the law and all that it calls make is longer than what came in: it says more and counts as full. Else prove '..UptoSaid'. A law counts once. -/
mutual
def uptoBulk {H : Type} : DataW H → Nat
  | .lit (.string bytes) => bytes.length + 1
  | .lit _ => 1
  | .nil => 1
  | .ptr d => uptoBulk d + 1
  | .slice elems spare => uptoBulkAll elems + uptoBulkAll spare + 1
  | .agg parts => uptoBulkAll parts + 1
  | .iface _ d => uptoBulk d + 1
  | .map entries => uptoBulkEntries entries + 1
  | .held _ => 1
def uptoBulkAll {H : Type} : List (DataW H) → Nat
  | [] => 0
  | d :: r => uptoBulk d + uptoBulkAll r
def uptoBulkEntries {H : Type} : List (Lit × DataW H) → Nat
  | [] => 0
  | x :: r => uptoBulkEntry x + uptoBulkEntries r
def uptoBulkEntry {H : Type} : Lit × DataW H → Nat
  | (.string bytes, d) => bytes.length + uptoBulk d + 1
  | (_, d) => uptoBulk d + 1
 end
def uptoSmall : (H : Type) → List (DataW H) → Bool := fun _ ds => decide (uptoBulkAll ds ≤ 1048576)
def OpenSpec.upto (s : _root_.Go.ChangeSpec) : _root_.Go.OpenSpec := { _root_.Go.OpenSpec.ofChange s with cond := some uptoSmall }

/-- 'laws.FnExactNightOver', WHERE WHAT IT READS IS OF BULK AT MOST 1048576: true; the input reads as it did. -/
def fnExactNightOverUptoRow : OpenClaim := { program := "ytmcfghklfkmfkaa", sum := "4e3c7fbbd4b3eb7f0ed3ccf11c9264dd3cacb12529b8098988a2f1b8183b17fb", func := "loop.example/g03310/laws.FnExactNightOver", spec := "fnExactNightOver", inPlace := ["(*internal/sync.Mutex).Lock", "internal/race.Disable", "sync/atomic.CompareAndSwapInt32", "internal/race.Enable", "internal/race.Acquire", "(*internal/sync.Mutex).lockSlow", "internal/sync.runtime_canSpin", "internal/sync.runtime_doSpin", "internal/sync.throw", "internal/sync.runtime_nanotime", "internal/sync.runtime_SemacquireMutex", "sync/atomic.AddInt32", "(*internal/sync.Mutex).Unlock", "internal/race.ReleaseMerge", "(*internal/sync.Mutex).unlockSlow", "internal/sync.fatal", "internal/sync.runtime_Semrelease"], unfollowed := true, recurses := true, apart := false, narrowed := true }
def FnExactNightOverUptoSaid : Prop := fnExactNightOverUptoRow.holds Try.pinned (OpenSpec.upto fnExactNightOverSpec)

/-- 'laws.FnExactSellLoaves', WHERE WHAT IT READS IS OF BULK AT MOST 1048576: true; the input reads as it did. -/
def fnExactSellLoavesUptoRow : OpenClaim := { program := "ytmcfghklfkmfkaa", sum := "4e3c7fbbd4b3eb7f0ed3ccf11c9264dd3cacb12529b8098988a2f1b8183b17fb", func := "loop.example/g03310/laws.FnExactSellLoaves", spec := "fnExactSellLoaves", inPlace := ["(*internal/sync.Mutex).Lock", "internal/race.Disable", "sync/atomic.CompareAndSwapInt32", "internal/race.Enable", "internal/race.Acquire", "(*internal/sync.Mutex).lockSlow", "internal/sync.runtime_canSpin", "internal/sync.runtime_doSpin", "internal/sync.throw", "internal/sync.runtime_nanotime", "internal/sync.runtime_SemacquireMutex", "sync/atomic.AddInt32", "(*internal/sync.Mutex).Unlock", "internal/race.ReleaseMerge", "(*internal/sync.Mutex).unlockSlow", "internal/sync.fatal", "internal/sync.runtime_Semrelease"], unfollowed := true, recurses := true, apart := false, narrowed := true }
def FnExactSellLoavesUptoSaid : Prop := fnExactSellLoavesUptoRow.holds Try.pinned (OpenSpec.upto fnExactSellLoavesSpec)

/-- 'laws.FnExactBuyStock', WHERE WHAT IT READS IS OF BULK AT MOST 1048576: true; the input reads as it did. -/
def fnExactBuyStockUptoRow : OpenClaim := { program := "ytmcfghklfkmfkaa", sum := "4e3c7fbbd4b3eb7f0ed3ccf11c9264dd3cacb12529b8098988a2f1b8183b17fb", func := "loop.example/g03310/laws.FnExactBuyStock", spec := "fnExactBuyStock", inPlace := ["(*internal/sync.Mutex).Lock", "internal/race.Disable", "sync/atomic.CompareAndSwapInt32", "internal/race.Enable", "internal/race.Acquire", "(*internal/sync.Mutex).lockSlow", "internal/sync.runtime_canSpin", "internal/sync.runtime_doSpin", "internal/sync.throw", "internal/sync.runtime_nanotime", "internal/sync.runtime_SemacquireMutex", "sync/atomic.AddInt32", "(*internal/sync.Mutex).Unlock", "internal/race.ReleaseMerge", "(*internal/sync.Mutex).unlockSlow", "internal/sync.fatal", "internal/sync.runtime_Semrelease"], unfollowed := true, recurses := true, apart := false, narrowed := true }
def FnExactBuyStockUptoSaid : Prop := fnExactBuyStockUptoRow.holds Try.pinned (OpenSpec.upto fnExactBuyStockSpec)

/-- 'laws.FnExactOpenBakery', WHERE WHAT IT READS IS OF BULK AT MOST 1048576: true; the input reads as it did. -/
def fnExactOpenBakeryUptoRow : OpenClaim := { program := "ytmcfghklfkmfkaa", sum := "4e3c7fbbd4b3eb7f0ed3ccf11c9264dd3cacb12529b8098988a2f1b8183b17fb", func := "loop.example/g03310/laws.FnExactOpenBakery", spec := "fnExactOpenBakery", apart := false, narrowed := true }
def FnExactOpenBakeryUptoSaid : Prop := fnExactOpenBakeryUptoRow.holds Try.pinned (OpenSpec.upto fnExactOpenBakerySpec)

/-- 'laws.FnExactMustBuy', WHERE WHAT IT READS IS OF BULK AT MOST 1048576: true; the input reads as it did. -/
def fnExactMustBuyUptoRow : OpenClaim := { program := "ytmcfghklfkmfkaa", sum := "4e3c7fbbd4b3eb7f0ed3ccf11c9264dd3cacb12529b8098988a2f1b8183b17fb", func := "loop.example/g03310/laws.FnExactMustBuy", spec := "fnExactMustBuy", unfollowed := true, recurses := true, apart := false, narrowed := true }
def FnExactMustBuyUptoSaid : Prop := fnExactMustBuyUptoRow.holds Try.pinned (OpenSpec.upto fnExactMustBuySpec)

end Rows
end Go.Proofs.Ytmcfghklfkmfkaa
