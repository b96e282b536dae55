/-
  DERIVED. GIVEN WITH THE SEED: THE CARDS: each row of YtcelpnfpiagkjaaDoorRows.lean that lists a variable, with what it lists TIED to the program's text (the seventh form; the later family's looks); each row that meets fmt, with fmt's text TOLD by the authors' own Lean function (tested against real Go, not proved from fmt's source: count such statements apart). THE CARD IS WHAT COUNTS. Prove the row's statement (the work); the ties are given (YtcelpnfpiagkjaaDoorTie.lean); close each card by the builder's one call (the guide's Derived/Test/ToyasCard.lean, 'card_holds'). Laid BY PROGRAM, IN A SANDBOX (cutbox-door.mjs). By AI agents, Wed Nov 11 2026. No macro, syntax, notation, axiom, sorry.
-/
import Derived.Test.YtcelpnfpiagkjaaDoorRows
import GoSem.ClaimSeven
namespace Go.Proofs.YtcelpnfpiagkjaaDoor
namespace Rows

/-- THE TIED CARD OF 'laws.FnExactPriceFor'. -/
def fnExactPriceForCard : Claim7 := { stood := { row := fnExactPriceForRow, standIns := [], harness := (true, "965df619f03112e9a45528ac8931943efc9cf27ad5facba7da5e083d58e543aa"), looks := true }, kinds := [], alts := [], laidByText := true, laidKinds := [.sentinel], laidTests := true, laidLooks := .later }
def FnExactPriceForCardSaid : Prop := Claim7.holds Tryd.pinned (.plain (OpenSpec.ofChange fnExactPriceForSpec)) fnExactPriceForCard

/-- THE TIED CARD OF 'laws.FnExactMarginOf'. -/
def fnExactMarginOfCard : Claim7 := { stood := { row := fnExactMarginOfRow, standIns := [], harness := (true, "965df619f03112e9a45528ac8931943efc9cf27ad5facba7da5e083d58e543aa"), looks := true }, kinds := [], alts := [], laidByText := true, laidKinds := [.sentinel], laidTests := true, laidLooks := .later }
def FnExactMarginOfCardSaid : Prop := Claim7.holds Tryd.pinned (.plain (OpenSpec.ofChange fnExactMarginOfSpec)) fnExactMarginOfCard

/-- THE SECOND FORM's CARD OF 'laws.FnExactPriceFor'. -/
def fnExactPriceForUptoCard : Claim7 := { stood := { row := fnExactPriceForUptoRow, standIns := [], harness := (true, "965df619f03112e9a45528ac8931943efc9cf27ad5facba7da5e083d58e543aa"), looks := true }, kinds := [], alts := [], laidByText := true, laidKinds := [.sentinel], laidTests := true, laidLooks := .later }
def FnExactPriceForUptoCardSaid : Prop := Claim7.holds Tryd.pinned (.plain (OpenSpec.upto fnExactPriceForSpec)) fnExactPriceForUptoCard

/-- THE SECOND FORM's CARD OF 'laws.FnExactMarginOf'. -/
def fnExactMarginOfUptoCard : Claim7 := { stood := { row := fnExactMarginOfUptoRow, standIns := [], harness := (true, "965df619f03112e9a45528ac8931943efc9cf27ad5facba7da5e083d58e543aa"), looks := true }, kinds := [], alts := [], laidByText := true, laidKinds := [.sentinel], laidTests := true, laidLooks := .later }
def FnExactMarginOfUptoCardSaid : Prop := Claim7.holds Tryd.pinned (.plain (OpenSpec.upto fnExactMarginOfSpec)) fnExactMarginOfUptoCard
end Rows
end Go.Proofs.YtcelpnfpiagkjaaDoor
