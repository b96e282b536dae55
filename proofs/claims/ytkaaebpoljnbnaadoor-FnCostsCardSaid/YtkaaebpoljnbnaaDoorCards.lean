/-
  DERIVED. GIVEN WITH THE SEED: THE CARDS: each row of YtkaaebpoljnbnaaDoorRows.lean that lists a variable, with what it lists TIED to the program's text (the seventh form; the later family's looks); each row that meets fmt, with fmt's text TOLD by the authors' own Lean function (tested against real Go, not proved from fmt's source: count such statements apart). THE CARD IS WHAT COUNTS. Prove the row's statement (the work); the ties are given (YtkaaebpoljnbnaaDoorTie.lean); close each card by the builder's one call (the guide's Derived/Test/ToyasCard.lean, 'card_holds'). Laid BY PROGRAM, IN A SANDBOX (cutbox-door.mjs). By AI agents, Wed Nov 11 2026. No macro, syntax, notation, axiom, sorry.
-/
import Derived.Test.YtkaaebpoljnbnaaDoorRows
import GoSem.ClaimSeven
namespace Go.Proofs.YtkaaebpoljnbnaaDoor
namespace Rows

/-- THE TIED CARD OF 'laws.FnCosts'. -/
def fnCostsCard : Claim7 := { stood := { row := fnCostsRow, standIns := [], harness := (true, "03cb18b2b798d8e9a055163c3a20140ec121d139ce1097550224bfc24914426a"), looks := true }, kinds := [], alts := [], laidByText := true, laidKinds := [.sentinel], laidTests := true, laidLooks := .later }
def FnCostsCardSaid : Prop := Claim7.holds Tryd.pinned (.plain (OpenSpec.ofChange fnCostsSpec)) fnCostsCard

/-- THE TIED CARD OF 'laws.FnRises'. -/
def fnRisesCard : Claim7 := { stood := { row := fnRisesRow, standIns := [], harness := (true, "03cb18b2b798d8e9a055163c3a20140ec121d139ce1097550224bfc24914426a"), looks := true }, kinds := [], alts := [], laidByText := true, laidKinds := [.data], laidTests := true, laidLooks := .later }
def FnRisesCardSaid : Prop := Claim7.holds Tryd.pinned (.plain (OpenSpec.ofChange fnRisesSpec)) fnRisesCard

/-- THE SECOND FORM's CARD OF 'laws.FnCosts'. -/
def fnCostsUptoCard : Claim7 := { stood := { row := fnCostsUptoRow, standIns := [], harness := (true, "03cb18b2b798d8e9a055163c3a20140ec121d139ce1097550224bfc24914426a"), looks := true }, kinds := [], alts := [], laidByText := true, laidKinds := [.sentinel], laidTests := true, laidLooks := .later }
def FnCostsUptoCardSaid : Prop := Claim7.holds Tryd.pinned (.plain (OpenSpec.upto fnCostsSpec)) fnCostsUptoCard

/-- THE SECOND FORM's CARD OF 'laws.FnRises'. -/
def fnRisesUptoCard : Claim7 := { stood := { row := fnRisesUptoRow, standIns := [], harness := (true, "03cb18b2b798d8e9a055163c3a20140ec121d139ce1097550224bfc24914426a"), looks := true }, kinds := [], alts := [], laidByText := true, laidKinds := [.data], laidTests := true, laidLooks := .later }
def FnRisesUptoCardSaid : Prop := Claim7.holds Tryd.pinned (.plain (OpenSpec.upto fnRisesSpec)) fnRisesUptoCard
end Rows
end Go.Proofs.YtkaaebpoljnbnaaDoor
