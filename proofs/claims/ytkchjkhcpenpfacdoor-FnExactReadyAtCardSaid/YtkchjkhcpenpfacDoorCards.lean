/-
  DERIVED. GIVEN WITH THE SEED: THE CARDS: each row of YtkchjkhcpenpfacDoorRows.lean that lists a variable, with what it lists TIED to the program's text (the seventh form; the later family's looks); each row that meets fmt, with fmt's text TOLD by the authors' own Lean function (tested against real Go, not proved from fmt's source: count such statements apart). THE CARD IS WHAT COUNTS. Prove the row's statement (the work); the ties are given (YtkchjkhcpenpfacDoorTie.lean); close each card by the builder's one call (the guide's Derived/Test/ToyasCard.lean, 'card_holds'). Laid BY PROGRAM, IN A SANDBOX (cutbox-door.mjs). By AI agents, Wed Nov 11 2026. No macro, syntax, notation, axiom, sorry.
-/
import Derived.Test.YtkchjkhcpenpfacDoorRows
import GoSem.ClaimSeven
namespace Go.Proofs.YtkchjkhcpenpfacDoor
namespace Rows

/-- THE TIED CARD OF 'laws.FnRises'. -/
def fnRisesCard : Claim7 := { stood := { row := fnRisesRow, standIns := [], harness := (true, "18a1206acb1d4ee77edeaf5381c1891cd8cb89149a4bcd72f219bfe2be12381f"), looks := false }, kinds := [], alts := [], laidByText := true, laidKinds := [.data], laidTests := true, laidLooks := .later }
def FnRisesCardSaid : Prop := Claim7.holds Tryd.pinned (.plain (OpenSpec.ofChange fnRisesSpec)) fnRisesCard

/-- THE TIED CARD OF 'laws.FnExactSpeedAt'. -/
def fnExactSpeedAtCard : Claim7 := { stood := { row := fnExactSpeedAtRow, standIns := [], harness := (true, "18a1206acb1d4ee77edeaf5381c1891cd8cb89149a4bcd72f219bfe2be12381f"), looks := false }, kinds := [], alts := [], laidByText := true, laidKinds := [.data], laidTests := true, laidLooks := .later }
def FnExactSpeedAtCardSaid : Prop := Claim7.holds Tryd.pinned (.plain (OpenSpec.ofChange fnExactSpeedAtSpec)) fnExactSpeedAtCard

/-- THE TIED CARD OF 'laws.FnExactRiseAfter'. -/
def fnExactRiseAfterCard : Claim7 := { stood := { row := fnExactRiseAfterRow, standIns := [], harness := (true, "18a1206acb1d4ee77edeaf5381c1891cd8cb89149a4bcd72f219bfe2be12381f"), looks := false }, kinds := [], alts := [], laidByText := true, laidKinds := [.data], laidTests := true, laidLooks := .later }
def FnExactRiseAfterCardSaid : Prop := Claim7.holds Tryd.pinned (.plain (OpenSpec.ofChange fnExactRiseAfterSpec)) fnExactRiseAfterCard

/-- THE TIED CARD OF 'laws.FnExactMinutesAt'. -/
def fnExactMinutesAtCard : Claim7 := { stood := { row := fnExactMinutesAtRow, standIns := [], harness := (true, "18a1206acb1d4ee77edeaf5381c1891cd8cb89149a4bcd72f219bfe2be12381f"), looks := false }, kinds := [], alts := [], laidByText := true, laidKinds := [.data], laidTests := true, laidLooks := .later }
def FnExactMinutesAtCardSaid : Prop := Claim7.holds Tryd.pinned (.plain (OpenSpec.ofChange fnExactMinutesAtSpec)) fnExactMinutesAtCard

/-- THE TIED CARD OF 'laws.FnExactReadyAt'. -/
def fnExactReadyAtCard : Claim7 := { stood := { row := fnExactReadyAtRow, standIns := [], harness := (true, "18a1206acb1d4ee77edeaf5381c1891cd8cb89149a4bcd72f219bfe2be12381f"), looks := false }, kinds := [], alts := [], laidByText := true, laidKinds := [.data], laidTests := true, laidLooks := .later }
def FnExactReadyAtCardSaid : Prop := Claim7.holds Tryd.pinned (.plain (OpenSpec.ofChange fnExactReadyAtSpec)) fnExactReadyAtCard

/-- THE TIED CARD OF 'laws.FnExactCoolestFor'. -/
def fnExactCoolestForCard : Claim7 := { stood := { row := fnExactCoolestForRow, standIns := [], harness := (true, "18a1206acb1d4ee77edeaf5381c1891cd8cb89149a4bcd72f219bfe2be12381f"), looks := false }, kinds := [], alts := [], laidByText := true, laidKinds := [.data], laidTests := true, laidLooks := .later }
def FnExactCoolestForCardSaid : Prop := Claim7.holds Tryd.pinned (.plain (OpenSpec.ofChange fnExactCoolestForSpec)) fnExactCoolestForCard

/-- THE SECOND FORM's CARD OF 'laws.FnRises'. -/
def fnRisesUptoCard : Claim7 := { stood := { row := fnRisesUptoRow, standIns := [], harness := (true, "18a1206acb1d4ee77edeaf5381c1891cd8cb89149a4bcd72f219bfe2be12381f"), looks := false }, kinds := [], alts := [], laidByText := true, laidKinds := [.data], laidTests := true, laidLooks := .later }
def FnRisesUptoCardSaid : Prop := Claim7.holds Tryd.pinned (.plain (OpenSpec.upto fnRisesSpec)) fnRisesUptoCard

/-- THE SECOND FORM's CARD OF 'laws.FnExactSpeedAt'. -/
def fnExactSpeedAtUptoCard : Claim7 := { stood := { row := fnExactSpeedAtUptoRow, standIns := [], harness := (true, "18a1206acb1d4ee77edeaf5381c1891cd8cb89149a4bcd72f219bfe2be12381f"), looks := false }, kinds := [], alts := [], laidByText := true, laidKinds := [.data], laidTests := true, laidLooks := .later }
def FnExactSpeedAtUptoCardSaid : Prop := Claim7.holds Tryd.pinned (.plain (OpenSpec.upto fnExactSpeedAtSpec)) fnExactSpeedAtUptoCard

/-- THE SECOND FORM's CARD OF 'laws.FnExactRiseAfter'. -/
def fnExactRiseAfterUptoCard : Claim7 := { stood := { row := fnExactRiseAfterUptoRow, standIns := [], harness := (true, "18a1206acb1d4ee77edeaf5381c1891cd8cb89149a4bcd72f219bfe2be12381f"), looks := false }, kinds := [], alts := [], laidByText := true, laidKinds := [.data], laidTests := true, laidLooks := .later }
def FnExactRiseAfterUptoCardSaid : Prop := Claim7.holds Tryd.pinned (.plain (OpenSpec.upto fnExactRiseAfterSpec)) fnExactRiseAfterUptoCard

/-- THE SECOND FORM's CARD OF 'laws.FnExactMinutesAt'. -/
def fnExactMinutesAtUptoCard : Claim7 := { stood := { row := fnExactMinutesAtUptoRow, standIns := [], harness := (true, "18a1206acb1d4ee77edeaf5381c1891cd8cb89149a4bcd72f219bfe2be12381f"), looks := false }, kinds := [], alts := [], laidByText := true, laidKinds := [.data], laidTests := true, laidLooks := .later }
def FnExactMinutesAtUptoCardSaid : Prop := Claim7.holds Tryd.pinned (.plain (OpenSpec.upto fnExactMinutesAtSpec)) fnExactMinutesAtUptoCard

/-- THE SECOND FORM's CARD OF 'laws.FnExactReadyAt'. -/
def fnExactReadyAtUptoCard : Claim7 := { stood := { row := fnExactReadyAtUptoRow, standIns := [], harness := (true, "18a1206acb1d4ee77edeaf5381c1891cd8cb89149a4bcd72f219bfe2be12381f"), looks := false }, kinds := [], alts := [], laidByText := true, laidKinds := [.data], laidTests := true, laidLooks := .later }
def FnExactReadyAtUptoCardSaid : Prop := Claim7.holds Tryd.pinned (.plain (OpenSpec.upto fnExactReadyAtSpec)) fnExactReadyAtUptoCard

/-- THE SECOND FORM's CARD OF 'laws.FnExactCoolestFor'. -/
def fnExactCoolestForUptoCard : Claim7 := { stood := { row := fnExactCoolestForUptoRow, standIns := [], harness := (true, "18a1206acb1d4ee77edeaf5381c1891cd8cb89149a4bcd72f219bfe2be12381f"), looks := false }, kinds := [], alts := [], laidByText := true, laidKinds := [.data], laidTests := true, laidLooks := .later }
def FnExactCoolestForUptoCardSaid : Prop := Claim7.holds Tryd.pinned (.plain (OpenSpec.upto fnExactCoolestForSpec)) fnExactCoolestForUptoCard
end Rows
end Go.Proofs.YtkchjkhcpenpfacDoor
