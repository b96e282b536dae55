/-
  DERIVED. GIVEN WITH THE SEED: THE CARDS: each row of YtfpbajebcgfiaaaDoorRows.lean that lists a variable, with what it lists TIED to the program's text (the seventh form; the later family's looks); each row that meets fmt, with fmt's text TOLD by the authors' own Lean function (tested against real Go, not proved from fmt's source: count such statements apart). THE CARD IS WHAT COUNTS. Prove the row's statement (the work); the ties are given (YtfpbajebcgfiaaaDoorTie.lean); close each card by the builder's one call (the guide's Derived/Test/ToyasCard.lean, 'card_holds'). Laid BY PROGRAM, IN A SANDBOX (cutbox-door.mjs). By AI agents, Wed Nov 11 2026. No macro, syntax, notation, axiom, sorry.
-/
import Derived.Test.YtfpbajebcgfiaaaDoorRows
import GoSem.ClaimSeven
namespace Go.Proofs.YtfpbajebcgfiaaaDoor
namespace Rows

/-- THE TIED CARD OF 'laws.FnExactTimeText'. -/
def fnExactTimeTextCard : Claim7 := { stood := { row := fnExactTimeTextRow, standIns := [], harness := (true, "3850f0be77a44c3138413ad87de63b6093609b13ae16e2f98fbf12140bbb14de"), looks := false }, kinds := [], alts := [], laidByText := true, laidKinds := [.data, .data, .data], laidTests := true, laidLooks := .later }
def FnExactTimeTextCardSaid : Prop := Claim7.holds Tryd.pinned (.plain (OpenSpec.ofChange fnExactTimeTextSpec)) fnExactTimeTextCard

/-- THE TIED CARD OF 'laws.FnExactLengthText'. -/
def fnExactLengthTextCard : Claim7 := { stood := { row := fnExactLengthTextRow, standIns := [], harness := (true, "3850f0be77a44c3138413ad87de63b6093609b13ae16e2f98fbf12140bbb14de"), looks := false }, kinds := [], alts := [], laidByText := true, laidKinds := [.data, .data, .data], laidTests := true, laidLooks := .later }
def FnExactLengthTextCardSaid : Prop := Claim7.holds Tryd.pinned (.plain (OpenSpec.ofChange fnExactLengthTextSpec)) fnExactLengthTextCard

/-- THE TIED CARD OF 'laws.FnExactReadTime'. -/
def fnExactReadTimeCard : Claim7 := { stood := { row := fnExactReadTimeRow, standIns := [], harness := (true, "3850f0be77a44c3138413ad87de63b6093609b13ae16e2f98fbf12140bbb14de"), looks := false }, kinds := [], alts := [], laidByText := true, laidKinds := [.data, .data, .data], laidTests := true, laidLooks := .later }
def FnExactReadTimeCardSaid : Prop := Claim7.holds Tryd.pinned (.plain (OpenSpec.ofChange fnExactReadTimeSpec)) fnExactReadTimeCard

/-- THE TIED CARD OF 'laws.FnExactReadLength'. -/
def fnExactReadLengthCard : Claim7 := { stood := { row := fnExactReadLengthRow, standIns := [], harness := (true, "3850f0be77a44c3138413ad87de63b6093609b13ae16e2f98fbf12140bbb14de"), looks := false }, kinds := [], alts := [], laidByText := true, laidKinds := [.data, .data, .data], laidTests := true, laidLooks := .later }
def FnExactReadLengthCardSaid : Prop := Claim7.holds Tryd.pinned (.plain (OpenSpec.ofChange fnExactReadLengthSpec)) fnExactReadLengthCard

/-- THE SECOND FORM's CARD OF 'laws.FnExactTimeText'. -/
def fnExactTimeTextUptoCard : Claim7 := { stood := { row := fnExactTimeTextUptoRow, standIns := [], harness := (true, "3850f0be77a44c3138413ad87de63b6093609b13ae16e2f98fbf12140bbb14de"), looks := false }, kinds := [], alts := [], laidByText := true, laidKinds := [.data, .data, .data], laidTests := true, laidLooks := .later }
def FnExactTimeTextUptoCardSaid : Prop := Claim7.holds Tryd.pinned (.plain (OpenSpec.upto fnExactTimeTextSpec)) fnExactTimeTextUptoCard

/-- THE SECOND FORM's CARD OF 'laws.FnExactLengthText'. -/
def fnExactLengthTextUptoCard : Claim7 := { stood := { row := fnExactLengthTextUptoRow, standIns := [], harness := (true, "3850f0be77a44c3138413ad87de63b6093609b13ae16e2f98fbf12140bbb14de"), looks := false }, kinds := [], alts := [], laidByText := true, laidKinds := [.data, .data, .data], laidTests := true, laidLooks := .later }
def FnExactLengthTextUptoCardSaid : Prop := Claim7.holds Tryd.pinned (.plain (OpenSpec.upto fnExactLengthTextSpec)) fnExactLengthTextUptoCard

/-- THE SECOND FORM's CARD OF 'laws.FnExactReadTime'. -/
def fnExactReadTimeUptoCard : Claim7 := { stood := { row := fnExactReadTimeUptoRow, standIns := [], harness := (true, "3850f0be77a44c3138413ad87de63b6093609b13ae16e2f98fbf12140bbb14de"), looks := false }, kinds := [], alts := [], laidByText := true, laidKinds := [.data, .data, .data], laidTests := true, laidLooks := .later }
def FnExactReadTimeUptoCardSaid : Prop := Claim7.holds Tryd.pinned (.plain (OpenSpec.upto fnExactReadTimeSpec)) fnExactReadTimeUptoCard

/-- THE SECOND FORM's CARD OF 'laws.FnExactReadLength'. -/
def fnExactReadLengthUptoCard : Claim7 := { stood := { row := fnExactReadLengthUptoRow, standIns := [], harness := (true, "3850f0be77a44c3138413ad87de63b6093609b13ae16e2f98fbf12140bbb14de"), looks := false }, kinds := [], alts := [], laidByText := true, laidKinds := [.data, .data, .data], laidTests := true, laidLooks := .later }
def FnExactReadLengthUptoCardSaid : Prop := Claim7.holds Tryd.pinned (.plain (OpenSpec.upto fnExactReadLengthSpec)) fnExactReadLengthUptoCard
end Rows
end Go.Proofs.YtfpbajebcgfiaaaDoor
