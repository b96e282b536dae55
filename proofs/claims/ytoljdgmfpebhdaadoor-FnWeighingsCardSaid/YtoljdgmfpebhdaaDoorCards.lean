/-
  DERIVED. GIVEN WITH THE SEED: THE CARDS: each row of YtoljdgmfpebhdaaDoorRows.lean that lists a variable, with what it lists TIED to the program's text (the seventh form; the later family's looks); each row that meets fmt, with fmt's text TOLD by the authors' own Lean function (tested against real Go, not proved from fmt's source: count such statements apart). THE CARD IS WHAT COUNTS. Prove the row's statement (the work); the ties are given (YtoljdgmfpebhdaaDoorTie.lean); close each card by the builder's one call (the guide's Derived/Test/ToyasCard.lean, 'card_holds'). Laid BY PROGRAM, IN A SANDBOX (cutbox-door.mjs). By AI agents, Wed Nov 11 2026. No macro, syntax, notation, axiom, sorry.
-/
import Derived.Test.YtoljdgmfpebhdaaDoorRows
import GoSem.ClaimSeven
namespace Go.Proofs.YtoljdgmfpebhdaaDoor
namespace Rows

/-- THE TIED CARD OF 'laws.FnExactReadTime'. -/
def fnExactReadTimeCard : Claim7 := { stood := { row := fnExactReadTimeRow, standIns := [], harness := (true, "7ca4b9bf53938dd6831c71abc2aed1e5cb26aaba49441c6f23c5870fb5f2c6f9"), looks := true }, kinds := [], alts := [], laidByText := true, laidKinds := [.data, .data, .data], laidTests := true, laidLooks := .later }
def FnExactReadTimeCardSaid : Prop := Claim7.holds Tryd.pinned (.plain (OpenSpec.ofChange fnExactReadTimeSpec)) fnExactReadTimeCard

/-- THE TIED CARD OF 'laws.FnExactReadLength'. -/
def fnExactReadLengthCard : Claim7 := { stood := { row := fnExactReadLengthRow, standIns := [], harness := (true, "7ca4b9bf53938dd6831c71abc2aed1e5cb26aaba49441c6f23c5870fb5f2c6f9"), looks := true }, kinds := [], alts := [], laidByText := true, laidKinds := [.data, .data, .data], laidTests := true, laidLooks := .later }
def FnExactReadLengthCardSaid : Prop := Claim7.holds Tryd.pinned (.plain (OpenSpec.ofChange fnExactReadLengthSpec)) fnExactReadLengthCard

/-- THE TIED CARD OF 'laws.FnClocks'. -/
def fnClocksCard : Claim7 := { stood := { row := fnClocksRow, standIns := [], harness := (true, "7ca4b9bf53938dd6831c71abc2aed1e5cb26aaba49441c6f23c5870fb5f2c6f9"), looks := true }, kinds := [], alts := [], laidByText := true, laidKinds := [.data, .data, .data], laidTests := true, laidLooks := .later }
def FnClocksCardSaid : Prop := Claim7.holds Tryd.pinned (.plain (OpenSpec.ofChange fnClocksSpec)) fnClocksCard

/-- THE TIED CARD OF 'laws.FnExactMissingPart'. -/
def fnExactMissingPartCard : Claim7 := { stood := { row := fnExactMissingPartRow, standIns := [], harness := (true, "7ca4b9bf53938dd6831c71abc2aed1e5cb26aaba49441c6f23c5870fb5f2c6f9"), looks := true }, kinds := [], alts := [], laidByText := true, laidKinds := [.handle], laidTests := true, laidLooks := .later }
def FnExactMissingPartCardSaid : Prop := Claim7.holds Tryd.pinned (.plain (OpenSpec.ofChange fnExactMissingPartSpec)) fnExactMissingPartCard

/-- THE TIED CARD OF 'laws.FnExactTwiceIn'. -/
def fnExactTwiceInCard : Claim7 := { stood := { row := fnExactTwiceInRow, standIns := [], harness := (true, "7ca4b9bf53938dd6831c71abc2aed1e5cb26aaba49441c6f23c5870fb5f2c6f9"), looks := true }, kinds := [], alts := [], laidByText := true, laidKinds := [.handle], laidTests := true, laidLooks := .later }
def FnExactTwiceInCardSaid : Prop := Claim7.holds Tryd.pinned (.plain (OpenSpec.ofChange fnExactTwiceInSpec)) fnExactTwiceInCard

/-- THE TIED CARD OF 'laws.FnWeighings'. -/
def fnWeighingsCard : Claim7 := { stood := { row := fnWeighingsRow, standIns := [], harness := (true, "7ca4b9bf53938dd6831c71abc2aed1e5cb26aaba49441c6f23c5870fb5f2c6f9"), looks := true }, kinds := [], alts := [], laidByText := true, laidKinds := [.handle], laidTests := true, laidLooks := .later }
def FnWeighingsCardSaid : Prop := Claim7.holds Tryd.pinned (.plain (OpenSpec.ofChange fnWeighingsSpec)) fnWeighingsCard

/-- THE SECOND FORM's CARD OF 'laws.FnExactReadTime'. -/
def fnExactReadTimeUptoCard : Claim7 := { stood := { row := fnExactReadTimeUptoRow, standIns := [], harness := (true, "7ca4b9bf53938dd6831c71abc2aed1e5cb26aaba49441c6f23c5870fb5f2c6f9"), looks := true }, kinds := [], alts := [], laidByText := true, laidKinds := [.data, .data, .data], laidTests := true, laidLooks := .later }
def FnExactReadTimeUptoCardSaid : Prop := Claim7.holds Tryd.pinned (.plain (OpenSpec.upto fnExactReadTimeSpec)) fnExactReadTimeUptoCard

/-- THE SECOND FORM's CARD OF 'laws.FnExactReadLength'. -/
def fnExactReadLengthUptoCard : Claim7 := { stood := { row := fnExactReadLengthUptoRow, standIns := [], harness := (true, "7ca4b9bf53938dd6831c71abc2aed1e5cb26aaba49441c6f23c5870fb5f2c6f9"), looks := true }, kinds := [], alts := [], laidByText := true, laidKinds := [.data, .data, .data], laidTests := true, laidLooks := .later }
def FnExactReadLengthUptoCardSaid : Prop := Claim7.holds Tryd.pinned (.plain (OpenSpec.upto fnExactReadLengthSpec)) fnExactReadLengthUptoCard

/-- THE SECOND FORM's CARD OF 'laws.FnClocks'. -/
def fnClocksUptoCard : Claim7 := { stood := { row := fnClocksUptoRow, standIns := [], harness := (true, "7ca4b9bf53938dd6831c71abc2aed1e5cb26aaba49441c6f23c5870fb5f2c6f9"), looks := true }, kinds := [], alts := [], laidByText := true, laidKinds := [.data, .data, .data], laidTests := true, laidLooks := .later }
def FnClocksUptoCardSaid : Prop := Claim7.holds Tryd.pinned (.plain (OpenSpec.upto fnClocksSpec)) fnClocksUptoCard

/-- THE SECOND FORM's CARD OF 'laws.FnExactMissingPart'. -/
def fnExactMissingPartUptoCard : Claim7 := { stood := { row := fnExactMissingPartUptoRow, standIns := [], harness := (true, "7ca4b9bf53938dd6831c71abc2aed1e5cb26aaba49441c6f23c5870fb5f2c6f9"), looks := true }, kinds := [], alts := [], laidByText := true, laidKinds := [.handle], laidTests := true, laidLooks := .later }
def FnExactMissingPartUptoCardSaid : Prop := Claim7.holds Tryd.pinned (.plain (OpenSpec.upto fnExactMissingPartSpec)) fnExactMissingPartUptoCard

/-- THE SECOND FORM's CARD OF 'laws.FnExactTwiceIn'. -/
def fnExactTwiceInUptoCard : Claim7 := { stood := { row := fnExactTwiceInUptoRow, standIns := [], harness := (true, "7ca4b9bf53938dd6831c71abc2aed1e5cb26aaba49441c6f23c5870fb5f2c6f9"), looks := true }, kinds := [], alts := [], laidByText := true, laidKinds := [.handle], laidTests := true, laidLooks := .later }
def FnExactTwiceInUptoCardSaid : Prop := Claim7.holds Tryd.pinned (.plain (OpenSpec.upto fnExactTwiceInSpec)) fnExactTwiceInUptoCard

/-- THE SECOND FORM's CARD OF 'laws.FnWeighings'. -/
def fnWeighingsUptoCard : Claim7 := { stood := { row := fnWeighingsUptoRow, standIns := [], harness := (true, "7ca4b9bf53938dd6831c71abc2aed1e5cb26aaba49441c6f23c5870fb5f2c6f9"), looks := true }, kinds := [], alts := [], laidByText := true, laidKinds := [.handle], laidTests := true, laidLooks := .later }
def FnWeighingsUptoCardSaid : Prop := Claim7.holds Tryd.pinned (.plain (OpenSpec.upto fnWeighingsSpec)) fnWeighingsUptoCard
end Rows
end Go.Proofs.YtoljdgmfpebhdaaDoor
