/-
  DERIVED. GIVEN WITH THE SEED: THE CARDS: each row of YtgcmdbpanfeaaabGreatDoorRows.lean that lists a variable, with what it lists TIED to the program's text (the seventh form; the later family's looks); each row that meets fmt, with fmt's text TOLD by the authors' own Lean function (tested against real Go, not proved from fmt's source: count such statements apart). THE CARD IS WHAT COUNTS. Prove the row's statement (the work); the ties are given (YtgcmdbpanfeaaabGreatDoorTie.lean); close each card by the builder's one call (the guide's Derived/Test/ToyasCard.lean, 'card_holds'). Laid BY PROGRAM, IN A SANDBOX (cutbox-door.mjs). By AI agents, Wed Nov 11 2026. No macro, syntax, notation, axiom, sorry.
-/
import Derived.Test.YtgcmdbpanfeaaabGreatDoorRows
import GoSem.ClaimSeven
namespace Go.Proofs.YtgcmdbpanfeaaabGreatDoor
namespace Rows

/-- THE TIED CARD OF 'fathomlaw13.LabelBlanks'. -/
def labelBlanksCard : Claim7 := { stood := { row := labelBlanksRow, standIns := [], harness := (true, "6b83b2e43874545c818650e8c466e1fb9122b7e28f4c0ccc233e77634c471b87"), looks := true }, kinds := [], alts := [], laidByText := true, laidKinds := [.data, .data, .data, .data, .sentinel, .sentinel, .pinned], laidTests := true, laidLooks := .later }
def LabelBlanksCardSaid : Prop := Claim7.holds Tryz.pinned (.plain (OpenSpec.ofChange labelBlanksSpec)) labelBlanksCard

/-- THE TIED CARD OF 'fathomlaw13.LabelEscapes'. -/
def labelEscapesCard : Claim7 := { stood := { row := labelEscapesRow, standIns := [], harness := (true, "6b83b2e43874545c818650e8c466e1fb9122b7e28f4c0ccc233e77634c471b87"), looks := true }, kinds := [], alts := [], laidByText := true, laidKinds := [.data, .data, .data, .data, .sentinel, .sentinel, .pinned], laidTests := true, laidLooks := .later }
def LabelEscapesCardSaid : Prop := Claim7.holds Tryz.pinned (.plain (OpenSpec.ofChange labelEscapesSpec)) labelEscapesCard

/-- THE TIED CARD OF 'fathomlaw13.LabelLimits'. -/
def labelLimitsCard : Claim7 := { stood := { row := labelLimitsRow, standIns := [], harness := (true, "6b83b2e43874545c818650e8c466e1fb9122b7e28f4c0ccc233e77634c471b87"), looks := true }, kinds := [], alts := [], laidByText := true, laidKinds := [.data, .data, .data, .data, .sentinel, .sentinel, .pinned], laidTests := true, laidLooks := .later }
def LabelLimitsCardSaid : Prop := Claim7.holds Tryz.pinned (.plain (OpenSpec.ofChange labelLimitsSpec)) labelLimitsCard

/-- THE SECOND FORM's CARD OF 'fathomlaw13.LabelBlanks'. -/
def labelBlanksUptoCard : Claim7 := { stood := { row := labelBlanksUptoRow, standIns := [], harness := (true, "6b83b2e43874545c818650e8c466e1fb9122b7e28f4c0ccc233e77634c471b87"), looks := true }, kinds := [], alts := [], laidByText := true, laidKinds := [.data, .data, .data, .data, .sentinel, .sentinel, .pinned], laidTests := true, laidLooks := .later }
def LabelBlanksUptoCardSaid : Prop := Claim7.holds Tryz.pinned (.plain (OpenSpec.upto labelBlanksSpec)) labelBlanksUptoCard

/-- THE SECOND FORM's CARD OF 'fathomlaw13.LabelEscapes'. -/
def labelEscapesUptoCard : Claim7 := { stood := { row := labelEscapesUptoRow, standIns := [], harness := (true, "6b83b2e43874545c818650e8c466e1fb9122b7e28f4c0ccc233e77634c471b87"), looks := true }, kinds := [], alts := [], laidByText := true, laidKinds := [.data, .data, .data, .data, .sentinel, .sentinel, .pinned], laidTests := true, laidLooks := .later }
def LabelEscapesUptoCardSaid : Prop := Claim7.holds Tryz.pinned (.plain (OpenSpec.upto labelEscapesSpec)) labelEscapesUptoCard

/-- THE SECOND FORM's CARD OF 'fathomlaw13.LabelLimits'. -/
def labelLimitsUptoCard : Claim7 := { stood := { row := labelLimitsUptoRow, standIns := [], harness := (true, "6b83b2e43874545c818650e8c466e1fb9122b7e28f4c0ccc233e77634c471b87"), looks := true }, kinds := [], alts := [], laidByText := true, laidKinds := [.data, .data, .data, .data, .sentinel, .sentinel, .pinned], laidTests := true, laidLooks := .later }
def LabelLimitsUptoCardSaid : Prop := Claim7.holds Tryz.pinned (.plain (OpenSpec.upto labelLimitsSpec)) labelLimitsUptoCard
end Rows
end Go.Proofs.YtgcmdbpanfeaaabGreatDoor
