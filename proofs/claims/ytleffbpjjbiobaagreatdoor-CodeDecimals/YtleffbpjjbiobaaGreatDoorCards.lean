/-
  DERIVED. GIVEN WITH THE SEED: THE CARDS: each row of YtleffbpjjbiobaaGreatDoorRows.lean that lists a variable, with what it lists TIED to the program's text (the seventh form; the later family's looks); each row that meets fmt, with fmt's text TOLD by the authors' own Lean function (tested against real Go, not proved from fmt's source: count such statements apart). THE CARD IS WHAT COUNTS. Prove the row's statement (the work); the ties are given (YtleffbpjjbiobaaGreatDoorTie.lean); close each card by the builder's one call (the guide's Derived/Test/ToyasCard.lean, 'card_holds'). Laid BY PROGRAM, IN A SANDBOX (cutbox-door.mjs). By AI agents, Wed Nov 11 2026. No macro, syntax, notation, axiom, sorry.
-/
import Derived.Test.YtleffbpjjbiobaaGreatDoorRows
import GoSem.ClaimSeven
namespace Go.Proofs.YtleffbpjjbiobaaGreatDoor
namespace Rows

/-- THE TIED CARD OF 'fathomlaw8.CodeBack'. -/
def codeBackCard : Claim7 := { stood := { row := codeBackRow, standIns := [], harness := (true, "b4e8378f6cc70cea26fef393524085e95ac8877a2f1f856cfc4233880ba1d002"), looks := false }, kinds := [], alts := [], laidByText := true, laidKinds := [.data], laidTests := true, laidLooks := .later }
def CodeBackCardSaid : Prop := Claim7.holds Tryz.pinned (.plain (OpenSpec.ofChange codeBackSpec)) codeBackCard

/-- THE TIED CARD OF 'fathomlaw8.CodeOne'. -/
def codeOneCard : Claim7 := { stood := { row := codeOneRow, standIns := [], harness := (true, "b4e8378f6cc70cea26fef393524085e95ac8877a2f1f856cfc4233880ba1d002"), looks := false }, kinds := [], alts := [], laidByText := true, laidKinds := [.data], laidTests := true, laidLooks := .later }
def CodeOneCardSaid : Prop := Claim7.holds Tryz.pinned (.plain (OpenSpec.ofChange codeOneSpec)) codeOneCard

/-- THE TIED CARD OF 'fathomlaw8.CodeDecimals'. -/
def codeDecimalsCard : Claim7 := { stood := { row := codeDecimalsRow, standIns := [], harness := (true, "b4e8378f6cc70cea26fef393524085e95ac8877a2f1f856cfc4233880ba1d002"), looks := false }, kinds := [], alts := [], laidByText := true, laidKinds := [.data], laidTests := true, laidLooks := .later }
def CodeDecimalsCardSaid : Prop := Claim7.holds Tryz.pinned (.plain (OpenSpec.ofChange codeDecimalsSpec)) codeDecimalsCard

/-- THE TIED CARD OF 'fathomlaw8.CodeEnds'. -/
def codeEndsCard : Claim7 := { stood := { row := codeEndsRow, standIns := [], harness := (true, "b4e8378f6cc70cea26fef393524085e95ac8877a2f1f856cfc4233880ba1d002"), looks := false }, kinds := [], alts := [], laidByText := true, laidKinds := [.data], laidTests := true, laidLooks := .later }
def CodeEndsCardSaid : Prop := Claim7.holds Tryz.pinned (.plain (OpenSpec.ofChange codeEndsSpec)) codeEndsCard

/-- THE TIED CARD OF 'fathomlaw8.CodeMoves'. -/
def codeMovesCard : Claim7 := { stood := { row := codeMovesRow, standIns := [], harness := (true, "b4e8378f6cc70cea26fef393524085e95ac8877a2f1f856cfc4233880ba1d002"), looks := false }, kinds := [], alts := [], laidByText := true, laidKinds := [.data], laidTests := true, laidLooks := .later }
def CodeMovesCardSaid : Prop := Claim7.holds Tryz.pinned (.plain (OpenSpec.ofChange codeMovesSpec)) codeMovesCard

/-- THE SECOND FORM's CARD OF 'fathomlaw8.CodeBack'. -/
def codeBackUptoCard : Claim7 := { stood := { row := codeBackUptoRow, standIns := [], harness := (true, "b4e8378f6cc70cea26fef393524085e95ac8877a2f1f856cfc4233880ba1d002"), looks := false }, kinds := [], alts := [], laidByText := true, laidKinds := [.data], laidTests := true, laidLooks := .later }
def CodeBackUptoCardSaid : Prop := Claim7.holds Tryz.pinned (.plain (OpenSpec.upto codeBackSpec)) codeBackUptoCard

/-- THE SECOND FORM's CARD OF 'fathomlaw8.CodeOne'. -/
def codeOneUptoCard : Claim7 := { stood := { row := codeOneUptoRow, standIns := [], harness := (true, "b4e8378f6cc70cea26fef393524085e95ac8877a2f1f856cfc4233880ba1d002"), looks := false }, kinds := [], alts := [], laidByText := true, laidKinds := [.data], laidTests := true, laidLooks := .later }
def CodeOneUptoCardSaid : Prop := Claim7.holds Tryz.pinned (.plain (OpenSpec.upto codeOneSpec)) codeOneUptoCard

/-- THE SECOND FORM's CARD OF 'fathomlaw8.CodeDecimals'. -/
def codeDecimalsUptoCard : Claim7 := { stood := { row := codeDecimalsUptoRow, standIns := [], harness := (true, "b4e8378f6cc70cea26fef393524085e95ac8877a2f1f856cfc4233880ba1d002"), looks := false }, kinds := [], alts := [], laidByText := true, laidKinds := [.data], laidTests := true, laidLooks := .later }
def CodeDecimalsUptoCardSaid : Prop := Claim7.holds Tryz.pinned (.plain (OpenSpec.upto codeDecimalsSpec)) codeDecimalsUptoCard

/-- THE SECOND FORM's CARD OF 'fathomlaw8.CodeEnds'. -/
def codeEndsUptoCard : Claim7 := { stood := { row := codeEndsUptoRow, standIns := [], harness := (true, "b4e8378f6cc70cea26fef393524085e95ac8877a2f1f856cfc4233880ba1d002"), looks := false }, kinds := [], alts := [], laidByText := true, laidKinds := [.data], laidTests := true, laidLooks := .later }
def CodeEndsUptoCardSaid : Prop := Claim7.holds Tryz.pinned (.plain (OpenSpec.upto codeEndsSpec)) codeEndsUptoCard

/-- THE SECOND FORM's CARD OF 'fathomlaw8.CodeMoves'. -/
def codeMovesUptoCard : Claim7 := { stood := { row := codeMovesUptoRow, standIns := [], harness := (true, "b4e8378f6cc70cea26fef393524085e95ac8877a2f1f856cfc4233880ba1d002"), looks := false }, kinds := [], alts := [], laidByText := true, laidKinds := [.data], laidTests := true, laidLooks := .later }
def CodeMovesUptoCardSaid : Prop := Claim7.holds Tryz.pinned (.plain (OpenSpec.upto codeMovesSpec)) codeMovesUptoCard
end Rows
end Go.Proofs.YtleffbpjjbiobaaGreatDoor
