/-
  DERIVED. GIVEN WITH THE SEED: THE CARDS: each row of YtkpmalfigmimaaaGreatDoorRows.lean that lists a variable, with what it lists TIED to the program's text (the seventh form; the later family's looks); each row that meets fmt, with fmt's text TOLD by the authors' own Lean function (tested against real Go, not proved from fmt's source: count such statements apart). THE CARD IS WHAT COUNTS. Prove the row's statement (the work); the ties are given (YtkpmalfigmimaaaGreatDoorTie.lean); close each card by the builder's one call (the guide's Derived/Test/ToyasCard.lean, 'card_holds'). Laid BY PROGRAM, IN A SANDBOX (cutbox-door.mjs). By AI agents, Wed Nov 11 2026. No macro, syntax, notation, axiom, sorry.
-/
import Derived.Test.YtkpmalfigmimaaaGreatDoorRows
import GoSem.ClaimSeven
namespace Go.Proofs.YtkpmalfigmimaaaGreatDoor
namespace Rows

/-- THE TIED CARD OF 'fathomlaw9.BlockBack'. -/
def blockBackCard : Claim7 := { stood := { row := blockBackRow, standIns := [], harness := (true, "bfc29c97813d89fc939518a3e4391c90fb2834e2ca61d049f3b047d5efea8504"), looks := false }, kinds := [], alts := [], laidByText := true, laidKinds := [.data, .data], laidTests := true, laidLooks := .later }
def BlockBackCardSaid : Prop := Claim7.holds Tryz.pinned (.plain (OpenSpec.ofChange blockBackSpec)) blockBackCard

/-- THE TIED CARD OF 'fathomlaw9.BlockHurt'. -/
def blockHurtCard : Claim7 := { stood := { row := blockHurtRow, standIns := [], harness := (true, "bfc29c97813d89fc939518a3e4391c90fb2834e2ca61d049f3b047d5efea8504"), looks := false }, kinds := [], alts := [], laidByText := true, laidKinds := [.data, .data], laidTests := true, laidLooks := .later }
def BlockHurtCardSaid : Prop := Claim7.holds Tryz.pinned (.plain (OpenSpec.ofChange blockHurtSpec)) blockHurtCard

/-- THE TIED CARD OF 'fathomlaw9.BlockGreat'. -/
def blockGreatCard : Claim7 := { stood := { row := blockGreatRow, standIns := [], harness := (true, "bfc29c97813d89fc939518a3e4391c90fb2834e2ca61d049f3b047d5efea8504"), looks := false }, kinds := [], alts := [], laidByText := true, laidKinds := [.data, .data], laidTests := true, laidLooks := .later }
def BlockGreatCardSaid : Prop := Claim7.holds Tryz.pinned (.plain (OpenSpec.ofChange blockGreatSpec)) blockGreatCard

/-- THE SECOND FORM's CARD OF 'fathomlaw9.BlockBack'. -/
def blockBackUptoCard : Claim7 := { stood := { row := blockBackUptoRow, standIns := [], harness := (true, "bfc29c97813d89fc939518a3e4391c90fb2834e2ca61d049f3b047d5efea8504"), looks := false }, kinds := [], alts := [], laidByText := true, laidKinds := [.data, .data], laidTests := true, laidLooks := .later }
def BlockBackUptoCardSaid : Prop := Claim7.holds Tryz.pinned (.plain (OpenSpec.upto blockBackSpec)) blockBackUptoCard

/-- THE SECOND FORM's CARD OF 'fathomlaw9.BlockHurt'. -/
def blockHurtUptoCard : Claim7 := { stood := { row := blockHurtUptoRow, standIns := [], harness := (true, "bfc29c97813d89fc939518a3e4391c90fb2834e2ca61d049f3b047d5efea8504"), looks := false }, kinds := [], alts := [], laidByText := true, laidKinds := [.data, .data], laidTests := true, laidLooks := .later }
def BlockHurtUptoCardSaid : Prop := Claim7.holds Tryz.pinned (.plain (OpenSpec.upto blockHurtSpec)) blockHurtUptoCard

/-- THE SECOND FORM's CARD OF 'fathomlaw9.BlockGreat'. -/
def blockGreatUptoCard : Claim7 := { stood := { row := blockGreatUptoRow, standIns := [], harness := (true, "bfc29c97813d89fc939518a3e4391c90fb2834e2ca61d049f3b047d5efea8504"), looks := false }, kinds := [], alts := [], laidByText := true, laidKinds := [.data, .data], laidTests := true, laidLooks := .later }
def BlockGreatUptoCardSaid : Prop := Claim7.holds Tryz.pinned (.plain (OpenSpec.upto blockGreatSpec)) blockGreatUptoCard
end Rows
end Go.Proofs.YtkpmalfigmimaaaGreatDoor
