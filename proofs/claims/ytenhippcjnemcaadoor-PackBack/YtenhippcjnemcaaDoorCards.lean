/-
  DERIVED. GIVEN WITH THE SEED: THE CARDS: each row of YtenhippcjnemcaaDoorRows.lean that lists a variable, with what it lists TIED to the program's text (the seventh form; the later family's looks); each row that meets fmt, with fmt's text TOLD by the authors' own Lean function (tested against real Go, not proved from fmt's source: count such statements apart). THE CARD IS WHAT COUNTS. Prove the row's statement (the work); the ties are given (YtenhippcjnemcaaDoorTie.lean); close each card by the builder's one call (the guide's Derived/Test/ToyasCard.lean, 'card_holds'). Laid BY PROGRAM, IN A SANDBOX (cutbox-door.mjs). By AI agents, Wed Nov 11 2026. No macro, syntax, notation, axiom, sorry.
-/
import Derived.Test.YtenhippcjnemcaaDoorRows
import GoSem.ClaimSeven
namespace Go.Proofs.YtenhippcjnemcaaDoor
namespace Rows

/-- THE TIED CARD OF 'fathomlaw7.PackBack'. -/
def packBackCard : Claim7 := { stood := { row := packBackRow, standIns := [], harness := (true, "e5567b3836b59854e097a4d4dda88b44e4a5bf0d925417bfea92a2e59aafa2dd"), looks := false }, kinds := [], alts := [], laidByText := true, laidKinds := [.data], laidTests := true, laidLooks := .later }
def PackBackCardSaid : Prop := Claim7.holds Tryd.pinned (.plain (OpenSpec.ofChange packBackSpec)) packBackCard

/-- THE TIED CARD OF 'fathomlaw7.PackOne'. -/
def packOneCard : Claim7 := { stood := { row := packOneRow, standIns := [], harness := (true, "e5567b3836b59854e097a4d4dda88b44e4a5bf0d925417bfea92a2e59aafa2dd"), looks := false }, kinds := [], alts := [], laidByText := true, laidKinds := [.data], laidTests := true, laidLooks := .later }
def PackOneCardSaid : Prop := Claim7.holds Tryd.pinned (.plain (OpenSpec.ofChange packOneSpec)) packOneCard

/-- THE TIED CARD OF 'fathomlaw7.PackTurned'. -/
def packTurnedCard : Claim7 := { stood := { row := packTurnedRow, standIns := [], harness := (true, "e5567b3836b59854e097a4d4dda88b44e4a5bf0d925417bfea92a2e59aafa2dd"), looks := false }, kinds := [], alts := [], laidByText := true, laidKinds := [.data], laidTests := true, laidLooks := .later }
def PackTurnedCardSaid : Prop := Claim7.holds Tryd.pinned (.plain (OpenSpec.ofChange packTurnedSpec)) packTurnedCard

/-- THE TIED CARD OF 'fathomlaw7.PackEnds'. -/
def packEndsCard : Claim7 := { stood := { row := packEndsRow, standIns := [], harness := (true, "e5567b3836b59854e097a4d4dda88b44e4a5bf0d925417bfea92a2e59aafa2dd"), looks := false }, kinds := [], alts := [], laidByText := true, laidKinds := [.data], laidTests := true, laidLooks := .later }
def PackEndsCardSaid : Prop := Claim7.holds Tryd.pinned (.plain (OpenSpec.ofChange packEndsSpec)) packEndsCard

/-- THE SECOND FORM's CARD OF 'fathomlaw7.PackBack'. -/
def packBackUptoCard : Claim7 := { stood := { row := packBackUptoRow, standIns := [], harness := (true, "e5567b3836b59854e097a4d4dda88b44e4a5bf0d925417bfea92a2e59aafa2dd"), looks := false }, kinds := [], alts := [], laidByText := true, laidKinds := [.data], laidTests := true, laidLooks := .later }
def PackBackUptoCardSaid : Prop := Claim7.holds Tryd.pinned (.plain (OpenSpec.upto packBackSpec)) packBackUptoCard

/-- THE SECOND FORM's CARD OF 'fathomlaw7.PackOne'. -/
def packOneUptoCard : Claim7 := { stood := { row := packOneUptoRow, standIns := [], harness := (true, "e5567b3836b59854e097a4d4dda88b44e4a5bf0d925417bfea92a2e59aafa2dd"), looks := false }, kinds := [], alts := [], laidByText := true, laidKinds := [.data], laidTests := true, laidLooks := .later }
def PackOneUptoCardSaid : Prop := Claim7.holds Tryd.pinned (.plain (OpenSpec.upto packOneSpec)) packOneUptoCard

/-- THE SECOND FORM's CARD OF 'fathomlaw7.PackTurned'. -/
def packTurnedUptoCard : Claim7 := { stood := { row := packTurnedUptoRow, standIns := [], harness := (true, "e5567b3836b59854e097a4d4dda88b44e4a5bf0d925417bfea92a2e59aafa2dd"), looks := false }, kinds := [], alts := [], laidByText := true, laidKinds := [.data], laidTests := true, laidLooks := .later }
def PackTurnedUptoCardSaid : Prop := Claim7.holds Tryd.pinned (.plain (OpenSpec.upto packTurnedSpec)) packTurnedUptoCard

/-- THE SECOND FORM's CARD OF 'fathomlaw7.PackEnds'. -/
def packEndsUptoCard : Claim7 := { stood := { row := packEndsUptoRow, standIns := [], harness := (true, "e5567b3836b59854e097a4d4dda88b44e4a5bf0d925417bfea92a2e59aafa2dd"), looks := false }, kinds := [], alts := [], laidByText := true, laidKinds := [.data], laidTests := true, laidLooks := .later }
def PackEndsUptoCardSaid : Prop := Claim7.holds Tryd.pinned (.plain (OpenSpec.upto packEndsSpec)) packEndsUptoCard
end Rows
end Go.Proofs.YtenhippcjnemcaaDoor
