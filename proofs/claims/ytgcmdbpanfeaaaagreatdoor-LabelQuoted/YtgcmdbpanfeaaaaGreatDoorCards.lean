/-
  DERIVED. GIVEN WITH THE SEED: THE CARDS: each row of YtgcmdbpanfeaaaaGreatDoorRows.lean that lists a variable, with what it lists TIED to the program's text (the seventh form; the later family's looks); each row that meets fmt, with fmt's text TOLD by the authors' own Lean function (tested against real Go, not proved from fmt's source: count such statements apart). THE CARD IS WHAT COUNTS. Prove the row's statement (the work); the ties are given (YtgcmdbpanfeaaaaGreatDoorTie.lean); close each card by the builder's one call (the guide's Derived/Test/ToyasCard.lean, 'card_holds'). Laid BY PROGRAM, IN A SANDBOX (cutbox-door.mjs). By AI agents, Wed Nov 11 2026. No macro, syntax, notation, axiom, sorry.
-/
import Derived.Test.YtgcmdbpanfeaaaaGreatDoorRows
import GoSem.ClaimSeven
namespace Go.Proofs.YtgcmdbpanfeaaaaGreatDoor
namespace Rows

/-- THE TIED CARD OF 'fathomlaw13.LabelMatches'. -/
def labelMatchesCard : Claim7 := { stood := { row := labelMatchesRow, standIns := [], harness := (true, "101184d2073bf779ce1fb762c9271976c5f2c37c59e78739f54422cbf5055cb1"), looks := true }, kinds := [], alts := [], laidByText := true, laidKinds := [.data, .data, .data, .data, .sentinel, .sentinel, .pinned], laidTests := true, laidLooks := .later }
def LabelMatchesCardSaid : Prop := Claim7.holds Tryz.pinned (.plain (OpenSpec.ofChange labelMatchesSpec)) labelMatchesCard

/-- THE TIED CARD OF 'fathomlaw13.LabelOneForm'. -/
def labelOneFormCard : Claim7 := { stood := { row := labelOneFormRow, standIns := [], harness := (true, "101184d2073bf779ce1fb762c9271976c5f2c37c59e78739f54422cbf5055cb1"), looks := true }, kinds := [], alts := [], laidByText := true, laidKinds := [.data, .data, .data, .data, .sentinel, .sentinel, .pinned], laidTests := true, laidLooks := .later }
def LabelOneFormCardSaid : Prop := Claim7.holds Tryz.pinned (.plain (OpenSpec.ofChange labelOneFormSpec)) labelOneFormCard

/-- THE TIED CARD OF 'fathomlaw13.LabelTurned'. -/
def labelTurnedCard : Claim7 := { stood := { row := labelTurnedRow, standIns := [], harness := (true, "101184d2073bf779ce1fb762c9271976c5f2c37c59e78739f54422cbf5055cb1"), looks := true }, kinds := [], alts := [], laidByText := true, laidKinds := [.data, .data, .data, .data, .sentinel, .sentinel, .pinned], laidTests := true, laidLooks := .later }
def LabelTurnedCardSaid : Prop := Claim7.holds Tryz.pinned (.plain (OpenSpec.ofChange labelTurnedSpec)) labelTurnedCard

/-- THE TIED CARD OF 'fathomlaw13.LabelKeyed'. -/
def labelKeyedCard : Claim7 := { stood := { row := labelKeyedRow, standIns := [], harness := (true, "101184d2073bf779ce1fb762c9271976c5f2c37c59e78739f54422cbf5055cb1"), looks := true }, kinds := [], alts := [], laidByText := true, laidKinds := [.data, .data, .data, .data, .sentinel, .sentinel, .pinned], laidTests := true, laidLooks := .later }
def LabelKeyedCardSaid : Prop := Claim7.holds Tryz.pinned (.plain (OpenSpec.ofChange labelKeyedSpec)) labelKeyedCard

/-- THE TIED CARD OF 'fathomlaw13.LabelQuoted'. -/
def labelQuotedCard : Claim7 := { stood := { row := labelQuotedRow, standIns := [], harness := (true, "101184d2073bf779ce1fb762c9271976c5f2c37c59e78739f54422cbf5055cb1"), looks := true }, kinds := [], alts := [], laidByText := true, laidKinds := [.data, .data, .data, .data, .sentinel, .sentinel, .pinned], laidTests := true, laidLooks := .later }
def LabelQuotedCardSaid : Prop := Claim7.holds Tryz.pinned (.plain (OpenSpec.ofChange labelQuotedSpec)) labelQuotedCard

/-- THE TIED CARD OF 'fathomlaw13.LabelAlike'. -/
def labelAlikeCard : Claim7 := { stood := { row := labelAlikeRow, standIns := [], harness := (true, "101184d2073bf779ce1fb762c9271976c5f2c37c59e78739f54422cbf5055cb1"), looks := true }, kinds := [], alts := [], laidByText := true, laidKinds := [.data, .data, .data, .data, .sentinel, .sentinel, .pinned], laidTests := true, laidLooks := .later }
def LabelAlikeCardSaid : Prop := Claim7.holds Tryz.pinned (.plain (OpenSpec.ofChange labelAlikeSpec)) labelAlikeCard

/-- THE SECOND FORM's CARD OF 'fathomlaw13.LabelMatches'. -/
def labelMatchesUptoCard : Claim7 := { stood := { row := labelMatchesUptoRow, standIns := [], harness := (true, "101184d2073bf779ce1fb762c9271976c5f2c37c59e78739f54422cbf5055cb1"), looks := true }, kinds := [], alts := [], laidByText := true, laidKinds := [.data, .data, .data, .data, .sentinel, .sentinel, .pinned], laidTests := true, laidLooks := .later }
def LabelMatchesUptoCardSaid : Prop := Claim7.holds Tryz.pinned (.plain (OpenSpec.upto labelMatchesSpec)) labelMatchesUptoCard

/-- THE SECOND FORM's CARD OF 'fathomlaw13.LabelOneForm'. -/
def labelOneFormUptoCard : Claim7 := { stood := { row := labelOneFormUptoRow, standIns := [], harness := (true, "101184d2073bf779ce1fb762c9271976c5f2c37c59e78739f54422cbf5055cb1"), looks := true }, kinds := [], alts := [], laidByText := true, laidKinds := [.data, .data, .data, .data, .sentinel, .sentinel, .pinned], laidTests := true, laidLooks := .later }
def LabelOneFormUptoCardSaid : Prop := Claim7.holds Tryz.pinned (.plain (OpenSpec.upto labelOneFormSpec)) labelOneFormUptoCard

/-- THE SECOND FORM's CARD OF 'fathomlaw13.LabelTurned'. -/
def labelTurnedUptoCard : Claim7 := { stood := { row := labelTurnedUptoRow, standIns := [], harness := (true, "101184d2073bf779ce1fb762c9271976c5f2c37c59e78739f54422cbf5055cb1"), looks := true }, kinds := [], alts := [], laidByText := true, laidKinds := [.data, .data, .data, .data, .sentinel, .sentinel, .pinned], laidTests := true, laidLooks := .later }
def LabelTurnedUptoCardSaid : Prop := Claim7.holds Tryz.pinned (.plain (OpenSpec.upto labelTurnedSpec)) labelTurnedUptoCard

/-- THE SECOND FORM's CARD OF 'fathomlaw13.LabelKeyed'. -/
def labelKeyedUptoCard : Claim7 := { stood := { row := labelKeyedUptoRow, standIns := [], harness := (true, "101184d2073bf779ce1fb762c9271976c5f2c37c59e78739f54422cbf5055cb1"), looks := true }, kinds := [], alts := [], laidByText := true, laidKinds := [.data, .data, .data, .data, .sentinel, .sentinel, .pinned], laidTests := true, laidLooks := .later }
def LabelKeyedUptoCardSaid : Prop := Claim7.holds Tryz.pinned (.plain (OpenSpec.upto labelKeyedSpec)) labelKeyedUptoCard

/-- THE SECOND FORM's CARD OF 'fathomlaw13.LabelQuoted'. -/
def labelQuotedUptoCard : Claim7 := { stood := { row := labelQuotedUptoRow, standIns := [], harness := (true, "101184d2073bf779ce1fb762c9271976c5f2c37c59e78739f54422cbf5055cb1"), looks := true }, kinds := [], alts := [], laidByText := true, laidKinds := [.data, .data, .data, .data, .sentinel, .sentinel, .pinned], laidTests := true, laidLooks := .later }
def LabelQuotedUptoCardSaid : Prop := Claim7.holds Tryz.pinned (.plain (OpenSpec.upto labelQuotedSpec)) labelQuotedUptoCard

/-- THE SECOND FORM's CARD OF 'fathomlaw13.LabelAlike'. -/
def labelAlikeUptoCard : Claim7 := { stood := { row := labelAlikeUptoRow, standIns := [], harness := (true, "101184d2073bf779ce1fb762c9271976c5f2c37c59e78739f54422cbf5055cb1"), looks := true }, kinds := [], alts := [], laidByText := true, laidKinds := [.data, .data, .data, .data, .sentinel, .sentinel, .pinned], laidTests := true, laidLooks := .later }
def LabelAlikeUptoCardSaid : Prop := Claim7.holds Tryz.pinned (.plain (OpenSpec.upto labelAlikeSpec)) labelAlikeUptoCard
end Rows
end Go.Proofs.YtgcmdbpanfeaaaaGreatDoor
