/-
  DERIVED. GIVEN WITH THE SEED: THE CARDS: each row of YtpecgmcalbojcaaDoorRows.lean that lists a variable, with what it lists TIED to the program's text (the seventh form; the later family's looks); each row that meets fmt, with fmt's text TOLD by the authors' own Lean function (tested against real Go, not proved from fmt's source: count such statements apart). THE CARD IS WHAT COUNTS. Prove the row's statement (the work); the ties are given (YtpecgmcalbojcaaDoorTie.lean); close each card by the builder's one call (the guide's Derived/Test/ToyasCard.lean, 'card_holds'). Laid BY PROGRAM, IN A SANDBOX (cutbox-door.mjs). By AI agents, Wed Nov 11 2026. No macro, syntax, notation, axiom, sorry.
-/
import Derived.Test.YtpecgmcalbojcaaDoorRows
import GoSem.ClaimSeven
namespace Go.Proofs.YtpecgmcalbojcaaDoor
namespace Rows

/-- THE TIED CARD OF 'fathomlaw11.JournalBack'. -/
def journalBackCard : Claim7 := { stood := { row := journalBackRow, standIns := [], harness := (true, "735cc82b4bfe02f36fa4427f550cae1eab663795a0e4bf7df836964eba1a5ae2"), looks := false }, kinds := [], alts := [], laidByText := true, laidKinds := [.data], laidTests := true, laidLooks := .later }
def JournalBackCardSaid : Prop := Claim7.holds Tryd.pinned (.plain (OpenSpec.ofChange journalBackSpec)) journalBackCard

/-- THE TIED CARD OF 'fathomlaw11.JournalCut'. -/
def journalCutCard : Claim7 := { stood := { row := journalCutRow, standIns := [], harness := (true, "735cc82b4bfe02f36fa4427f550cae1eab663795a0e4bf7df836964eba1a5ae2"), looks := false }, kinds := [], alts := [], laidByText := true, laidKinds := [.data], laidTests := true, laidLooks := .later }
def JournalCutCardSaid : Prop := Claim7.holds Tryd.pinned (.plain (OpenSpec.ofChange journalCutSpec)) journalCutCard

/-- THE TIED CARD OF 'fathomlaw11.JournalRaw'. -/
def journalRawCard : Claim7 := { stood := { row := journalRawRow, standIns := [], harness := (true, "735cc82b4bfe02f36fa4427f550cae1eab663795a0e4bf7df836964eba1a5ae2"), looks := false }, kinds := [], alts := [], laidByText := true, laidKinds := [.data], laidTests := true, laidLooks := .later }
def JournalRawCardSaid : Prop := Claim7.holds Tryd.pinned (.plain (OpenSpec.ofChange journalRawSpec)) journalRawCard

/-- THE TIED CARD OF 'fathomlaw11.JournalSum'. -/
def journalSumCard : Claim7 := { stood := { row := journalSumRow, standIns := [], harness := (true, "735cc82b4bfe02f36fa4427f550cae1eab663795a0e4bf7df836964eba1a5ae2"), looks := false }, kinds := [], alts := [], laidByText := true, laidKinds := [.data], laidTests := true, laidLooks := .later }
def JournalSumCardSaid : Prop := Claim7.holds Tryd.pinned (.plain (OpenSpec.ofChange journalSumSpec)) journalSumCard

/-- THE TIED CARD OF 'fathomlaw11.JournalApart'. -/
def journalApartCard : Claim7 := { stood := { row := journalApartRow, standIns := [], harness := (true, "735cc82b4bfe02f36fa4427f550cae1eab663795a0e4bf7df836964eba1a5ae2"), looks := false }, kinds := [], alts := [], laidByText := true, laidKinds := [.data], laidTests := true, laidLooks := .later }
def JournalApartCardSaid : Prop := Claim7.holds Tryd.pinned (.plain (OpenSpec.ofChange journalApartSpec)) journalApartCard

/-- THE TIED CARD OF 'fathomlaw11.JournalLimits'. -/
def journalLimitsCard : Claim7 := { stood := { row := journalLimitsRow, standIns := [], harness := (true, "735cc82b4bfe02f36fa4427f550cae1eab663795a0e4bf7df836964eba1a5ae2"), looks := false }, kinds := [], alts := [], laidByText := true, laidKinds := [.data], laidTests := true, laidLooks := .later }
def JournalLimitsCardSaid : Prop := Claim7.holds Tryd.pinned (.plain (OpenSpec.ofChange journalLimitsSpec)) journalLimitsCard

/-- THE SECOND FORM's CARD OF 'fathomlaw11.JournalBack'. -/
def journalBackUptoCard : Claim7 := { stood := { row := journalBackUptoRow, standIns := [], harness := (true, "735cc82b4bfe02f36fa4427f550cae1eab663795a0e4bf7df836964eba1a5ae2"), looks := false }, kinds := [], alts := [], laidByText := true, laidKinds := [.data], laidTests := true, laidLooks := .later }
def JournalBackUptoCardSaid : Prop := Claim7.holds Tryd.pinned (.plain (OpenSpec.upto journalBackSpec)) journalBackUptoCard

/-- THE SECOND FORM's CARD OF 'fathomlaw11.JournalCut'. -/
def journalCutUptoCard : Claim7 := { stood := { row := journalCutUptoRow, standIns := [], harness := (true, "735cc82b4bfe02f36fa4427f550cae1eab663795a0e4bf7df836964eba1a5ae2"), looks := false }, kinds := [], alts := [], laidByText := true, laidKinds := [.data], laidTests := true, laidLooks := .later }
def JournalCutUptoCardSaid : Prop := Claim7.holds Tryd.pinned (.plain (OpenSpec.upto journalCutSpec)) journalCutUptoCard

/-- THE SECOND FORM's CARD OF 'fathomlaw11.JournalRaw'. -/
def journalRawUptoCard : Claim7 := { stood := { row := journalRawUptoRow, standIns := [], harness := (true, "735cc82b4bfe02f36fa4427f550cae1eab663795a0e4bf7df836964eba1a5ae2"), looks := false }, kinds := [], alts := [], laidByText := true, laidKinds := [.data], laidTests := true, laidLooks := .later }
def JournalRawUptoCardSaid : Prop := Claim7.holds Tryd.pinned (.plain (OpenSpec.upto journalRawSpec)) journalRawUptoCard

/-- THE SECOND FORM's CARD OF 'fathomlaw11.JournalSum'. -/
def journalSumUptoCard : Claim7 := { stood := { row := journalSumUptoRow, standIns := [], harness := (true, "735cc82b4bfe02f36fa4427f550cae1eab663795a0e4bf7df836964eba1a5ae2"), looks := false }, kinds := [], alts := [], laidByText := true, laidKinds := [.data], laidTests := true, laidLooks := .later }
def JournalSumUptoCardSaid : Prop := Claim7.holds Tryd.pinned (.plain (OpenSpec.upto journalSumSpec)) journalSumUptoCard

/-- THE SECOND FORM's CARD OF 'fathomlaw11.JournalApart'. -/
def journalApartUptoCard : Claim7 := { stood := { row := journalApartUptoRow, standIns := [], harness := (true, "735cc82b4bfe02f36fa4427f550cae1eab663795a0e4bf7df836964eba1a5ae2"), looks := false }, kinds := [], alts := [], laidByText := true, laidKinds := [.data], laidTests := true, laidLooks := .later }
def JournalApartUptoCardSaid : Prop := Claim7.holds Tryd.pinned (.plain (OpenSpec.upto journalApartSpec)) journalApartUptoCard

/-- THE SECOND FORM's CARD OF 'fathomlaw11.JournalLimits'. -/
def journalLimitsUptoCard : Claim7 := { stood := { row := journalLimitsUptoRow, standIns := [], harness := (true, "735cc82b4bfe02f36fa4427f550cae1eab663795a0e4bf7df836964eba1a5ae2"), looks := false }, kinds := [], alts := [], laidByText := true, laidKinds := [.data], laidTests := true, laidLooks := .later }
def JournalLimitsUptoCardSaid : Prop := Claim7.holds Tryd.pinned (.plain (OpenSpec.upto journalLimitsSpec)) journalLimitsUptoCard
end Rows
end Go.Proofs.YtpecgmcalbojcaaDoor
