/-
  DERIVED. GIVEN WITH THE SEED: THE CARDS: each row of YtnjcedlbdjidiaaGreatDoorRows.lean that lists a variable, with what it lists TIED to the program's text (the seventh form; the later family's looks); each row that meets fmt, with fmt's text TOLD by the authors' own Lean function (tested against real Go, not proved from fmt's source: count such statements apart). THE CARD IS WHAT COUNTS. Prove the row's statement (the work); the ties are given (YtnjcedlbdjidiaaGreatDoorTie.lean); close each card by the builder's one call (the guide's Derived/Test/ToyasCard.lean, 'card_holds'). Laid BY PROGRAM, IN A SANDBOX (cutbox-door.mjs). By AI agents, Wed Nov 11 2026. No macro, syntax, notation, axiom, sorry.
-/
import Derived.Test.YtnjcedlbdjidiaaGreatDoorRows
import GoSem.ClaimSeven
namespace Go.Proofs.YtnjcedlbdjidiaaGreatDoor
namespace Rows

/-- THE TIED CARD OF 'fathomlaw7.PackExact'. -/
def packExactCard : Claim7 := { stood := { row := packExactRow, standIns := [], harness := (true, "06dcf28102c24122e616b6e5f775c8c995102d1afe814b5badfed9a89ec2f656"), looks := false }, kinds := [], alts := [], laidByText := true, laidKinds := [.data], laidTests := true, laidLooks := .later }
def PackExactCardSaid : Prop := Claim7.holds Tryz.pinned (.plain (OpenSpec.ofChange packExactSpec)) packExactCard

/-- THE SECOND FORM's CARD OF 'fathomlaw7.PackExact'. -/
def packExactUptoCard : Claim7 := { stood := { row := packExactUptoRow, standIns := [], harness := (true, "06dcf28102c24122e616b6e5f775c8c995102d1afe814b5badfed9a89ec2f656"), looks := false }, kinds := [], alts := [], laidByText := true, laidKinds := [.data], laidTests := true, laidLooks := .later }
def PackExactUptoCardSaid : Prop := Claim7.holds Tryz.pinned (.plain (OpenSpec.upto packExactSpec)) packExactUptoCard
end Rows
end Go.Proofs.YtnjcedlbdjidiaaGreatDoor
