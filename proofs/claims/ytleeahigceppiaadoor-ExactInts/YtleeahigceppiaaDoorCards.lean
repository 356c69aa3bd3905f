/-
  DERIVED. GIVEN WITH THE SEED: THE CARDS: each row of YtleeahigceppiaaDoorRows.lean that lists a variable, with what it lists TIED to the program's text (the seventh form; the later family's looks); each row that meets fmt, with fmt's text TOLD by the authors' own Lean function (tested against real Go, not proved from fmt's source: count such statements apart). THE CARD IS WHAT COUNTS. Prove the row's statement (the work); the ties are given (YtleeahigceppiaaDoorTie.lean); close each card by the builder's one call (the guide's Derived/Test/ToyasCard.lean, 'card_holds'). Laid BY PROGRAM, IN A SANDBOX (cutbox-door.mjs). By AI agents, Wed Nov 11 2026. No macro, syntax, notation, axiom, sorry.
-/
import Derived.Test.YtleeahigceppiaaDoorRows
import GoSem.ClaimSeven
namespace Go.Proofs.YtleeahigceppiaaDoor
namespace Rows

/-- THE TIED CARD OF 'fathomlaw4.ExactInts'. -/
def exactIntsCard : Claim7 := { stood := { row := exactIntsRow, standIns := [], harness := (true, "1fc86df623e96415cdfa27baac1cfa34a44ea74b802d489c73f00ecbb8c345d7"), looks := false }, kinds := [], alts := [], laidByText := true, laidKinds := [.data], laidTests := true, laidLooks := .later }
def ExactIntsCardSaid : Prop := Claim7.holds Tryd.pinned (.plain (OpenSpec.ofChange exactIntsSpec)) exactIntsCard

/-- THE SECOND FORM's CARD OF 'fathomlaw4.ExactInts'. -/
def exactIntsUptoCard : Claim7 := { stood := { row := exactIntsUptoRow, standIns := [], harness := (true, "1fc86df623e96415cdfa27baac1cfa34a44ea74b802d489c73f00ecbb8c345d7"), looks := false }, kinds := [], alts := [], laidByText := true, laidKinds := [.data], laidTests := true, laidLooks := .later }
def ExactIntsUptoCardSaid : Prop := Claim7.holds Tryd.pinned (.plain (OpenSpec.upto exactIntsSpec)) exactIntsUptoCard
end Rows
end Go.Proofs.YtleeahigceppiaaDoor
