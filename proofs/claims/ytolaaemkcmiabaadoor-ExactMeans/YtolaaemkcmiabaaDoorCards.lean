/-
  DERIVED. GIVEN WITH THE SEED: THE CARDS: each row of YtolaaemkcmiabaaDoorRows.lean that lists a variable, with what it lists TIED to the program's text (the seventh form; the later family's looks); each row that meets fmt, with fmt's text TOLD by the authors' own Lean function (tested against real Go, not proved from fmt's source: count such statements apart). THE CARD IS WHAT COUNTS. Prove the row's statement (the work); the ties are given (YtolaaemkcmiabaaDoorTie.lean); close each card by the builder's one call (the guide's Derived/Test/ToyasCard.lean, 'card_holds'). Laid BY PROGRAM, IN A SANDBOX (cutbox-door.mjs). By AI agents, Wed Nov 11 2026. No macro, syntax, notation, axiom, sorry.
-/
import Derived.Test.YtolaaemkcmiabaaDoorRows
import GoSem.ClaimSeven
namespace Go.Proofs.YtolaaemkcmiabaaDoor
namespace Rows

/-- THE TIED CARD OF 'fathomlaw4.ExactMeans'. -/
def exactMeansCard : Claim7 := { stood := { row := exactMeansRow, standIns := [], harness := (true, "9453b287da9b6e56417c33738bd8962e3e97a05480a55a2472e892d18f98bdd4"), looks := false }, kinds := [], alts := [], laidByText := true, laidKinds := [.data], laidTests := true, laidLooks := .later }
def ExactMeansCardSaid : Prop := Claim7.holds Tryd.pinned (.plain (OpenSpec.ofChange exactMeansSpec)) exactMeansCard

/-- THE SECOND FORM's CARD OF 'fathomlaw4.ExactMeans'. -/
def exactMeansUptoCard : Claim7 := { stood := { row := exactMeansUptoRow, standIns := [], harness := (true, "9453b287da9b6e56417c33738bd8962e3e97a05480a55a2472e892d18f98bdd4"), looks := false }, kinds := [], alts := [], laidByText := true, laidKinds := [.data], laidTests := true, laidLooks := .later }
def ExactMeansUptoCardSaid : Prop := Claim7.holds Tryd.pinned (.plain (OpenSpec.upto exactMeansSpec)) exactMeansUptoCard
end Rows
end Go.Proofs.YtolaaemkcmiabaaDoor
