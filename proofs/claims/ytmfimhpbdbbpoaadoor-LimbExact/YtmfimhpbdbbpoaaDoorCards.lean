/-
  DERIVED. GIVEN WITH THE SEED: THE CARDS: each row of YtmfimhpbdbbpoaaDoorRows.lean that lists a variable, with what it lists TIED to the program's text (the seventh form; the later family's looks); each row that meets fmt, with fmt's text TOLD by the authors' own Lean function (tested against real Go, not proved from fmt's source: count such statements apart). THE CARD IS WHAT COUNTS. Prove the row's statement (the work); the ties are given (YtmfimhpbdbbpoaaDoorTie.lean); close each card by the builder's one call (the guide's Derived/Test/ToyasCard.lean, 'card_holds'). Laid BY PROGRAM, IN A SANDBOX (cutbox-door.mjs). By AI agents, Wed Nov 11 2026. No macro, syntax, notation, axiom, sorry.
-/
import Derived.Test.YtmfimhpbdbbpoaaDoorRows
import GoSem.ClaimSeven
namespace Go.Proofs.YtmfimhpbdbbpoaaDoor
namespace Rows

/-- THE TIED CARD OF 'fathomlaw2.LimbExact'. -/
def limbExactCard : Claim7 := { stood := { row := limbExactRow, standIns := [], harness := (true, "f16d60a9092caa37da07a3be552aa371b610621aac4fdc983a905269e02e9095"), looks := false }, kinds := [], alts := [], laidByText := true, laidKinds := [.data], laidTests := true, laidLooks := .later }
def LimbExactCardSaid : Prop := Claim7.holds Tryd.pinned (.plain (OpenSpec.ofChange limbExactSpec)) limbExactCard

/-- THE SECOND FORM's CARD OF 'fathomlaw2.LimbExact'. -/
def limbExactUptoCard : Claim7 := { stood := { row := limbExactUptoRow, standIns := [], harness := (true, "f16d60a9092caa37da07a3be552aa371b610621aac4fdc983a905269e02e9095"), looks := false }, kinds := [], alts := [], laidByText := true, laidKinds := [.data], laidTests := true, laidLooks := .later }
def LimbExactUptoCardSaid : Prop := Claim7.holds Tryd.pinned (.plain (OpenSpec.upto limbExactSpec)) limbExactUptoCard
end Rows
end Go.Proofs.YtmfimhpbdbbpoaaDoor
