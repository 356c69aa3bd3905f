/-
  No cell of these rows narrows 'for every input' (looked for: loops, veiled, ifaces, maps, wideKeys, modest, calm, conditions, laid).
  DERIVED. THE GIVEN ROWS OF THIS SEAT. 5 by the template 'for every input the law returns true; each argument reads behind the call as it read before'; 0 by the template 'total and deterministic' (their statements: YtdiinhccfifiaabTotals.lean).
  GIVEN WITH THE SEED: the statements are not yours to turn. If you find one false, say at which input.
  Laid BY PROGRAM, IN A SANDBOX (cutbox-rows.mjs): the forced cells as the released guide's own fill.sh prints them over the translation 7455a2101a327d04… (all of the seat's roots in one cut). By AI agents, Wed Nov 11 2026. No macro, syntax, notation, axiom, sorry.
-/
import Derived.Test.YtdiinhccfifiaabChecked
import GoSem.Claim
import GoSem.ClaimJoined
import GoSem.ClaimMapViews
import Derived.JoinedTies
import Derived.KernelRfl
namespace Go.Proofs.Ytdiinhccfifiaab
/- THE CELL 'sum', in the pinned program and in every row, IS THE sha256 OF THE DUMP (.gsa) THAT YtdiinhccfifiaabProg.lean LOADS. Nothing in Lean hashes anything: it is a label: what it is worth is what the hold of that sum in a sandbox is worth. -/
noncomputable def Try.pinned : Pinned := { name := "ytdiinhccfifiaab", sum := "7455a2101a327d04ed75ab95a08cabf2d909f2ff2075b15ad18a1dc5becfbfaf", checked := Try.checked }
namespace Rows
def none {H : Type} : Left H := { results := [], args := [] }

/-- 'fathomlaw3.FloatThin': WHATEVER THE INPUT: true; the input reads as it did. -/
def floatThinSpec : ChangeSpec := { name := "floatThin", fn := fun _ => fun
  | [d] => { results := [.lit (.bool true)], args := [d] }
  | _ => none }
def floatThinRow : OpenClaim := { program := "ytdiinhccfifiaab", sum := "7455a2101a327d04ed75ab95a08cabf2d909f2ff2075b15ad18a1dc5becfbfaf", func := "fathom/fathomlaw3.FloatThin", spec := "floatThin", inPlace := ["math.Float64frombits", "math.Float32frombits", "math.Float64bits", "math.Float32bits", "math.sqrt", "math.RoundToEven", "math.archTrunc", "math.archFloor", "math.archCeil"], apart := false }
def FloatThinSaid : Prop := floatThinRow.holds Try.pinned (OpenSpec.ofChange floatThinSpec)

/-- ITS FALSE NEIGHBOUR: 'it returns false'. Refute it at one input. -/
def floatThinWrong : ChangeSpec := { name := "floatThin", fn := fun _ => fun
  | [d] => { results := [.lit (.bool false)], args := [d] }
  | _ => none }
def FloatThinWrongFalsely : Prop := floatThinRow.holds Try.pinned (OpenSpec.ofChange floatThinWrong)

/-- 'fathomlaw3.FloatSteps': WHATEVER THE INPUT: true; the input reads as it did. -/
def floatStepsSpec : ChangeSpec := { name := "floatSteps", fn := fun _ => fun
  | [d] => { results := [.lit (.bool true)], args := [d] }
  | _ => none }
def floatStepsRow : OpenClaim := { program := "ytdiinhccfifiaab", sum := "7455a2101a327d04ed75ab95a08cabf2d909f2ff2075b15ad18a1dc5becfbfaf", func := "fathom/fathomlaw3.FloatSteps", spec := "floatSteps", inPlace := ["math.Float64frombits", "math.Float32frombits", "math.RoundToEven", "math.Float64bits", "math.archTrunc", "math.archFloor", "math.archCeil", "math.Float32bits"], apart := false }
def FloatStepsSaid : Prop := floatStepsRow.holds Try.pinned (OpenSpec.ofChange floatStepsSpec)

/-- ITS FALSE NEIGHBOUR: 'it returns false'. Refute it at one input. -/
def floatStepsWrong : ChangeSpec := { name := "floatSteps", fn := fun _ => fun
  | [d] => { results := [.lit (.bool false)], args := [d] }
  | _ => none }
def FloatStepsWrongFalsely : Prop := floatStepsRow.holds Try.pinned (OpenSpec.ofChange floatStepsWrong)

/-- 'fathomlaw3.FloatRises': WHATEVER THE INPUT: true; the input reads as it did. -/
def floatRisesSpec : ChangeSpec := { name := "floatRises", fn := fun _ => fun
  | [d] => { results := [.lit (.bool true)], args := [d] }
  | _ => none }
def floatRisesRow : OpenClaim := { program := "ytdiinhccfifiaab", sum := "7455a2101a327d04ed75ab95a08cabf2d909f2ff2075b15ad18a1dc5becfbfaf", func := "fathom/fathomlaw3.FloatRises", spec := "floatRises", inPlace := ["math.Float64frombits", "math.Float32frombits", "math.RoundToEven", "math.Float64bits", "math.archTrunc", "math.archFloor", "math.archCeil", "math.Float32bits", "math.sqrt"], apart := false }
def FloatRisesSaid : Prop := floatRisesRow.holds Try.pinned (OpenSpec.ofChange floatRisesSpec)

/-- ITS FALSE NEIGHBOUR: 'it returns false'. Refute it at one input. -/
def floatRisesWrong : ChangeSpec := { name := "floatRises", fn := fun _ => fun
  | [d] => { results := [.lit (.bool false)], args := [d] }
  | _ => none }
def FloatRisesWrongFalsely : Prop := floatRisesRow.holds Try.pinned (OpenSpec.ofChange floatRisesWrong)

/-- 'fathomlaw3.FloatTurns': WHATEVER THE INPUT: true; the input reads as it did. -/
def floatTurnsSpec : ChangeSpec := { name := "floatTurns", fn := fun _ => fun
  | [d] => { results := [.lit (.bool true)], args := [d] }
  | _ => none }
def floatTurnsRow : OpenClaim := { program := "ytdiinhccfifiaab", sum := "7455a2101a327d04ed75ab95a08cabf2d909f2ff2075b15ad18a1dc5becfbfaf", func := "fathom/fathomlaw3.FloatTurns", spec := "floatTurns", inPlace := ["math.Float64frombits", "math.Float32frombits", "math.Float64bits", "math.Float32bits", "math.FMA", "math.RoundToEven", "math.archTrunc", "math.archFloor", "math.archCeil"], apart := false }
def FloatTurnsSaid : Prop := floatTurnsRow.holds Try.pinned (OpenSpec.ofChange floatTurnsSpec)

/-- ITS FALSE NEIGHBOUR: 'it returns false'. Refute it at one input. -/
def floatTurnsWrong : ChangeSpec := { name := "floatTurns", fn := fun _ => fun
  | [d] => { results := [.lit (.bool false)], args := [d] }
  | _ => none }
def FloatTurnsWrongFalsely : Prop := floatTurnsRow.holds Try.pinned (OpenSpec.ofChange floatTurnsWrong)

/-- 'fathomlaw3.FloatRoots': WHATEVER THE INPUT: true; the input reads as it did. -/
def floatRootsSpec : ChangeSpec := { name := "floatRoots", fn := fun _ => fun
  | [d] => { results := [.lit (.bool true)], args := [d] }
  | _ => none }
def floatRootsRow : OpenClaim := { program := "ytdiinhccfifiaab", sum := "7455a2101a327d04ed75ab95a08cabf2d909f2ff2075b15ad18a1dc5becfbfaf", func := "fathom/fathomlaw3.FloatRoots", spec := "floatRoots", inPlace := ["math.Float64frombits", "math.Float32frombits", "math.sqrt", "math.Float64bits", "math.Float32bits", "math.RoundToEven", "math.archTrunc", "math.archFloor", "math.archCeil"], apart := false }
def FloatRootsSaid : Prop := floatRootsRow.holds Try.pinned (OpenSpec.ofChange floatRootsSpec)

/-- ITS FALSE NEIGHBOUR: 'it returns false'. Refute it at one input. -/
def floatRootsWrong : ChangeSpec := { name := "floatRoots", fn := fun _ => fun
  | [d] => { results := [.lit (.bool false)], args := [d] }
  | _ => none }
def FloatRootsWrongFalsely : Prop := floatRootsRow.holds Try.pinned (OpenSpec.ofChange floatRootsWrong)

/- THE SECOND FORM. 'bulk': how many values and letters a reading holds, each counted each time it is reached (what is shared counts as often as it is met; a slice's spare places count too). A statement '..UptoSaid' is the law's where the arguments, and the package variables that the reading takes, are together of bulk at most 1048576: NARROWER than '..Said'. Prove '..Said' where nothing that the law and all that it calls make is longer than what came in: it says more and counts as full. Else prove '..UptoSaid'. A law counts once. -/
mutual
def uptoBulk {H : Type} : DataW H → Nat
  | .lit (.string bytes) => bytes.length + 1
  | .lit _ => 1
  | .nil => 1
  | .ptr d => uptoBulk d + 1
  | .slice elems spare => uptoBulkAll elems + uptoBulkAll spare + 1
  | .agg parts => uptoBulkAll parts + 1
  | .iface _ d => uptoBulk d + 1
  | .map entries => uptoBulkEntries entries + 1
  | .held _ => 1
def uptoBulkAll {H : Type} : List (DataW H) → Nat
  | [] => 0
  | d :: r => uptoBulk d + uptoBulkAll r
def uptoBulkEntries {H : Type} : List (Lit × DataW H) → Nat
  | [] => 0
  | x :: r => uptoBulkEntry x + uptoBulkEntries r
def uptoBulkEntry {H : Type} : Lit × DataW H → Nat
  | (.string bytes, d) => bytes.length + uptoBulk d + 1
  | (_, d) => uptoBulk d + 1
 end
def uptoSmall : (H : Type) → List (DataW H) → Bool := fun _ ds => decide (uptoBulkAll ds ≤ 1048576)
def OpenSpec.upto (s : _root_.Go.ChangeSpec) : _root_.Go.OpenSpec := { _root_.Go.OpenSpec.ofChange s with cond := some uptoSmall }

/-- 'fathomlaw3.FloatThin', WHERE WHAT IT READS IS OF BULK AT MOST 1048576: true; the input reads as it did. -/
def floatThinUptoRow : OpenClaim := { program := "ytdiinhccfifiaab", sum := "7455a2101a327d04ed75ab95a08cabf2d909f2ff2075b15ad18a1dc5becfbfaf", func := "fathom/fathomlaw3.FloatThin", spec := "floatThin", inPlace := ["math.Float64frombits", "math.Float32frombits", "math.Float64bits", "math.Float32bits", "math.sqrt", "math.RoundToEven", "math.archTrunc", "math.archFloor", "math.archCeil"], apart := false, narrowed := true }
def FloatThinUptoSaid : Prop := floatThinUptoRow.holds Try.pinned (OpenSpec.upto floatThinSpec)

/-- 'fathomlaw3.FloatSteps', WHERE WHAT IT READS IS OF BULK AT MOST 1048576: true; the input reads as it did. -/
def floatStepsUptoRow : OpenClaim := { program := "ytdiinhccfifiaab", sum := "7455a2101a327d04ed75ab95a08cabf2d909f2ff2075b15ad18a1dc5becfbfaf", func := "fathom/fathomlaw3.FloatSteps", spec := "floatSteps", inPlace := ["math.Float64frombits", "math.Float32frombits", "math.RoundToEven", "math.Float64bits", "math.archTrunc", "math.archFloor", "math.archCeil", "math.Float32bits"], apart := false, narrowed := true }
def FloatStepsUptoSaid : Prop := floatStepsUptoRow.holds Try.pinned (OpenSpec.upto floatStepsSpec)

/-- 'fathomlaw3.FloatRises', WHERE WHAT IT READS IS OF BULK AT MOST 1048576: true; the input reads as it did. -/
def floatRisesUptoRow : OpenClaim := { program := "ytdiinhccfifiaab", sum := "7455a2101a327d04ed75ab95a08cabf2d909f2ff2075b15ad18a1dc5becfbfaf", func := "fathom/fathomlaw3.FloatRises", spec := "floatRises", inPlace := ["math.Float64frombits", "math.Float32frombits", "math.RoundToEven", "math.Float64bits", "math.archTrunc", "math.archFloor", "math.archCeil", "math.Float32bits", "math.sqrt"], apart := false, narrowed := true }
def FloatRisesUptoSaid : Prop := floatRisesUptoRow.holds Try.pinned (OpenSpec.upto floatRisesSpec)

/-- 'fathomlaw3.FloatTurns', WHERE WHAT IT READS IS OF BULK AT MOST 1048576: true; the input reads as it did. -/
def floatTurnsUptoRow : OpenClaim := { program := "ytdiinhccfifiaab", sum := "7455a2101a327d04ed75ab95a08cabf2d909f2ff2075b15ad18a1dc5becfbfaf", func := "fathom/fathomlaw3.FloatTurns", spec := "floatTurns", inPlace := ["math.Float64frombits", "math.Float32frombits", "math.Float64bits", "math.Float32bits", "math.FMA", "math.RoundToEven", "math.archTrunc", "math.archFloor", "math.archCeil"], apart := false, narrowed := true }
def FloatTurnsUptoSaid : Prop := floatTurnsUptoRow.holds Try.pinned (OpenSpec.upto floatTurnsSpec)

/-- 'fathomlaw3.FloatRoots', WHERE WHAT IT READS IS OF BULK AT MOST 1048576: true; the input reads as it did. -/
def floatRootsUptoRow : OpenClaim := { program := "ytdiinhccfifiaab", sum := "7455a2101a327d04ed75ab95a08cabf2d909f2ff2075b15ad18a1dc5becfbfaf", func := "fathom/fathomlaw3.FloatRoots", spec := "floatRoots", inPlace := ["math.Float64frombits", "math.Float32frombits", "math.sqrt", "math.Float64bits", "math.Float32bits", "math.RoundToEven", "math.archTrunc", "math.archFloor", "math.archCeil"], apart := false, narrowed := true }
def FloatRootsUptoSaid : Prop := floatRootsUptoRow.holds Try.pinned (OpenSpec.upto floatRootsSpec)

end Rows
end Go.Proofs.Ytdiinhccfifiaab
