/-
  NARROWER THAN 'FOR EVERY INPUT', by the rows' own cells (each row's printed sentence says how): BlockBack: laid · BlockHurt: laid · BlockGreat: laid.
  DERIVED. THE GIVEN ROWS OF THIS SEAT. 3 by the template 'for every input the law returns true; each argument reads behind the call as it read before'; 0 by the template 'total and deterministic' (their statements: YtkpmalfigmimaaaGreatDoorTotals.lean).
  GIVEN WITH THE SEED: the statements are not yours to turn. If you find one false, say at which input.
  Laid BY PROGRAM, IN A SANDBOX (cutbox-rows.mjs): the forced cells as the released guide's own fill.sh prints them over the translation 424995341c67f6fb… (all of the seat's roots in one cut). By AI agents, Wed Nov 11 2026. No macro, syntax, notation, axiom, sorry.
-/
import Derived.Test.YtkpmalfigmimaaaGreatDoorChecked
import GoSem.Claim
import GoSem.ClaimJoined
import GoSem.ClaimMapViews
import Derived.JoinedTies
import Derived.KernelRfl
namespace Go.Proofs.YtkpmalfigmimaaaGreatDoor
/- THE CELL 'sum', in the pinned program and in every row, IS THE sha256 OF THE DUMP (.gsa) THAT YtkpmalfigmimaaaGreatDoorProg.lean LOADS. Nothing in Lean hashes anything: it is a label: what it is worth is what the hold of that sum in a sandbox is worth. -/
noncomputable def Tryz.pinned : Pinned := { name := "ytkpmalfigmimaaagreatdoor", sum := "424995341c67f6fb3fba4e382c17e19f96521725f377300f86f2da986ea3fb83", checked := Tryz.checked }
namespace Rows
def none {H : Type} : Left H := { results := [], args := [] }

/- WHAT THE LISTED PACKAGE-LEVEL VARIABLES READ AS WHEN THE CALL BEGINS. Each datum BY PROGRAM (the guide's laid-datum.mjs) off the statement by which the dump's own 'gosem.cut.vars' lays the variable. In a bare row this is a premise. The card (YtkpmalfigmimaaaGreatDoorCards.lean) ties it to the program's text. -/
def laid_math_bits_deBruijn64tab {H : Type} : DataW H := .agg [.lit (.int .u8 0), .lit (.int .u8 1), .lit (.int .u8 56), .lit (.int .u8 2), .lit (.int .u8 57), .lit (.int .u8 49), .lit (.int .u8 28), .lit (.int .u8 3), .lit (.int .u8 61), .lit (.int .u8 58), .lit (.int .u8 42), .lit (.int .u8 50), .lit (.int .u8 38), .lit (.int .u8 29), .lit (.int .u8 17), .lit (.int .u8 4), .lit (.int .u8 62), .lit (.int .u8 47), .lit (.int .u8 59), .lit (.int .u8 36), .lit (.int .u8 45), .lit (.int .u8 43), .lit (.int .u8 51), .lit (.int .u8 22), .lit (.int .u8 53), .lit (.int .u8 39), .lit (.int .u8 33), .lit (.int .u8 30), .lit (.int .u8 24), .lit (.int .u8 18), .lit (.int .u8 12), .lit (.int .u8 5), .lit (.int .u8 63), .lit (.int .u8 55), .lit (.int .u8 48), .lit (.int .u8 27), .lit (.int .u8 60), .lit (.int .u8 41), .lit (.int .u8 37), .lit (.int .u8 16), .lit (.int .u8 46), .lit (.int .u8 35), .lit (.int .u8 44), .lit (.int .u8 21), .lit (.int .u8 52), .lit (.int .u8 32), .lit (.int .u8 23), .lit (.int .u8 11), .lit (.int .u8 54), .lit (.int .u8 26), .lit (.int .u8 40), .lit (.int .u8 15), .lit (.int .u8 34), .lit (.int .u8 20), .lit (.int .u8 31), .lit (.int .u8 10), .lit (.int .u8 25), .lit (.int .u8 14), .lit (.int .u8 19), .lit (.int .u8 9), .lit (.int .u8 13), .lit (.int .u8 8), .lit (.int .u8 7), .lit (.int .u8 6)]
def laid_fathom_block_changes {H : Type} : DataW H := .agg [.lit (.int .u32 0), .lit (.int .u32 498536548), .lit (.int .u32 997073096), .lit (.int .u32 651767980), .lit (.int .u32 1994146192), .lit (.int .u32 1802195444), .lit (.int .u32 1303535960), .lit (.int .u32 1342533948), .lit (.int .u32 3988292384), .lit (.int .u32 4027552580), .lit (.int .u32 3604390888), .lit (.int .u32 3412177804), .lit (.int .u32 2607071920), .lit (.int .u32 2262029012), .lit (.int .u32 2685067896), .lit (.int .u32 3183342108)]

/-- 'fathomlaw9.BlockBack': WHATEVER THE INPUT: true; the input reads as it did. -/
def blockBackSpec : ChangeSpec := { name := "blockBack", fn := fun _ => fun
  | [d] => { results := [.lit (.bool true)], args := [d] }
  | _ => none }
def blockBackRow : OpenClaim := { program := "ytkpmalfigmimaaagreatdoor", sum := "424995341c67f6fb3fba4e382c17e19f96521725f377300f86f2da986ea3fb83", func := "fathom/fathomlaw9.BlockBack", spec := "blockBack", inPlace := ["math.Float64frombits", "math.Float32frombits", "math.Float64bits", "math.Float32bits", "math.RoundToEven", "math.archTrunc", "math.archFloor", "math.archCeil"], unfollowed := true, recurses := true, named := ["math/bits.deBruijn64tab", "fathom/block.changes"], apart := false, laid := [("math/bits.deBruijn64tab", laid_math_bits_deBruijn64tab), ("fathom/block.changes", laid_fathom_block_changes)] }
def BlockBackSaid : Prop := blockBackRow.holds Tryz.pinned (OpenSpec.ofChange blockBackSpec)

/-- ITS FALSE NEIGHBOUR: 'it returns false'. Refute it at one input. -/
def blockBackWrong : ChangeSpec := { name := "blockBack", fn := fun _ => fun
  | [d] => { results := [.lit (.bool false)], args := [d] }
  | _ => none }
def BlockBackWrongFalsely : Prop := blockBackRow.holds Tryz.pinned (OpenSpec.ofChange blockBackWrong)

/-- 'fathomlaw9.BlockHurt': WHATEVER THE INPUT: true; the input reads as it did. -/
def blockHurtSpec : ChangeSpec := { name := "blockHurt", fn := fun _ => fun
  | [d] => { results := [.lit (.bool true)], args := [d] }
  | _ => none }
def blockHurtRow : OpenClaim := { program := "ytkpmalfigmimaaagreatdoor", sum := "424995341c67f6fb3fba4e382c17e19f96521725f377300f86f2da986ea3fb83", func := "fathom/fathomlaw9.BlockHurt", spec := "blockHurt", inPlace := ["math.Float64frombits", "math.Float32frombits", "math.Float64bits", "math.Float32bits", "math.RoundToEven", "math.archTrunc", "math.archFloor", "math.archCeil"], unfollowed := true, recurses := true, named := ["math/bits.deBruijn64tab", "fathom/block.changes"], apart := false, laid := [("math/bits.deBruijn64tab", laid_math_bits_deBruijn64tab), ("fathom/block.changes", laid_fathom_block_changes)] }
def BlockHurtSaid : Prop := blockHurtRow.holds Tryz.pinned (OpenSpec.ofChange blockHurtSpec)

/-- ITS FALSE NEIGHBOUR: 'it returns false'. Refute it at one input. -/
def blockHurtWrong : ChangeSpec := { name := "blockHurt", fn := fun _ => fun
  | [d] => { results := [.lit (.bool false)], args := [d] }
  | _ => none }
def BlockHurtWrongFalsely : Prop := blockHurtRow.holds Tryz.pinned (OpenSpec.ofChange blockHurtWrong)

/-- 'fathomlaw9.BlockGreat': WHATEVER THE INPUT: true; the input reads as it did. -/
def blockGreatSpec : ChangeSpec := { name := "blockGreat", fn := fun _ => fun
  | [] => { results := [.lit (.bool true)], args := [] }
  | _ => none }
def blockGreatRow : OpenClaim := { program := "ytkpmalfigmimaaagreatdoor", sum := "424995341c67f6fb3fba4e382c17e19f96521725f377300f86f2da986ea3fb83", func := "fathom/fathomlaw9.BlockGreat", spec := "blockGreat", inPlace := ["math.Float64bits", "math.Float64frombits", "math.Float32frombits", "math.Float32bits", "math.RoundToEven", "math.archTrunc", "math.archFloor", "math.archCeil"], unfollowed := true, recurses := true, named := ["math/bits.deBruijn64tab", "fathom/block.changes"], apart := false, laid := [("math/bits.deBruijn64tab", laid_math_bits_deBruijn64tab), ("fathom/block.changes", laid_fathom_block_changes)] }
def BlockGreatSaid : Prop := blockGreatRow.holds Tryz.pinned (OpenSpec.ofChange blockGreatSpec)

/-- ITS FALSE NEIGHBOUR: 'it returns false'. Refute it at one input. -/
def blockGreatWrong : ChangeSpec := { name := "blockGreat", fn := fun _ => fun
  | [] => { results := [.lit (.bool false)], args := [] }
  | _ => none }
def BlockGreatWrongFalsely : Prop := blockGreatRow.holds Tryz.pinned (OpenSpec.ofChange blockGreatWrong)

/- THE SECOND FORM. 'bulk': how many values and letters a reading holds, each counted each time it is reached (what is shared counts as often as it is met; a slice's spare places count too). A statement '..UptoSaid' is the law's where the arguments, and the package variables that the reading takes, are together of bulk at most 1048576: NARROWER than '..Said'. Prove '..Said' where nothing that the law and all that it calls make is longer than what came in: it says more and counts as full. Else prove '..UptoSaid'. A law counts once. -/
mutual
def uptoBulk {H : Type} : DataW H → Nat
  | .lit (.string bytes) => bytes.length + 1
  | .lit _ => 1
  | .nil => 1
  | .ptr d => uptoBulk d + 1
  | .slice elems spare => uptoBulkAll elems + uptoBulkAll spare + 1
  | .agg parts => uptoBulkAll parts + 1
  | .iface _ d => uptoBulk d + 1
  | .map entries => uptoBulkEntries entries + 1
  | .held _ => 1
def uptoBulkAll {H : Type} : List (DataW H) → Nat
  | [] => 0
  | d :: r => uptoBulk d + uptoBulkAll r
def uptoBulkEntries {H : Type} : List (Lit × DataW H) → Nat
  | [] => 0
  | x :: r => uptoBulkEntry x + uptoBulkEntries r
def uptoBulkEntry {H : Type} : Lit × DataW H → Nat
  | (.string bytes, d) => bytes.length + uptoBulk d + 1
  | (_, d) => uptoBulk d + 1
 end
def uptoSmall : (H : Type) → List (DataW H) → Bool := fun _ ds => decide (uptoBulkAll ds ≤ 1048576)
def OpenSpec.upto (s : _root_.Go.ChangeSpec) : _root_.Go.OpenSpec := { _root_.Go.OpenSpec.ofChange s with cond := some uptoSmall }

/-- 'fathomlaw9.BlockBack', WHERE WHAT IT READS IS OF BULK AT MOST 1048576: true; the input reads as it did. -/
def blockBackUptoRow : OpenClaim := { program := "ytkpmalfigmimaaagreatdoor", sum := "424995341c67f6fb3fba4e382c17e19f96521725f377300f86f2da986ea3fb83", func := "fathom/fathomlaw9.BlockBack", spec := "blockBack", inPlace := ["math.Float64frombits", "math.Float32frombits", "math.Float64bits", "math.Float32bits", "math.RoundToEven", "math.archTrunc", "math.archFloor", "math.archCeil"], unfollowed := true, recurses := true, named := ["math/bits.deBruijn64tab", "fathom/block.changes"], apart := false, laid := [("math/bits.deBruijn64tab", laid_math_bits_deBruijn64tab), ("fathom/block.changes", laid_fathom_block_changes)], narrowed := true }
def BlockBackUptoSaid : Prop := blockBackUptoRow.holds Tryz.pinned (OpenSpec.upto blockBackSpec)

/-- 'fathomlaw9.BlockHurt', WHERE WHAT IT READS IS OF BULK AT MOST 1048576: true; the input reads as it did. -/
def blockHurtUptoRow : OpenClaim := { program := "ytkpmalfigmimaaagreatdoor", sum := "424995341c67f6fb3fba4e382c17e19f96521725f377300f86f2da986ea3fb83", func := "fathom/fathomlaw9.BlockHurt", spec := "blockHurt", inPlace := ["math.Float64frombits", "math.Float32frombits", "math.Float64bits", "math.Float32bits", "math.RoundToEven", "math.archTrunc", "math.archFloor", "math.archCeil"], unfollowed := true, recurses := true, named := ["math/bits.deBruijn64tab", "fathom/block.changes"], apart := false, laid := [("math/bits.deBruijn64tab", laid_math_bits_deBruijn64tab), ("fathom/block.changes", laid_fathom_block_changes)], narrowed := true }
def BlockHurtUptoSaid : Prop := blockHurtUptoRow.holds Tryz.pinned (OpenSpec.upto blockHurtSpec)

/-- 'fathomlaw9.BlockGreat', WHERE WHAT IT READS IS OF BULK AT MOST 1048576: true; the input reads as it did. -/
def blockGreatUptoRow : OpenClaim := { program := "ytkpmalfigmimaaagreatdoor", sum := "424995341c67f6fb3fba4e382c17e19f96521725f377300f86f2da986ea3fb83", func := "fathom/fathomlaw9.BlockGreat", spec := "blockGreat", inPlace := ["math.Float64bits", "math.Float64frombits", "math.Float32frombits", "math.Float32bits", "math.RoundToEven", "math.archTrunc", "math.archFloor", "math.archCeil"], unfollowed := true, recurses := true, named := ["math/bits.deBruijn64tab", "fathom/block.changes"], apart := false, laid := [("math/bits.deBruijn64tab", laid_math_bits_deBruijn64tab), ("fathom/block.changes", laid_fathom_block_changes)], narrowed := true }
def BlockGreatUptoSaid : Prop := blockGreatUptoRow.holds Tryz.pinned (OpenSpec.upto blockGreatSpec)

end Rows
end Go.Proofs.YtkpmalfigmimaaaGreatDoor
