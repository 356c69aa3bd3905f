/-
  NARROWER THAN 'FOR EVERY INPUT', by the rows' own cells (each row's printed sentence says how): CodeBack: laid · CodeOne: laid · CodeDecimals: laid · CodeEnds: laid · CodeMoves: laid.
  DERIVED. THE GIVEN ROWS OF THIS SEAT. 5 by the template 'for every input the law returns true; each argument reads behind the call as it read before'; 0 by the template 'total and deterministic' (their statements: YtleffbpjjbiobaaGreatDoorTotals.lean).
  GIVEN WITH THE SEED: the statements are not yours to turn. If you find one false, say at which input.
  Laid BY PROGRAM, IN A SANDBOX (cutbox-rows.mjs): the forced cells as the released guide's own fill.sh prints them over the translation 6e502d668b56d68b… (all of the seat's roots in one cut). By AI agents, Wed Nov 11 2026. No macro, syntax, notation, axiom, sorry.
-/
import Derived.Test.YtleffbpjjbiobaaGreatDoorChecked
import GoSem.Claim
import GoSem.ClaimJoined
import GoSem.ClaimMapViews
import Derived.JoinedTies
import Derived.KernelRfl
namespace Go.Proofs.YtleffbpjjbiobaaGreatDoor
/- THE CELL 'sum', in the pinned program and in every row, IS THE sha256 OF THE DUMP (.gsa) THAT YtleffbpjjbiobaaGreatDoorProg.lean LOADS. Nothing in Lean hashes anything: it is a label: what it is worth is what the hold of that sum in a sandbox is worth. -/
noncomputable def Tryz.pinned : Pinned := { name := "ytleffbpjjbiobaagreatdoor", sum := "6e502d668b56d68b5879286843e195bbfde685e0b498ad623b30fefdc77a4cce", checked := Tryz.checked }
namespace Rows
def none {H : Type} : Left H := { results := [], args := [] }

/- WHAT THE LISTED PACKAGE-LEVEL VARIABLES READ AS WHEN THE CALL BEGINS. Each datum BY PROGRAM (the guide's laid-datum.mjs) off the statement by which the dump's own 'gosem.cut.vars' lays the variable. In a bare row this is a premise. The card (YtleffbpjjbiobaaGreatDoorCards.lean) ties it to the program's text. -/
def laid_math_bits_deBruijn64tab {H : Type} : DataW H := .agg [.lit (.int .u8 0), .lit (.int .u8 1), .lit (.int .u8 56), .lit (.int .u8 2), .lit (.int .u8 57), .lit (.int .u8 49), .lit (.int .u8 28), .lit (.int .u8 3), .lit (.int .u8 61), .lit (.int .u8 58), .lit (.int .u8 42), .lit (.int .u8 50), .lit (.int .u8 38), .lit (.int .u8 29), .lit (.int .u8 17), .lit (.int .u8 4), .lit (.int .u8 62), .lit (.int .u8 47), .lit (.int .u8 59), .lit (.int .u8 36), .lit (.int .u8 45), .lit (.int .u8 43), .lit (.int .u8 51), .lit (.int .u8 22), .lit (.int .u8 53), .lit (.int .u8 39), .lit (.int .u8 33), .lit (.int .u8 30), .lit (.int .u8 24), .lit (.int .u8 18), .lit (.int .u8 12), .lit (.int .u8 5), .lit (.int .u8 63), .lit (.int .u8 55), .lit (.int .u8 48), .lit (.int .u8 27), .lit (.int .u8 60), .lit (.int .u8 41), .lit (.int .u8 37), .lit (.int .u8 16), .lit (.int .u8 46), .lit (.int .u8 35), .lit (.int .u8 44), .lit (.int .u8 21), .lit (.int .u8 52), .lit (.int .u8 32), .lit (.int .u8 23), .lit (.int .u8 11), .lit (.int .u8 54), .lit (.int .u8 26), .lit (.int .u8 40), .lit (.int .u8 15), .lit (.int .u8 34), .lit (.int .u8 20), .lit (.int .u8 31), .lit (.int .u8 10), .lit (.int .u8 25), .lit (.int .u8 14), .lit (.int .u8 19), .lit (.int .u8 9), .lit (.int .u8 13), .lit (.int .u8 8), .lit (.int .u8 7), .lit (.int .u8 6)]

/-- 'fathomlaw8.CodeBack': WHATEVER THE INPUT: true; the input reads as it did. -/
def codeBackSpec : ChangeSpec := { name := "codeBack", fn := fun _ => fun
  | [d] => { results := [.lit (.bool true)], args := [d] }
  | _ => none }
def codeBackRow : OpenClaim := { program := "ytleffbpjjbiobaagreatdoor", sum := "6e502d668b56d68b5879286843e195bbfde685e0b498ad623b30fefdc77a4cce", func := "fathom/fathomlaw8.CodeBack", spec := "codeBack", inPlace := ["math.Float64bits", "math.Float32bits", "math.Float64frombits", "math.Float32frombits", "math.RoundToEven", "math.archTrunc", "math.archFloor", "math.archCeil"], unfollowed := true, recurses := true, named := ["math/bits.deBruijn64tab"], apart := false, laid := [("math/bits.deBruijn64tab", laid_math_bits_deBruijn64tab)] }
def CodeBackSaid : Prop := codeBackRow.holds Tryz.pinned (OpenSpec.ofChange codeBackSpec)

/-- ITS FALSE NEIGHBOUR: 'it returns false'. Refute it at one input. -/
def codeBackWrong : ChangeSpec := { name := "codeBack", fn := fun _ => fun
  | [d] => { results := [.lit (.bool false)], args := [d] }
  | _ => none }
def CodeBackWrongFalsely : Prop := codeBackRow.holds Tryz.pinned (OpenSpec.ofChange codeBackWrong)

/-- 'fathomlaw8.CodeOne': WHATEVER THE INPUT: true; the input reads as it did. -/
def codeOneSpec : ChangeSpec := { name := "codeOne", fn := fun _ => fun
  | [d] => { results := [.lit (.bool true)], args := [d] }
  | _ => none }
def codeOneRow : OpenClaim := { program := "ytleffbpjjbiobaagreatdoor", sum := "6e502d668b56d68b5879286843e195bbfde685e0b498ad623b30fefdc77a4cce", func := "fathom/fathomlaw8.CodeOne", spec := "codeOne", inPlace := ["math.Float64bits", "math.Float32bits", "math.Float64frombits", "math.Float32frombits", "math.RoundToEven", "math.archTrunc", "math.archFloor", "math.archCeil"], unfollowed := true, recurses := true, named := ["math/bits.deBruijn64tab"], apart := false, laid := [("math/bits.deBruijn64tab", laid_math_bits_deBruijn64tab)] }
def CodeOneSaid : Prop := codeOneRow.holds Tryz.pinned (OpenSpec.ofChange codeOneSpec)

/-- ITS FALSE NEIGHBOUR: 'it returns false'. Refute it at one input. -/
def codeOneWrong : ChangeSpec := { name := "codeOne", fn := fun _ => fun
  | [d] => { results := [.lit (.bool false)], args := [d] }
  | _ => none }
def CodeOneWrongFalsely : Prop := codeOneRow.holds Tryz.pinned (OpenSpec.ofChange codeOneWrong)

/-- 'fathomlaw8.CodeDecimals': WHATEVER THE INPUT: true; the input reads as it did. -/
def codeDecimalsSpec : ChangeSpec := { name := "codeDecimals", fn := fun _ => fun
  | [d] => { results := [.lit (.bool true)], args := [d] }
  | _ => none }
def codeDecimalsRow : OpenClaim := { program := "ytleffbpjjbiobaagreatdoor", sum := "6e502d668b56d68b5879286843e195bbfde685e0b498ad623b30fefdc77a4cce", func := "fathom/fathomlaw8.CodeDecimals", spec := "codeDecimals", inPlace := ["math.Float64bits", "math.Float32bits", "math.Float64frombits", "math.Float32frombits", "math.RoundToEven", "math.archTrunc", "math.archFloor", "math.archCeil"], unfollowed := true, recurses := true, named := ["math/bits.deBruijn64tab"], apart := false, laid := [("math/bits.deBruijn64tab", laid_math_bits_deBruijn64tab)] }
def CodeDecimalsSaid : Prop := codeDecimalsRow.holds Tryz.pinned (OpenSpec.ofChange codeDecimalsSpec)

/-- ITS FALSE NEIGHBOUR: 'it returns false'. Refute it at one input. -/
def codeDecimalsWrong : ChangeSpec := { name := "codeDecimals", fn := fun _ => fun
  | [d] => { results := [.lit (.bool false)], args := [d] }
  | _ => none }
def CodeDecimalsWrongFalsely : Prop := codeDecimalsRow.holds Tryz.pinned (OpenSpec.ofChange codeDecimalsWrong)

/-- 'fathomlaw8.CodeEnds': WHATEVER THE INPUT: true; the input reads as it did. -/
def codeEndsSpec : ChangeSpec := { name := "codeEnds", fn := fun _ => fun
  | [] => { results := [.lit (.bool true)], args := [] }
  | _ => none }
def codeEndsRow : OpenClaim := { program := "ytleffbpjjbiobaagreatdoor", sum := "6e502d668b56d68b5879286843e195bbfde685e0b498ad623b30fefdc77a4cce", func := "fathom/fathomlaw8.CodeEnds", spec := "codeEnds", inPlace := ["math.Float64bits", "math.Float32bits", "math.Float64frombits", "math.Float32frombits", "math.RoundToEven", "math.archTrunc", "math.archFloor", "math.archCeil"], unfollowed := true, recurses := true, named := ["math/bits.deBruijn64tab"], apart := false, laid := [("math/bits.deBruijn64tab", laid_math_bits_deBruijn64tab)] }
def CodeEndsSaid : Prop := codeEndsRow.holds Tryz.pinned (OpenSpec.ofChange codeEndsSpec)

/-- ITS FALSE NEIGHBOUR: 'it returns false'. Refute it at one input. -/
def codeEndsWrong : ChangeSpec := { name := "codeEnds", fn := fun _ => fun
  | [] => { results := [.lit (.bool false)], args := [] }
  | _ => none }
def CodeEndsWrongFalsely : Prop := codeEndsRow.holds Tryz.pinned (OpenSpec.ofChange codeEndsWrong)

/-- 'fathomlaw8.CodeMoves': WHATEVER THE INPUT: true; the input reads as it did. -/
def codeMovesSpec : ChangeSpec := { name := "codeMoves", fn := fun _ => fun
  | [d] => { results := [.lit (.bool true)], args := [d] }
  | _ => none }
def codeMovesRow : OpenClaim := { program := "ytleffbpjjbiobaagreatdoor", sum := "6e502d668b56d68b5879286843e195bbfde685e0b498ad623b30fefdc77a4cce", func := "fathom/fathomlaw8.CodeMoves", spec := "codeMoves", inPlace := ["math.Float64bits", "math.Float32bits", "math.Float64frombits", "math.Float32frombits", "math.RoundToEven", "math.archTrunc", "math.archFloor", "math.archCeil"], unfollowed := true, recurses := true, named := ["math/bits.deBruijn64tab"], apart := false, laid := [("math/bits.deBruijn64tab", laid_math_bits_deBruijn64tab)] }
def CodeMovesSaid : Prop := codeMovesRow.holds Tryz.pinned (OpenSpec.ofChange codeMovesSpec)

/-- ITS FALSE NEIGHBOUR: 'it returns false'. Refute it at one input. -/
def codeMovesWrong : ChangeSpec := { name := "codeMoves", fn := fun _ => fun
  | [d] => { results := [.lit (.bool false)], args := [d] }
  | _ => none }
def CodeMovesWrongFalsely : Prop := codeMovesRow.holds Tryz.pinned (OpenSpec.ofChange codeMovesWrong)

/- THE SECOND FORM. 'bulk': how many values and letters a reading holds, each counted each time it is reached (what is shared counts as often as it is met; a slice's spare places count too). A statement '..UptoSaid' is the law's where the arguments, and the package variables that the reading takes, are together of bulk at most 1048576: NARROWER than '..Said'. Prove '..Said' where nothing that the law and all that it calls make is longer than what came in: it says more and counts as full. Else prove '..UptoSaid'. A law counts once. -/
mutual
def uptoBulk {H : Type} : DataW H → Nat
  | .lit (.string bytes) => bytes.length + 1
  | .lit _ => 1
  | .nil => 1
  | .ptr d => uptoBulk d + 1
  | .slice elems spare => uptoBulkAll elems + uptoBulkAll spare + 1
  | .agg parts => uptoBulkAll parts + 1
  | .iface _ d => uptoBulk d + 1
  | .map entries => uptoBulkEntries entries + 1
  | .held _ => 1
def uptoBulkAll {H : Type} : List (DataW H) → Nat
  | [] => 0
  | d :: r => uptoBulk d + uptoBulkAll r
def uptoBulkEntries {H : Type} : List (Lit × DataW H) → Nat
  | [] => 0
  | x :: r => uptoBulkEntry x + uptoBulkEntries r
def uptoBulkEntry {H : Type} : Lit × DataW H → Nat
  | (.string bytes, d) => bytes.length + uptoBulk d + 1
  | (_, d) => uptoBulk d + 1
 end
def uptoSmall : (H : Type) → List (DataW H) → Bool := fun _ ds => decide (uptoBulkAll ds ≤ 1048576)
def OpenSpec.upto (s : _root_.Go.ChangeSpec) : _root_.Go.OpenSpec := { _root_.Go.OpenSpec.ofChange s with cond := some uptoSmall }

/-- 'fathomlaw8.CodeBack', WHERE WHAT IT READS IS OF BULK AT MOST 1048576: true; the input reads as it did. -/
def codeBackUptoRow : OpenClaim := { program := "ytleffbpjjbiobaagreatdoor", sum := "6e502d668b56d68b5879286843e195bbfde685e0b498ad623b30fefdc77a4cce", func := "fathom/fathomlaw8.CodeBack", spec := "codeBack", inPlace := ["math.Float64bits", "math.Float32bits", "math.Float64frombits", "math.Float32frombits", "math.RoundToEven", "math.archTrunc", "math.archFloor", "math.archCeil"], unfollowed := true, recurses := true, named := ["math/bits.deBruijn64tab"], apart := false, laid := [("math/bits.deBruijn64tab", laid_math_bits_deBruijn64tab)], narrowed := true }
def CodeBackUptoSaid : Prop := codeBackUptoRow.holds Tryz.pinned (OpenSpec.upto codeBackSpec)

/-- 'fathomlaw8.CodeOne', WHERE WHAT IT READS IS OF BULK AT MOST 1048576: true; the input reads as it did. -/
def codeOneUptoRow : OpenClaim := { program := "ytleffbpjjbiobaagreatdoor", sum := "6e502d668b56d68b5879286843e195bbfde685e0b498ad623b30fefdc77a4cce", func := "fathom/fathomlaw8.CodeOne", spec := "codeOne", inPlace := ["math.Float64bits", "math.Float32bits", "math.Float64frombits", "math.Float32frombits", "math.RoundToEven", "math.archTrunc", "math.archFloor", "math.archCeil"], unfollowed := true, recurses := true, named := ["math/bits.deBruijn64tab"], apart := false, laid := [("math/bits.deBruijn64tab", laid_math_bits_deBruijn64tab)], narrowed := true }
def CodeOneUptoSaid : Prop := codeOneUptoRow.holds Tryz.pinned (OpenSpec.upto codeOneSpec)

/-- 'fathomlaw8.CodeDecimals', WHERE WHAT IT READS IS OF BULK AT MOST 1048576: true; the input reads as it did. -/
def codeDecimalsUptoRow : OpenClaim := { program := "ytleffbpjjbiobaagreatdoor", sum := "6e502d668b56d68b5879286843e195bbfde685e0b498ad623b30fefdc77a4cce", func := "fathom/fathomlaw8.CodeDecimals", spec := "codeDecimals", inPlace := ["math.Float64bits", "math.Float32bits", "math.Float64frombits", "math.Float32frombits", "math.RoundToEven", "math.archTrunc", "math.archFloor", "math.archCeil"], unfollowed := true, recurses := true, named := ["math/bits.deBruijn64tab"], apart := false, laid := [("math/bits.deBruijn64tab", laid_math_bits_deBruijn64tab)], narrowed := true }
def CodeDecimalsUptoSaid : Prop := codeDecimalsUptoRow.holds Tryz.pinned (OpenSpec.upto codeDecimalsSpec)

/-- 'fathomlaw8.CodeEnds', WHERE WHAT IT READS IS OF BULK AT MOST 1048576: true; the input reads as it did. -/
def codeEndsUptoRow : OpenClaim := { program := "ytleffbpjjbiobaagreatdoor", sum := "6e502d668b56d68b5879286843e195bbfde685e0b498ad623b30fefdc77a4cce", func := "fathom/fathomlaw8.CodeEnds", spec := "codeEnds", inPlace := ["math.Float64bits", "math.Float32bits", "math.Float64frombits", "math.Float32frombits", "math.RoundToEven", "math.archTrunc", "math.archFloor", "math.archCeil"], unfollowed := true, recurses := true, named := ["math/bits.deBruijn64tab"], apart := false, laid := [("math/bits.deBruijn64tab", laid_math_bits_deBruijn64tab)], narrowed := true }
def CodeEndsUptoSaid : Prop := codeEndsUptoRow.holds Tryz.pinned (OpenSpec.upto codeEndsSpec)

/-- 'fathomlaw8.CodeMoves', WHERE WHAT IT READS IS OF BULK AT MOST 1048576: true; the input reads as it did. -/
def codeMovesUptoRow : OpenClaim := { program := "ytleffbpjjbiobaagreatdoor", sum := "6e502d668b56d68b5879286843e195bbfde685e0b498ad623b30fefdc77a4cce", func := "fathom/fathomlaw8.CodeMoves", spec := "codeMoves", inPlace := ["math.Float64bits", "math.Float32bits", "math.Float64frombits", "math.Float32frombits", "math.RoundToEven", "math.archTrunc", "math.archFloor", "math.archCeil"], unfollowed := true, recurses := true, named := ["math/bits.deBruijn64tab"], apart := false, laid := [("math/bits.deBruijn64tab", laid_math_bits_deBruijn64tab)], narrowed := true }
def CodeMovesUptoSaid : Prop := codeMovesUptoRow.holds Tryz.pinned (OpenSpec.upto codeMovesSpec)

end Rows
end Go.Proofs.YtleffbpjjbiobaaGreatDoor
