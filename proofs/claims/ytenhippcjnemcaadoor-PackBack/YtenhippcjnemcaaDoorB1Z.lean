/- The contract of a Reader's Zig. -/
import Derived.Test.YtenhippcjnemcaaDoorB1G
namespace Go.Proofs.YtenhippcjnemcaaDoor
open Go.RowKit
open M
set_option linter.unusedVariables false

/-- The number whose Zig is the Var of x. -/
def zag (x : Nat) : Int := if x % 2 = 1 then -1 - ((x / 2 : Nat) : Int) else ((x / 2 : Nat) : Int)

theorem zag_zig (y : Int) : zag (zig y) = y := by
  unfold zag zig; split <;> split <;> omega
theorem zig_zag (x : Nat) : zig (zag x) = x := by
  unfold zag zig; split <;> split <;> omega

theorem i64_xor_ones (a : Nat) (ha : a < 9223372036854775808) : bits .xor .i64 (a : Int) (-1) = -1 - (a : Int) := by
  show IntKind.i64.wrap ((BitVec.ofInt 64 (a : Int) ^^^ BitVec.ofInt 64 (-1)).toNat : Int) = _
  have h1 : BitVec.ofInt 64 (-1) = BitVec.allOnes 64 := by decide
  rw [h1, BitVec.xor_allOnes, BitVec.toNat_not, ofInt_u64 a (by omega)]
  simp [IntKind.wrap, IntKind.bits, IntKind.signed]
  omega

theorem i64_xor_zero (a : Nat) (ha : a < 9223372036854775808) : bits .xor .i64 (a : Int) 0 = (a : Int) := by
  show IntKind.i64.wrap ((BitVec.ofInt 64 (a : Int) ^^^ BitVec.ofInt 64 0).toNat : Int) = _
  have h1 : BitVec.ofInt 64 0 = 0#64 := by decide
  rw [h1, BitVec.xor_zero, ofInt_u64 a (by omega)]
  simp [IntKind.wrap, IntKind.bits, IntKind.signed]
  omega

theorem zag_xor (x : Nat) (hx : x < 18446744073709551616) : bits BinOp.xor IntKind.i64 ((x : Int) / 2) (wrap64 (-wrap64 (bits BinOp.and IntKind.u64 (x : Int) 1))) = zag x := by
  have h1 := bits_mask .u64 64 (by decide) wraps_u64 1 (by omega) (x : Int) (by omega) (by omega)
  have h2 : bits BinOp.and IntKind.u64 (x : Int) 1 = (x : Int) % 2 := by simpa using h1
  have e : (x : Int) / 2 = ((x / 2 : Nat) : Int) := by omega
  rw [h2, e]
  unfold zag
  by_cases ho : x % 2 = 1
  · have h3 : wrap64 (-wrap64 ((x : Int) % 2)) = -1 := by unfold wrap64; omega
    rw [h3, i64_xor_ones _ (by omega), if_pos ho]
  · have h3 : wrap64 (-wrap64 ((x : Int) % 2)) = 0 := by unfold wrap64; omega
    rw [h3, i64_xor_zero _ (by omega), if_neg ho]


end Go.Proofs.YtenhippcjnemcaaDoor
