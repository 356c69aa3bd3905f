/- The document's own: Sign, Inf, Nan, Neg, Abs, IsNan, IsInf, IsZero, Finite, Class, Key, OfKey, Up, Down, Distance. -/
import Derived.Test.YtdiinhccfifiaacFG
namespace Go.Proofs.Ytdiinhccfifiaac
open Go.RowKit
set_option linter.unusedVariables false
set_option linter.unusedSimpArgs false

theorem c64_and_lo (r : Nat) (h : r < 9223372036854775808) : bits BinOp.and IntKind.u64 (r : Int) 9223372036854775808 = 0 := b64_and_lo r h
theorem c64_and_hi (b : Nat) (h : 9223372036854775808 ≤ b) (hb : b < 18446744073709551616) : bits BinOp.and IntKind.u64 (b : Int) 9223372036854775808 = 9223372036854775808 := b64_and_hi b h hb
theorem c64_abs (b : Nat) (hb : b < 18446744073709551616) : bits BinOp.andNot IntKind.u64 (b : Int) 9223372036854775808 = ((b % 9223372036854775808 : Nat) : Int) := b64_abs b hb
theorem c64_flip (b : Nat) (hb : b < 18446744073709551616) : bits BinOp.xor IntKind.u64 (b : Int) 9223372036854775808 = ((flip64 b : Nat) : Int) := b64_flip b hb
theorem c32_and_lo (r : Nat) (h : r < 2147483648) : bits BinOp.and IntKind.u64 (r : Int) 2147483648 = 0 := by
  have := u64_and_nat r 2147483648 (by omega) (by omega)
  rw [show r &&& 2147483648 = 0 from n_and_lo 31 r h] at this; exact this
theorem c32_and_hi (b : Nat) (h : 2147483648 ≤ b) (hb : b < 4294967296) : bits BinOp.and IntKind.u64 (b : Int) 2147483648 = 2147483648 := by
  obtain ⟨r, rfl⟩ : ∃ r, b = 2147483648 + r := ⟨b - 2147483648, by omega⟩
  have := u64_and_nat (2147483648 + r) 2147483648 (by omega) (by omega)
  rw [show (2147483648 + r) &&& 2147483648 = 2147483648 from n_and_hi 31 r (show r < 2147483648 by omega)] at this; exact this
theorem c32_abs (b : Nat) (hb : b < 4294967296) : bits BinOp.andNot IntKind.u64 (b : Int) 2147483648 = ((b % 2147483648 : Nat) : Int) := by
  have := u64_andNot_nat b 2147483648 (by omega) (by omega)
  refine Eq.trans this ?_
  congr 1
  refine Nat.eq_of_testBit_eq fun i => ?_
  rw [Nat.testBit_and, ← Nat.and_two_pow_sub_one_eq_mod b 31, Nat.testBit_and, show 18446744073709551615 - 2147483648 = 2 ^ 64 - (2147483648 + 1) from rfl, Nat.testBit_two_pow_sub_succ (by omega), Nat.testBit_two_pow_sub_one]
  rw [show (2147483648 : Nat) = 2 ^ 31 from rfl, Nat.testBit_two_pow]
  rcases Nat.lt_trichotomy i 31 with h | h | h
  · simp [h, show i < 64 by omega, show ¬ 31 = i by omega]
  · simp [h]
  · have : b.testBit i = false := Nat.testBit_lt_two_pow (Nat.lt_of_lt_of_le hb (Nat.pow_le_pow_right (n := 2) (i := 32) (by omega) (by omega)))
    simp [this]
theorem c32_flip (b : Nat) (hb : b < 4294967296) : bits BinOp.xor IntKind.u64 (b : Int) 2147483648 = ((flip32 b : Nat) : Int) := by
  unfold flip32
  by_cases h : b < 2147483648
  · rw [if_pos h]
    have := u64_xor_nat b 2147483648 (by omega) (by omega)
    rw [show b ^^^ 2147483648 = 2147483648 + b from n_xor_lo 31 b h] at this; exact this
  · rw [if_neg h]
    obtain ⟨r, rfl⟩ : ∃ r, b = 2147483648 + r := ⟨b - 2147483648, by omega⟩
    have := u64_xor_nat (2147483648 + r) 2147483648 (by omega) (by omega)
    rw [show (2147483648 + r) ^^^ 2147483648 = r from n_xor_hi 31 r (show r < 2147483648 by omega)] at this
    rw [Nat.add_sub_cancel_left]; exact this
theorem n_bit (a n : Nat) : a &&& 2 ^ n = a / 2 ^ n % 2 * 2 ^ n := by
  have := n_mask a n 1
  simpa using this

end Go.Proofs.Ytdiinhccfifiaac
