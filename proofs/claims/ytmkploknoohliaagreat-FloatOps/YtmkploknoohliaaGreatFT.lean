/- The document's own: Sign, Inf, Nan, Neg, Abs, IsNan, IsInf, IsZero, Finite, Class, Key, OfKey, Up, Down, Distance. -/
import Derived.Test.YtmkploknoohliaaGreatFG
namespace Go.Proofs.YtmkploknoohliaaGreat
open Go.RowKit
set_option linter.unusedVariables false
set_option linter.unusedSimpArgs false

theorem c64_and_lo (r : Nat) (h : r < 9223372036854775808) : bits BinOp.and IntKind.u64 (r : Int) 9223372036854775808 = 0 := b64_and_lo r h
theorem c64_and_hi (b : Nat) (h : 9223372036854775808 ≤ b) (hb : b < 18446744073709551616) : bits BinOp.and IntKind.u64 (b : Int) 9223372036854775808 = 9223372036854775808 := b64_and_hi b h hb
theorem c64_abs (b : Nat) (hb : b < 18446744073709551616) : bits BinOp.andNot IntKind.u64 (b : Int) 9223372036854775808 = ((b % 9223372036854775808 : Nat) : Int) := b64_abs b hb
theorem c64_flip (b : Nat) (hb : b < 18446744073709551616) : bits BinOp.xor IntKind.u64 (b : Int) 9223372036854775808 = ((flip64 b : Nat) : Int) := b64_flip b hb
theorem c32_and_lo (r : Nat) (h : r < 2147483648) : bits BinOp.and IntKind.u64 (r : Int) 2147483648 = 0 := by
  have := u64_and_nat r 2147483648 (by omega) (by omega)
  rw [show r &&& 2147483648 = 0 from n_and_lo 31 r h] at this; exact this
theorem c32_and_hi (b : Nat) (h : 2147483648 ≤ b) (hb : b < 4294967296) : bits BinOp.and IntKind.u64 (b : Int) 2147483648 = 2147483648 := by
  obtain ⟨r, rfl⟩ : ∃ r, b = 2147483648 + r := ⟨b - 2147483648, by omega⟩
  have := u64_and_nat (2147483648 + r) 2147483648 (by omega) (by omega)
  rw [show (2147483648 + r) &&& 2147483648 = 2147483648 from n_and_hi 31 r (show r < 2147483648 by omega)] at this; exact this
theorem c32_abs (b : Nat) (hb : b < 4294967296) : bits BinOp.andNot IntKind.u64 (b : Int) 2147483648 = ((b % 2147483648 : Nat) : Int) := by
  have := u64_andNot_nat b 2147483648 (by omega) (by omega)
  refine Eq.trans this ?_
  congr 1
  refine Nat.eq_of_testBit_eq fun i => ?_
  rw [Nat.testBit_and, ← Nat.and_two_pow_sub_one_eq_mod b 31, Nat.testBit_and, show 18446744073709551615 - 2147483648 = 2 ^ 64 - (2147483648 + 1) from rfl, Nat.testBit_two_pow_sub_succ (by omega), Nat.testBit_two_pow_sub_one]
  rw [show (2147483648 : Nat) = 2 ^ 31 from rfl, Nat.testBit_two_pow]
  rcases Nat.lt_trichotomy i 31 with h | h | h
  · simp [h, show i < 64 by omega, show ¬ 31 = i by omega]
  · simp [h]
  · have : b.testBit i = false := Nat.testBit_lt_two_pow (Nat.lt_of_lt_of_le hb (Nat.pow_le_pow_right (n := 2) (i := 32) (by omega) (by omega)))
    simp [this]
theorem c32_flip (b : Nat) (hb : b < 4294967296) : bits BinOp.xor IntKind.u64 (b : Int) 2147483648 = ((flip32 b : Nat) : Int) := by
  unfold flip32
  by_cases h : b < 2147483648
  · rw [if_pos h]
    have := u64_xor_nat b 2147483648 (by omega) (by omega)
    rw [show b ^^^ 2147483648 = 2147483648 + b from n_xor_lo 31 b h] at this; exact this
  · rw [if_neg h]
    obtain ⟨r, rfl⟩ : ∃ r, b = 2147483648 + r := ⟨b - 2147483648, by omega⟩
    have := u64_xor_nat (2147483648 + r) 2147483648 (by omega) (by omega)
    rw [show (2147483648 + r) ^^^ 2147483648 = r from n_xor_hi 31 r (show r < 2147483648 by omega)] at this
    rw [Nat.add_sub_cancel_left]; exact this
theorem n_bit (a n : Nat) : a &&& 2 ^ n = a / 2 ^ n % 2 * 2 ^ n := by
  have := n_mask a n 1
  simpa using this

set_option maxRecDepth 100000 in
theorem rSign64  (w : World) : Calls Tryz.prog 60 #[.int .i64 64] w fun e w' => e = .returned (.int .u64 9223372036854775808) ∧ w' = w := by
  go_enter Tryz.func60, Tryz.ntmps60
  go_wp2_with fail
  go_ret
  exact ⟨rfl, rfl⟩
set_option maxRecDepth 100000 in
theorem rInf64  (w : World) : Calls Tryz.prog 59 #[.int .i64 64] w fun e w' => e = .returned (.int .u64 9218868437227405312) ∧ w' = w := by
  go_enter Tryz.func59, Tryz.ntmps59
  go_wp2_with fail
  go_ret
  exact ⟨rfl, rfl⟩
set_option maxRecDepth 100000 in
theorem rNan64  (w : World) : Calls Tryz.prog 61 #[.int .i64 64] w fun e w' => e = .returned (.int .u64 9221120237041090560) ∧ w' = w := by
  go_enter Tryz.func61, Tryz.ntmps61
  go_wp2_with fail
  go_ret
  exact ⟨rfl, rfl⟩
set_option maxRecDepth 100000 in
theorem rdigits64  (w : World) : Calls Tryz.prog 88 #[.int .i64 64] w fun e w' => e = .returned (.int .i64 53) ∧ w' = w := by
  go_enter Tryz.func88, Tryz.ntmps88
  go_wp2_with fail
  go_ret
  exact ⟨rfl, rfl⟩
set_option maxRecDepth 100000 in
theorem rleast64  (w : World) : Calls Tryz.prog 89 #[.int .i64 64] w fun e w' => e = .returned (.int .i64 (-1074)) ∧ w' = w := by
  go_enter Tryz.func89, Tryz.ntmps89
  go_wp2_with fail
  go_ret
  exact ⟨rfl, rfl⟩
set_option maxRecDepth 100000 in
theorem rNeg64 (b : Nat) (w : World) (hb : b < 18446744073709551616) : Calls Tryz.prog 63 #[.int .u64 b, .int .i64 64] w fun e w' => e = .returned (.bool (decide (9223372036854775808 ≤ b))) ∧ w' = w := by
  by_cases h : 9223372036854775808 ≤ b
  · rw [decide_eq_true h]
    have hx := c64_and_hi b h hb
    go_enter Tryz.func63, Tryz.ntmps63
    go_wp2_with fail
    refine (rSign64 _).mono ?_
    rintro e w1 ⟨rfl, rfl⟩
    go_wp2_with (simp only [hx])
    go_ret
    exact ⟨rfl, rfl⟩
  · rw [decide_eq_false h]
    have hx := c64_and_lo b (by omega)
    go_enter Tryz.func63, Tryz.ntmps63
    go_wp2_with fail
    refine (rSign64 _).mono ?_
    rintro e w1 ⟨rfl, rfl⟩
    go_wp2_with (simp only [hx])
    go_ret
    exact ⟨rfl, rfl⟩
set_option maxRecDepth 100000 in
theorem rAbs64 (b : Nat) (w : World) (hb : b < 18446744073709551616) : Calls Tryz.prog 20 #[.int .u64 b, .int .i64 64] w fun e w' => e = .returned (.int .u64 (b % 9223372036854775808 : Nat)) ∧ w' = w := by
  have hx := c64_abs b hb
  go_enter Tryz.func20, Tryz.ntmps20
  go_wp2_with fail
  refine (rSign64 _).mono ?_
  rintro e w1 ⟨rfl, rfl⟩
  go_wp2_with (simp only [hx])
  go_ret
  exact ⟨rfl, rfl⟩
set_option maxRecDepth 100000 in
theorem rIsNan64 (b : Nat) (w : World) (hb : b < 18446744073709551616) : Calls Tryz.prog 19 #[.int .u64 b, .int .i64 64] w fun e w' => e = .returned (.bool (decide (9218868437227405312 < b % 9223372036854775808))) ∧ w' = w := by
  by_cases h : 9218868437227405312 < b % 9223372036854775808
  · rw [decide_eq_true h]
    have hA := fhide (fun w : World => rAbs64 b w hb)
    generalize b % 9223372036854775808 = r at *
    have h' : (9218868437227405312 : Int) < (r : Int) := by omega
    go_enter Tryz.func19, Tryz.ntmps19
    go_wp2_with fail
    refine (hA.out _).mono ?_
    rintro e w1 ⟨rfl, rfl⟩
    go_wp2_with fail
    refine (rInf64 _).mono ?_
    rintro e w1 ⟨rfl, rfl⟩
    go_wp2_with fail
    go_ret
    exact ⟨rfl, rfl⟩
  · rw [decide_eq_false h]
    have hA := fhide (fun w : World => rAbs64 b w hb)
    generalize b % 9223372036854775808 = r at *
    have h' : decide ((9218868437227405312 : Int) < (r : Int)) = false := by simp; omega
    go_enter Tryz.func19, Tryz.ntmps19
    go_wp2_with fail
    refine (hA.out _).mono ?_
    rintro e w1 ⟨rfl, rfl⟩
    go_wp2_with fail
    refine (rInf64 _).mono ?_
    rintro e w1 ⟨rfl, rfl⟩
    go_wp2_with fail
    go_ret
    exact ⟨rfl, rfl⟩
set_option maxRecDepth 100000 in
theorem rIsInf64 (b : Nat) (w : World) (hb : b < 18446744073709551616) : Calls Tryz.prog 64 #[.int .u64 b, .int .i64 64] w fun e w' => e = .returned (.bool (decide (b % 9223372036854775808 = 9218868437227405312))) ∧ w' = w := by
  by_cases h : b % 9223372036854775808 = 9218868437227405312
  · rw [decide_eq_true h]
    have hA := fhide (fun w : World => rAbs64 b w hb)
    generalize b % 9223372036854775808 = r at *
    have h' : ((r : Int) == 9218868437227405312) = true := by simp; omega
    go_enter Tryz.func64, Tryz.ntmps64
    go_wp2_with fail
    refine (hA.out _).mono ?_
    rintro e w1 ⟨rfl, rfl⟩
    go_wp2_with fail
    refine (rInf64 _).mono ?_
    rintro e w1 ⟨rfl, rfl⟩
    go_wp2_with fail
    go_ret
    exact ⟨rfl, rfl⟩
  · rw [decide_eq_false h]
    have hA := fhide (fun w : World => rAbs64 b w hb)
    generalize b % 9223372036854775808 = r at *
    have h' : ((r : Int) == 9218868437227405312) = false := by simp; omega
    go_enter Tryz.func64, Tryz.ntmps64
    go_wp2_with fail
    refine (hA.out _).mono ?_
    rintro e w1 ⟨rfl, rfl⟩
    go_wp2_with fail
    refine (rInf64 _).mono ?_
    rintro e w1 ⟨rfl, rfl⟩
    go_wp2_with fail
    go_ret
    exact ⟨rfl, rfl⟩
set_option maxRecDepth 100000 in
theorem rIsZero64 (b : Nat) (w : World) (hb : b < 18446744073709551616) : Calls Tryz.prog 62 #[.int .u64 b, .int .i64 64] w fun e w' => e = .returned (.bool (decide (b % 9223372036854775808 = 0))) ∧ w' = w := by
  by_cases h : b % 9223372036854775808 = 0
  · rw [decide_eq_true h]
    have hA := fhide (fun w : World => rAbs64 b w hb)
    generalize b % 9223372036854775808 = r at *
    have h' : ((r : Int) == 0) = true := by simp; omega
    go_enter Tryz.func62, Tryz.ntmps62
    go_wp2_with fail
    refine (hA.out _).mono ?_
    rintro e w1 ⟨rfl, rfl⟩
    go_wp2_with fail
    go_ret
    exact ⟨rfl, rfl⟩
  · rw [decide_eq_false h]
    have hA := fhide (fun w : World => rAbs64 b w hb)
    generalize b % 9223372036854775808 = r at *
    have h' : ((r : Int) == 0) = false := by simp; omega
    go_enter Tryz.func62, Tryz.ntmps62
    go_wp2_with fail
    refine (hA.out _).mono ?_
    rintro e w1 ⟨rfl, rfl⟩
    go_wp2_with fail
    go_ret
    exact ⟨rfl, rfl⟩
set_option maxRecDepth 100000 in
theorem rSign32  (w : World) : Calls Tryz.prog 60 #[.int .i64 32] w fun e w' => e = .returned (.int .u64 2147483648) ∧ w' = w := by
  go_enter Tryz.func60, Tryz.ntmps60
  go_wp2_with fail
  go_ret
  exact ⟨rfl, rfl⟩
set_option maxRecDepth 100000 in
theorem rInf32  (w : World) : Calls Tryz.prog 59 #[.int .i64 32] w fun e w' => e = .returned (.int .u64 2139095040) ∧ w' = w := by
  go_enter Tryz.func59, Tryz.ntmps59
  go_wp2_with fail
  go_ret
  exact ⟨rfl, rfl⟩
set_option maxRecDepth 100000 in
theorem rNan32  (w : World) : Calls Tryz.prog 61 #[.int .i64 32] w fun e w' => e = .returned (.int .u64 2143289344) ∧ w' = w := by
  go_enter Tryz.func61, Tryz.ntmps61
  go_wp2_with fail
  go_ret
  exact ⟨rfl, rfl⟩
set_option maxRecDepth 100000 in
theorem rdigits32  (w : World) : Calls Tryz.prog 88 #[.int .i64 32] w fun e w' => e = .returned (.int .i64 24) ∧ w' = w := by
  go_enter Tryz.func88, Tryz.ntmps88
  go_wp2_with fail
  go_ret
  exact ⟨rfl, rfl⟩
set_option maxRecDepth 100000 in
theorem rleast32  (w : World) : Calls Tryz.prog 89 #[.int .i64 32] w fun e w' => e = .returned (.int .i64 (-149)) ∧ w' = w := by
  go_enter Tryz.func89, Tryz.ntmps89
  go_wp2_with fail
  go_ret
  exact ⟨rfl, rfl⟩
set_option maxRecDepth 100000 in
theorem rNeg32 (b : Nat) (w : World) (hb : b < 4294967296) : Calls Tryz.prog 63 #[.int .u64 b, .int .i64 32] w fun e w' => e = .returned (.bool (decide (2147483648 ≤ b))) ∧ w' = w := by
  by_cases h : 2147483648 ≤ b
  · rw [decide_eq_true h]
    have hx := c32_and_hi b h hb
    go_enter Tryz.func63, Tryz.ntmps63
    go_wp2_with fail
    refine (rSign32 _).mono ?_
    rintro e w1 ⟨rfl, rfl⟩
    go_wp2_with (simp only [hx])
    go_ret
    exact ⟨rfl, rfl⟩
  · rw [decide_eq_false h]
    have hx := c32_and_lo b (by omega)
    go_enter Tryz.func63, Tryz.ntmps63
    go_wp2_with fail
    refine (rSign32 _).mono ?_
    rintro e w1 ⟨rfl, rfl⟩
    go_wp2_with (simp only [hx])
    go_ret
    exact ⟨rfl, rfl⟩
set_option maxRecDepth 100000 in
theorem rAbs32 (b : Nat) (w : World) (hb : b < 4294967296) : Calls Tryz.prog 20 #[.int .u64 b, .int .i64 32] w fun e w' => e = .returned (.int .u64 (b % 2147483648 : Nat)) ∧ w' = w := by
  have hx := c32_abs b hb
  go_enter Tryz.func20, Tryz.ntmps20
  go_wp2_with fail
  refine (rSign32 _).mono ?_
  rintro e w1 ⟨rfl, rfl⟩
  go_wp2_with (simp only [hx])
  go_ret
  exact ⟨rfl, rfl⟩
set_option maxRecDepth 100000 in
theorem rIsNan32 (b : Nat) (w : World) (hb : b < 4294967296) : Calls Tryz.prog 19 #[.int .u64 b, .int .i64 32] w fun e w' => e = .returned (.bool (decide (2139095040 < b % 2147483648))) ∧ w' = w := by
  by_cases h : 2139095040 < b % 2147483648
  · rw [decide_eq_true h]
    have hA := fhide (fun w : World => rAbs32 b w hb)
    generalize b % 2147483648 = r at *
    have h' : (2139095040 : Int) < (r : Int) := by omega
    go_enter Tryz.func19, Tryz.ntmps19
    go_wp2_with fail
    refine (hA.out _).mono ?_
    rintro e w1 ⟨rfl, rfl⟩
    go_wp2_with fail
    refine (rInf32 _).mono ?_
    rintro e w1 ⟨rfl, rfl⟩
    go_wp2_with fail
    go_ret
    exact ⟨rfl, rfl⟩
  · rw [decide_eq_false h]
    have hA := fhide (fun w : World => rAbs32 b w hb)
    generalize b % 2147483648 = r at *
    have h' : decide ((2139095040 : Int) < (r : Int)) = false := by simp; omega
    go_enter Tryz.func19, Tryz.ntmps19
    go_wp2_with fail
    refine (hA.out _).mono ?_
    rintro e w1 ⟨rfl, rfl⟩
    go_wp2_with fail
    refine (rInf32 _).mono ?_
    rintro e w1 ⟨rfl, rfl⟩
    go_wp2_with fail
    go_ret
    exact ⟨rfl, rfl⟩
set_option maxRecDepth 100000 in
theorem rIsInf32 (b : Nat) (w : World) (hb : b < 4294967296) : Calls Tryz.prog 64 #[.int .u64 b, .int .i64 32] w fun e w' => e = .returned (.bool (decide (b % 2147483648 = 2139095040))) ∧ w' = w := by
  by_cases h : b % 2147483648 = 2139095040
  · rw [decide_eq_true h]
    have hA := fhide (fun w : World => rAbs32 b w hb)
    generalize b % 2147483648 = r at *
    have h' : ((r : Int) == 2139095040) = true := by simp; omega
    go_enter Tryz.func64, Tryz.ntmps64
    go_wp2_with fail
    refine (hA.out _).mono ?_
    rintro e w1 ⟨rfl, rfl⟩
    go_wp2_with fail
    refine (rInf32 _).mono ?_
    rintro e w1 ⟨rfl, rfl⟩
    go_wp2_with fail
    go_ret
    exact ⟨rfl, rfl⟩
  · rw [decide_eq_false h]
    have hA := fhide (fun w : World => rAbs32 b w hb)
    generalize b % 2147483648 = r at *
    have h' : ((r : Int) == 2139095040) = false := by simp; omega
    go_enter Tryz.func64, Tryz.ntmps64
    go_wp2_with fail
    refine (hA.out _).mono ?_
    rintro e w1 ⟨rfl, rfl⟩
    go_wp2_with fail
    refine (rInf32 _).mono ?_
    rintro e w1 ⟨rfl, rfl⟩
    go_wp2_with fail
    go_ret
    exact ⟨rfl, rfl⟩
set_option maxRecDepth 100000 in
theorem rIsZero32 (b : Nat) (w : World) (hb : b < 4294967296) : Calls Tryz.prog 62 #[.int .u64 b, .int .i64 32] w fun e w' => e = .returned (.bool (decide (b % 2147483648 = 0))) ∧ w' = w := by
  by_cases h : b % 2147483648 = 0
  · rw [decide_eq_true h]
    have hA := fhide (fun w : World => rAbs32 b w hb)
    generalize b % 2147483648 = r at *
    have h' : ((r : Int) == 0) = true := by simp; omega
    go_enter Tryz.func62, Tryz.ntmps62
    go_wp2_with fail
    refine (hA.out _).mono ?_
    rintro e w1 ⟨rfl, rfl⟩
    go_wp2_with fail
    go_ret
    exact ⟨rfl, rfl⟩
  · rw [decide_eq_false h]
    have hA := fhide (fun w : World => rAbs32 b w hb)
    generalize b % 2147483648 = r at *
    have h' : ((r : Int) == 0) = false := by simp; omega
    go_enter Tryz.func62, Tryz.ntmps62
    go_wp2_with fail
    refine (hA.out _).mono ?_
    rintro e w1 ⟨rfl, rfl⟩
    go_wp2_with fail
    go_ret
    exact ⟨rfl, rfl⟩
end Go.Proofs.YtmkploknoohliaaGreat
