/- IsNaN, pattern, Add and its kin: of 64 bits. -/
import Derived.Test.YtmkploknoohliaaGreatFH
namespace Go.Proofs.YtmkploknoohliaaGreat
open Go.RowKit
open Flt
set_option linter.unusedVariables false
set_option linter.unusedSimpArgs false

theorem rg64 (x : Nat) : rg Ieee.double x = x % 9223372036854775808 := rfl
theorem inf64 : Ieee.double.infRung = 9218868437227405312 := by decide +kernel
theorem rg32 (x : Nat) : rg Ieee.single x = x % 2147483648 := rfl
theorem inf32 : Ieee.single.infRung = 2139095040 := by decide +kernel

theorem order_self64 (x : Nat) : Ieee.double.order x x = if 9218868437227405312 < x % 9223372036854775808 then none else some .eq := by
  by_cases h : 9218868437227405312 < x % 9223372036854775808
  · rw [if_pos h]; exact order_nan _ (by decide) _ _ (.inl (by rw [rg64, inf64]; exact h))
  · rw [if_neg h, order_all _ (by decide) _ _ (by rw [rg64, inf64]; omega) (by rw [rg64, inf64]; omega), cmp_eq]

theorem IsNaN_any (x : Nat) (w : World) : Calls Tryz.prog 17 #[.float .f64 x] w fun e w' => e = .returned (.bool (decide (9218868437227405312 < x % 9223372036854775808))) ∧ w' = w := by
  have ho : FloatKind.f64.format.order x x = if 9218868437227405312 < x % 9223372036854775808 then none else some .eq := order_self64 x
  by_cases h : 9218868437227405312 < x % 9223372036854775808
  · rw [if_pos h] at ho
    rw [decide_eq_true h]
    go_enter Tryz.func17, Tryz.ntmps17
    go_wp2_with (simp only [ho])
    go_ret
    exact ⟨rfl, rfl⟩
  · rw [if_neg h] at ho
    rw [decide_eq_false h]
    go_enter Tryz.func17, Tryz.ntmps17
    go_wp2_with (simp only [ho])
    go_ret
    exact ⟨rfl, rfl⟩

theorem tobits64 (b : Nat) (w : World) : (callFunc 48 #[.float .f64 b]).run Tryz.prog w = .ok (.value (.int .u64 b)) w := by
  rw [run_callFunc_extern Tryz.func48 (by kernel_rfl) (by kernel_rfl) (by kernel_rfl) (e := Extern.MathFloatBits.float64bits) (by kernel_rfl)]
  rfl
theorem tobits32 (b : Nat) (w : World) : (callFunc 78 #[.float .f32 b]).run Tryz.prog w = .ok (.value (.int .u32 b)) w := by
  rw [run_callFunc_extern Tryz.func78 (by kernel_rfl) (by kernel_rfl) (by kernel_rfl) (e := Extern.MathFloatBits.float32bits) (by kernel_rfl)]
  rfl

/-- What is told of a float64. -/
def pat64 (x : Nat) : Nat := if 9218868437227405312 < x % 9223372036854775808 then 9221120237041090560 else x
theorem pat64_lt (x : Nat) (hx : x < 18446744073709551616) : pat64 x < 18446744073709551616 := by unfold pat64; split <;> omega
theorem pat64_num (x : Nat) (hx : x % 9223372036854775808 ≤ 9218868437227405312) : pat64 x = x := if_neg (by omega)
theorem pat64_nan (x : Nat) (hx : 9218868437227405312 < x % 9223372036854775808) : pat64 x = 9221120237041090560 := if_pos hx

set_option maxRecDepth 100000 in
theorem pattern64_any (x : Nat) (w : World) (hx : x < 18446744073709551616) : Calls Tryz.prog 10 #[.float .f64 x] w fun e w' => e = .returned (.int .u64 (pat64 x : Nat)) ∧ Below w.heap.size w w' := by
  have ht := tobits64 x
  by_cases h : 9218868437227405312 < x % 9223372036854775808
  · rw [pat64_nan x h]
    go_enter Tryz.func10, Tryz.ntmps10
    go_wp2_with fail
    refine (IsNaN_any x _).mono ?_
    rintro e w1 ⟨rfl, rfl⟩
    rw [decide_eq_true h]
    go_wp2_with fail
    refine (layoutOf64_any _).mono ?_
    rintro e w2 ⟨rfl, hb2⟩
    go_wp2_with fail
    refine (theNaN64_any _).mono ?_
    rintro e w3 ⟨rfl, hb3⟩
    go_wp2_with fail
    go_ret
    exact ⟨rfl, hb2.trans (hb3.mono hb2.size)⟩
  · rw [pat64_num x (by omega)]
    go_enter Tryz.func10, Tryz.ntmps10
    go_wp2_with fail
    refine (IsNaN_any x _).mono ?_
    rintro e w1 ⟨rfl, rfl⟩
    rw [decide_eq_false h]
    go_wp2_with fail
    refine (wide64_any _).mono ?_
    rintro e w2 ⟨rfl, rfl⟩
    go_wp2_with (simp only [ht])
    go_ret
    exact ⟨rfl, Below.refl _ _⟩

/-- Some NaN. -/
def IsNan64 (x : Nat) : Prop := 9218868437227405312 < x % 9223372036854775808 ∧ x < 18446744073709551616

theorem run_nan (op : BinOp) (hop : op = .add ∨ op = .sub ∨ op = .mul ∨ op = .quo) (t : TypeId) (x y : Nat) (h : floatBits op .f64 x y = none) (w : World) :
    ∃ nb, IsNan64 nb ∧ (binOp op t (.float .f64 x) (.float .f64 y)).run Tryz.prog w = .ok (.float .f64 nb) w.drew := by
  refine ⟨Question.cut (.nanBits .f64 x y) (w.tape w.drawn (.nanBits .f64 x y)), ?_, ?_⟩
  · generalize w.tape w.drawn (.nanBits .f64 x y) = t
    show 9218868437227405312 < (t % 2 * 2 ^ 63 + 0x7ff0000000000000 + 1 + t / 2 % (2 ^ 52 - 1)) % 9223372036854775808 ∧ (t % 2 * 2 ^ 63 + 0x7ff0000000000000 + 1 + t / 2 % (2 ^ 52 - 1)) < 18446744073709551616
    have h1 : t / 2 % (2 ^ 52 - 1) < 2 ^ 52 - 1 := Nat.mod_lt _ (by omega)
    have h2 : t % 2 < 2 := Nat.mod_lt _ (by omega)
    generalize t / 2 % (2 ^ 52 - 1) = a at *
    generalize t % 2 = b at *
    omega
  · unfold floatBits at h
    rcases hop with rfl | rfl | rfl | rfl <;> simp only at h <;> simp [binOp, Op.floatArith, h, Question.forced]
end Go.Proofs.YtmkploknoohliaaGreat
