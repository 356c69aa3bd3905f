/- IsNaN, pattern, Add and its kin: of 64 bits. -/
import Derived.Test.YtleeahigceppiaaDoorFG
/- value, Cmp: of 64 bits. -/
namespace Go.Proofs.YtleeahigceppiaaDoor
open Go.RowKit
set_option linter.unusedVariables false
set_option linter.unusedSimpArgs false

theorem frombits64 (b : Nat) (w : World) : (callFunc 39 #[.int .u64 b]).run Tryd.prog w = .ok (.value (.float .f64 b)) w := by
  rw [run_callFunc_extern Tryd.func39 (by kernel_rfl) (by kernel_rfl) (by kernel_rfl) (e := Extern.MathFloatBits.float64frombits) (by kernel_rfl)]
  rfl

set_option maxRecDepth 100000 in
theorem value64_any (b : Nat) (w : World) : Calls Tryd.prog 25 #[.int .u64 b] w fun e w' => e = .returned (.float .f64 b) ∧ w' = w := by
  have hf := frombits64 b
  go_enter Tryd.func25, Tryd.ntmps25
  go_wp2_with fail
  refine (wide64_any _).mono ?_
  rintro e w1 ⟨rfl, rfl⟩
  go_wp2_with (simp only [hf])
  go_ret
  exact ⟨rfl, rfl⟩

end Go.Proofs.YtleeahigceppiaaDoor

namespace Go.Proofs.YtleeahigceppiaaDoor
open Go.RowKit
open Flt
set_option linter.unusedVariables false
set_option linter.unusedSimpArgs false

theorem rg64 (x : Nat) : rg Ieee.double x = x % 9223372036854775808 := rfl
theorem inf64 : Ieee.double.infRung = 9218868437227405312 := by decide +kernel
theorem rg32 (x : Nat) : rg Ieee.single x = x % 2147483648 := rfl
theorem inf32 : Ieee.single.infRung = 2139095040 := by decide +kernel

theorem order_self64 (x : Nat) : Ieee.double.order x x = if 9218868437227405312 < x % 9223372036854775808 then none else some .eq := by
  by_cases h : 9218868437227405312 < x % 9223372036854775808
  · rw [if_pos h]; exact order_nan _ (by decide) _ _ (.inl (by rw [rg64, inf64]; exact h))
  · rw [if_neg h, order_all _ (by decide) _ _ (by rw [rg64, inf64]; omega) (by rw [rg64, inf64]; omega), cmp_eq]

theorem IsNaN_any (x : Nat) (w : World) : Calls Tryd.prog 26 #[.float .f64 x] w fun e w' => e = .returned (.bool (decide (9218868437227405312 < x % 9223372036854775808))) ∧ w' = w := by
  have ho : FloatKind.f64.format.order x x = if 9218868437227405312 < x % 9223372036854775808 then none else some .eq := order_self64 x
  by_cases h : 9218868437227405312 < x % 9223372036854775808
  · rw [if_pos h] at ho
    rw [decide_eq_true h]
    go_enter Tryd.func26, Tryd.ntmps26
    go_wp2_with (simp only [ho])
    go_ret
    exact ⟨rfl, rfl⟩
  · rw [if_neg h] at ho
    rw [decide_eq_false h]
    go_enter Tryd.func26, Tryd.ntmps26
    go_wp2_with (simp only [ho])
    go_ret
    exact ⟨rfl, rfl⟩

theorem tobits64 (b : Nat) (w : World) : (callFunc 41 #[.float .f64 b]).run Tryd.prog w = .ok (.value (.int .u64 b)) w := by
  rw [run_callFunc_extern Tryd.func41 (by kernel_rfl) (by kernel_rfl) (by kernel_rfl) (e := Extern.MathFloatBits.float64bits) (by kernel_rfl)]
  rfl

/-- What is told of a float64. -/
def pat64 (x : Nat) : Nat := if 9218868437227405312 < x % 9223372036854775808 then 9221120237041090560 else x
theorem pat64_lt (x : Nat) (hx : x < 18446744073709551616) : pat64 x < 18446744073709551616 := by unfold pat64; split <;> omega
theorem pat64_num (x : Nat) (hx : x % 9223372036854775808 ≤ 9218868437227405312) : pat64 x = x := if_neg (by omega)
theorem pat64_nan (x : Nat) (hx : 9218868437227405312 < x % 9223372036854775808) : pat64 x = 9221120237041090560 := if_pos hx


/-- Some NaN. -/
def IsNan64 (x : Nat) : Prop := 9218868437227405312 < x % 9223372036854775808 ∧ x < 18446744073709551616

theorem run_nan (op : BinOp) (hop : op = .add ∨ op = .sub ∨ op = .mul ∨ op = .quo) (t : TypeId) (x y : Nat) (h : floatBits op .f64 x y = none) (w : World) :
    ∃ nb, IsNan64 nb ∧ (binOp op t (.float .f64 x) (.float .f64 y)).run Tryd.prog w = .ok (.float .f64 nb) w.drew := by
  refine ⟨Question.cut (.nanBits .f64 x y) (w.tape w.drawn (.nanBits .f64 x y)), ?_, ?_⟩
  · generalize w.tape w.drawn (.nanBits .f64 x y) = t
    show 9218868437227405312 < (t % 2 * 2 ^ 63 + 0x7ff0000000000000 + 1 + t / 2 % (2 ^ 52 - 1)) % 9223372036854775808 ∧ (t % 2 * 2 ^ 63 + 0x7ff0000000000000 + 1 + t / 2 % (2 ^ 52 - 1)) < 18446744073709551616
    have h1 : t / 2 % (2 ^ 52 - 1) < 2 ^ 52 - 1 := Nat.mod_lt _ (by omega)
    have h2 : t % 2 < 2 := Nat.mod_lt _ (by omega)
    generalize t / 2 % (2 ^ 52 - 1) = a at *
    generalize t % 2 = b at *
    omega
  · unfold floatBits at h
    rcases hop with rfl | rfl | rfl | rfl <;> simp only at h <;> simp [binOp, Op.floatArith, h, Question.forced]
end Go.Proofs.YtleeahigceppiaaDoor
