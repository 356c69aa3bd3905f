/- Fma, finite, Widen, Narrow of NaNs. -/
import Derived.Test.YtdiinhccfifiaacFP
import Derived.Test.YtdiinhccfifiaacFK
namespace Go.Proofs.Ytdiinhccfifiaac
open Go.RowKit
open Flt
set_option linter.unusedVariables false
set_option linter.unusedSimpArgs false

theorem finite_any (b : Nat) (w : World) (hb : b < 18446744073709551616) : Calls Try.prog 6 #[.int .u64 b] w fun e w' => e = .returned (.bool (decide (b % 9223372036854775808 < 9218868437227405312))) ∧ w' = w := by
  have hx := b64_abs b hb
  obtain ⟨r, hr, hrl⟩ : ∃ r, b % 9223372036854775808 = r ∧ r < 9223372036854775808 := ⟨_, rfl, Nat.mod_lt _ (by omega)⟩
  rw [hr] at hx ⊢
  clear hr
  go_enter Try.func6, Try.ntmps6
  go_wp2_with (simp only [hx])
  go_ret
  refine ⟨?_, rfl⟩
  show Ending.returned (.bool (decide ((r : Int) < (9218868437227405312 : Int)))) = _
  rw [show decide ((r : Int) < (9218868437227405312 : Int)) = decide (r < 9218868437227405312) by rw [decide_eq_decide]; omega]

theorem cut_nan (x y t : Nat) : IsNan64 (Question.cut (.nanBits .f64 x y) t) := by
  show 9218868437227405312 < (t % 2 * 2 ^ 63 + 0x7ff0000000000000 + 1 + t / 2 % (2 ^ 52 - 1)) % 9223372036854775808 ∧ (t % 2 * 2 ^ 63 + 0x7ff0000000000000 + 1 + t / 2 % (2 ^ 52 - 1)) < 18446744073709551616
  have h1 : t / 2 % (2 ^ 52 - 1) < 2 ^ 52 - 1 := Nat.mod_lt _ (by omega)
  have h2 : t % 2 < 2 := Nat.mod_lt _ (by omega)
  generalize t / 2 % (2 ^ 52 - 1) = a at *
  generalize t % 2 = b at *
  omega

theorem fma_num {a b c r : Nat} (h : Ieee.double.fma a b c = some r) : r % 9223372036854775808 ≤ 9218868437227405312 ∧ r < 18446744073709551616 := by
  unfold Ieee.Format.fma at h
  refine map_num h ?_
  intro d hd
  cases hp : (Ieee.double.read a).product (Ieee.double.read b) with
  | none => rw [hp] at hd; cases hd
  | some p => rw [hp] at hd; exact sum_num hd
def fmaOf (o : Option Nat) (a b c : Nat) : Sem Value :=
  match o with
  | some r => pure (.float .f64 r)
  | none => do
    let (x, y) := if Extern.MathFMA.isNaN a then (a, b) else if Extern.MathFMA.isNaN b then (b, c) else (c, c)
    pure (.float .f64 (← choose (.nanBits .f64 x y)))
theorem fma_is (a b c : Nat) : Extern.MathFMA.fma #[.float .f64 a, .float .f64 b, .float .f64 c] = fmaOf (Ieee.double.fma a b c) a b c := rfl
theorem run_fma_some (a b c r : Nat) (w : World) (h : Ieee.double.fma a b c = some r) : (callFunc 42 #[.float .f64 a, .float .f64 b, .float .f64 c]).run Try.prog w = .ok (.value (.float .f64 r)) w := by
  rw [run_callFunc_extern Try.func42 (by kernel_rfl) (by kernel_rfl) (by kernel_rfl) (e := Extern.MathFMA.fma) (by kernel_rfl), fma_is, h]
  simp [fmaOf, Result.andThen]
theorem run_fma_none (a b c : Nat) (w : World) (h : Ieee.double.fma a b c = none) : ∃ nb, IsNan64 nb ∧ (callFunc 42 #[.float .f64 a, .float .f64 b, .float .f64 c]).run Try.prog w = .ok (.value (.float .f64 nb)) w.drew := by
  obtain ⟨x, y, hxy⟩ : ∃ x y : Nat, (if Extern.MathFMA.isNaN a then (a, b) else if Extern.MathFMA.isNaN b then (b, c) else (c, c)) = (x, y) := ⟨_, _, rfl⟩
  refine ⟨Question.cut (.nanBits .f64 x y) (w.tape w.drawn (.nanBits .f64 x y)), cut_nan _ _ _, ?_⟩
  rw [run_callFunc_extern Try.func42 (by kernel_rfl) (by kernel_rfl) (by kernel_rfl) (e := Extern.MathFMA.fma) (by kernel_rfl), fma_is, h]
  simp [fmaOf, hxy, Result.andThen, Question.forced]

set_option maxRecDepth 100000 in
theorem Fma_any (a b c : Nat) (w : World) : Calls Try.prog 25 #[.int .u64 a, .int .u64 b, .int .u64 c] w fun e w' => e = .returned (.int .u64 (told64 (Ieee.double.fma a b c) : Nat)) ∧ Below w.heap.size w w' := by
  cases ho : Ieee.double.fma a b c with
  | none =>
    obtain ⟨nb, hnb, hadd⟩ := run_fma_none a b c w ho
    go_enter Try.func25, Try.ntmps25
    go_wp2_with fail
    refine (value64_any a _).mono ?_
    rintro e w1 ⟨rfl, rfl⟩
    go_wp2_with fail
    refine (value64_any b _).mono ?_
    rintro e w2 ⟨rfl, rfl⟩
    go_wp2_with fail
    refine (value64_any c _).mono ?_
    rintro e w2 ⟨rfl, rfl⟩
    go_wp2_with (simp only [hadd])
    refine (pattern64_any nb _ hnb.2).mono ?_
    rintro e w3 ⟨rfl, hb3⟩
    rw [pat64_nan nb hnb.1]
    go_wp2_with fail
    go_ret
    exact ⟨rfl, (Below.refl _ _).drew.trans hb3⟩
  | some r =>
    obtain ⟨hr1, hr2⟩ := fma_num ho
    have hadd := fun w : World => run_fma_some a b c r w ho
    go_enter Try.func25, Try.ntmps25
    go_wp2_with fail
    refine (value64_any a _).mono ?_
    rintro e w1 ⟨rfl, rfl⟩
    go_wp2_with fail
    refine (value64_any b _).mono ?_
    rintro e w2 ⟨rfl, rfl⟩
    go_wp2_with fail
    refine (value64_any c _).mono ?_
    rintro e w2 ⟨rfl, rfl⟩
    go_wp2_with (simp only [hadd])
    refine (pattern64_any r _ hr2).mono ?_
    rintro e w3 ⟨rfl, hb3⟩
    rw [pat64_num r hr1]
    go_wp2_with fail
    go_ret
    exact ⟨rfl, hb3⟩

theorem frombits32 (b : Nat) (w : World) : (callFunc 45 #[.int .u32 b]).run Try.prog w = .ok (.value (.float .f32 b)) w := by
  rw [run_callFunc_extern Try.func45 (by kernel_rfl) (by kernel_rfl) (by kernel_rfl) (e := Extern.MathFloatBits.float32frombits) (by kernel_rfl)]
  rfl

end Go.Proofs.Ytdiinhccfifiaac
