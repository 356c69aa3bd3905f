/- Fma, finite, Widen, Narrow of NaNs. -/
import Derived.Test.YtmkploknoohliaaFP
import Derived.Test.YtmkploknoohliaaFK
namespace Go.Proofs.Ytmkploknoohliaa
open Go.RowKit
open Flt
set_option linter.unusedVariables false
set_option linter.unusedSimpArgs false

theorem finite_any (b : Nat) (w : World) (hb : b < 18446744073709551616) : Calls Try.prog 5 #[.int .u64 b] w fun e w' => e = .returned (.bool (decide (b % 9223372036854775808 < 9218868437227405312))) ∧ w' = w := by
  have hx := b64_abs b hb
  obtain ⟨r, hr, hrl⟩ : ∃ r, b % 9223372036854775808 = r ∧ r < 9223372036854775808 := ⟨_, rfl, Nat.mod_lt _ (by omega)⟩
  rw [hr] at hx ⊢
  clear hr
  go_enter Try.func5, Try.ntmps5
  go_wp2_with (simp only [hx])
  go_ret
  refine ⟨?_, rfl⟩
  show Ending.returned (.bool (decide ((r : Int) < (9218868437227405312 : Int)))) = _
  rw [show decide ((r : Int) < (9218868437227405312 : Int)) = decide (r < 9218868437227405312) by rw [decide_eq_decide]; omega]

theorem cut_nan (x y t : Nat) : IsNan64 (Question.cut (.nanBits .f64 x y) t) := by
  show 9218868437227405312 < (t % 2 * 2 ^ 63 + 0x7ff0000000000000 + 1 + t / 2 % (2 ^ 52 - 1)) % 9223372036854775808 ∧ (t % 2 * 2 ^ 63 + 0x7ff0000000000000 + 1 + t / 2 % (2 ^ 52 - 1)) < 18446744073709551616
  have h1 : t / 2 % (2 ^ 52 - 1) < 2 ^ 52 - 1 := Nat.mod_lt _ (by omega)
  have h2 : t % 2 < 2 := Nat.mod_lt _ (by omega)
  generalize t / 2 % (2 ^ 52 - 1) = a at *
  generalize t % 2 = b at *
  omega

theorem fma_num {a b c r : Nat} (h : Ieee.double.fma a b c = some r) : r % 9223372036854775808 ≤ 9218868437227405312 ∧ r < 18446744073709551616 := by
  unfold Ieee.Format.fma at h
  refine map_num h ?_
  intro d hd
  cases hp : (Ieee.double.read a).product (Ieee.double.read b) with
  | none => rw [hp] at hd; cases hd
  | some p => rw [hp] at hd; exact sum_num hd
def fmaOf (o : Option Nat) (a b c : Nat) : Sem Value :=
  match o with
  | some r => pure (.float .f64 r)
  | none => do
    let (x, y) := if Extern.MathFMA.isNaN a then (a, b) else if Extern.MathFMA.isNaN b then (b, c) else (c, c)
    pure (.float .f64 (← choose (.nanBits .f64 x y)))
theorem fma_is (a b c : Nat) : Extern.MathFMA.fma #[.float .f64 a, .float .f64 b, .float .f64 c] = fmaOf (Ieee.double.fma a b c) a b c := rfl
theorem run_fma_some (a b c r : Nat) (w : World) (h : Ieee.double.fma a b c = some r) : (callFunc 22 #[.float .f64 a, .float .f64 b, .float .f64 c]).run Try.prog w = .ok (.value (.float .f64 r)) w := by
  rw [run_callFunc_extern Try.func22 (by kernel_rfl) (by kernel_rfl) (by kernel_rfl) (e := Extern.MathFMA.fma) (by kernel_rfl), fma_is, h]
  simp [fmaOf, Result.andThen]
theorem run_fma_none (a b c : Nat) (w : World) (h : Ieee.double.fma a b c = none) : ∃ nb, IsNan64 nb ∧ (callFunc 22 #[.float .f64 a, .float .f64 b, .float .f64 c]).run Try.prog w = .ok (.value (.float .f64 nb)) w.drew := by
  obtain ⟨x, y, hxy⟩ : ∃ x y : Nat, (if Extern.MathFMA.isNaN a then (a, b) else if Extern.MathFMA.isNaN b then (b, c) else (c, c)) = (x, y) := ⟨_, _, rfl⟩
  refine ⟨Question.cut (.nanBits .f64 x y) (w.tape w.drawn (.nanBits .f64 x y)), cut_nan _ _ _, ?_⟩
  rw [run_callFunc_extern Try.func22 (by kernel_rfl) (by kernel_rfl) (by kernel_rfl) (e := Extern.MathFMA.fma) (by kernel_rfl), fma_is, h]
  simp [fmaOf, hxy, Result.andThen, Question.forced]

set_option maxRecDepth 100000 in
theorem Fma_any (a b c : Nat) (w : World) : Calls Try.prog 11 #[.int .u64 a, .int .u64 b, .int .u64 c] w fun e w' => e = .returned (.int .u64 (told64 (Ieee.double.fma a b c) : Nat)) ∧ Below w.heap.size w w' := by
  cases ho : Ieee.double.fma a b c with
  | none =>
    obtain ⟨nb, hnb, hadd⟩ := run_fma_none a b c w ho
    go_enter Try.func11, Try.ntmps11
    go_wp2_with fail
    refine (value64_any a _).mono ?_
    rintro e w1 ⟨rfl, rfl⟩
    go_wp2_with fail
    refine (value64_any b _).mono ?_
    rintro e w2 ⟨rfl, rfl⟩
    go_wp2_with fail
    refine (value64_any c _).mono ?_
    rintro e w2 ⟨rfl, rfl⟩
    go_wp2_with (simp only [hadd])
    refine (pattern64_any nb _ hnb.2).mono ?_
    rintro e w3 ⟨rfl, hb3⟩
    rw [pat64_nan nb hnb.1]
    go_wp2_with fail
    go_ret
    exact ⟨rfl, (Below.refl _ _).drew.trans hb3⟩
  | some r =>
    obtain ⟨hr1, hr2⟩ := fma_num ho
    have hadd := fun w : World => run_fma_some a b c r w ho
    go_enter Try.func11, Try.ntmps11
    go_wp2_with fail
    refine (value64_any a _).mono ?_
    rintro e w1 ⟨rfl, rfl⟩
    go_wp2_with fail
    refine (value64_any b _).mono ?_
    rintro e w2 ⟨rfl, rfl⟩
    go_wp2_with fail
    refine (value64_any c _).mono ?_
    rintro e w2 ⟨rfl, rfl⟩
    go_wp2_with (simp only [hadd])
    refine (pattern64_any r _ hr2).mono ?_
    rintro e w3 ⟨rfl, hb3⟩
    rw [pat64_num r hr1]
    go_wp2_with fail
    go_ret
    exact ⟨rfl, hb3⟩

theorem frombits32 (b : Nat) (w : World) : (callFunc 37 #[.int .u32 b]).run Try.prog w = .ok (.value (.float .f32 b)) w := by
  rw [run_callFunc_extern Try.func37 (by kernel_rfl) (by kernel_rfl) (by kernel_rfl) (e := Extern.MathFloatBits.float32frombits) (by kernel_rfl)]
  rfl

theorem word64 (s : Bool) (R : Nat) (h : R < 9223372036854775808) : Ieee.double.word s R < 18446744073709551616 ∧ Ieee.double.word s R % 9223372036854775808 = R ∧ Ieee.double.word s R / 9223372036854775808 = s.toNat := by
  cases s
  · show R < _ ∧ R % _ = R ∧ R / _ = 0
    omega
  · show 9223372036854775808 + R < _ ∧ (9223372036854775808 + R) % _ = R ∧ (9223372036854775808 + R) / _ = 1
    omega
theorem sg32 (f : Nat) (hf : f < 4294967296) : (sg Ieee.single f).toNat = f / 2147483648 := by
  show (f / 2147483648 % 2 == 1).toNat = _
  have h : f / 2147483648 = 0 ∨ f / 2147483648 = 1 := by omega
  rcases h with h | h <;> rw [h] <;> rfl

/-- A binary32's number as a binary64, and back. -/
theorem f2f_wide (f : Nat) (hf : f < 4294967296) (h : f % 2147483648 ≤ 2139095040) : ∃ x, floatToFloatBits .f32 f .f64 = some x ∧ x < 18446744073709551616 ∧ x % 9223372036854775808 ≤ 9218868437227405312 ∧ floatToFloatBits .f64 x .f32 = some f ∧
    x / 9223372036854775808 = f / 2147483648 ∧ (x % 9223372036854775808 = 9218868437227405312 ↔ f % 2147483648 = 2139095040) ∧ (f % 2147483648 < 2139095040 → V Ieee.double (x % 9223372036854775808) = V Ieee.single (f % 2147483648) * 2 ^ gapE) := by
  have hws := word_self Ieee.single f (show f < 4294967296 from hf)
  have hu : ∀ (s d : FloatKind) (b : Nat), s ≠ d → floatToFloatBits s b d = match s.decode b with
      | .nan _ _ => none
      | .infinity s => some (d.encode (.infinity s))
      | .number s m e => if (d.decode (d.encode (.number s m e))).isInfinity then none else some (d.encode (.number s m e)) := by
    intro s d b hne
    unfold floatToFloatBits
    rw [if_neg hne]
    cases s.decode b <;> rfl
  rcases Nat.lt_or_ge (f % 2147483648) 2139095040 with h1 | h1
  · have hr : rg Ieee.single f < Ieee.single.infRung := by rw [rg32, inf32]; exact h1
    obtain ⟨R, m', k', ⟨hR, hV⟩, ⟨m, k, e1, e2⟩, e3, e4⟩ := widened f hr
    rw [inf64] at hR
    obtain ⟨w1, w2, w3⟩ := word64 (sg Ieee.single f) R (by omega)
    refine ⟨Ieee.double.word (sg Ieee.single f) R, ?_, w1, by omega, ?_, by rw [w3, sg32 f hf], by rw [w2]; omega, fun _ => by rw [w2]; exact hV⟩
    · rw [hu _ _ _ (by decide), show FloatKind.f32.decode f = _ from e1]
      show (if (Ieee.double.read (Ieee.double.nearest _ _ _)).isInfinity = true then none else some (Ieee.double.nearest _ _ _)) = _
      rw [e2, e3]
      rfl
    · rw [hu _ _ _ (by decide), show FloatKind.f64.decode _ = _ from e3]
      show (if (Ieee.single.read (Ieee.single.nearest _ _ _)).isInfinity = true then none else some (Ieee.single.nearest _ _ _)) = _
      rw [e4, hws, e1]
      rfl
  · have h2 : f % 2147483648 = 2139095040 := by omega
    have e1 : Ieee.single.read f = .infinity (sg Ieee.single f) := read_inf _ _ (by decide) (by rw [rg32, inf32]; exact h2)
    obtain ⟨w1, w2, w3⟩ := word64 (sg Ieee.single f) 9218868437227405312 (by omega)
    have e2 : Ieee.double.read (Ieee.double.word (sg Ieee.single f) 9218868437227405312) = .infinity (sg Ieee.single f) := by
      rw [read_inf _ _ (by decide) (by rw [rg64, inf64]; exact w2)]
      rw [sg_word _ _ _ (show 9218868437227405312 < 9223372036854775808 by omega)]
    refine ⟨Ieee.double.word (sg Ieee.single f) 9218868437227405312, ?_, w1, by omega, ?_, by rw [w3, sg32 f hf], by rw [w2]; omega, fun h => by omega⟩
    · rw [hu _ _ _ (by decide), show FloatKind.f32.decode f = _ from e1]
      show some (Ieee.double.word _ Ieee.double.infRung) = _
      rw [inf64]
    · rw [hu _ _ _ (by decide), show FloatKind.f64.decode _ = _ from e2]
      show some (Ieee.single.word _ Ieee.single.infRung) = _
      rw [rg32, h2] at hws
      rw [inf32, hws]

theorem nar_wide (f x : Nat) (hf : f < 4294967296) (h : f % 2147483648 ≤ 2139095040) (e : x / 9223372036854775808 = f / 2147483648) (hi : x % 9223372036854775808 = 9218868437227405312 ↔ f % 2147483648 = 2139095040)
    (hv : f % 2147483648 < 2139095040 → V Ieee.double (x % 9223372036854775808) = V Ieee.single (f % 2147483648) * 2 ^ gapE) : nar32 x = f := by
  unfold nar32
  rw [e]
  rcases Nat.lt_or_ge (f % 2147483648) 2139095040 with h1 | h1
  · have h2 := rnd_scale Ieee.single (V Ieee.single (f % 2147483648)) 1 (2 ^ gapE) (Nat.two_pow_pos _)
    rw [Nat.one_mul, rnd_V] at h2
    rw [hv h1, h2]
    omega
  · have h2 := rnd32_mono (show 5183643170835005440 ≤ x % 9223372036854775808 by rw [hi.2 (by omega)]; omega)
    rw [rnd_beyond] at h2
    rw [Nat.min_eq_right h2]
    omega

end Go.Proofs.Ytmkploknoohliaa
