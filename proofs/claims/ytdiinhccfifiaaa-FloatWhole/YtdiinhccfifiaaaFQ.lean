/- Fma, finite, Widen, Narrow of NaNs. -/
import Derived.Test.YtdiinhccfifiaaaFP
import Derived.Test.YtdiinhccfifiaaaFK
namespace Go.Proofs.Ytdiinhccfifiaaa
open Go.RowKit
open Flt
set_option linter.unusedVariables false
set_option linter.unusedSimpArgs false


theorem cut_nan (x y t : Nat) : IsNan64 (Question.cut (.nanBits .f64 x y) t) := by
  show 9218868437227405312 < (t % 2 * 2 ^ 63 + 0x7ff0000000000000 + 1 + t / 2 % (2 ^ 52 - 1)) % 9223372036854775808 ∧ (t % 2 * 2 ^ 63 + 0x7ff0000000000000 + 1 + t / 2 % (2 ^ 52 - 1)) < 18446744073709551616
  have h1 : t / 2 % (2 ^ 52 - 1) < 2 ^ 52 - 1 := Nat.mod_lt _ (by omega)
  have h2 : t % 2 < 2 := Nat.mod_lt _ (by omega)
  generalize t / 2 % (2 ^ 52 - 1) = a at *
  generalize t % 2 = b at *
  omega

theorem fma_num {a b c r : Nat} (h : Ieee.double.fma a b c = some r) : r % 9223372036854775808 ≤ 9218868437227405312 ∧ r < 18446744073709551616 := by
  unfold Ieee.Format.fma at h
  refine map_num h ?_
  intro d hd
  cases hp : (Ieee.double.read a).product (Ieee.double.read b) with
  | none => rw [hp] at hd; cases hd
  | some p => rw [hp] at hd; exact sum_num hd
def fmaOf (o : Option Nat) (a b c : Nat) : Sem Value :=
  match o with
  | some r => pure (.float .f64 r)
  | none => do
    let (x, y) := if Extern.MathFMA.isNaN a then (a, b) else if Extern.MathFMA.isNaN b then (b, c) else (c, c)
    pure (.float .f64 (← choose (.nanBits .f64 x y)))
theorem fma_is (a b c : Nat) : Extern.MathFMA.fma #[.float .f64 a, .float .f64 b, .float .f64 c] = fmaOf (Ieee.double.fma a b c) a b c := rfl
theorem run_fma_some (a b c r : Nat) (w : World) (h : Ieee.double.fma a b c = some r) : (callFunc 94 #[.float .f64 a, .float .f64 b, .float .f64 c]).run Try.prog w = .ok (.value (.float .f64 r)) w := by
  rw [run_callFunc_extern Try.func94 (by kernel_rfl) (by kernel_rfl) (by kernel_rfl) (e := Extern.MathFMA.fma) (by kernel_rfl), fma_is, h]
  simp [fmaOf, Result.andThen]
theorem run_fma_none (a b c : Nat) (w : World) (h : Ieee.double.fma a b c = none) : ∃ nb, IsNan64 nb ∧ (callFunc 94 #[.float .f64 a, .float .f64 b, .float .f64 c]).run Try.prog w = .ok (.value (.float .f64 nb)) w.drew := by
  obtain ⟨x, y, hxy⟩ : ∃ x y : Nat, (if Extern.MathFMA.isNaN a then (a, b) else if Extern.MathFMA.isNaN b then (b, c) else (c, c)) = (x, y) := ⟨_, _, rfl⟩
  refine ⟨Question.cut (.nanBits .f64 x y) (w.tape w.drawn (.nanBits .f64 x y)), cut_nan _ _ _, ?_⟩
  rw [run_callFunc_extern Try.func94 (by kernel_rfl) (by kernel_rfl) (by kernel_rfl) (e := Extern.MathFMA.fma) (by kernel_rfl), fma_is, h]
  simp [fmaOf, hxy, Result.andThen, Question.forced]

set_option maxRecDepth 100000 in
theorem Fma_any (a b c : Nat) (w : World) : Calls Try.prog 55 #[.int .u64 a, .int .u64 b, .int .u64 c] w fun e w' => e = .returned (.int .u64 (told64 (Ieee.double.fma a b c) : Nat)) ∧ Below w.heap.size w w' := by
  cases ho : Ieee.double.fma a b c with
  | none =>
    obtain ⟨nb, hnb, hadd⟩ := run_fma_none a b c w ho
    go_enter Try.func55, Try.ntmps55
    go_wp2_with fail
    refine (value64_any a _).mono ?_
    rintro e w1 ⟨rfl, rfl⟩
    go_wp2_with fail
    refine (value64_any b _).mono ?_
    rintro e w2 ⟨rfl, rfl⟩
    go_wp2_with fail
    refine (value64_any c _).mono ?_
    rintro e w2 ⟨rfl, rfl⟩
    go_wp2_with (simp only [hadd])
    refine (pattern64_any nb _ hnb.2).mono ?_
    rintro e w3 ⟨rfl, hb3⟩
    rw [pat64_nan nb hnb.1]
    go_wp2_with fail
    go_ret
    exact ⟨rfl, (Below.refl _ _).drew.trans hb3⟩
  | some r =>
    obtain ⟨hr1, hr2⟩ := fma_num ho
    have hadd := fun w : World => run_fma_some a b c r w ho
    go_enter Try.func55, Try.ntmps55
    go_wp2_with fail
    refine (value64_any a _).mono ?_
    rintro e w1 ⟨rfl, rfl⟩
    go_wp2_with fail
    refine (value64_any b _).mono ?_
    rintro e w2 ⟨rfl, rfl⟩
    go_wp2_with fail
    refine (value64_any c _).mono ?_
    rintro e w2 ⟨rfl, rfl⟩
    go_wp2_with (simp only [hadd])
    refine (pattern64_any r _ hr2).mono ?_
    rintro e w3 ⟨rfl, hb3⟩
    rw [pat64_num r hr1]
    go_wp2_with fail
    go_ret
    exact ⟨rfl, hb3⟩

theorem frombits32 (b : Nat) (w : World) : (callFunc 98 #[.int .u32 b]).run Try.prog w = .ok (.value (.float .f32 b)) w := by
  rw [run_callFunc_extern Try.func98 (by kernel_rfl) (by kernel_rfl) (by kernel_rfl) (e := Extern.MathFloatBits.float32frombits) (by kernel_rfl)]
  rfl

set_option maxRecDepth 100000 in
theorem value32_num (b x : Nat) (w : World) (h : floatToFloatBits .f32 b .f64 = some x) : Calls Try.prog 72 #[.int .u32 b] w fun e w' => e = .returned (.float .f64 x) ∧ w' = w := by
  have hf := frombits32 b
  have hcv := fun w : World => run_convert_float_float (P := Try.prog) w 94 81 .f32 .f64 b x (by kernel_rfl) (by kernel_rfl) h
  go_enter Try.func72, Try.ntmps72
  go_wp2_with fail
  refine (wide32_any _).mono ?_
  rintro e w1 ⟨rfl, rfl⟩
  go_wp2_with (simp only [hf, hcv])
  go_ret
  exact ⟨rfl, rfl⟩

theorem word64 (s : Bool) (R : Nat) (h : R < 9223372036854775808) : Ieee.double.word s R < 18446744073709551616 ∧ Ieee.double.word s R % 9223372036854775808 = R ∧ Ieee.double.word s R / 9223372036854775808 = s.toNat := by
  cases s
  · show R < _ ∧ R % _ = R ∧ R / _ = 0
    omega
  · show 9223372036854775808 + R < _ ∧ (9223372036854775808 + R) % _ = R ∧ (9223372036854775808 + R) / _ = 1
    omega
theorem sg32 (f : Nat) (hf : f < 4294967296) : (sg Ieee.single f).toNat = f / 2147483648 := by
  show (f / 2147483648 % 2 == 1).toNat = _
  have h : f / 2147483648 = 0 ∨ f / 2147483648 = 1 := by omega
  rcases h with h | h <;> rw [h] <;> rfl

/-- A binary32's number as a binary64, and back. -/
theorem f2f_wide (f : Nat) (hf : f < 4294967296) (h : f % 2147483648 ≤ 2139095040) : ∃ x, floatToFloatBits .f32 f .f64 = some x ∧ x < 18446744073709551616 ∧ x % 9223372036854775808 ≤ 9218868437227405312 ∧ floatToFloatBits .f64 x .f32 = some f ∧
    x / 9223372036854775808 = f / 2147483648 ∧ (x % 9223372036854775808 = 9218868437227405312 ↔ f % 2147483648 = 2139095040) ∧ (f % 2147483648 < 2139095040 → V Ieee.double (x % 9223372036854775808) = V Ieee.single (f % 2147483648) * 2 ^ gapE) := by
  have hws := word_self Ieee.single f (show f < 4294967296 from hf)
  have hu : ∀ (s d : FloatKind) (b : Nat), s ≠ d → floatToFloatBits s b d = match s.decode b with
      | .nan _ _ => none
      | .infinity s => some (d.encode (.infinity s))
      | .number s m e => if (d.decode (d.encode (.number s m e))).isInfinity then none else some (d.encode (.number s m e)) := by
    intro s d b hne
    unfold floatToFloatBits
    rw [if_neg hne]
    cases s.decode b <;> rfl
  rcases Nat.lt_or_ge (f % 2147483648) 2139095040 with h1 | h1
  · have hr : rg Ieee.single f < Ieee.single.infRung := by rw [rg32, inf32]; exact h1
    obtain ⟨R, m', k', ⟨hR, hV⟩, ⟨m, k, e1, e2⟩, e3, e4⟩ := widened f hr
    rw [inf64] at hR
    obtain ⟨w1, w2, w3⟩ := word64 (sg Ieee.single f) R (by omega)
    refine ⟨Ieee.double.word (sg Ieee.single f) R, ?_, w1, by omega, ?_, by rw [w3, sg32 f hf], by rw [w2]; omega, fun _ => by rw [w2]; exact hV⟩
    · rw [hu _ _ _ (by decide), show FloatKind.f32.decode f = _ from e1]
      show (if (Ieee.double.read (Ieee.double.nearest _ _ _)).isInfinity = true then none else some (Ieee.double.nearest _ _ _)) = _
      rw [e2, e3]
      rfl
    · rw [hu _ _ _ (by decide), show FloatKind.f64.decode _ = _ from e3]
      show (if (Ieee.single.read (Ieee.single.nearest _ _ _)).isInfinity = true then none else some (Ieee.single.nearest _ _ _)) = _
      rw [e4, hws, e1]
      rfl
  · have h2 : f % 2147483648 = 2139095040 := by omega
    have e1 : Ieee.single.read f = .infinity (sg Ieee.single f) := read_inf _ _ (by decide) (by rw [rg32, inf32]; exact h2)
    obtain ⟨w1, w2, w3⟩ := word64 (sg Ieee.single f) 9218868437227405312 (by omega)
    have e2 : Ieee.double.read (Ieee.double.word (sg Ieee.single f) 9218868437227405312) = .infinity (sg Ieee.single f) := by
      rw [read_inf _ _ (by decide) (by rw [rg64, inf64]; exact w2)]
      rw [sg_word _ _ _ (show 9218868437227405312 < 9223372036854775808 by omega)]
    refine ⟨Ieee.double.word (sg Ieee.single f) 9218868437227405312, ?_, w1, by omega, ?_, by rw [w3, sg32 f hf], by rw [w2]; omega, fun h => by omega⟩
    · rw [hu _ _ _ (by decide), show FloatKind.f32.decode f = _ from e1]
      show some (Ieee.double.word _ Ieee.double.infRung) = _
      rw [inf64]
    · rw [hu _ _ _ (by decide), show FloatKind.f64.decode _ = _ from e2]
      show some (Ieee.single.word _ Ieee.single.infRung) = _
      rw [rg32, h2] at hws
      rw [inf32, hws]

theorem nar_wide (f x : Nat) (hf : f < 4294967296) (h : f % 2147483648 ≤ 2139095040) (e : x / 9223372036854775808 = f / 2147483648) (hi : x % 9223372036854775808 = 9218868437227405312 ↔ f % 2147483648 = 2139095040)
    (hv : f % 2147483648 < 2139095040 → V Ieee.double (x % 9223372036854775808) = V Ieee.single (f % 2147483648) * 2 ^ gapE) : nar32 x = f := by
  unfold nar32
  rw [e]
  rcases Nat.lt_or_ge (f % 2147483648) 2139095040 with h1 | h1
  · have h2 := rnd_scale Ieee.single (V Ieee.single (f % 2147483648)) 1 (2 ^ gapE) (Nat.two_pow_pos _)
    rw [Nat.one_mul, rnd_V] at h2
    rw [hv h1, h2]
    omega
  · have h2 := rnd32_mono (show 5183643170835005440 ≤ x % 9223372036854775808 by rw [hi.2 (by omega)]; omega)
    rw [rnd_beyond] at h2
    rw [Nat.min_eq_right h2]
    omega

/-- What Widen tells of a NaN, and Narrow. -/
def widNan (f : Nat) : Nat := f / 2147483648 * 9223372036854775808 + 9218868437227405312 + f % 8388608 * 536870912
def narNan (b : Nat) : Nat := b / 9223372036854775808 * 2147483648 + 2143289344 + b / 536870912 % 4194304

theorem and_top32 (f : Nat) (hf : f < 4294967296) : bits BinOp.and IntKind.u32 (f : Int) 2147483648 = ((f / 2147483648 * 2147483648 : Nat) : Int) := by
  by_cases h : f < 2147483648
  · rw [b32_and_lo f h]; have : f / 2147483648 = 0 := by omega
    rw [this]; rfl
  · rw [b32_and_hi f (by omega) hf]; have : f / 2147483648 = 1 := by omega
    rw [this]; rfl
theorem and_low32 (f n : Nat) (hf : f < 4294967296) (hn : n < 32) : bits BinOp.and IntKind.u32 (f : Int) ((2 ^ n - 1 : Nat) : Int) = ((f % 2 ^ n : Nat) : Int) := by
  have h2 : 2 ^ n ≤ 2 ^ 32 := Nat.pow_le_pow_right (by omega) (by omega)
  have := u32_and_nat f (2 ^ n - 1) hf (by omega)
  rw [Nat.and_two_pow_sub_one_eq_mod] at this; exact this
theorem or_split64 (q y n : Nat) (hy : y < 2 ^ n) (h : 2 ^ n * q + y < 18446744073709551616) : bits BinOp.or IntKind.u64 ((2 ^ n * q : Nat) : Int) (y : Int) = ((2 ^ n * q + y : Nat) : Int) := by
  rw [u64_or_nat _ _ (by omega) (by omega), ← Nat.two_pow_add_eq_or_of_lt hy]
theorem or_split32 (q y n : Nat) (hy : y < 2 ^ n) (h : 2 ^ n * q + y < 4294967296) : bits BinOp.or IntKind.u32 ((2 ^ n * q : Nat) : Int) (y : Int) = ((2 ^ n * q + y : Nat) : Int) := by
  rw [u32_or_nat _ _ (by omega) (by omega), ← Nat.two_pow_add_eq_or_of_lt hy]

theorem wid_expr (f : Nat) (hf : f < 4294967296) : bits BinOp.or IntKind.u64 (bits BinOp.or IntKind.u64 (IntKind.u64.wrap (IntKind.u64.wrap (bits BinOp.and IntKind.u32 (f : Int) 2147483648) * 4294967296)) 9218868437227405312)
      (IntKind.u64.wrap (IntKind.u64.wrap (bits BinOp.and IntKind.u32 (f : Int) 8388607) * 536870912)) = ((widNan f : Nat) : Int) := by
  rw [and_top32 f hf, show bits BinOp.and IntKind.u32 (f : Int) 8388607 = ((f % 8388608 : Nat) : Int) from and_low32 f 23 hf (by omega)]
  unfold widNan
  have hq : f / 2147483648 < 2 := by omega
  have hy : f % 8388608 < 8388608 := by omega
  generalize f / 2147483648 = q at *
  generalize f % 8388608 = y at *
  simp only [IntKind.wrap_u64]
  rw [show ((q * 2147483648 : Nat) : Int) % 18446744073709551616 * 4294967296 % 18446744073709551616 = ((q * 9223372036854775808 : Nat) : Int) by omega, show ((y : Nat) : Int) % 18446744073709551616 * 536870912 % 18446744073709551616 = ((y * 536870912 : Nat) : Int) by omega]
  have e1 : bits BinOp.or IntKind.u64 ((q * 9223372036854775808 : Nat) : Int) 9218868437227405312 = ((2 ^ 52 * (q * 2048 + 2047) : Nat) : Int) := by
    have h : q = 0 ∨ q = 1 := by omega
    rcases h with rfl | rfl <;> decide +kernel
  rw [e1, or_split64 _ _ _ (by omega) (by omega)]
  omega

set_option maxRecDepth 100000 in
theorem Widen_nan (f : Nat) (w : World) (hf : f < 4294967296) (h : 2139095040 < f % 2147483648) : Calls Try.prog 32 #[.int .u32 f] w fun e w' => e = .returned (.int .u64 (widNan f : Nat)) ∧ Below w.heap.size w w' := by
  go_enter Try.func32, Try.ntmps32
  go_wp2_with fail
  refine (layoutOf32_any _).mono ?_
  rintro e w1 ⟨rfl, hb1⟩
  go_wp2_with fail
  refine (isNaN32_any f _ hf).mono ?_
  rintro e w2 ⟨rfl, hb2⟩
  rw [decide_eq_true h]
  have H2 := fhide (hb1.trans (hb2.mono hb1.size))
  clear hb1 hb2
  go_wp2_with fail
  go_ret
  refine ⟨?_, H2.out⟩
  rw [← wid_expr f hf]
  rfl

set_option maxRecDepth 100000 in
theorem Widen_num (f x : Nat) (w : World) (hf : f < 4294967296) (h : ¬ 2139095040 < f % 2147483648) (hx : floatToFloatBits .f32 f .f64 = some x) (hx1 : x < 18446744073709551616) (hx2 : x % 9223372036854775808 ≤ 9218868437227405312) : Calls Try.prog 32 #[.int .u32 f] w fun e w' => e = .returned (.int .u64 x) ∧ Below w.heap.size w w' := by
  go_enter Try.func32, Try.ntmps32
  go_wp2_with fail
  refine (layoutOf32_any _).mono ?_
  rintro e w1 ⟨rfl, hb1⟩
  go_wp2_with fail
  refine (isNaN32_any f _ hf).mono ?_
  rintro e w2 ⟨rfl, hb2⟩
  rw [decide_eq_false h]
  have H2 := fhide (hb1.trans (hb2.mono hb1.size))
  clear hb1 hb2
  go_wp2_with fail
  refine (value32_num f x _ hx).mono ?_
  rintro e w3 ⟨rfl, rfl⟩
  go_wp2_with fail
  refine (pattern64_any x _ hx1).mono ?_
  rintro e w4 ⟨rfl, hb4⟩
  rw [pat64_num x hx2]
  go_wp2_with fail
  go_ret
  exact ⟨rfl, H2.out.trans (hb4.mono H2.out.size)⟩

theorem nar_expr (b : Nat) (hb : b < 18446744073709551616) : bits BinOp.or IntKind.u32 (bits BinOp.or IntKind.u32 (bits BinOp.and IntKind.u32 ((b : Int) / 4294967296) 2147483648) 2143289344)
      (bits BinOp.and IntKind.u32 ((b : Int) / 536870912 % 4294967296) 4194303) = ((narNan b : Nat) : Int) := by
  rw [show (b : Int) / 4294967296 = ((b / 4294967296 : Nat) : Int) by simp, show (b : Int) / 536870912 % 4294967296 = ((b / 536870912 % 4294967296 : Nat) : Int) by simp, and_top32 _ (by omega),
    show bits BinOp.and IntKind.u32 ((b / 536870912 % 4294967296 : Nat) : Int) 4194303 = ((b / 536870912 % 4294967296 % 4194304 : Nat) : Int) from and_low32 _ 22 (by omega) (by omega)]
  unfold narNan
  have e0 : b / 4294967296 / 2147483648 = b / 9223372036854775808 := by omega
  have e1 : b / 536870912 % 4294967296 % 4194304 = b / 536870912 % 4194304 := by omega
  rw [e0, e1]
  have hq : b / 9223372036854775808 < 2 := by omega
  have hy : b / 536870912 % 4194304 < 4194304 := by omega
  generalize b / 9223372036854775808 = q at *
  generalize b / 536870912 % 4194304 = y at *
  have e2 : bits BinOp.or IntKind.u32 ((q * 2147483648 : Nat) : Int) 2143289344 = ((2 ^ 22 * (q * 512 + 511) : Nat) : Int) := by
    have h : q = 0 ∨ q = 1 := by omega
    rcases h with rfl | rfl <;> decide +kernel
  rw [e2, or_split32 _ _ _ (by omega) (by omega)]
  omega

set_option maxRecDepth 100000 in
theorem Narrow_nan (b : Nat) (w : World) (hb : b < 18446744073709551616) (hx : 9218868437227405312 < b % 9223372036854775808) : Calls Try.prog 30 #[.int .u64 b] w fun e w' => e = .returned (.int .u32 (narNan b : Nat)) ∧ Below w.heap.size w w' := by
  go_enter Try.func30, Try.ntmps30
  go_wp2_with fail
  refine (layoutOf64_any _).mono ?_
  rintro e w1 ⟨rfl, hb1⟩
  go_wp2_with fail
  refine (isNaN64_any b _ hb).mono ?_
  rintro e w2 ⟨rfl, hb2⟩
  rw [decide_eq_true hx]
  have H2 := fhide (hb1.trans (hb2.mono hb1.size))
  clear hb1 hb2
  go_wp2_with fail
  go_ret
  refine ⟨?_, H2.out⟩
  rw [← nar_expr b hb]
  rfl

theorem widNan_nan (f : Nat) (hf : f < 4294967296) (h : 2139095040 < f % 2147483648) : widNan f < 18446744073709551616 ∧ 9218868437227405312 < widNan f % 9223372036854775808 := by
  unfold widNan; omega
theorem nar_wid (f : Nat) (hf : f < 4294967296) (h : 2143289344 ≤ f % 2147483648) : narNan (widNan f) = f := by
  unfold narNan widNan; omega
end Go.Proofs.Ytdiinhccfifiaaa
