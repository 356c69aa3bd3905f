/- Fma, finite, Widen, Narrow of NaNs. -/
import Derived.Test.YtmkploknoohliaaGreatFP
import Derived.Test.YtmkploknoohliaaGreatFK
namespace Go.Proofs.YtmkploknoohliaaGreat
open Go.RowKit
open Flt
set_option linter.unusedVariables false
set_option linter.unusedSimpArgs false


theorem cut_nan (x y t : Nat) : IsNan64 (Question.cut (.nanBits .f64 x y) t) := by
  show 9218868437227405312 < (t % 2 * 2 ^ 63 + 0x7ff0000000000000 + 1 + t / 2 % (2 ^ 52 - 1)) % 9223372036854775808 ∧ (t % 2 * 2 ^ 63 + 0x7ff0000000000000 + 1 + t / 2 % (2 ^ 52 - 1)) < 18446744073709551616
  have h1 : t / 2 % (2 ^ 52 - 1) < 2 ^ 52 - 1 := Nat.mod_lt _ (by omega)
  have h2 : t % 2 < 2 := Nat.mod_lt _ (by omega)
  generalize t / 2 % (2 ^ 52 - 1) = a at *
  generalize t % 2 = b at *
  omega


theorem frombits32 (b : Nat) (w : World) : (callFunc 45 #[.int .u32 b]).run Tryz.prog w = .ok (.value (.float .f32 b)) w := by
  rw [run_callFunc_extern Tryz.func45 (by kernel_rfl) (by kernel_rfl) (by kernel_rfl) (e := Extern.MathFloatBits.float32frombits) (by kernel_rfl)]
  rfl

set_option maxRecDepth 100000 in
theorem value32_num (b x : Nat) (w : World) (h : floatToFloatBits .f32 b .f64 = some x) : Calls Tryz.prog 14 #[.int .u32 b] w fun e w' => e = .returned (.float .f64 x) ∧ w' = w := by
  have hf := frombits32 b
  have hcv := fun w : World => run_convert_float_float (P := Tryz.prog) w 59 30 .f32 .f64 b x (by kernel_rfl) (by kernel_rfl) h
  go_enter Tryz.func14, Tryz.ntmps14
  go_wp2_with fail
  refine (wide32_any _).mono ?_
  rintro e w1 ⟨rfl, rfl⟩
  go_wp2_with (simp only [hf, hcv])
  go_ret
  exact ⟨rfl, rfl⟩

theorem word64 (s : Bool) (R : Nat) (h : R < 9223372036854775808) : Ieee.double.word s R < 18446744073709551616 ∧ Ieee.double.word s R % 9223372036854775808 = R ∧ Ieee.double.word s R / 9223372036854775808 = s.toNat := by
  cases s
  · show R < _ ∧ R % _ = R ∧ R / _ = 0
    omega
  · show 9223372036854775808 + R < _ ∧ (9223372036854775808 + R) % _ = R ∧ (9223372036854775808 + R) / _ = 1
    omega
theorem sg32 (f : Nat) (hf : f < 4294967296) : (sg Ieee.single f).toNat = f / 2147483648 := by
  show (f / 2147483648 % 2 == 1).toNat = _
  have h : f / 2147483648 = 0 ∨ f / 2147483648 = 1 := by omega
  rcases h with h | h <;> rw [h] <;> rfl

/-- A binary32's number as a binary64, and back. -/
theorem f2f_wide (f : Nat) (hf : f < 4294967296) (h : f % 2147483648 ≤ 2139095040) : ∃ x, floatToFloatBits .f32 f .f64 = some x ∧ x < 18446744073709551616 ∧ x % 9223372036854775808 ≤ 9218868437227405312 ∧ floatToFloatBits .f64 x .f32 = some f ∧
    x / 9223372036854775808 = f / 2147483648 ∧ (x % 9223372036854775808 = 9218868437227405312 ↔ f % 2147483648 = 2139095040) ∧ (f % 2147483648 < 2139095040 → V Ieee.double (x % 9223372036854775808) = V Ieee.single (f % 2147483648) * 2 ^ gapE) := by
  have hws := word_self Ieee.single f (show f < 4294967296 from hf)
  have hu : ∀ (s d : FloatKind) (b : Nat), s ≠ d → floatToFloatBits s b d = match s.decode b with
      | .nan _ _ => none
      | .infinity s => some (d.encode (.infinity s))
      | .number s m e => if (d.decode (d.encode (.number s m e))).isInfinity then none else some (d.encode (.number s m e)) := by
    intro s d b hne
    unfold floatToFloatBits
    rw [if_neg hne]
    cases s.decode b <;> rfl
  rcases Nat.lt_or_ge (f % 2147483648) 2139095040 with h1 | h1
  · have hr : rg Ieee.single f < Ieee.single.infRung := by rw [rg32, inf32]; exact h1
    obtain ⟨R, m', k', ⟨hR, hV⟩, ⟨m, k, e1, e2⟩, e3, e4⟩ := widened f hr
    rw [inf64] at hR
    obtain ⟨w1, w2, w3⟩ := word64 (sg Ieee.single f) R (by omega)
    refine ⟨Ieee.double.word (sg Ieee.single f) R, ?_, w1, by omega, ?_, by rw [w3, sg32 f hf], by rw [w2]; omega, fun _ => by rw [w2]; exact hV⟩
    · rw [hu _ _ _ (by decide), show FloatKind.f32.decode f = _ from e1]
      show (if (Ieee.double.read (Ieee.double.nearest _ _ _)).isInfinity = true then none else some (Ieee.double.nearest _ _ _)) = _
      rw [e2, e3]
      rfl
    · rw [hu _ _ _ (by decide), show FloatKind.f64.decode _ = _ from e3]
      show (if (Ieee.single.read (Ieee.single.nearest _ _ _)).isInfinity = true then none else some (Ieee.single.nearest _ _ _)) = _
      rw [e4, hws, e1]
      rfl
  · have h2 : f % 2147483648 = 2139095040 := by omega
    have e1 : Ieee.single.read f = .infinity (sg Ieee.single f) := read_inf _ _ (by decide) (by rw [rg32, inf32]; exact h2)
    obtain ⟨w1, w2, w3⟩ := word64 (sg Ieee.single f) 9218868437227405312 (by omega)
    have e2 : Ieee.double.read (Ieee.double.word (sg Ieee.single f) 9218868437227405312) = .infinity (sg Ieee.single f) := by
      rw [read_inf _ _ (by decide) (by rw [rg64, inf64]; exact w2)]
      rw [sg_word _ _ _ (show 9218868437227405312 < 9223372036854775808 by omega)]
    refine ⟨Ieee.double.word (sg Ieee.single f) 9218868437227405312, ?_, w1, by omega, ?_, by rw [w3, sg32 f hf], by rw [w2]; omega, fun h => by omega⟩
    · rw [hu _ _ _ (by decide), show FloatKind.f32.decode f = _ from e1]
      show some (Ieee.double.word _ Ieee.double.infRung) = _
      rw [inf64]
    · rw [hu _ _ _ (by decide), show FloatKind.f64.decode _ = _ from e2]
      show some (Ieee.single.word _ Ieee.single.infRung) = _
      rw [rg32, h2] at hws
      rw [inf32, hws]

theorem nar_wide (f x : Nat) (hf : f < 4294967296) (h : f % 2147483648 ≤ 2139095040) (e : x / 9223372036854775808 = f / 2147483648) (hi : x % 9223372036854775808 = 9218868437227405312 ↔ f % 2147483648 = 2139095040)
    (hv : f % 2147483648 < 2139095040 → V Ieee.double (x % 9223372036854775808) = V Ieee.single (f % 2147483648) * 2 ^ gapE) : nar32 x = f := by
  unfold nar32
  rw [e]
  rcases Nat.lt_or_ge (f % 2147483648) 2139095040 with h1 | h1
  · have h2 := rnd_scale Ieee.single (V Ieee.single (f % 2147483648)) 1 (2 ^ gapE) (Nat.two_pow_pos _)
    rw [Nat.one_mul, rnd_V] at h2
    rw [hv h1, h2]
    omega
  · have h2 := rnd32_mono (show 5183643170835005440 ≤ x % 9223372036854775808 by rw [hi.2 (by omega)]; omega)
    rw [rnd_beyond] at h2
    rw [Nat.min_eq_right h2]
    omega

/-- What Widen tells of a NaN, and Narrow. -/
def widNan (f : Nat) : Nat := f / 2147483648 * 9223372036854775808 + 9218868437227405312 + f % 8388608 * 536870912
def narNan (b : Nat) : Nat := b / 9223372036854775808 * 2147483648 + 2143289344 + b / 536870912 % 4194304

theorem and_top32 (f : Nat) (hf : f < 4294967296) : bits BinOp.and IntKind.u32 (f : Int) 2147483648 = ((f / 2147483648 * 2147483648 : Nat) : Int) := by
  by_cases h : f < 2147483648
  · rw [b32_and_lo f h]; have : f / 2147483648 = 0 := by omega
    rw [this]; rfl
  · rw [b32_and_hi f (by omega) hf]; have : f / 2147483648 = 1 := by omega
    rw [this]; rfl
theorem and_low32 (f n : Nat) (hf : f < 4294967296) (hn : n < 32) : bits BinOp.and IntKind.u32 (f : Int) ((2 ^ n - 1 : Nat) : Int) = ((f % 2 ^ n : Nat) : Int) := by
  have h2 : 2 ^ n ≤ 2 ^ 32 := Nat.pow_le_pow_right (by omega) (by omega)
  have := u32_and_nat f (2 ^ n - 1) hf (by omega)
  rw [Nat.and_two_pow_sub_one_eq_mod] at this; exact this
theorem or_split64 (q y n : Nat) (hy : y < 2 ^ n) (h : 2 ^ n * q + y < 18446744073709551616) : bits BinOp.or IntKind.u64 ((2 ^ n * q : Nat) : Int) (y : Int) = ((2 ^ n * q + y : Nat) : Int) := by
  rw [u64_or_nat _ _ (by omega) (by omega), ← Nat.two_pow_add_eq_or_of_lt hy]
theorem or_split32 (q y n : Nat) (hy : y < 2 ^ n) (h : 2 ^ n * q + y < 4294967296) : bits BinOp.or IntKind.u32 ((2 ^ n * q : Nat) : Int) (y : Int) = ((2 ^ n * q + y : Nat) : Int) := by
  rw [u32_or_nat _ _ (by omega) (by omega), ← Nat.two_pow_add_eq_or_of_lt hy]

theorem wid_expr (f : Nat) (hf : f < 4294967296) : bits BinOp.or IntKind.u64 (bits BinOp.or IntKind.u64 (IntKind.u64.wrap (IntKind.u64.wrap (bits BinOp.and IntKind.u32 (f : Int) 2147483648) * 4294967296)) 9218868437227405312)
      (IntKind.u64.wrap (IntKind.u64.wrap (bits BinOp.and IntKind.u32 (f : Int) 8388607) * 536870912)) = ((widNan f : Nat) : Int) := by
  rw [and_top32 f hf, show bits BinOp.and IntKind.u32 (f : Int) 8388607 = ((f % 8388608 : Nat) : Int) from and_low32 f 23 hf (by omega)]
  unfold widNan
  have hq : f / 2147483648 < 2 := by omega
  have hy : f % 8388608 < 8388608 := by omega
  generalize f / 2147483648 = q at *
  generalize f % 8388608 = y at *
  simp only [IntKind.wrap_u64]
  rw [show ((q * 2147483648 : Nat) : Int) % 18446744073709551616 * 4294967296 % 18446744073709551616 = ((q * 9223372036854775808 : Nat) : Int) by omega, show ((y : Nat) : Int) % 18446744073709551616 * 536870912 % 18446744073709551616 = ((y * 536870912 : Nat) : Int) by omega]
  have e1 : bits BinOp.or IntKind.u64 ((q * 9223372036854775808 : Nat) : Int) 9218868437227405312 = ((2 ^ 52 * (q * 2048 + 2047) : Nat) : Int) := by
    have h : q = 0 ∨ q = 1 := by omega
    rcases h with rfl | rfl <;> decide +kernel
  rw [e1, or_split64 _ _ _ (by omega) (by omega)]
  omega

theorem nar_expr (b : Nat) (hb : b < 18446744073709551616) : bits BinOp.or IntKind.u32 (bits BinOp.or IntKind.u32 (bits BinOp.and IntKind.u32 ((b : Int) / 4294967296) 2147483648) 2143289344)
      (bits BinOp.and IntKind.u32 ((b : Int) / 536870912 % 4294967296) 4194303) = ((narNan b : Nat) : Int) := by
  rw [show (b : Int) / 4294967296 = ((b / 4294967296 : Nat) : Int) by simp, show (b : Int) / 536870912 % 4294967296 = ((b / 536870912 % 4294967296 : Nat) : Int) by simp, and_top32 _ (by omega),
    show bits BinOp.and IntKind.u32 ((b / 536870912 % 4294967296 : Nat) : Int) 4194303 = ((b / 536870912 % 4294967296 % 4194304 : Nat) : Int) from and_low32 _ 22 (by omega) (by omega)]
  unfold narNan
  have e0 : b / 4294967296 / 2147483648 = b / 9223372036854775808 := by omega
  have e1 : b / 536870912 % 4294967296 % 4194304 = b / 536870912 % 4194304 := by omega
  rw [e0, e1]
  have hq : b / 9223372036854775808 < 2 := by omega
  have hy : b / 536870912 % 4194304 < 4194304 := by omega
  generalize b / 9223372036854775808 = q at *
  generalize b / 536870912 % 4194304 = y at *
  have e2 : bits BinOp.or IntKind.u32 ((q * 2147483648 : Nat) : Int) 2143289344 = ((2 ^ 22 * (q * 512 + 511) : Nat) : Int) := by
    have h : q = 0 ∨ q = 1 := by omega
    rcases h with rfl | rfl <;> decide +kernel
  rw [e2, or_split32 _ _ _ (by omega) (by omega)]
  omega

set_option maxRecDepth 100000 in
theorem Narrow_nan (b : Nat) (w : World) (hb : b < 18446744073709551616) (hx : 9218868437227405312 < b % 9223372036854775808) : Calls Tryz.prog 15 #[.int .u64 b] w fun e w' => e = .returned (.int .u32 (narNan b : Nat)) ∧ Below w.heap.size w w' := by
  go_enter Tryz.func15, Tryz.ntmps15
  go_wp2_with fail
  refine (layoutOf64_any _).mono ?_
  rintro e w1 ⟨rfl, hb1⟩
  go_wp2_with fail
  refine (isNaN64_any b _ hb).mono ?_
  rintro e w2 ⟨rfl, hb2⟩
  rw [decide_eq_true hx]
  have H2 := fhide (hb1.trans (hb2.mono hb1.size))
  clear hb1 hb2
  go_wp2_with fail
  go_ret
  refine ⟨?_, H2.out⟩
  rw [← nar_expr b hb]
  rfl

theorem widNan_nan (f : Nat) (hf : f < 4294967296) (h : 2139095040 < f % 2147483648) : widNan f < 18446744073709551616 ∧ 9218868437227405312 < widNan f % 9223372036854775808 := by
  unfold widNan; omega
theorem nar_wid (f : Nat) (hf : f < 4294967296) (h : 2143289344 ≤ f % 2147483648) : narNan (widNan f) = f := by
  unfold narNan widNan; omega
end Go.Proofs.YtmkploknoohliaaGreat
