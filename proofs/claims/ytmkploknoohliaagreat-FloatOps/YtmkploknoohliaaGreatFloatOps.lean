/-
  PROVED HERE: FloatOpsSaid: fathomlaw3.FloatOps says true of every slice that comes in, and what came in reads as it did.
  (The frame round the walk is after the kit's proof-skeleton.mjs; the walk is mine.)
-/
import Derived.Test.YtmkploknoohliaaGreatFW
import Derived.Test.YtmkploknoohliaaGreatNW
import Derived.Test.YtmkploknoohliaaGreatFK
import Derived.Test.YtmkploknoohliaaGreatPK0
import Derived.Test.YtmkploknoohliaaGreatQJ
import Derived.Test.YtmkploknoohliaaGreatQH
import Derived.Test.YtmkploknoohliaaGreatPC
import Derived.Test.YtmkploknoohliaaGreatPE
import Derived.Test.YtmkploknoohliaaGreatPI
import Derived.ProofKit
import Derived.OpenShut
import Derived.Deep.Slices
import Derived.Lib.SmallJoins
import Derived.Deep.MidRow
import Derived.Deep.Strs
import Derived.Deep.RegionHeld3
import Derived.Test.YtmkploknoohliaaGreatRows
import Derived.WalkKit
import Derived.ShutString
import Derived.ChangeOld
import Derived.Below
/- FloatOps: truths, signs, lesser and greater. -/
namespace Go.Proofs.YtmkploknoohliaaGreat
open Go.RowKit
open Flt
set_option linter.unusedVariables false
set_option linter.unusedSimpArgs false

/-- 1 or +0. -/
def tr (b : Bool) : Nat := if b then 4607182418800017408 else 0

set_option maxRecDepth 100000 in
theorem truth_any (b : Bool) (w : World) : Calls Tryz.prog 16 #[.bool b] w fun e w' => e = .returned (.int .u64 (tr b : Nat)) ∧ Below w.heap.size w w' := by
  have HP := fhide (fun w : World => pattern64_any 4607182418800017408 w (by omega))
  rw [pat64_num _ (by omega)] at HP
  cases b
  · go_enter Tryz.func16, Tryz.ntmps16
    go_wp2_with fail
    go_ret
    exact ⟨rfl, Below.refl _ _⟩
  · go_enter Tryz.func16, Tryz.ntmps16
    go_wp2_with fail
    refine (HP.out _).mono ?_
    rintro e w1 ⟨rfl, hb1⟩
    have HB := fhide hb1
    clear hb1
    go_wp2_with fail
    go_ret
    exact ⟨rfl, HB.out⟩

set_option maxRecDepth 100000 in
theorem rtruth_any (b : Bool) (w : World) : Calls Tryz.prog 18 #[.bool b] w fun e w' => e = .returned (.int .u64 (tr b : Nat)) ∧ w' = w := by
  cases b
  all_goals
    go_enter Tryz.func18, Tryz.ntmps18
    go_wp2_with fail
    go_ret
    exact ⟨rfl, rfl⟩

theorem neg64 (a : Nat) (ha : a < 18446744073709551616) : Op.negFloat .f64 a = flip64 a := by
  show a ^^^ 2 ^ 63 = flip64 a
  unfold flip64
  by_cases h : a < 9223372036854775808
  · rw [if_pos h]; exact n_xor_lo 63 a h
  · rw [if_neg h]
    obtain ⟨r, hr⟩ : ∃ r, a = 2 ^ 63 + r := ⟨a - 9223372036854775808, by omega⟩
    rw [hr, n_xor_hi 63 r (by omega)]
    omega

theorem run_neg64 (a : Nat) (ha : a < 18446744073709551616) (w : World) : (Op.unary UnOp.neg (.float .f64 a)).run Tryz.prog w = .ok (.float .f64 (flip64 a)) w := by
  rw [← neg64 a ha]; rfl

theorem flip_mod (a : Nat) (ha : a < 18446744073709551616) : flip64 a % 9223372036854775808 = a % 9223372036854775808 ∧ flip64 a < 18446744073709551616 := by
  unfold flip64; split <;> omega

theorem told_same (o : Option Nat) : told64 o = tldW64 o := by cases o <;> rfl

/-- Neither nought nor NaN. -/
def sys (a : Nat) : Bool := decide (a % 9223372036854775808 ≠ 0 ∧ ¬ 9218868437227405312 < a % 9223372036854775808)

set_option maxRecDepth 100000 in
theorem isTrue_any (a : Nat) (w : World) (ha : a < 18446744073709551616) : Calls Tryz.prog 30 #[.int .u64 a] w fun e w' => e = .returned (.bool (sys a)) ∧ w' = w := by
  have ho : (FloatKind.f64.format.order a 0 = some .lt ∧ sys a = true) ∨ (FloatKind.f64.format.order a 0 = some .gt ∧ sys a = true) ∨ (FloatKind.f64.format.order a 0 = some .eq ∧ sys a = false) ∨ (FloatKind.f64.format.order a 0 = none ∧ sys a = false) := by
    have h : FloatKind.f64.format.order a 0 = _ := order_nought a
    unfold sys
    rw [h]
    by_cases h1 : 9218868437227405312 < a % 9223372036854775808
    · rw [if_pos h1]; simp [h1]
    · rw [if_neg h1]
      by_cases h2 : a % 9223372036854775808 = 0
      · rw [if_pos h2]; simp [h2]
      · rw [if_neg h2]
        cases sg Ieee.double a <;> simp [h1, h2]
  generalize sys a = s at *
  rcases ho with ⟨ho, rfl⟩ | ⟨ho, rfl⟩ | ⟨ho, rfl⟩ | ⟨ho, rfl⟩
  all_goals
    go_enter Tryz.func30, Tryz.ntmps30
    go_wp2_with fail
    refine (value64_any _ _).mono ?_
    rintro e w1 ⟨rfl, hw1⟩
    have hw1 := hw1.symm
    subst hw1
    go_wp2_with (simp only [ho])
    go_ret
    exact ⟨rfl, rfl⟩

set_option maxRecDepth 100000 in
theorem rSays_any (a : Nat) (w : World) (ha : a < 18446744073709551616) : Calls Tryz.prog 36 #[.int .u64 a] w fun e w' => e = .returned (.bool (sys a)) ∧ w' = w := by
  have HZ := fhide (fun w : World => rIsZero64 a w ha)
  have HN := fhide (fun w : World => rIsNan64 a w ha)
  unfold sys
  by_cases h2 : a % 9223372036854775808 = 0
  · rw [decide_eq_true h2] at HZ
    rw [decide_eq_false (fun h => h.1 h2)]
    clear h2 HN ha
    go_enter Tryz.func36, Tryz.ntmps36
    go_wp2_with fail
    refine (HZ.out _).mono ?_
    rintro e w1 ⟨rfl, hw1⟩
    have hw1 := hw1.symm
    subst hw1
    go_wp2_with fail
    go_ret
    exact ⟨rfl, rfl⟩
  · rw [decide_eq_false h2] at HZ
    have he : decide (a % 9223372036854775808 ≠ 0 ∧ ¬ 9218868437227405312 < a % 9223372036854775808) = !decide (9218868437227405312 < a % 9223372036854775808) := by
      by_cases h1 : 9218868437227405312 < a % 9223372036854775808 <;> simp [h1, h2]
    rw [he]
    generalize decide (9218868437227405312 < a % 9223372036854775808) = n at *
    clear he h2 ha
    cases n
    all_goals
      go_enter Tryz.func36, Tryz.ntmps36
      go_wp2_with fail
      refine (HZ.out _).mono ?_
      rintro e w1 ⟨rfl, hw1⟩
      have hw1 := hw1.symm
      subst hw1
      go_wp2_with fail
      refine (HN.out _).mono ?_
      rintro e w1 ⟨rfl, hw1⟩
      have hw1 := hw1.symm
      subst hw1
      go_wp2_with fail
      go_ret
      exact ⟨rfl, rfl⟩

set_option maxRecDepth 100000 in
theorem rlesser_any (a b : Nat) (w : World) (ha : a < 18446744073709551616) (hb : b < 18446744073709551616) : Calls Tryz.prog 37 #[.int .u64 a, .int .u64 b] w fun e w' => e = .returned (.int .u64 ((if key64 a < key64 b then a else b : Nat) : Int)) ∧ w' = w := by
  have HA := fhide (fun w : World => rKey64 a w ha)
  have HB := fhide (fun w : World => rKey64 b w hb)
  clear ha hb
  generalize key64 a = ka at *
  generalize key64 b = kb at *
  by_cases c : ka < kb
  · rw [if_pos c]
    go_enter Tryz.func37, Tryz.ntmps37
    go_wp2_with fail
    refine (HA.out _).mono ?_
    rintro e w1 ⟨rfl, hw1⟩
    have hw1 := hw1.symm
    subst hw1
    go_wp2_with fail
    refine (HB.out _).mono ?_
    rintro e w1 ⟨rfl, hw1⟩
    have hw1 := hw1.symm
    subst hw1
    go_wp2_with fail
    go_ret
    exact ⟨rfl, rfl⟩
  · rw [if_neg c]
    go_enter Tryz.func37, Tryz.ntmps37
    go_wp2_with fail
    refine (HA.out _).mono ?_
    rintro e w1 ⟨rfl, hw1⟩
    have hw1 := hw1.symm
    subst hw1
    go_wp2_with fail
    refine (HB.out _).mono ?_
    rintro e w1 ⟨rfl, hw1⟩
    have hw1 := hw1.symm
    subst hw1
    go_wp2_with fail
    go_ret
    exact ⟨rfl, rfl⟩

set_option maxRecDepth 100000 in
theorem rgreater_any (a b : Nat) (w : World) (ha : a < 18446744073709551616) (hb : b < 18446744073709551616) : Calls Tryz.prog 38 #[.int .u64 a, .int .u64 b] w fun e w' => e = .returned (.int .u64 ((if key64 a < key64 b then b else a : Nat) : Int)) ∧ w' = w := by
  have HA := fhide (fun w : World => rKey64 a w ha)
  have HB := fhide (fun w : World => rKey64 b w hb)
  clear ha hb
  generalize key64 a = ka at *
  generalize key64 b = kb at *
  by_cases c : ka < kb
  · rw [if_pos c]
    go_enter Tryz.func38, Tryz.ntmps38
    go_wp2_with fail
    refine (HA.out _).mono ?_
    rintro e w1 ⟨rfl, hw1⟩
    have hw1 := hw1.symm
    subst hw1
    go_wp2_with fail
    refine (HB.out _).mono ?_
    rintro e w1 ⟨rfl, hw1⟩
    have hw1 := hw1.symm
    subst hw1
    go_wp2_with fail
    go_ret
    exact ⟨rfl, rfl⟩
  · rw [if_neg c]
    go_enter Tryz.func38, Tryz.ntmps38
    go_wp2_with fail
    refine (HA.out _).mono ?_
    rintro e w1 ⟨rfl, hw1⟩
    have hw1 := hw1.symm
    subst hw1
    go_wp2_with fail
    refine (HB.out _).mono ?_
    rintro e w1 ⟨rfl, hw1⟩
    have hw1 := hw1.symm
    subst hw1
    go_wp2_with fail
    go_ret
    exact ⟨rfl, rfl⟩

/-- What the built-in min and max tell. -/
theorem decode_neg (a : Nat) (ha : a < 18446744073709551616) (h : a % 9223372036854775808 ≤ 9218868437227405312) : (FloatKind.f64.decode a).neg = decide (9223372036854775808 ≤ a) := by
  rw [← sg64 a ha]
  rcases Nat.lt_or_ge (a % 9223372036854775808) 9218868437227405312 with h1 | h1
  · obtain ⟨m, k, e1, _⟩ := read_fin Ieee.double a (by rw [rg64, inf64]; exact h1)
    rw [show FloatKind.f64.decode a = _ from e1]; rfl
  · rw [show FloatKind.f64.decode a = _ from read_inf Ieee.double a (by decide) (by rw [rg64, inf64]; omega)]; rfl

theorem cut_minmax (g : Bool) (x y t : Nat) : IsNan64 (Question.cut (.nanMinMax .f64 g x y) t) := cut_nan 0 0 t

theorem run_min_nan (a b : Nat) (h : Ieee.double.order a b = none) (w : World) : ∃ nb, IsNan64 nb ∧ ∀ ts t, (Builtin.min_ ts t #[.float .f64 a, .float .f64 b]).run Tryz.prog w = .ok (.float .f64 nb) w.drew := by
  refine ⟨Question.cut (.nanMinMax .f64 false a b) (w.tape w.drawn (.nanMinMax .f64 false a b)), cut_minmax _ _ _ _, fun ts t => ?_⟩
  have h : FloatKind.f64.format.order a b = none := h
  unfold Builtin.min_
  simp [List.foldlM, Builtin.min2, h, Question.forced]
theorem run_max_nan (a b : Nat) (h : Ieee.double.order a b = none) (w : World) : ∃ nb, IsNan64 nb ∧ ∀ ts t, (Builtin.max_ ts t #[.float .f64 a, .float .f64 b]).run Tryz.prog w = .ok (.float .f64 nb) w.drew := by
  refine ⟨Question.cut (.nanMinMax .f64 true a b) (w.tape w.drawn (.nanMinMax .f64 true a b)), cut_minmax _ _ _ _, fun ts t => ?_⟩
  have h : FloatKind.f64.format.order a b = none := h
  unfold Builtin.max_
  simp [List.foldlM, Builtin.max2, h, Question.forced]

theorem run_min_num (a b : Nat) (ha : a < 18446744073709551616) (hb : b < 18446744073709551616) (na : a % 9223372036854775808 ≤ 9218868437227405312) (nb : b % 9223372036854775808 ≤ 9218868437227405312) (w : World) (ts : Array TypeId) (t : TypeId) : (Builtin.min_ ts t #[.float .f64 a, .float .f64 b]).run Tryz.prog w = .ok (.float .f64 (if key64 a < key64 b then a else b)) w := by
  have h : FloatKind.f64.format.order a b = ord64 a b := order64 a b ha hb
  have hd := decode_neg a ha na
  unfold Builtin.min_
  simp only [List.foldlM, Builtin.min2, h]
  unfold ord64
  rw [if_neg (by omega)]
  by_cases z : a % 9223372036854775808 = 0 ∧ b % 9223372036854775808 = 0
  · rw [if_pos z]
    simp only [hd]
    by_cases s : 9223372036854775808 ≤ a
    · rw [decide_eq_true s]
      by_cases k : key64 a < key64 b
      · rw [if_pos k]; simp
      · rw [if_neg k]
        have : a = b := by revert k; unfold key64; split <;> split <;> omega
        rw [this]; simp
    · rw [decide_eq_false s]
      have k : ¬ key64 a < key64 b := by unfold key64; split <;> split <;> omega
      rw [if_neg k]; simp
  · rw [if_neg z]
    by_cases k : key64 a < key64 b
    · rw [if_pos k, if_pos k]; simp
    · rw [if_neg k, if_neg k]
      by_cases k2 : key64 b < key64 a
      · rw [if_pos k2]; simp
      · rw [if_neg k2]
        have : a = b := by revert k k2; unfold key64; split <;> split <;> omega
        rw [this]; simp

theorem run_max_num (a b : Nat) (ha : a < 18446744073709551616) (hb : b < 18446744073709551616) (na : a % 9223372036854775808 ≤ 9218868437227405312) (nb : b % 9223372036854775808 ≤ 9218868437227405312) (w : World) (ts : Array TypeId) (t : TypeId) : (Builtin.max_ ts t #[.float .f64 a, .float .f64 b]).run Tryz.prog w = .ok (.float .f64 (if key64 a < key64 b then b else a)) w := by
  have h : FloatKind.f64.format.order a b = ord64 a b := order64 a b ha hb
  have hd := decode_neg a ha na
  unfold Builtin.max_
  simp only [List.foldlM, Builtin.max2, h]
  unfold ord64
  rw [if_neg (by omega)]
  by_cases z : a % 9223372036854775808 = 0 ∧ b % 9223372036854775808 = 0
  · rw [if_pos z]
    simp only [hd]
    by_cases s : 9223372036854775808 ≤ a
    · rw [decide_eq_true s]
      by_cases k : key64 a < key64 b
      · rw [if_pos k]; simp
      · rw [if_neg k]
        have : a = b := by revert k; unfold key64; split <;> split <;> omega
        rw [this]; simp
    · rw [decide_eq_false s]
      have k : ¬ key64 a < key64 b := by unfold key64; split <;> split <;> omega
      rw [if_neg k]; simp
  · rw [if_neg z]
    by_cases k : key64 a < key64 b
    · rw [if_pos k, if_pos k]; simp
    · rw [if_neg k, if_neg k]
      by_cases k2 : key64 b < key64 a
      · rw [if_pos k2]; simp
      · rw [if_neg k2]
        have : a = b := by revert k k2; unfold key64; split <;> split <;> omega
        rw [this]; simp

theorem run_conv_nanO (b : Nat) (h : 2139095040 < b % 2147483648) (w : World) : ∃ nb, IsNan64 nb ∧ (convert 59 30 (.float .f32 b)).run Tryz.prog w = .ok (.float .f64 nb) w.drew := by
  refine ⟨Question.cut (.nanConv .f64 b) (w.tape w.drawn (.nanConv .f64 b)), cut_nan 0 0 _, ?_⟩
  have hd : FloatKind.f32.decode b = .nan (sg Ieee.single b) (rg Ieee.single b - Ieee.single.infRung) := read_nan Ieee.single b (by decide) (by rw [rg32, inf32]; exact h)
  have hs : Tryz.prog.underlying 59 = some (.float .f32) := by kernel_rfl
  have ht : Tryz.prog.underlying 30 = some (.float .f64) := by kernel_rfl
  simp [convert, run_underlying hs, run_underlying ht, Conv.floatToFloat, hd, Question.forced]
set_option maxRecDepth 100000 in
theorem value32_nanO (b : Nat) (w : World) (h : 2139095040 < b % 2147483648) : Calls Tryz.prog 14 #[.int .u32 b] w fun e w' => ∃ x, IsNan64 x ∧ e = .returned (.float .f64 x) ∧ w' = w.drew := by
  have hf := frombits32 b
  obtain ⟨nb, hnb, hcv⟩ := run_conv_nanO b h w
  have HN := fhide hnb
  clear hnb h
  go_enter Tryz.func14, Tryz.ntmps14
  go_wp2_with fail
  refine (wide32_any _).mono ?_
  rintro e w1 ⟨rfl, rfl⟩
  go_wp2_with (simp only [hf, hcv])
  go_ret
  exact ⟨nb, HN.out, rfl, rfl⟩

/-- Narrowed, and read again: what the wider pattern is. -/
theorem thin_any (a : Nat) (w : World) (ha : a < 18446744073709551616) : Calls Tryz.prog 14 #[.int .u32 (narr a)] w fun e w' => ∃ x, e = .returned (.float .f64 x) ∧ x < 18446744073709551616 ∧ pat64 x = (if 9218868437227405312 < a % 9223372036854775808 then 9221120237041090560 else wid (narr a)) ∧ Below w.heap.size w w' := by
  have hl := narr_lt a ha
  by_cases h : 9218868437227405312 < a % 9223372036854775808
  · rw [if_pos h]
    have hn : 2139095040 < narr a % 2147483648 := by
      unfold narr; rw [if_pos h]; unfold narNan; omega
    refine (value32_nanO _ w hn).mono ?_
    rintro e w' ⟨x, hx, rfl, rfl⟩
    exact ⟨x, rfl, hx.2, pat64_nan x hx.1, (Below.refl _ _).drew⟩
  · rw [if_neg h]
    have hn : narr a % 2147483648 ≤ 2139095040 := by
      unfold narr; rw [if_neg h]; unfold nar32; omega
    obtain ⟨x, x1, x2, x3, x4, x5, x6, x7⟩ := f2f_wide _ hl hn
    refine (value32_num _ x w x1).mono ?_
    rintro e w' ⟨rfl, rfl⟩
    exact ⟨x, rfl, x2, by rw [pat64_num x x3, wid_of _ x hl hn x5 x6 x7], Below.refl _ _⟩

end Go.Proofs.YtmkploknoohliaaGreat

/- FloatOps: Un of both. -/
namespace Go.Proofs.YtmkploknoohliaaGreat
open Go.RowKit
open Flt
set_option linter.unusedVariables false
set_option linter.unusedSimpArgs false

set_option maxRecDepth 100000 in
set_option maxHeartbeats 2000000 in
theorem Un_1 (a : Nat) (w : World) (ha : a < 18446744073709551616) : Calls Tryz.prog 4 #[.int .i64 1, .int .u64 a] w fun e w' => e = .returned (.int .u64 (pat64 (flip64 a) : Nat)) ∧ Below w.heap.size w w' := by
  have hn := run_neg64 a ha
  have HP := fhide (fun w : World => pattern64_any (flip64 a) w (flip_mod a ha).2)
  generalize pat64 (flip64 a) = v at *
  generalize flip64 a = fa at *
  clear ha
  go_enter Tryz.func4, Tryz.ntmps4
  go_wp2_with fail
  refine (value64_any _ _).mono ?_
  rintro e y1 ⟨rfl, hw1⟩
  have hw1 := hw1.symm
  subst hw1
  go_wp2_with (simp only [hn])
  refine (HP.out _).mono ?_
  rintro e y2 ⟨rfl, hb2⟩
  have J2 := fhide hb2
  clear hb2
  go_wp2_with fail
  go_ret
  exact ⟨rfl, J2.out⟩
set_option maxRecDepth 100000 in
set_option maxHeartbeats 2000000 in
theorem Un_2 (a : Nat) (w : World) (ha : a < 18446744073709551616) : Calls Tryz.prog 4 #[.int .i64 2, .int .u64 a] w fun e w' => e = .returned (.int .u64 (pat64 (a % 9223372036854775808) : Nat)) ∧ Below w.heap.size w w' := by
  have HA := fhide (fun w : World => Abs_any a w ha)
  have HP := fhide (fun w : World => pattern64_any (a % 9223372036854775808) w (by omega))
  generalize pat64 (a % 9223372036854775808) = v at *
  generalize a % 9223372036854775808 = fa at *
  clear ha
  go_enter Tryz.func4, Tryz.ntmps4
  go_wp2_with fail
  refine (value64_any _ _).mono ?_
  rintro e y3 ⟨rfl, hw3⟩
  have hw3 := hw3.symm
  subst hw3
  go_wp2_with fail
  refine (HA.out _).mono ?_
  rintro e y4 ⟨rfl, hw4⟩
  have hw4 := hw4.symm
  subst hw4
  go_wp2_with fail
  refine (HP.out _).mono ?_
  rintro e y5 ⟨rfl, hb5⟩
  have J5 := fhide hb5
  clear hb5
  go_wp2_with fail
  go_ret
  exact ⟨rfl, J5.out⟩
set_option maxRecDepth 100000 in
set_option maxHeartbeats 2000000 in
theorem Un_3 (a : Nat) (w : World) (ha : a < 18446744073709551616) : Calls Tryz.prog 4 #[.int .i64 3, .int .u64 a] w fun e w' => e = .returned (.int .u64 (told64 (Ieee.double.sqrt a) : Nat)) ∧ Below w.heap.size w w' := by
  have HR := fhide (fun w : World => Root64_any a w)
  generalize told64 (Ieee.double.sqrt a) = v at *
  clear ha
  go_enter Tryz.func4, Tryz.ntmps4
  go_wp2_with fail
  refine (value64_any _ _).mono ?_
  rintro e y6 ⟨rfl, hw6⟩
  have hw6 := hw6.symm
  subst hw6
  go_wp2_with fail
  refine (HR.out _).mono ?_
  rintro e y7 ⟨rfl, hb7⟩
  have J7 := fhide hb7
  clear hb7
  go_wp2_with fail
  go_ret
  exact ⟨rfl, J7.out⟩
set_option maxRecDepth 100000 in
set_option maxHeartbeats 2000000 in
theorem Un_4 (T : Nat) (hT : T = 1074) (a : Nat) (w : World) (ha : a < 18446744073709551616) : Calls Tryz.prog 4 #[.int .i64 4, .int .u64 a] w fun e w' => e = .returned (.int .u64 (rndv T 0 a : Nat)) ∧ Below w.heap.size w w' := by
  have HW : Hid (∀ w : World, Calls Tryz.prog 13 #[.float .f64 a, .int .i64 0] w fun e w' => ∃ x, IsWhole T 0 a x ∧ e = .returned (.tuple #[.float .f64 x, .bool true]) ∧ Below w.heap.size w w') := fun w => whole_any T hT a 0 w ha (by omega)
  have HX : Hid (∀ x, IsWhole T 0 a x → x < 18446744073709551616 ∧ pat64 x = rndv T 0 a) := fun x hx => ⟨hx.1, hx.pat⟩
  generalize rndv T 0 a = v at *
  clear ha hT
  go_enter Tryz.func4, Tryz.ntmps4
  go_wp2_with fail
  refine (value64_any _ _).mono ?_
  rintro e y8 ⟨rfl, hw8⟩
  have hw8 := hw8.symm
  subst hw8
  go_wp2_with fail
  refine (HW.out _).mono ?_
  rintro e y9 ⟨x, hx, rfl, hb9⟩
  have J9 := fhide hb9
  clear hb9
  obtain ⟨hxl, hxp⟩ := HX.out x hx
  have HP := fhide (fun w : World => pattern64_any x w hxl)
  rw [hxp] at HP
  clear hx hxl hxp
  go_wp2_with fail
  refine (HP.out _).mono ?_
  rintro e y10 ⟨rfl, hb10⟩
  have J10 := fhide (J9.out.trans (hb10.mono J9.out.size))
  clear hb10 J9
  go_wp2_with fail
  go_ret
  exact ⟨rfl, J10.out⟩
set_option maxRecDepth 100000 in
set_option maxHeartbeats 2000000 in
theorem Un_5 (T : Nat) (hT : T = 1074) (a : Nat) (w : World) (ha : a < 18446744073709551616) : Calls Tryz.prog 4 #[.int .i64 5, .int .u64 a] w fun e w' => e = .returned (.int .u64 (rndv T 1 a : Nat)) ∧ Below w.heap.size w w' := by
  have HW : Hid (∀ w : World, Calls Tryz.prog 13 #[.float .f64 a, .int .i64 1] w fun e w' => ∃ x, IsWhole T 1 a x ∧ e = .returned (.tuple #[.float .f64 x, .bool true]) ∧ Below w.heap.size w w') := fun w => whole_any T hT a 1 w ha (by omega)
  have HX : Hid (∀ x, IsWhole T 1 a x → x < 18446744073709551616 ∧ pat64 x = rndv T 1 a) := fun x hx => ⟨hx.1, hx.pat⟩
  generalize rndv T 1 a = v at *
  clear ha hT
  go_enter Tryz.func4, Tryz.ntmps4
  go_wp2_with fail
  refine (value64_any _ _).mono ?_
  rintro e y11 ⟨rfl, hw11⟩
  have hw11 := hw11.symm
  subst hw11
  go_wp2_with fail
  refine (HW.out _).mono ?_
  rintro e y12 ⟨x, hx, rfl, hb12⟩
  have J12 := fhide hb12
  clear hb12
  obtain ⟨hxl, hxp⟩ := HX.out x hx
  have HP := fhide (fun w : World => pattern64_any x w hxl)
  rw [hxp] at HP
  clear hx hxl hxp
  go_wp2_with fail
  refine (HP.out _).mono ?_
  rintro e y13 ⟨rfl, hb13⟩
  have J13 := fhide (J12.out.trans (hb13.mono J12.out.size))
  clear hb13 J12
  go_wp2_with fail
  go_ret
  exact ⟨rfl, J13.out⟩
set_option maxRecDepth 100000 in
set_option maxHeartbeats 2000000 in
theorem Un_6 (T : Nat) (hT : T = 1074) (a : Nat) (w : World) (ha : a < 18446744073709551616) : Calls Tryz.prog 4 #[.int .i64 6, .int .u64 a] w fun e w' => e = .returned (.int .u64 (rndv T 2 a : Nat)) ∧ Below w.heap.size w w' := by
  have HW : Hid (∀ w : World, Calls Tryz.prog 13 #[.float .f64 a, .int .i64 2] w fun e w' => ∃ x, IsWhole T 2 a x ∧ e = .returned (.tuple #[.float .f64 x, .bool true]) ∧ Below w.heap.size w w') := fun w => whole_any T hT a 2 w ha (by omega)
  have HX : Hid (∀ x, IsWhole T 2 a x → x < 18446744073709551616 ∧ pat64 x = rndv T 2 a) := fun x hx => ⟨hx.1, hx.pat⟩
  generalize rndv T 2 a = v at *
  clear ha hT
  go_enter Tryz.func4, Tryz.ntmps4
  go_wp2_with fail
  refine (value64_any _ _).mono ?_
  rintro e y14 ⟨rfl, hw14⟩
  have hw14 := hw14.symm
  subst hw14
  go_wp2_with fail
  refine (HW.out _).mono ?_
  rintro e y15 ⟨x, hx, rfl, hb15⟩
  have J15 := fhide hb15
  clear hb15
  obtain ⟨hxl, hxp⟩ := HX.out x hx
  have HP := fhide (fun w : World => pattern64_any x w hxl)
  rw [hxp] at HP
  clear hx hxl hxp
  go_wp2_with fail
  refine (HP.out _).mono ?_
  rintro e y16 ⟨rfl, hb16⟩
  have J16 := fhide (J15.out.trans (hb16.mono J15.out.size))
  clear hb16 J15
  go_wp2_with fail
  go_ret
  exact ⟨rfl, J16.out⟩
set_option maxRecDepth 100000 in
set_option maxHeartbeats 2000000 in
theorem Un_7 (T : Nat) (hT : T = 1074) (a : Nat) (w : World) (ha : a < 18446744073709551616) : Calls Tryz.prog 4 #[.int .i64 7, .int .u64 a] w fun e w' => e = .returned (.int .u64 (rndv T 3 a : Nat)) ∧ Below w.heap.size w w' := by
  have HW : Hid (∀ w : World, Calls Tryz.prog 13 #[.float .f64 a, .int .i64 3] w fun e w' => ∃ x, IsWhole T 3 a x ∧ e = .returned (.tuple #[.float .f64 x, .bool true]) ∧ Below w.heap.size w w') := fun w => whole_any T hT a 3 w ha (by omega)
  have HX : Hid (∀ x, IsWhole T 3 a x → x < 18446744073709551616 ∧ pat64 x = rndv T 3 a) := fun x hx => ⟨hx.1, hx.pat⟩
  generalize rndv T 3 a = v at *
  clear ha hT
  go_enter Tryz.func4, Tryz.ntmps4
  go_wp2_with fail
  refine (value64_any _ _).mono ?_
  rintro e y17 ⟨rfl, hw17⟩
  have hw17 := hw17.symm
  subst hw17
  go_wp2_with fail
  refine (HW.out _).mono ?_
  rintro e y18 ⟨x, hx, rfl, hb18⟩
  have J18 := fhide hb18
  clear hb18
  obtain ⟨hxl, hxp⟩ := HX.out x hx
  have HP := fhide (fun w : World => pattern64_any x w hxl)
  rw [hxp] at HP
  clear hx hxl hxp
  go_wp2_with fail
  refine (HP.out _).mono ?_
  rintro e y19 ⟨rfl, hb19⟩
  have J19 := fhide (J18.out.trans (hb19.mono J18.out.size))
  clear hb19 J18
  go_wp2_with fail
  go_ret
  exact ⟨rfl, J19.out⟩
set_option maxRecDepth 100000 in
set_option maxHeartbeats 2000000 in
theorem Un_8 (T : Nat) (hT : T = 1074) (a : Nat) (w : World) (ha : a < 18446744073709551616) : Calls Tryz.prog 4 #[.int .i64 8, .int .u64 a] w fun e w' => e = .returned (.int .u64 (rndv T 4 a : Nat)) ∧ Below w.heap.size w w' := by
  have HW : Hid (∀ w : World, Calls Tryz.prog 13 #[.float .f64 a, .int .i64 4] w fun e w' => ∃ x, IsWhole T 4 a x ∧ e = .returned (.tuple #[.float .f64 x, .bool true]) ∧ Below w.heap.size w w') := fun w => whole_any T hT a 4 w ha (by omega)
  have HX : Hid (∀ x, IsWhole T 4 a x → x < 18446744073709551616 ∧ pat64 x = rndv T 4 a) := fun x hx => ⟨hx.1, hx.pat⟩
  generalize rndv T 4 a = v at *
  clear ha hT
  go_enter Tryz.func4, Tryz.ntmps4
  go_wp2_with fail
  refine (value64_any _ _).mono ?_
  rintro e y20 ⟨rfl, hw20⟩
  have hw20 := hw20.symm
  subst hw20
  go_wp2_with fail
  refine (HW.out _).mono ?_
  rintro e y21 ⟨x, hx, rfl, hb21⟩
  have J21 := fhide hb21
  clear hb21
  obtain ⟨hxl, hxp⟩ := HX.out x hx
  have HP := fhide (fun w : World => pattern64_any x w hxl)
  rw [hxp] at HP
  clear hx hxl hxp
  go_wp2_with fail
  refine (HP.out _).mono ?_
  rintro e y22 ⟨rfl, hb22⟩
  have J22 := fhide (J21.out.trans (hb22.mono J21.out.size))
  clear hb22 J21
  go_wp2_with fail
  go_ret
  exact ⟨rfl, J22.out⟩
set_option maxRecDepth 100000 in
set_option maxHeartbeats 2000000 in
theorem Un_9 (a : Nat) (w : World) (ha : a < 18446744073709551616) : Calls Tryz.prog 4 #[.int .i64 9, .int .u64 a] w fun e w' => e = .returned (.int .u64 (if 9218868437227405312 < a % 9223372036854775808 then 9221120237041090560 else wid (narr a) : Nat)) ∧ Below w.heap.size w w' := by
  have HN := fhide (fun w : World => Narrow_any a w ha)
  have HV := fhide (fun w : World => thin_any a w ha)
  generalize (if 9218868437227405312 < a % 9223372036854775808 then 9221120237041090560 else wid (narr a)) = v at *
  generalize narr a = na at *
  clear ha
  go_enter Tryz.func4, Tryz.ntmps4
  go_wp2_with fail
  refine (value64_any _ _).mono ?_
  rintro e y23 ⟨rfl, hw23⟩
  have hw23 := hw23.symm
  subst hw23
  go_wp2_with fail
  refine (HN.out _).mono ?_
  rintro e y24 ⟨rfl, hb24⟩
  have J24 := fhide hb24
  clear hb24
  go_wp2_with fail
  refine (HV.out _).mono ?_
  rintro e y25 ⟨x, rfl, hxl, hxp, hb25⟩
  have J25 := fhide (J24.out.trans (hb25.mono J24.out.size))
  clear hb25 J24
  have HP := fhide (fun w : World => pattern64_any x w hxl)
  rw [hxp] at HP
  clear hxl hxp
  go_wp2_with fail
  refine (HP.out _).mono ?_
  rintro e y26 ⟨rfl, hb26⟩
  have J26 := fhide (J25.out.trans (hb26.mono J25.out.size))
  clear hb26 J25
  go_wp2_with fail
  go_ret
  exact ⟨rfl, J26.out⟩
set_option maxRecDepth 100000 in
set_option maxHeartbeats 2000000 in
theorem Un_10 (a : Nat) (w : World) (ha : a < 18446744073709551616) : Calls Tryz.prog 4 #[.int .i64 10, .int .u64 a] w fun e w' => e = .returned (.int .u64 (tr (decide (9218868437227405312 < a % 9223372036854775808)) : Nat)) ∧ Below w.heap.size w w' := by
  have HN := fhide (fun w : World => IsNaN_any a w)
  generalize decide (9218868437227405312 < a % 9223372036854775808) = n at *
  clear ha
  go_enter Tryz.func4, Tryz.ntmps4
  go_wp2_with fail
  refine (value64_any _ _).mono ?_
  rintro e y27 ⟨rfl, hw27⟩
  have hw27 := hw27.symm
  subst hw27
  go_wp2_with fail
  refine (HN.out _).mono ?_
  rintro e y28 ⟨rfl, hw28⟩
  have hw28 := hw28.symm
  subst hw28
  go_wp2_with fail
  refine (truth_any _ _).mono ?_
  rintro e y29 ⟨rfl, hb29⟩
  have J29 := fhide hb29
  clear hb29
  go_wp2_with fail
  go_ret
  exact ⟨rfl, J29.out⟩
set_option maxRecDepth 100000 in
set_option maxHeartbeats 2000000 in
theorem Un_no (op : Int) (a : Nat) (w : World) (h1 : op ≠ 1) (h2 : op ≠ 2) (h3 : op ≠ 3) (h4 : op ≠ 4) (h5 : op ≠ 5) (h6 : op ≠ 6) (h7 : op ≠ 7) (h8 : op ≠ 8) (h9 : op ≠ 9) (h10 : op ≠ 10) : Calls Tryz.prog 4 #[.int .i64 op, .int .u64 a] w fun e w' => e = .returned (.int .u64 (9221120237041090560 : Nat)) ∧ Below w.heap.size w w' := by
  have e1 : ((op : Int) == 1) = false := by simpa using h1
  have e2 : ((op : Int) == 2) = false := by simpa using h2
  have e3 : ((op : Int) == 3) = false := by simpa using h3
  have e4 : ((op : Int) == 4) = false := by simpa using h4
  have e5 : ((op : Int) == 5) = false := by simpa using h5
  have e6 : ((op : Int) == 6) = false := by simpa using h6
  have e7 : ((op : Int) == 7) = false := by simpa using h7
  have e8 : ((op : Int) == 8) = false := by simpa using h8
  have e9 : ((op : Int) == 9) = false := by simpa using h9
  have e10 : ((op : Int) == 10) = false := by simpa using h10
  clear h1 h2 h3 h4 h5 h6 h7 h8 h9 h10
  go_enter Tryz.func4, Tryz.ntmps4
  go_wp2_with fail
  refine (value64_any _ _).mono ?_
  rintro e y30 ⟨rfl, hw30⟩
  have hw30 := hw30.symm
  subst hw30
  go_wp2_with fail
  go_ret
  exact ⟨rfl, Below.refl _ _⟩
set_option maxRecDepth 100000 in
set_option maxHeartbeats 2000000 in
theorem rUn_1 (a : Nat) (w : World) (ha : a < 18446744073709551616) : Calls Tryz.prog 5 #[.int .i64 1, .int .u64 a] w fun e w' => e = .returned (.int .u64 (if 9218868437227405312 < a % 9223372036854775808 then 9221120237041090560 else flip64 a : Nat)) ∧ Below w.heap.size w w' := by
  have HN := fhide (fun w : World => rIsNan64 a w ha)
  have hf := b64_flip a ha
  by_cases c : 9218868437227405312 < a % 9223372036854775808
  · rw [if_pos c]
    rw [decide_eq_true c] at HN
    clear c ha
    go_enter Tryz.func5, Tryz.ntmps5
    go_wp2_with fail
    refine (HN.out _).mono ?_
    rintro e y31 ⟨rfl, hw31⟩
    have hw31 := hw31.symm
    subst hw31
    go_wp2_with fail
    go_ret
    exact ⟨rfl, Below.refl _ _⟩
  · rw [if_neg c]
    rw [decide_eq_false c] at HN
    generalize flip64 a = v at *
    clear c ha
    go_enter Tryz.func5, Tryz.ntmps5
    go_wp2_with fail
    refine (HN.out _).mono ?_
    rintro e y32 ⟨rfl, hw32⟩
    have hw32 := hw32.symm
    subst hw32
    go_wp2_with (simp only [hf])
    go_ret
    exact ⟨rfl, Below.refl _ _⟩
set_option maxRecDepth 100000 in
set_option maxHeartbeats 2000000 in
theorem rUn_2 (a : Nat) (w : World) (ha : a < 18446744073709551616) : Calls Tryz.prog 5 #[.int .i64 2, .int .u64 a] w fun e w' => e = .returned (.int .u64 (if 9218868437227405312 < a % 9223372036854775808 then 9221120237041090560 else a % 9223372036854775808 : Nat)) ∧ Below w.heap.size w w' := by
  have HN := fhide (fun w : World => rIsNan64 a w ha)
  have HA := fhide (fun w : World => rAbs64 a w ha)
  by_cases c : 9218868437227405312 < a % 9223372036854775808
  · rw [if_pos c]
    rw [decide_eq_true c] at HN
    clear c ha
    go_enter Tryz.func5, Tryz.ntmps5
    go_wp2_with fail
    refine (HN.out _).mono ?_
    rintro e y33 ⟨rfl, hw33⟩
    have hw33 := hw33.symm
    subst hw33
    go_wp2_with fail
    go_ret
    exact ⟨rfl, Below.refl _ _⟩
  · rw [if_neg c]
    rw [decide_eq_false c] at HN
    generalize a % 9223372036854775808 = v at *
    clear c ha
    go_enter Tryz.func5, Tryz.ntmps5
    go_wp2_with fail
    refine (HN.out _).mono ?_
    rintro e y34 ⟨rfl, hw34⟩
    have hw34 := hw34.symm
    subst hw34
    go_wp2_with fail
    refine (HA.out _).mono ?_
    rintro e y35 ⟨rfl, hw35⟩
    have hw35 := hw35.symm
    subst hw35
    go_wp2_with fail
    go_ret
    exact ⟨rfl, Below.refl _ _⟩
set_option maxRecDepth 100000 in
set_option maxHeartbeats 2000000 in
theorem rUn_3 (a : Nat) (w : World) (ha : a < 18446744073709551616) : Calls Tryz.prog 5 #[.int .i64 3, .int .u64 a] w fun e w' => e = .returned (.int .u64 (if 9218868437227405312 < a % 9223372036854775808 then 9221120237041090560 else tldW64 (Ieee.double.sqrt a) : Nat)) ∧ Below w.heap.size w w' := by
  have HN := fhide (fun w : World => rIsNan64 a w ha)
  have HA := fhide (fun w : World => rRoot64 a w ha)
  by_cases c : 9218868437227405312 < a % 9223372036854775808
  · rw [if_pos c]
    rw [decide_eq_true c] at HN
    clear c ha
    go_enter Tryz.func5, Tryz.ntmps5
    go_wp2_with fail
    refine (HN.out _).mono ?_
    rintro e y36 ⟨rfl, hw36⟩
    have hw36 := hw36.symm
    subst hw36
    go_wp2_with fail
    go_ret
    exact ⟨rfl, Below.refl _ _⟩
  · rw [if_neg c]
    rw [decide_eq_false c] at HN
    generalize tldW64 (Ieee.double.sqrt a) = v at *
    clear c ha
    go_enter Tryz.func5, Tryz.ntmps5
    go_wp2_with fail
    refine (HN.out _).mono ?_
    rintro e y37 ⟨rfl, hw37⟩
    have hw37 := hw37.symm
    subst hw37
    go_wp2_with fail
    refine (HA.out _).mono ?_
    rintro e y38 ⟨rfl, hb38⟩
    have J38 := fhide hb38
    clear hb38
    go_wp2_with fail
    go_ret
    exact ⟨rfl, J38.out⟩
set_option maxRecDepth 100000 in
set_option maxHeartbeats 2000000 in
theorem rUn_4 (T : Nat) (hT : T = 1074) (a : Nat) (w : World) (ha : a < 18446744073709551616) : Calls Tryz.prog 5 #[.int .i64 4, .int .u64 a] w fun e w' => e = .returned (.int .u64 (if 9218868437227405312 < a % 9223372036854775808 then 9221120237041090560 else rndv T 0 a : Nat)) ∧ Below w.heap.size w w' := by
  have HN := fhide (fun w : World => rIsNan64 a w ha)
  have HA : Hid (∀ w : World, Calls Tryz.prog 22 #[.int .u64 a, .int .i64 0] w fun e w' => e = .returned (.tuple #[.int .u64 (rndv T 0 a : Nat), .int .i64 0]) ∧ Below w.heap.size w w') := fun w => rRoundM_any T hT a 0 w ha (by omega)
  by_cases c : 9218868437227405312 < a % 9223372036854775808
  · rw [if_pos c]
    rw [decide_eq_true c] at HN
    clear c ha
    go_enter Tryz.func5, Tryz.ntmps5
    go_wp2_with fail
    refine (HN.out _).mono ?_
    rintro e y39 ⟨rfl, hw39⟩
    have hw39 := hw39.symm
    subst hw39
    go_wp2_with fail
    go_ret
    exact ⟨rfl, Below.refl _ _⟩
  · rw [if_neg c]
    rw [decide_eq_false c] at HN
    generalize rndv T 0 a = v at *
    clear c ha hT
    go_enter Tryz.func5, Tryz.ntmps5
    go_wp2_with fail
    refine (HN.out _).mono ?_
    rintro e y40 ⟨rfl, hw40⟩
    have hw40 := hw40.symm
    subst hw40
    go_wp2_with fail
    refine (HA.out _).mono ?_
    rintro e y41 ⟨rfl, hb41⟩
    have J41 := fhide hb41
    clear hb41
    go_wp2_with fail
    go_ret
    exact ⟨rfl, J41.out⟩
set_option maxRecDepth 100000 in
set_option maxHeartbeats 2000000 in
theorem rUn_5 (T : Nat) (hT : T = 1074) (a : Nat) (w : World) (ha : a < 18446744073709551616) : Calls Tryz.prog 5 #[.int .i64 5, .int .u64 a] w fun e w' => e = .returned (.int .u64 (if 9218868437227405312 < a % 9223372036854775808 then 9221120237041090560 else rndv T 1 a : Nat)) ∧ Below w.heap.size w w' := by
  have HN := fhide (fun w : World => rIsNan64 a w ha)
  have HA : Hid (∀ w : World, Calls Tryz.prog 22 #[.int .u64 a, .int .i64 1] w fun e w' => e = .returned (.tuple #[.int .u64 (rndv T 1 a : Nat), .int .i64 0]) ∧ Below w.heap.size w w') := fun w => rRoundM_any T hT a 1 w ha (by omega)
  by_cases c : 9218868437227405312 < a % 9223372036854775808
  · rw [if_pos c]
    rw [decide_eq_true c] at HN
    clear c ha
    go_enter Tryz.func5, Tryz.ntmps5
    go_wp2_with fail
    refine (HN.out _).mono ?_
    rintro e y42 ⟨rfl, hw42⟩
    have hw42 := hw42.symm
    subst hw42
    go_wp2_with fail
    go_ret
    exact ⟨rfl, Below.refl _ _⟩
  · rw [if_neg c]
    rw [decide_eq_false c] at HN
    generalize rndv T 1 a = v at *
    clear c ha hT
    go_enter Tryz.func5, Tryz.ntmps5
    go_wp2_with fail
    refine (HN.out _).mono ?_
    rintro e y43 ⟨rfl, hw43⟩
    have hw43 := hw43.symm
    subst hw43
    go_wp2_with fail
    refine (HA.out _).mono ?_
    rintro e y44 ⟨rfl, hb44⟩
    have J44 := fhide hb44
    clear hb44
    go_wp2_with fail
    go_ret
    exact ⟨rfl, J44.out⟩
set_option maxRecDepth 100000 in
set_option maxHeartbeats 2000000 in
theorem rUn_6 (T : Nat) (hT : T = 1074) (a : Nat) (w : World) (ha : a < 18446744073709551616) : Calls Tryz.prog 5 #[.int .i64 6, .int .u64 a] w fun e w' => e = .returned (.int .u64 (if 9218868437227405312 < a % 9223372036854775808 then 9221120237041090560 else rndv T 2 a : Nat)) ∧ Below w.heap.size w w' := by
  have HN := fhide (fun w : World => rIsNan64 a w ha)
  have HA : Hid (∀ w : World, Calls Tryz.prog 22 #[.int .u64 a, .int .i64 2] w fun e w' => e = .returned (.tuple #[.int .u64 (rndv T 2 a : Nat), .int .i64 0]) ∧ Below w.heap.size w w') := fun w => rRoundM_any T hT a 2 w ha (by omega)
  by_cases c : 9218868437227405312 < a % 9223372036854775808
  · rw [if_pos c]
    rw [decide_eq_true c] at HN
    clear c ha
    go_enter Tryz.func5, Tryz.ntmps5
    go_wp2_with fail
    refine (HN.out _).mono ?_
    rintro e y45 ⟨rfl, hw45⟩
    have hw45 := hw45.symm
    subst hw45
    go_wp2_with fail
    go_ret
    exact ⟨rfl, Below.refl _ _⟩
  · rw [if_neg c]
    rw [decide_eq_false c] at HN
    generalize rndv T 2 a = v at *
    clear c ha hT
    go_enter Tryz.func5, Tryz.ntmps5
    go_wp2_with fail
    refine (HN.out _).mono ?_
    rintro e y46 ⟨rfl, hw46⟩
    have hw46 := hw46.symm
    subst hw46
    go_wp2_with fail
    refine (HA.out _).mono ?_
    rintro e y47 ⟨rfl, hb47⟩
    have J47 := fhide hb47
    clear hb47
    go_wp2_with fail
    go_ret
    exact ⟨rfl, J47.out⟩
set_option maxRecDepth 100000 in
set_option maxHeartbeats 2000000 in
theorem rUn_7 (T : Nat) (hT : T = 1074) (a : Nat) (w : World) (ha : a < 18446744073709551616) : Calls Tryz.prog 5 #[.int .i64 7, .int .u64 a] w fun e w' => e = .returned (.int .u64 (if 9218868437227405312 < a % 9223372036854775808 then 9221120237041090560 else rndv T 3 a : Nat)) ∧ Below w.heap.size w w' := by
  have HN := fhide (fun w : World => rIsNan64 a w ha)
  have HA : Hid (∀ w : World, Calls Tryz.prog 22 #[.int .u64 a, .int .i64 3] w fun e w' => e = .returned (.tuple #[.int .u64 (rndv T 3 a : Nat), .int .i64 0]) ∧ Below w.heap.size w w') := fun w => rRoundM_any T hT a 3 w ha (by omega)
  by_cases c : 9218868437227405312 < a % 9223372036854775808
  · rw [if_pos c]
    rw [decide_eq_true c] at HN
    clear c ha
    go_enter Tryz.func5, Tryz.ntmps5
    go_wp2_with fail
    refine (HN.out _).mono ?_
    rintro e y48 ⟨rfl, hw48⟩
    have hw48 := hw48.symm
    subst hw48
    go_wp2_with fail
    go_ret
    exact ⟨rfl, Below.refl _ _⟩
  · rw [if_neg c]
    rw [decide_eq_false c] at HN
    generalize rndv T 3 a = v at *
    clear c ha hT
    go_enter Tryz.func5, Tryz.ntmps5
    go_wp2_with fail
    refine (HN.out _).mono ?_
    rintro e y49 ⟨rfl, hw49⟩
    have hw49 := hw49.symm
    subst hw49
    go_wp2_with fail
    refine (HA.out _).mono ?_
    rintro e y50 ⟨rfl, hb50⟩
    have J50 := fhide hb50
    clear hb50
    go_wp2_with fail
    go_ret
    exact ⟨rfl, J50.out⟩
set_option maxRecDepth 100000 in
set_option maxHeartbeats 2000000 in
theorem rUn_8 (T : Nat) (hT : T = 1074) (a : Nat) (w : World) (ha : a < 18446744073709551616) : Calls Tryz.prog 5 #[.int .i64 8, .int .u64 a] w fun e w' => e = .returned (.int .u64 (if 9218868437227405312 < a % 9223372036854775808 then 9221120237041090560 else rndv T 4 a : Nat)) ∧ Below w.heap.size w w' := by
  have HN := fhide (fun w : World => rIsNan64 a w ha)
  have HA : Hid (∀ w : World, Calls Tryz.prog 22 #[.int .u64 a, .int .i64 4] w fun e w' => e = .returned (.tuple #[.int .u64 (rndv T 4 a : Nat), .int .i64 0]) ∧ Below w.heap.size w w') := fun w => rRoundM_any T hT a 4 w ha (by omega)
  by_cases c : 9218868437227405312 < a % 9223372036854775808
  · rw [if_pos c]
    rw [decide_eq_true c] at HN
    clear c ha
    go_enter Tryz.func5, Tryz.ntmps5
    go_wp2_with fail
    refine (HN.out _).mono ?_
    rintro e y51 ⟨rfl, hw51⟩
    have hw51 := hw51.symm
    subst hw51
    go_wp2_with fail
    go_ret
    exact ⟨rfl, Below.refl _ _⟩
  · rw [if_neg c]
    rw [decide_eq_false c] at HN
    generalize rndv T 4 a = v at *
    clear c ha hT
    go_enter Tryz.func5, Tryz.ntmps5
    go_wp2_with fail
    refine (HN.out _).mono ?_
    rintro e y52 ⟨rfl, hw52⟩
    have hw52 := hw52.symm
    subst hw52
    go_wp2_with fail
    refine (HA.out _).mono ?_
    rintro e y53 ⟨rfl, hb53⟩
    have J53 := fhide hb53
    clear hb53
    go_wp2_with fail
    go_ret
    exact ⟨rfl, J53.out⟩
set_option maxRecDepth 100000 in
set_option maxHeartbeats 2000000 in
theorem rUn_9 (a : Nat) (w : World) (ha : a < 18446744073709551616) : Calls Tryz.prog 5 #[.int .i64 9, .int .u64 a] w fun e w' => e = .returned (.int .u64 (if 9218868437227405312 < a % 9223372036854775808 then 9221120237041090560 else wid (narr a) : Nat)) ∧ Below w.heap.size w w' := by
  have HN := fhide (fun w : World => rIsNan64 a w ha)
  have HA := fhide (fun w : World => rNarrow a w ha)
  have HW := fhide (fun w : World => rWiden (narr a) w (narr_lt a ha))
  by_cases c : 9218868437227405312 < a % 9223372036854775808
  · rw [if_pos c]
    rw [decide_eq_true c] at HN
    clear c ha
    go_enter Tryz.func5, Tryz.ntmps5
    go_wp2_with fail
    refine (HN.out _).mono ?_
    rintro e y54 ⟨rfl, hw54⟩
    have hw54 := hw54.symm
    subst hw54
    go_wp2_with fail
    go_ret
    exact ⟨rfl, Below.refl _ _⟩
  · rw [if_neg c]
    rw [decide_eq_false c] at HN
    generalize wid (narr a) = v at *
    generalize narr a = na at *
    clear c ha
    go_enter Tryz.func5, Tryz.ntmps5
    go_wp2_with fail
    refine (HN.out _).mono ?_
    rintro e y55 ⟨rfl, hw55⟩
    have hw55 := hw55.symm
    subst hw55
    go_wp2_with fail
    refine (HA.out _).mono ?_
    rintro e y56 ⟨rfl, hb56⟩
    have J56 := fhide hb56
    clear hb56
    go_wp2_with fail
    refine (HW.out _).mono ?_
    rintro e y57 ⟨rfl, hb57⟩
    have J57 := fhide (J56.out.trans (hb57.mono J56.out.size))
    clear hb57 J56
    go_wp2_with fail
    go_ret
    exact ⟨rfl, J57.out⟩
set_option maxRecDepth 100000 in
set_option maxHeartbeats 2000000 in
theorem rUn_10 (a : Nat) (w : World) (ha : a < 18446744073709551616) : Calls Tryz.prog 5 #[.int .i64 10, .int .u64 a] w fun e w' => e = .returned (.int .u64 (tr (decide (9218868437227405312 < a % 9223372036854775808)) : Nat)) ∧ Below w.heap.size w w' := by
  have HN := fhide (fun w : World => rIsNan64 a w ha)
  generalize decide (9218868437227405312 < a % 9223372036854775808) = n at *
  clear ha
  go_enter Tryz.func5, Tryz.ntmps5
  go_wp2_with fail
  refine (HN.out _).mono ?_
  rintro e y58 ⟨rfl, hw58⟩
  have hw58 := hw58.symm
  subst hw58
  go_wp2_with fail
  refine (rtruth_any _ _).mono ?_
  rintro e y59 ⟨rfl, hw59⟩
  have hw59 := hw59.symm
  subst hw59
  go_wp2_with fail
  go_ret
  exact ⟨rfl, Below.refl _ _⟩
set_option maxRecDepth 100000 in
set_option maxHeartbeats 2000000 in
theorem rUn_no (op : Int) (a : Nat) (w : World) (ha : a < 18446744073709551616) (h1 : op ≠ 1) (h2 : op ≠ 2) (h3 : op ≠ 3) (h4 : op ≠ 4) (h5 : op ≠ 5) (h6 : op ≠ 6) (h7 : op ≠ 7) (h8 : op ≠ 8) (h9 : op ≠ 9) (h10 : op ≠ 10) : Calls Tryz.prog 5 #[.int .i64 op, .int .u64 a] w fun e w' => e = .returned (.int .u64 (9221120237041090560 : Nat)) ∧ Below w.heap.size w w' := by
  have HN := fhide (fun w : World => rIsNan64 a w ha)
  generalize decide (9218868437227405312 < a % 9223372036854775808) = n at *
  clear ha
  have e1 : ((op : Int) == 1) = false := by simpa using h1
  have e2 : ((op : Int) == 2) = false := by simpa using h2
  have e3 : ((op : Int) == 3) = false := by simpa using h3
  have e4 : ((op : Int) == 4) = false := by simpa using h4
  have e5 : ((op : Int) == 5) = false := by simpa using h5
  have e6 : ((op : Int) == 6) = false := by simpa using h6
  have e7 : ((op : Int) == 7) = false := by simpa using h7
  have e8 : ((op : Int) == 8) = false := by simpa using h8
  have e9 : ((op : Int) == 9) = false := by simpa using h9
  have e10 : ((op : Int) == 10) = false := by simpa using h10
  clear h1 h2 h3 h4 h5 h6 h7 h8 h9 h10
  cases n
  all_goals
    go_enter Tryz.func5, Tryz.ntmps5
    go_wp2_with fail
    refine (HN.out _).mono ?_
    rintro e y60 ⟨rfl, hw60⟩
    have hw60 := hw60.symm
    subst hw60
    go_wp2_with fail
    go_ret
    exact ⟨rfl, Below.refl _ _⟩
theorem un_both (op : Int) (a : Nat) (ha : a < 18446744073709551616) : ∃ v : Nat, (∀ w : World, Calls Tryz.prog 4 #[.int .i64 op, .int .u64 a] w fun e w' => e = .returned (.int .u64 (v : Int)) ∧ Below w.heap.size w w') ∧ (∀ w : World, Calls Tryz.prog 5 #[.int .i64 op, .int .u64 a] w fun e w' => e = .returned (.int .u64 (v : Int)) ∧ Below w.heap.size w w') := by
  obtain ⟨T, hT⟩ : ∃ T : Nat, T = 1074 := ⟨_, rfl⟩
  have hnn : ∀ m, (if 9218868437227405312 < a % 9223372036854775808 then 9221120237041090560 else rndv T m a) = rndv T m a := by
    intro m
    by_cases c : 9218868437227405312 < a % 9223372036854775808
    · rw [if_pos c]; unfold rndv; rw [if_pos c]
    · rw [if_neg c]
  by_cases h1 : op = 1
  · subst h1
    refine ⟨_, fun w => Un_1 a w ha, fun w => ?_⟩
    have e : (if 9218868437227405312 < a % 9223372036854775808 then 9221120237041090560 else flip64 a) = pat64 (flip64 a) := by unfold pat64; rw [(flip_mod a ha).1]
    rw [← e]; exact rUn_1 a w ha
  by_cases h2 : op = 2
  · subst h2
    refine ⟨_, fun w => Un_2 a w ha, fun w => ?_⟩
    have e : (if 9218868437227405312 < a % 9223372036854775808 then 9221120237041090560 else a % 9223372036854775808) = pat64 (a % 9223372036854775808) := by unfold pat64; rw [Nat.mod_mod]
    rw [← e]; exact rUn_2 a w ha
  by_cases h3 : op = 3
  · subst h3
    refine ⟨_, fun w => Un_3 a w ha, fun w => ?_⟩
    have e : (if 9218868437227405312 < a % 9223372036854775808 then 9221120237041090560 else tldW64 (Ieee.double.sqrt a)) = told64 (Ieee.double.sqrt a) := by
      rw [told_same]
      by_cases c : 9218868437227405312 < a % 9223372036854775808
      · rw [if_pos c]
        have hs : Ieee.double.sqrt a = none := by
          unfold Ieee.Format.sqrt
          rw [read_nan Ieee.double a (by decide) (by rw [rg64, inf64]; exact c)]; rfl
        rw [hs]; rfl
      · rw [if_neg c]
    rw [← e]; exact rUn_3 a w ha
  by_cases h4 : op = 4
  · subst h4
    refine ⟨_, fun w => Un_4 T hT a w ha, fun w => ?_⟩
    have := rUn_4 T hT a w ha
    rw [hnn 0] at this; exact this
  by_cases h5 : op = 5
  · subst h5
    refine ⟨_, fun w => Un_5 T hT a w ha, fun w => ?_⟩
    have := rUn_5 T hT a w ha
    rw [hnn 1] at this; exact this
  by_cases h6 : op = 6
  · subst h6
    refine ⟨_, fun w => Un_6 T hT a w ha, fun w => ?_⟩
    have := rUn_6 T hT a w ha
    rw [hnn 2] at this; exact this
  by_cases h7 : op = 7
  · subst h7
    refine ⟨_, fun w => Un_7 T hT a w ha, fun w => ?_⟩
    have := rUn_7 T hT a w ha
    rw [hnn 3] at this; exact this
  by_cases h8 : op = 8
  · subst h8
    refine ⟨_, fun w => Un_8 T hT a w ha, fun w => ?_⟩
    have := rUn_8 T hT a w ha
    rw [hnn 4] at this; exact this
  by_cases h9 : op = 9
  · subst h9
    exact ⟨_, fun w => Un_9 a w ha, fun w => rUn_9 a w ha⟩
  by_cases h10 : op = 10
  · subst h10
    exact ⟨_, fun w => Un_10 a w ha, fun w => rUn_10 a w ha⟩
  exact ⟨_, fun w => Un_no op a w h1 h2 h3 h4 h5 h6 h7 h8 h9 h10, fun w => rUn_no op a w ha h1 h2 h3 h4 h5 h6 h7 h8 h9 h10⟩

end Go.Proofs.YtmkploknoohliaaGreat

/- FloatOps: Bin of both. -/
namespace Go.Proofs.YtmkploknoohliaaGreat
open Go.RowKit
open Flt
set_option linter.unusedVariables false
set_option linter.unusedSimpArgs false

/-- What stands so: 7 to 12. -/
def hv (k : Nat) (o : Option Ordering) : Bool :=
  match k, o with
  | 7, some .lt => true
  | 8, some .lt => true
  | 8, some .eq => true
  | 9, some .eq => true
  | 10, some .eq => false
  | 10, _ => true
  | 11, some .gt => true
  | 11, some .eq => true
  | 12, some .gt => true
  | _, _ => false
set_option maxRecDepth 100000 in
set_option maxHeartbeats 2000000 in
theorem holds_7 (a b : Nat) (w : World) : Calls Tryz.prog 29 #[.int .i64 7, .int .u64 a, .int .u64 b] w fun e w' => e = .returned (.bool (hv 7 (Ieee.double.order a b))) ∧ Below w.heap.size w w' := by
  have HC := fhide (fun w : World => Cmp64_any a b w)
  generalize Ieee.double.order a b = o at *
  rcases o with _ | o
  · skip
    go_enter Tryz.func29, Tryz.ntmps29
    go_wp2_with fail
    refine (HC.out _).mono ?_
    rintro e y1 ⟨rfl, hw1⟩
    have hw1 := hw1.symm
    subst hw1
    go_wp2_with fail
    go_ret
    exact ⟨rfl, Below.refl _ _⟩
  cases o
  all_goals
    go_enter Tryz.func29, Tryz.ntmps29
    go_wp2_with fail
    refine (HC.out _).mono ?_
    rintro e y2 ⟨rfl, hw2⟩
    have hw2 := hw2.symm
    subst hw2
    go_wp2_with fail
    go_ret
    exact ⟨rfl, Below.refl _ _⟩
set_option maxRecDepth 100000 in
set_option maxHeartbeats 2000000 in
theorem holds_8 (a b : Nat) (w : World) : Calls Tryz.prog 29 #[.int .i64 8, .int .u64 a, .int .u64 b] w fun e w' => e = .returned (.bool (hv 8 (Ieee.double.order a b))) ∧ Below w.heap.size w w' := by
  have HC := fhide (fun w : World => Cmp64_any a b w)
  generalize Ieee.double.order a b = o at *
  rcases o with _ | o
  · skip
    go_enter Tryz.func29, Tryz.ntmps29
    go_wp2_with fail
    refine (HC.out _).mono ?_
    rintro e y3 ⟨rfl, hw3⟩
    have hw3 := hw3.symm
    subst hw3
    go_wp2_with fail
    go_ret
    exact ⟨rfl, Below.refl _ _⟩
  cases o
  all_goals
    go_enter Tryz.func29, Tryz.ntmps29
    go_wp2_with fail
    refine (HC.out _).mono ?_
    rintro e y4 ⟨rfl, hw4⟩
    have hw4 := hw4.symm
    subst hw4
    go_wp2_with fail
    go_ret
    exact ⟨rfl, Below.refl _ _⟩
set_option maxRecDepth 100000 in
set_option maxHeartbeats 2000000 in
theorem holds_9 (a b : Nat) (w : World) : Calls Tryz.prog 29 #[.int .i64 9, .int .u64 a, .int .u64 b] w fun e w' => e = .returned (.bool (hv 9 (Ieee.double.order a b))) ∧ Below w.heap.size w w' := by
  have HC := fhide (fun w : World => Cmp64_any a b w)
  generalize Ieee.double.order a b = o at *
  rcases o with _ | o
  · skip
    go_enter Tryz.func29, Tryz.ntmps29
    go_wp2_with fail
    refine (HC.out _).mono ?_
    rintro e y5 ⟨rfl, hw5⟩
    have hw5 := hw5.symm
    subst hw5
    go_wp2_with fail
    go_ret
    exact ⟨rfl, Below.refl _ _⟩
  cases o
  all_goals
    go_enter Tryz.func29, Tryz.ntmps29
    go_wp2_with fail
    refine (HC.out _).mono ?_
    rintro e y6 ⟨rfl, hw6⟩
    have hw6 := hw6.symm
    subst hw6
    go_wp2_with fail
    go_ret
    exact ⟨rfl, Below.refl _ _⟩
set_option maxRecDepth 100000 in
set_option maxHeartbeats 2000000 in
theorem holds_10 (a b : Nat) (w : World) : Calls Tryz.prog 29 #[.int .i64 10, .int .u64 a, .int .u64 b] w fun e w' => e = .returned (.bool (hv 10 (Ieee.double.order a b))) ∧ Below w.heap.size w w' := by
  have HC := fhide (fun w : World => Cmp64_any a b w)
  generalize Ieee.double.order a b = o at *
  rcases o with _ | o
  · skip
    go_enter Tryz.func29, Tryz.ntmps29
    go_wp2_with fail
    refine (HC.out _).mono ?_
    rintro e y7 ⟨rfl, hw7⟩
    have hw7 := hw7.symm
    subst hw7
    go_wp2_with fail
    go_ret
    exact ⟨rfl, Below.refl _ _⟩
  cases o
  all_goals
    go_enter Tryz.func29, Tryz.ntmps29
    go_wp2_with fail
    refine (HC.out _).mono ?_
    rintro e y8 ⟨rfl, hw8⟩
    have hw8 := hw8.symm
    subst hw8
    go_wp2_with fail
    go_ret
    exact ⟨rfl, Below.refl _ _⟩
set_option maxRecDepth 100000 in
set_option maxHeartbeats 2000000 in
theorem holds_11 (a b : Nat) (w : World) : Calls Tryz.prog 29 #[.int .i64 11, .int .u64 a, .int .u64 b] w fun e w' => e = .returned (.bool (hv 11 (Ieee.double.order a b))) ∧ Below w.heap.size w w' := by
  have HC := fhide (fun w : World => Cmp64_any a b w)
  generalize Ieee.double.order a b = o at *
  rcases o with _ | o
  · skip
    go_enter Tryz.func29, Tryz.ntmps29
    go_wp2_with fail
    refine (HC.out _).mono ?_
    rintro e y9 ⟨rfl, hw9⟩
    have hw9 := hw9.symm
    subst hw9
    go_wp2_with fail
    go_ret
    exact ⟨rfl, Below.refl _ _⟩
  cases o
  all_goals
    go_enter Tryz.func29, Tryz.ntmps29
    go_wp2_with fail
    refine (HC.out _).mono ?_
    rintro e y10 ⟨rfl, hw10⟩
    have hw10 := hw10.symm
    subst hw10
    go_wp2_with fail
    go_ret
    exact ⟨rfl, Below.refl _ _⟩
set_option maxRecDepth 100000 in
set_option maxHeartbeats 2000000 in
theorem holds_12 (a b : Nat) (w : World) : Calls Tryz.prog 29 #[.int .i64 12, .int .u64 a, .int .u64 b] w fun e w' => e = .returned (.bool (hv 12 (Ieee.double.order a b))) ∧ Below w.heap.size w w' := by
  have HC := fhide (fun w : World => Cmp64_any a b w)
  generalize Ieee.double.order a b = o at *
  rcases o with _ | o
  · skip
    go_enter Tryz.func29, Tryz.ntmps29
    go_wp2_with fail
    refine (HC.out _).mono ?_
    rintro e y11 ⟨rfl, hw11⟩
    have hw11 := hw11.symm
    subst hw11
    go_wp2_with fail
    go_ret
    exact ⟨rfl, Below.refl _ _⟩
  cases o
  all_goals
    go_enter Tryz.func29, Tryz.ntmps29
    go_wp2_with fail
    refine (HC.out _).mono ?_
    rintro e y12 ⟨rfl, hw12⟩
    have hw12 := hw12.symm
    subst hw12
    go_wp2_with fail
    go_ret
    exact ⟨rfl, Below.refl _ _⟩
set_option maxRecDepth 100000 in
set_option maxHeartbeats 2000000 in
theorem Bin_1 (a b : Nat) (w : World) (ha : a < 18446744073709551616) (hb : b < 18446744073709551616) : Calls Tryz.prog 6 #[.int .i64 1, .int .u64 a, .int .u64 b] w fun e w' => e = .returned (.int .u64 (told64 (Ieee.double.add a b) : Nat)) ∧ Below w.heap.size w w' := by
  have H1 := fhide (fun w : World => Add64_any a b w)
  generalize told64 (Ieee.double.add a b) = v at *
  clear ha hb
  go_enter Tryz.func6, Tryz.ntmps6
  go_wp2_with fail
  refine (H1.out _).mono ?_
  rintro e y13 ⟨rfl, hb13⟩
  have J13 := fhide hb13
  clear hb13
  go_wp2_with fail
  go_ret
  exact ⟨rfl, J13.out⟩
set_option maxRecDepth 100000 in
set_option maxHeartbeats 2000000 in
theorem rBin_1 (a b : Nat) (w : World) (ha : a < 18446744073709551616) (hb : b < 18446744073709551616) : Calls Tryz.prog 7 #[.int .i64 1, .int .u64 a, .int .u64 b] w fun e w' => e = .returned (.int .u64 (told64 (Ieee.double.add a b) : Nat)) ∧ Below w.heap.size w w' := by
  rw [told_same]
  have H0 := fhide (fun w : World => rCompare64 a b w ha hb)
  have H1 := fhide (fun w : World => rAdd64 a b w ha hb)
  generalize tldW64 (Ieee.double.add a b) = v at *
  generalize cmpI (ord64 a b) = c at *
  generalize (ord64 a b).isSome = s at *
  clear ha hb
  go_enter Tryz.func7, Tryz.ntmps7
  go_wp2_with fail
  refine (H0.out _).mono ?_
  rintro e y14 ⟨rfl, hw14⟩
  have hw14 := hw14.symm
  subst hw14
  go_wp2_with fail
  refine (H1.out _).mono ?_
  rintro e y15 ⟨rfl, hb15⟩
  have J15 := fhide hb15
  clear hb15
  go_wp2_with fail
  go_ret
  exact ⟨rfl, J15.out⟩
set_option maxRecDepth 100000 in
set_option maxHeartbeats 2000000 in
theorem Bin_2 (a b : Nat) (w : World) (ha : a < 18446744073709551616) (hb : b < 18446744073709551616) : Calls Tryz.prog 6 #[.int .i64 2, .int .u64 a, .int .u64 b] w fun e w' => e = .returned (.int .u64 (told64 (Ieee.double.sub a b) : Nat)) ∧ Below w.heap.size w w' := by
  have H1 := fhide (fun w : World => Sub64_any a b w)
  generalize told64 (Ieee.double.sub a b) = v at *
  clear ha hb
  go_enter Tryz.func6, Tryz.ntmps6
  go_wp2_with fail
  refine (H1.out _).mono ?_
  rintro e y16 ⟨rfl, hb16⟩
  have J16 := fhide hb16
  clear hb16
  go_wp2_with fail
  go_ret
  exact ⟨rfl, J16.out⟩
set_option maxRecDepth 100000 in
set_option maxHeartbeats 2000000 in
theorem rBin_2 (a b : Nat) (w : World) (ha : a < 18446744073709551616) (hb : b < 18446744073709551616) : Calls Tryz.prog 7 #[.int .i64 2, .int .u64 a, .int .u64 b] w fun e w' => e = .returned (.int .u64 (told64 (Ieee.double.sub a b) : Nat)) ∧ Below w.heap.size w w' := by
  rw [told_same]
  have H0 := fhide (fun w : World => rCompare64 a b w ha hb)
  have H1 := fhide (fun w : World => rSub64 a b w ha hb)
  generalize tldW64 (Ieee.double.sub a b) = v at *
  generalize cmpI (ord64 a b) = c at *
  generalize (ord64 a b).isSome = s at *
  clear ha hb
  go_enter Tryz.func7, Tryz.ntmps7
  go_wp2_with fail
  refine (H0.out _).mono ?_
  rintro e y17 ⟨rfl, hw17⟩
  have hw17 := hw17.symm
  subst hw17
  go_wp2_with fail
  refine (H1.out _).mono ?_
  rintro e y18 ⟨rfl, hb18⟩
  have J18 := fhide hb18
  clear hb18
  go_wp2_with fail
  go_ret
  exact ⟨rfl, J18.out⟩
set_option maxRecDepth 100000 in
set_option maxHeartbeats 2000000 in
theorem Bin_3 (a b : Nat) (w : World) (ha : a < 18446744073709551616) (hb : b < 18446744073709551616) : Calls Tryz.prog 6 #[.int .i64 3, .int .u64 a, .int .u64 b] w fun e w' => e = .returned (.int .u64 (told64 (Ieee.double.mul a b) : Nat)) ∧ Below w.heap.size w w' := by
  have H1 := fhide (fun w : World => Mul64_any a b w)
  generalize told64 (Ieee.double.mul a b) = v at *
  clear ha hb
  go_enter Tryz.func6, Tryz.ntmps6
  go_wp2_with fail
  refine (H1.out _).mono ?_
  rintro e y19 ⟨rfl, hb19⟩
  have J19 := fhide hb19
  clear hb19
  go_wp2_with fail
  go_ret
  exact ⟨rfl, J19.out⟩
set_option maxRecDepth 100000 in
set_option maxHeartbeats 2000000 in
theorem rBin_3 (a b : Nat) (w : World) (ha : a < 18446744073709551616) (hb : b < 18446744073709551616) : Calls Tryz.prog 7 #[.int .i64 3, .int .u64 a, .int .u64 b] w fun e w' => e = .returned (.int .u64 (told64 (Ieee.double.mul a b) : Nat)) ∧ Below w.heap.size w w' := by
  rw [told_same]
  have H0 := fhide (fun w : World => rCompare64 a b w ha hb)
  have H1 := fhide (fun w : World => rMul64 a b w ha hb)
  generalize tldW64 (Ieee.double.mul a b) = v at *
  generalize cmpI (ord64 a b) = c at *
  generalize (ord64 a b).isSome = s at *
  clear ha hb
  go_enter Tryz.func7, Tryz.ntmps7
  go_wp2_with fail
  refine (H0.out _).mono ?_
  rintro e y20 ⟨rfl, hw20⟩
  have hw20 := hw20.symm
  subst hw20
  go_wp2_with fail
  refine (H1.out _).mono ?_
  rintro e y21 ⟨rfl, hb21⟩
  have J21 := fhide hb21
  clear hb21
  go_wp2_with fail
  go_ret
  exact ⟨rfl, J21.out⟩
set_option maxRecDepth 100000 in
set_option maxHeartbeats 2000000 in
theorem Bin_4 (a b : Nat) (w : World) (ha : a < 18446744073709551616) (hb : b < 18446744073709551616) : Calls Tryz.prog 6 #[.int .i64 4, .int .u64 a, .int .u64 b] w fun e w' => e = .returned (.int .u64 (told64 (Ieee.double.div a b) : Nat)) ∧ Below w.heap.size w w' := by
  have H1 := fhide (fun w : World => Div64_any a b w ha hb)
  generalize told64 (Ieee.double.div a b) = v at *
  clear ha hb
  go_enter Tryz.func6, Tryz.ntmps6
  go_wp2_with fail
  refine (H1.out _).mono ?_
  rintro e y22 ⟨rfl, hb22⟩
  have J22 := fhide hb22
  clear hb22
  go_wp2_with fail
  go_ret
  exact ⟨rfl, J22.out⟩
set_option maxRecDepth 100000 in
set_option maxHeartbeats 2000000 in
theorem rBin_4 (a b : Nat) (w : World) (ha : a < 18446744073709551616) (hb : b < 18446744073709551616) : Calls Tryz.prog 7 #[.int .i64 4, .int .u64 a, .int .u64 b] w fun e w' => e = .returned (.int .u64 (told64 (Ieee.double.div a b) : Nat)) ∧ Below w.heap.size w w' := by
  rw [told_same]
  have H0 := fhide (fun w : World => rCompare64 a b w ha hb)
  have H1 := fhide (fun w : World => rDiv64 a b w ha hb)
  generalize tldW64 (Ieee.double.div a b) = v at *
  generalize cmpI (ord64 a b) = c at *
  generalize (ord64 a b).isSome = s at *
  clear ha hb
  go_enter Tryz.func7, Tryz.ntmps7
  go_wp2_with fail
  refine (H0.out _).mono ?_
  rintro e y23 ⟨rfl, hw23⟩
  have hw23 := hw23.symm
  subst hw23
  go_wp2_with fail
  refine (H1.out _).mono ?_
  rintro e y24 ⟨rfl, hb24⟩
  have J24 := fhide hb24
  clear hb24
  go_wp2_with fail
  go_ret
  exact ⟨rfl, J24.out⟩
set_option maxRecDepth 100000 in
set_option maxHeartbeats 2000000 in
theorem Bin_5 (a b : Nat) (w : World) (ha : a < 18446744073709551616) (hb : b < 18446744073709551616) : Calls Tryz.prog 6 #[.int .i64 5, .int .u64 a, .int .u64 b] w fun e w' => e = .returned (.int .u64 (if 9218868437227405312 < a % 9223372036854775808 ∨ 9218868437227405312 < b % 9223372036854775808 then 9221120237041090560 else if key64 a < key64 b then a else b : Nat)) ∧ Below w.heap.size w w' := by
  by_cases c : 9218868437227405312 < a % 9223372036854775808 ∨ 9218868437227405312 < b % 9223372036854775808
  · rw [if_pos c]
    have ho : Ieee.double.order a b = none := order_nan Ieee.double (by decide) _ _ (by rw [rg64, rg64, inf64]; exact c)
    obtain ⟨nb, hnb, hr⟩ := run_min_nan a b ho w
    have HP := fhide (fun w : World => pattern64_any nb w hnb.2)
    rw [pat64_nan _ hnb.1] at HP
    clear hnb ho c ha hb
    go_enter Tryz.func6, Tryz.ntmps6
    go_wp2_with fail
    refine (value64_any _ _).mono ?_
    rintro e y25 ⟨rfl, hw25⟩
    have hw25 := hw25.symm
    subst hw25
    go_wp2_with fail
    refine (value64_any _ _).mono ?_
    rintro e y26 ⟨rfl, hw26⟩
    have hw26 := hw26.symm
    subst hw26
    go_wp2_with (simp only [hr])
    refine (HP.out _).mono ?_
    rintro e y27 ⟨rfl, hb27⟩
    have J27 := fhide hb27
    clear hb27
    have J27d := fhide ((((Below.refl w.heap.size w).drew)).trans (J27.out.mono (Nat.le_refl _)))
    go_wp2_with fail
    go_ret
    exact ⟨rfl, J27d.out⟩
  · rw [if_neg c]
    have hr := run_min_num a b ha hb (by omega) (by omega)
    have hl : (if key64 a < key64 b then a else b : Nat) < 18446744073709551616 ∧ (if key64 a < key64 b then a else b : Nat) % 9223372036854775808 ≤ 9218868437227405312 := by split <;> omega
    have HP := fhide (fun w : World => pattern64_any _ w hl.1)
    rw [pat64_num _ hl.2] at HP
    generalize (if key64 a < key64 b then a else b) = v at *
    clear hl c ha hb
    go_enter Tryz.func6, Tryz.ntmps6
    go_wp2_with fail
    refine (value64_any _ _).mono ?_
    rintro e y28 ⟨rfl, hw28⟩
    have hw28 := hw28.symm
    subst hw28
    go_wp2_with fail
    refine (value64_any _ _).mono ?_
    rintro e y29 ⟨rfl, hw29⟩
    have hw29 := hw29.symm
    subst hw29
    go_wp2_with (simp only [hr])
    refine (HP.out _).mono ?_
    rintro e y30 ⟨rfl, hb30⟩
    have J30 := fhide hb30
    clear hb30
    go_wp2_with fail
    go_ret
    exact ⟨rfl, J30.out⟩
set_option maxRecDepth 100000 in
set_option maxHeartbeats 2000000 in
theorem rBin_5 (a b : Nat) (w : World) (ha : a < 18446744073709551616) (hb : b < 18446744073709551616) : Calls Tryz.prog 7 #[.int .i64 5, .int .u64 a, .int .u64 b] w fun e w' => e = .returned (.int .u64 (if 9218868437227405312 < a % 9223372036854775808 ∨ 9218868437227405312 < b % 9223372036854775808 then 9221120237041090560 else if key64 a < key64 b then a else b : Nat)) ∧ Below w.heap.size w w' := by
  have H0 := fhide (fun w : World => rCompare64 a b w ha hb)
  have H1 := fhide (fun w : World => rlesser_any a b w ha hb)
  by_cases c : 9218868437227405312 < a % 9223372036854775808 ∨ 9218868437227405312 < b % 9223372036854775808
  · rw [if_pos c]
    have ho : ord64 a b = none := by unfold ord64; rw [if_pos c]
    rw [ho] at H0
    clear ho c ha hb H1
    go_enter Tryz.func7, Tryz.ntmps7
    go_wp2_with fail
    refine (H0.out _).mono ?_
    rintro e y31 ⟨rfl, hw31⟩
    have hw31 := hw31.symm
    subst hw31
    go_wp2_with fail
    go_ret
    exact ⟨rfl, Below.refl _ _⟩
  · rw [if_neg c]
    have ho : (ord64 a b).isSome = true := by unfold ord64; rw [if_neg c]; split; rfl; split; rfl; split <;> rfl
    rw [ho] at H0
    generalize cmpI (ord64 a b) = cc at *
    generalize (if key64 a < key64 b then a else b) = v at *
    clear ho c ha hb
    go_enter Tryz.func7, Tryz.ntmps7
    go_wp2_with fail
    refine (H0.out _).mono ?_
    rintro e y32 ⟨rfl, hw32⟩
    have hw32 := hw32.symm
    subst hw32
    go_wp2_with fail
    refine (H1.out _).mono ?_
    rintro e y33 ⟨rfl, hw33⟩
    have hw33 := hw33.symm
    subst hw33
    go_wp2_with fail
    go_ret
    exact ⟨rfl, Below.refl _ _⟩
set_option maxRecDepth 100000 in
set_option maxHeartbeats 2000000 in
theorem Bin_6 (a b : Nat) (w : World) (ha : a < 18446744073709551616) (hb : b < 18446744073709551616) : Calls Tryz.prog 6 #[.int .i64 6, .int .u64 a, .int .u64 b] w fun e w' => e = .returned (.int .u64 (if 9218868437227405312 < a % 9223372036854775808 ∨ 9218868437227405312 < b % 9223372036854775808 then 9221120237041090560 else if key64 a < key64 b then b else a : Nat)) ∧ Below w.heap.size w w' := by
  by_cases c : 9218868437227405312 < a % 9223372036854775808 ∨ 9218868437227405312 < b % 9223372036854775808
  · rw [if_pos c]
    have ho : Ieee.double.order a b = none := order_nan Ieee.double (by decide) _ _ (by rw [rg64, rg64, inf64]; exact c)
    obtain ⟨nb, hnb, hr⟩ := run_max_nan a b ho w
    have HP := fhide (fun w : World => pattern64_any nb w hnb.2)
    rw [pat64_nan _ hnb.1] at HP
    clear hnb ho c ha hb
    go_enter Tryz.func6, Tryz.ntmps6
    go_wp2_with fail
    refine (value64_any _ _).mono ?_
    rintro e y34 ⟨rfl, hw34⟩
    have hw34 := hw34.symm
    subst hw34
    go_wp2_with fail
    refine (value64_any _ _).mono ?_
    rintro e y35 ⟨rfl, hw35⟩
    have hw35 := hw35.symm
    subst hw35
    go_wp2_with (simp only [hr])
    refine (HP.out _).mono ?_
    rintro e y36 ⟨rfl, hb36⟩
    have J36 := fhide hb36
    clear hb36
    have J36d := fhide ((((Below.refl w.heap.size w).drew)).trans (J36.out.mono (Nat.le_refl _)))
    go_wp2_with fail
    go_ret
    exact ⟨rfl, J36d.out⟩
  · rw [if_neg c]
    have hr := run_max_num a b ha hb (by omega) (by omega)
    have hl : (if key64 a < key64 b then b else a : Nat) < 18446744073709551616 ∧ (if key64 a < key64 b then b else a : Nat) % 9223372036854775808 ≤ 9218868437227405312 := by split <;> omega
    have HP := fhide (fun w : World => pattern64_any _ w hl.1)
    rw [pat64_num _ hl.2] at HP
    generalize (if key64 a < key64 b then b else a) = v at *
    clear hl c ha hb
    go_enter Tryz.func6, Tryz.ntmps6
    go_wp2_with fail
    refine (value64_any _ _).mono ?_
    rintro e y37 ⟨rfl, hw37⟩
    have hw37 := hw37.symm
    subst hw37
    go_wp2_with fail
    refine (value64_any _ _).mono ?_
    rintro e y38 ⟨rfl, hw38⟩
    have hw38 := hw38.symm
    subst hw38
    go_wp2_with (simp only [hr])
    refine (HP.out _).mono ?_
    rintro e y39 ⟨rfl, hb39⟩
    have J39 := fhide hb39
    clear hb39
    go_wp2_with fail
    go_ret
    exact ⟨rfl, J39.out⟩
set_option maxRecDepth 100000 in
set_option maxHeartbeats 2000000 in
theorem rBin_6 (a b : Nat) (w : World) (ha : a < 18446744073709551616) (hb : b < 18446744073709551616) : Calls Tryz.prog 7 #[.int .i64 6, .int .u64 a, .int .u64 b] w fun e w' => e = .returned (.int .u64 (if 9218868437227405312 < a % 9223372036854775808 ∨ 9218868437227405312 < b % 9223372036854775808 then 9221120237041090560 else if key64 a < key64 b then b else a : Nat)) ∧ Below w.heap.size w w' := by
  have H0 := fhide (fun w : World => rCompare64 a b w ha hb)
  have H1 := fhide (fun w : World => rgreater_any a b w ha hb)
  by_cases c : 9218868437227405312 < a % 9223372036854775808 ∨ 9218868437227405312 < b % 9223372036854775808
  · rw [if_pos c]
    have ho : ord64 a b = none := by unfold ord64; rw [if_pos c]
    rw [ho] at H0
    clear ho c ha hb H1
    go_enter Tryz.func7, Tryz.ntmps7
    go_wp2_with fail
    refine (H0.out _).mono ?_
    rintro e y40 ⟨rfl, hw40⟩
    have hw40 := hw40.symm
    subst hw40
    go_wp2_with fail
    go_ret
    exact ⟨rfl, Below.refl _ _⟩
  · rw [if_neg c]
    have ho : (ord64 a b).isSome = true := by unfold ord64; rw [if_neg c]; split; rfl; split; rfl; split <;> rfl
    rw [ho] at H0
    generalize cmpI (ord64 a b) = cc at *
    generalize (if key64 a < key64 b then b else a) = v at *
    clear ho c ha hb
    go_enter Tryz.func7, Tryz.ntmps7
    go_wp2_with fail
    refine (H0.out _).mono ?_
    rintro e y41 ⟨rfl, hw41⟩
    have hw41 := hw41.symm
    subst hw41
    go_wp2_with fail
    refine (H1.out _).mono ?_
    rintro e y42 ⟨rfl, hw42⟩
    have hw42 := hw42.symm
    subst hw42
    go_wp2_with fail
    go_ret
    exact ⟨rfl, Below.refl _ _⟩
set_option maxRecDepth 100000 in
set_option maxHeartbeats 2000000 in
theorem Bin_7 (a b : Nat) (w : World) (ha : a < 18446744073709551616) (hb : b < 18446744073709551616) : Calls Tryz.prog 6 #[.int .i64 7, .int .u64 a, .int .u64 b] w fun e w' => e = .returned (.int .u64 (tr (hv 7 (ord64 a b)) : Nat)) ∧ Below w.heap.size w w' := by
  have H1 := fhide (fun w : World => holds_7 a b w)
  rw [order64 a b ha hb] at H1
  generalize hv 7 (ord64 a b) = v at *
  clear ha hb
  go_enter Tryz.func6, Tryz.ntmps6
  go_wp2_with fail
  refine (H1.out _).mono ?_
  rintro e y43 ⟨rfl, hb43⟩
  have J43 := fhide hb43
  clear hb43
  go_wp2_with fail
  refine (truth_any _ _).mono ?_
  rintro e y44 ⟨rfl, hb44⟩
  have J44 := fhide (J43.out.trans (hb44.mono J43.out.size))
  clear hb44 J43
  go_wp2_with fail
  go_ret
  exact ⟨rfl, J44.out⟩
set_option maxRecDepth 100000 in
set_option maxHeartbeats 2000000 in
theorem rBin_7 (a b : Nat) (w : World) (ha : a < 18446744073709551616) (hb : b < 18446744073709551616) : Calls Tryz.prog 7 #[.int .i64 7, .int .u64 a, .int .u64 b] w fun e w' => e = .returned (.int .u64 (tr (hv 7 (ord64 a b)) : Nat)) ∧ Below w.heap.size w w' := by
  have H0 := fhide (fun w : World => rCompare64 a b w ha hb)
  generalize ord64 a b = o at *
  clear ha hb
  rcases o with _ | o
  · skip
    go_enter Tryz.func7, Tryz.ntmps7
    go_wp2_with fail
    refine (H0.out _).mono ?_
    rintro e y45 ⟨rfl, hw45⟩
    have hw45 := hw45.symm
    subst hw45
    go_wp2_with fail
    refine (rtruth_any _ _).mono ?_
    rintro e y46 ⟨rfl, hw46⟩
    have hw46 := hw46.symm
    subst hw46
    go_wp2_with fail
    go_ret
    exact ⟨rfl, Below.refl _ _⟩
  cases o
  all_goals
    go_enter Tryz.func7, Tryz.ntmps7
    go_wp2_with fail
    refine (H0.out _).mono ?_
    rintro e y47 ⟨rfl, hw47⟩
    have hw47 := hw47.symm
    subst hw47
    go_wp2_with fail
    refine (rtruth_any _ _).mono ?_
    rintro e y48 ⟨rfl, hw48⟩
    have hw48 := hw48.symm
    subst hw48
    go_wp2_with fail
    go_ret
    exact ⟨rfl, Below.refl _ _⟩
set_option maxRecDepth 100000 in
set_option maxHeartbeats 2000000 in
theorem Bin_8 (a b : Nat) (w : World) (ha : a < 18446744073709551616) (hb : b < 18446744073709551616) : Calls Tryz.prog 6 #[.int .i64 8, .int .u64 a, .int .u64 b] w fun e w' => e = .returned (.int .u64 (tr (hv 8 (ord64 a b)) : Nat)) ∧ Below w.heap.size w w' := by
  have H1 := fhide (fun w : World => holds_8 a b w)
  rw [order64 a b ha hb] at H1
  generalize hv 8 (ord64 a b) = v at *
  clear ha hb
  go_enter Tryz.func6, Tryz.ntmps6
  go_wp2_with fail
  refine (H1.out _).mono ?_
  rintro e y49 ⟨rfl, hb49⟩
  have J49 := fhide hb49
  clear hb49
  go_wp2_with fail
  refine (truth_any _ _).mono ?_
  rintro e y50 ⟨rfl, hb50⟩
  have J50 := fhide (J49.out.trans (hb50.mono J49.out.size))
  clear hb50 J49
  go_wp2_with fail
  go_ret
  exact ⟨rfl, J50.out⟩
set_option maxRecDepth 100000 in
set_option maxHeartbeats 2000000 in
theorem rBin_8 (a b : Nat) (w : World) (ha : a < 18446744073709551616) (hb : b < 18446744073709551616) : Calls Tryz.prog 7 #[.int .i64 8, .int .u64 a, .int .u64 b] w fun e w' => e = .returned (.int .u64 (tr (hv 8 (ord64 a b)) : Nat)) ∧ Below w.heap.size w w' := by
  have H0 := fhide (fun w : World => rCompare64 a b w ha hb)
  generalize ord64 a b = o at *
  clear ha hb
  rcases o with _ | o
  · skip
    go_enter Tryz.func7, Tryz.ntmps7
    go_wp2_with fail
    refine (H0.out _).mono ?_
    rintro e y51 ⟨rfl, hw51⟩
    have hw51 := hw51.symm
    subst hw51
    go_wp2_with fail
    refine (rtruth_any _ _).mono ?_
    rintro e y52 ⟨rfl, hw52⟩
    have hw52 := hw52.symm
    subst hw52
    go_wp2_with fail
    go_ret
    exact ⟨rfl, Below.refl _ _⟩
  cases o
  all_goals
    go_enter Tryz.func7, Tryz.ntmps7
    go_wp2_with fail
    refine (H0.out _).mono ?_
    rintro e y53 ⟨rfl, hw53⟩
    have hw53 := hw53.symm
    subst hw53
    go_wp2_with fail
    refine (rtruth_any _ _).mono ?_
    rintro e y54 ⟨rfl, hw54⟩
    have hw54 := hw54.symm
    subst hw54
    go_wp2_with fail
    go_ret
    exact ⟨rfl, Below.refl _ _⟩
set_option maxRecDepth 100000 in
set_option maxHeartbeats 2000000 in
theorem Bin_9 (a b : Nat) (w : World) (ha : a < 18446744073709551616) (hb : b < 18446744073709551616) : Calls Tryz.prog 6 #[.int .i64 9, .int .u64 a, .int .u64 b] w fun e w' => e = .returned (.int .u64 (tr (hv 9 (ord64 a b)) : Nat)) ∧ Below w.heap.size w w' := by
  have H1 := fhide (fun w : World => holds_9 a b w)
  rw [order64 a b ha hb] at H1
  generalize hv 9 (ord64 a b) = v at *
  clear ha hb
  go_enter Tryz.func6, Tryz.ntmps6
  go_wp2_with fail
  refine (H1.out _).mono ?_
  rintro e y55 ⟨rfl, hb55⟩
  have J55 := fhide hb55
  clear hb55
  go_wp2_with fail
  refine (truth_any _ _).mono ?_
  rintro e y56 ⟨rfl, hb56⟩
  have J56 := fhide (J55.out.trans (hb56.mono J55.out.size))
  clear hb56 J55
  go_wp2_with fail
  go_ret
  exact ⟨rfl, J56.out⟩
set_option maxRecDepth 100000 in
set_option maxHeartbeats 2000000 in
theorem rBin_9 (a b : Nat) (w : World) (ha : a < 18446744073709551616) (hb : b < 18446744073709551616) : Calls Tryz.prog 7 #[.int .i64 9, .int .u64 a, .int .u64 b] w fun e w' => e = .returned (.int .u64 (tr (hv 9 (ord64 a b)) : Nat)) ∧ Below w.heap.size w w' := by
  have H0 := fhide (fun w : World => rCompare64 a b w ha hb)
  generalize ord64 a b = o at *
  clear ha hb
  rcases o with _ | o
  · skip
    go_enter Tryz.func7, Tryz.ntmps7
    go_wp2_with fail
    refine (H0.out _).mono ?_
    rintro e y57 ⟨rfl, hw57⟩
    have hw57 := hw57.symm
    subst hw57
    go_wp2_with fail
    refine (rtruth_any _ _).mono ?_
    rintro e y58 ⟨rfl, hw58⟩
    have hw58 := hw58.symm
    subst hw58
    go_wp2_with fail
    go_ret
    exact ⟨rfl, Below.refl _ _⟩
  cases o
  all_goals
    go_enter Tryz.func7, Tryz.ntmps7
    go_wp2_with fail
    refine (H0.out _).mono ?_
    rintro e y59 ⟨rfl, hw59⟩
    have hw59 := hw59.symm
    subst hw59
    go_wp2_with fail
    refine (rtruth_any _ _).mono ?_
    rintro e y60 ⟨rfl, hw60⟩
    have hw60 := hw60.symm
    subst hw60
    go_wp2_with fail
    go_ret
    exact ⟨rfl, Below.refl _ _⟩
set_option maxRecDepth 100000 in
set_option maxHeartbeats 2000000 in
theorem Bin_10 (a b : Nat) (w : World) (ha : a < 18446744073709551616) (hb : b < 18446744073709551616) : Calls Tryz.prog 6 #[.int .i64 10, .int .u64 a, .int .u64 b] w fun e w' => e = .returned (.int .u64 (tr (hv 10 (ord64 a b)) : Nat)) ∧ Below w.heap.size w w' := by
  have H1 := fhide (fun w : World => holds_10 a b w)
  rw [order64 a b ha hb] at H1
  generalize hv 10 (ord64 a b) = v at *
  clear ha hb
  go_enter Tryz.func6, Tryz.ntmps6
  go_wp2_with fail
  refine (H1.out _).mono ?_
  rintro e y61 ⟨rfl, hb61⟩
  have J61 := fhide hb61
  clear hb61
  go_wp2_with fail
  refine (truth_any _ _).mono ?_
  rintro e y62 ⟨rfl, hb62⟩
  have J62 := fhide (J61.out.trans (hb62.mono J61.out.size))
  clear hb62 J61
  go_wp2_with fail
  go_ret
  exact ⟨rfl, J62.out⟩
set_option maxRecDepth 100000 in
set_option maxHeartbeats 2000000 in
theorem rBin_10 (a b : Nat) (w : World) (ha : a < 18446744073709551616) (hb : b < 18446744073709551616) : Calls Tryz.prog 7 #[.int .i64 10, .int .u64 a, .int .u64 b] w fun e w' => e = .returned (.int .u64 (tr (hv 10 (ord64 a b)) : Nat)) ∧ Below w.heap.size w w' := by
  have H0 := fhide (fun w : World => rCompare64 a b w ha hb)
  generalize ord64 a b = o at *
  clear ha hb
  rcases o with _ | o
  · skip
    go_enter Tryz.func7, Tryz.ntmps7
    go_wp2_with fail
    refine (H0.out _).mono ?_
    rintro e y63 ⟨rfl, hw63⟩
    have hw63 := hw63.symm
    subst hw63
    go_wp2_with fail
    refine (rtruth_any _ _).mono ?_
    rintro e y64 ⟨rfl, hw64⟩
    have hw64 := hw64.symm
    subst hw64
    go_wp2_with fail
    go_ret
    exact ⟨rfl, Below.refl _ _⟩
  cases o
  all_goals
    go_enter Tryz.func7, Tryz.ntmps7
    go_wp2_with fail
    refine (H0.out _).mono ?_
    rintro e y65 ⟨rfl, hw65⟩
    have hw65 := hw65.symm
    subst hw65
    go_wp2_with fail
    refine (rtruth_any _ _).mono ?_
    rintro e y66 ⟨rfl, hw66⟩
    have hw66 := hw66.symm
    subst hw66
    go_wp2_with fail
    go_ret
    exact ⟨rfl, Below.refl _ _⟩
set_option maxRecDepth 100000 in
set_option maxHeartbeats 2000000 in
theorem Bin_11 (a b : Nat) (w : World) (ha : a < 18446744073709551616) (hb : b < 18446744073709551616) : Calls Tryz.prog 6 #[.int .i64 11, .int .u64 a, .int .u64 b] w fun e w' => e = .returned (.int .u64 (tr (hv 11 (ord64 a b)) : Nat)) ∧ Below w.heap.size w w' := by
  have H1 := fhide (fun w : World => holds_11 a b w)
  rw [order64 a b ha hb] at H1
  generalize hv 11 (ord64 a b) = v at *
  clear ha hb
  go_enter Tryz.func6, Tryz.ntmps6
  go_wp2_with fail
  refine (H1.out _).mono ?_
  rintro e y67 ⟨rfl, hb67⟩
  have J67 := fhide hb67
  clear hb67
  go_wp2_with fail
  refine (truth_any _ _).mono ?_
  rintro e y68 ⟨rfl, hb68⟩
  have J68 := fhide (J67.out.trans (hb68.mono J67.out.size))
  clear hb68 J67
  go_wp2_with fail
  go_ret
  exact ⟨rfl, J68.out⟩
set_option maxRecDepth 100000 in
set_option maxHeartbeats 2000000 in
theorem rBin_11 (a b : Nat) (w : World) (ha : a < 18446744073709551616) (hb : b < 18446744073709551616) : Calls Tryz.prog 7 #[.int .i64 11, .int .u64 a, .int .u64 b] w fun e w' => e = .returned (.int .u64 (tr (hv 11 (ord64 a b)) : Nat)) ∧ Below w.heap.size w w' := by
  have H0 := fhide (fun w : World => rCompare64 a b w ha hb)
  generalize ord64 a b = o at *
  clear ha hb
  rcases o with _ | o
  · skip
    go_enter Tryz.func7, Tryz.ntmps7
    go_wp2_with fail
    refine (H0.out _).mono ?_
    rintro e y69 ⟨rfl, hw69⟩
    have hw69 := hw69.symm
    subst hw69
    go_wp2_with fail
    refine (rtruth_any _ _).mono ?_
    rintro e y70 ⟨rfl, hw70⟩
    have hw70 := hw70.symm
    subst hw70
    go_wp2_with fail
    go_ret
    exact ⟨rfl, Below.refl _ _⟩
  cases o
  all_goals
    go_enter Tryz.func7, Tryz.ntmps7
    go_wp2_with fail
    refine (H0.out _).mono ?_
    rintro e y71 ⟨rfl, hw71⟩
    have hw71 := hw71.symm
    subst hw71
    go_wp2_with fail
    refine (rtruth_any _ _).mono ?_
    rintro e y72 ⟨rfl, hw72⟩
    have hw72 := hw72.symm
    subst hw72
    go_wp2_with fail
    go_ret
    exact ⟨rfl, Below.refl _ _⟩
set_option maxRecDepth 100000 in
set_option maxHeartbeats 2000000 in
theorem Bin_12 (a b : Nat) (w : World) (ha : a < 18446744073709551616) (hb : b < 18446744073709551616) : Calls Tryz.prog 6 #[.int .i64 12, .int .u64 a, .int .u64 b] w fun e w' => e = .returned (.int .u64 (tr (hv 12 (ord64 a b)) : Nat)) ∧ Below w.heap.size w w' := by
  have H1 := fhide (fun w : World => holds_12 a b w)
  rw [order64 a b ha hb] at H1
  generalize hv 12 (ord64 a b) = v at *
  clear ha hb
  go_enter Tryz.func6, Tryz.ntmps6
  go_wp2_with fail
  refine (H1.out _).mono ?_
  rintro e y73 ⟨rfl, hb73⟩
  have J73 := fhide hb73
  clear hb73
  go_wp2_with fail
  refine (truth_any _ _).mono ?_
  rintro e y74 ⟨rfl, hb74⟩
  have J74 := fhide (J73.out.trans (hb74.mono J73.out.size))
  clear hb74 J73
  go_wp2_with fail
  go_ret
  exact ⟨rfl, J74.out⟩
set_option maxRecDepth 100000 in
set_option maxHeartbeats 2000000 in
theorem rBin_12 (a b : Nat) (w : World) (ha : a < 18446744073709551616) (hb : b < 18446744073709551616) : Calls Tryz.prog 7 #[.int .i64 12, .int .u64 a, .int .u64 b] w fun e w' => e = .returned (.int .u64 (tr (hv 12 (ord64 a b)) : Nat)) ∧ Below w.heap.size w w' := by
  have H0 := fhide (fun w : World => rCompare64 a b w ha hb)
  generalize ord64 a b = o at *
  clear ha hb
  rcases o with _ | o
  · skip
    go_enter Tryz.func7, Tryz.ntmps7
    go_wp2_with fail
    refine (H0.out _).mono ?_
    rintro e y75 ⟨rfl, hw75⟩
    have hw75 := hw75.symm
    subst hw75
    go_wp2_with fail
    refine (rtruth_any _ _).mono ?_
    rintro e y76 ⟨rfl, hw76⟩
    have hw76 := hw76.symm
    subst hw76
    go_wp2_with fail
    go_ret
    exact ⟨rfl, Below.refl _ _⟩
  cases o
  all_goals
    go_enter Tryz.func7, Tryz.ntmps7
    go_wp2_with fail
    refine (H0.out _).mono ?_
    rintro e y77 ⟨rfl, hw77⟩
    have hw77 := hw77.symm
    subst hw77
    go_wp2_with fail
    refine (rtruth_any _ _).mono ?_
    rintro e y78 ⟨rfl, hw78⟩
    have hw78 := hw78.symm
    subst hw78
    go_wp2_with fail
    go_ret
    exact ⟨rfl, Below.refl _ _⟩
set_option maxRecDepth 100000 in
set_option maxHeartbeats 2000000 in
theorem Bin_13 (a b : Nat) (w : World) (ha : a < 18446744073709551616) (hb : b < 18446744073709551616) : Calls Tryz.prog 6 #[.int .i64 13, .int .u64 a, .int .u64 b] w fun e w' => e = .returned (.int .u64 (tr (sys a && sys b) : Nat)) ∧ Below w.heap.size w w' := by
  have HA := fhide (fun w : World => isTrue_any a w ha)
  have HB := fhide (fun w : World => isTrue_any b w hb)
  generalize sys a = s at *
  generalize sys b = t at *
  clear ha hb
  cases s
  · skip
    go_enter Tryz.func6, Tryz.ntmps6
    go_wp2_with fail
    refine (HA.out _).mono ?_
    rintro e y79 ⟨rfl, hw79⟩
    have hw79 := hw79.symm
    subst hw79
    go_wp2_with fail
    refine (truth_any _ _).mono ?_
    rintro e y80 ⟨rfl, hb80⟩
    have J80 := fhide hb80
    clear hb80
    go_wp2_with fail
    go_ret
    exact ⟨rfl, J80.out⟩
  · skip
    go_enter Tryz.func6, Tryz.ntmps6
    go_wp2_with fail
    refine (HA.out _).mono ?_
    rintro e y81 ⟨rfl, hw81⟩
    have hw81 := hw81.symm
    subst hw81
    go_wp2_with fail
    refine (HB.out _).mono ?_
    rintro e y82 ⟨rfl, hw82⟩
    have hw82 := hw82.symm
    subst hw82
    go_wp2_with fail
    refine (truth_any _ _).mono ?_
    rintro e y83 ⟨rfl, hb83⟩
    have J83 := fhide hb83
    clear hb83
    go_wp2_with fail
    go_ret
    exact ⟨rfl, J83.out⟩
set_option maxRecDepth 100000 in
set_option maxHeartbeats 2000000 in
theorem rBin_13 (a b : Nat) (w : World) (ha : a < 18446744073709551616) (hb : b < 18446744073709551616) : Calls Tryz.prog 7 #[.int .i64 13, .int .u64 a, .int .u64 b] w fun e w' => e = .returned (.int .u64 (tr (sys a && sys b) : Nat)) ∧ Below w.heap.size w w' := by
  have H0 := fhide (fun w : World => rCompare64 a b w ha hb)
  have HA := fhide (fun w : World => rSays_any a w ha)
  have HB := fhide (fun w : World => rSays_any b w hb)
  generalize cmpI (ord64 a b) = cc at *
  generalize (ord64 a b).isSome = ss at *
  generalize sys a = s at *
  generalize sys b = t at *
  clear ha hb
  cases s
  · skip
    go_enter Tryz.func7, Tryz.ntmps7
    go_wp2_with fail
    refine (H0.out _).mono ?_
    rintro e y84 ⟨rfl, hw84⟩
    have hw84 := hw84.symm
    subst hw84
    go_wp2_with fail
    refine (HA.out _).mono ?_
    rintro e y85 ⟨rfl, hw85⟩
    have hw85 := hw85.symm
    subst hw85
    go_wp2_with fail
    refine (rtruth_any _ _).mono ?_
    rintro e y86 ⟨rfl, hw86⟩
    have hw86 := hw86.symm
    subst hw86
    go_wp2_with fail
    go_ret
    exact ⟨rfl, Below.refl _ _⟩
  · skip
    go_enter Tryz.func7, Tryz.ntmps7
    go_wp2_with fail
    refine (H0.out _).mono ?_
    rintro e y87 ⟨rfl, hw87⟩
    have hw87 := hw87.symm
    subst hw87
    go_wp2_with fail
    refine (HA.out _).mono ?_
    rintro e y88 ⟨rfl, hw88⟩
    have hw88 := hw88.symm
    subst hw88
    go_wp2_with fail
    refine (HB.out _).mono ?_
    rintro e y89 ⟨rfl, hw89⟩
    have hw89 := hw89.symm
    subst hw89
    go_wp2_with fail
    refine (rtruth_any _ _).mono ?_
    rintro e y90 ⟨rfl, hw90⟩
    have hw90 := hw90.symm
    subst hw90
    go_wp2_with fail
    go_ret
    exact ⟨rfl, Below.refl _ _⟩
set_option maxRecDepth 100000 in
set_option maxHeartbeats 2000000 in
theorem Bin_14 (a b : Nat) (w : World) (ha : a < 18446744073709551616) (hb : b < 18446744073709551616) : Calls Tryz.prog 6 #[.int .i64 14, .int .u64 a, .int .u64 b] w fun e w' => e = .returned (.int .u64 (tr (sys a || sys b) : Nat)) ∧ Below w.heap.size w w' := by
  have HA := fhide (fun w : World => isTrue_any a w ha)
  have HB := fhide (fun w : World => isTrue_any b w hb)
  generalize sys a = s at *
  generalize sys b = t at *
  clear ha hb
  cases s
  · skip
    go_enter Tryz.func6, Tryz.ntmps6
    go_wp2_with fail
    refine (HA.out _).mono ?_
    rintro e y91 ⟨rfl, hw91⟩
    have hw91 := hw91.symm
    subst hw91
    go_wp2_with fail
    refine (HB.out _).mono ?_
    rintro e y92 ⟨rfl, hw92⟩
    have hw92 := hw92.symm
    subst hw92
    go_wp2_with fail
    refine (truth_any _ _).mono ?_
    rintro e y93 ⟨rfl, hb93⟩
    have J93 := fhide hb93
    clear hb93
    go_wp2_with fail
    go_ret
    exact ⟨rfl, J93.out⟩
  · skip
    go_enter Tryz.func6, Tryz.ntmps6
    go_wp2_with fail
    refine (HA.out _).mono ?_
    rintro e y94 ⟨rfl, hw94⟩
    have hw94 := hw94.symm
    subst hw94
    go_wp2_with fail
    refine (truth_any _ _).mono ?_
    rintro e y95 ⟨rfl, hb95⟩
    have J95 := fhide hb95
    clear hb95
    go_wp2_with fail
    go_ret
    exact ⟨rfl, J95.out⟩
set_option maxRecDepth 100000 in
set_option maxHeartbeats 2000000 in
theorem rBin_14 (a b : Nat) (w : World) (ha : a < 18446744073709551616) (hb : b < 18446744073709551616) : Calls Tryz.prog 7 #[.int .i64 14, .int .u64 a, .int .u64 b] w fun e w' => e = .returned (.int .u64 (tr (sys a || sys b) : Nat)) ∧ Below w.heap.size w w' := by
  have H0 := fhide (fun w : World => rCompare64 a b w ha hb)
  have HA := fhide (fun w : World => rSays_any a w ha)
  have HB := fhide (fun w : World => rSays_any b w hb)
  generalize cmpI (ord64 a b) = cc at *
  generalize (ord64 a b).isSome = ss at *
  generalize sys a = s at *
  generalize sys b = t at *
  clear ha hb
  cases s
  · skip
    go_enter Tryz.func7, Tryz.ntmps7
    go_wp2_with fail
    refine (H0.out _).mono ?_
    rintro e y96 ⟨rfl, hw96⟩
    have hw96 := hw96.symm
    subst hw96
    go_wp2_with fail
    refine (HA.out _).mono ?_
    rintro e y97 ⟨rfl, hw97⟩
    have hw97 := hw97.symm
    subst hw97
    go_wp2_with fail
    refine (HB.out _).mono ?_
    rintro e y98 ⟨rfl, hw98⟩
    have hw98 := hw98.symm
    subst hw98
    go_wp2_with fail
    refine (rtruth_any _ _).mono ?_
    rintro e y99 ⟨rfl, hw99⟩
    have hw99 := hw99.symm
    subst hw99
    go_wp2_with fail
    go_ret
    exact ⟨rfl, Below.refl _ _⟩
  · skip
    go_enter Tryz.func7, Tryz.ntmps7
    go_wp2_with fail
    refine (H0.out _).mono ?_
    rintro e y100 ⟨rfl, hw100⟩
    have hw100 := hw100.symm
    subst hw100
    go_wp2_with fail
    refine (HA.out _).mono ?_
    rintro e y101 ⟨rfl, hw101⟩
    have hw101 := hw101.symm
    subst hw101
    go_wp2_with fail
    refine (rtruth_any _ _).mono ?_
    rintro e y102 ⟨rfl, hw102⟩
    have hw102 := hw102.symm
    subst hw102
    go_wp2_with fail
    go_ret
    exact ⟨rfl, Below.refl _ _⟩
set_option maxRecDepth 100000 in
set_option maxHeartbeats 2000000 in
theorem Bin_no (op : Int) (a b : Nat) (w : World) (h1 : op ≠ 1) (h2 : op ≠ 2) (h3 : op ≠ 3) (h4 : op ≠ 4) (h5 : op ≠ 5) (h6 : op ≠ 6) (h7 : op ≠ 7) (h8 : op ≠ 8) (h9 : op ≠ 9) (h10 : op ≠ 10) (h11 : op ≠ 11) (h12 : op ≠ 12) (h13 : op ≠ 13) (h14 : op ≠ 14) : Calls Tryz.prog 6 #[.int .i64 op, .int .u64 a, .int .u64 b] w fun e w' => e = .returned (.int .u64 (9221120237041090560 : Nat)) ∧ Below w.heap.size w w' := by
  have e1 : ((op : Int) == 1) = false := by simpa using h1
  have e2 : ((op : Int) == 2) = false := by simpa using h2
  have e3 : ((op : Int) == 3) = false := by simpa using h3
  have e4 : ((op : Int) == 4) = false := by simpa using h4
  have e5 : ((op : Int) == 5) = false := by simpa using h5
  have e6 : ((op : Int) == 6) = false := by simpa using h6
  have e7 : ((op : Int) == 7) = false := by simpa using h7
  have e8 : ((op : Int) == 8) = false := by simpa using h8
  have e9 : ((op : Int) == 9) = false := by simpa using h9
  have e10 : ((op : Int) == 10) = false := by simpa using h10
  have e11 : ((op : Int) == 11) = false := by simpa using h11
  have e12 : ((op : Int) == 12) = false := by simpa using h12
  have e13 : ((op : Int) == 13) = false := by simpa using h13
  have e14 : ((op : Int) == 14) = false := by simpa using h14
  clear h1 h2 h3 h4 h5 h6 h7 h8 h9 h10 h11 h12 h13 h14
  go_enter Tryz.func6, Tryz.ntmps6
  go_wp2_with fail
  go_ret
  exact ⟨rfl, Below.refl _ _⟩
set_option maxRecDepth 100000 in
set_option maxHeartbeats 2000000 in
theorem rBin_no (op : Int) (a b : Nat) (w : World) (ha : a < 18446744073709551616) (hb : b < 18446744073709551616) (h1 : op ≠ 1) (h2 : op ≠ 2) (h3 : op ≠ 3) (h4 : op ≠ 4) (h5 : op ≠ 5) (h6 : op ≠ 6) (h7 : op ≠ 7) (h8 : op ≠ 8) (h9 : op ≠ 9) (h10 : op ≠ 10) (h11 : op ≠ 11) (h12 : op ≠ 12) (h13 : op ≠ 13) (h14 : op ≠ 14) : Calls Tryz.prog 7 #[.int .i64 op, .int .u64 a, .int .u64 b] w fun e w' => e = .returned (.int .u64 (9221120237041090560 : Nat)) ∧ Below w.heap.size w w' := by
  have H0 := fhide (fun w : World => rCompare64 a b w ha hb)
  generalize cmpI (ord64 a b) = cc at *
  generalize (ord64 a b).isSome = ss at *
  clear ha hb
  have n5 : ((op : Int) != 5) = true := by simpa using h5
  have n6 : ((op : Int) != 6) = true := by simpa using h6
  have e1 : ((op : Int) == 1) = false := by simpa using h1
  have e2 : ((op : Int) == 2) = false := by simpa using h2
  have e3 : ((op : Int) == 3) = false := by simpa using h3
  have e4 : ((op : Int) == 4) = false := by simpa using h4
  have e5 : ((op : Int) == 5) = false := by simpa using h5
  have e6 : ((op : Int) == 6) = false := by simpa using h6
  have e7 : ((op : Int) == 7) = false := by simpa using h7
  have e8 : ((op : Int) == 8) = false := by simpa using h8
  have e9 : ((op : Int) == 9) = false := by simpa using h9
  have e10 : ((op : Int) == 10) = false := by simpa using h10
  have e11 : ((op : Int) == 11) = false := by simpa using h11
  have e12 : ((op : Int) == 12) = false := by simpa using h12
  have e13 : ((op : Int) == 13) = false := by simpa using h13
  have e14 : ((op : Int) == 14) = false := by simpa using h14
  clear h1 h2 h3 h4 h5 h6 h7 h8 h9 h10 h11 h12 h13 h14
  cases ss
  all_goals
    go_enter Tryz.func7, Tryz.ntmps7
    go_wp2_with fail
    refine (H0.out _).mono ?_
    rintro e y103 ⟨rfl, hw103⟩
    have hw103 := hw103.symm
    subst hw103
    go_wp2_with fail
    go_ret
    exact ⟨rfl, Below.refl _ _⟩
theorem bin_both (op : Int) (a b : Nat) (ha : a < 18446744073709551616) (hb : b < 18446744073709551616) : ∃ v : Nat, (∀ w : World, Calls Tryz.prog 6 #[.int .i64 op, .int .u64 a, .int .u64 b] w fun e w' => e = .returned (.int .u64 (v : Int)) ∧ Below w.heap.size w w') ∧ (∀ w : World, Calls Tryz.prog 7 #[.int .i64 op, .int .u64 a, .int .u64 b] w fun e w' => e = .returned (.int .u64 (v : Int)) ∧ Below w.heap.size w w') := by
  by_cases h1 : op = 1
  · subst h1; exact ⟨_, fun w => Bin_1 a b w ha hb, fun w => rBin_1 a b w ha hb⟩
  by_cases h2 : op = 2
  · subst h2; exact ⟨_, fun w => Bin_2 a b w ha hb, fun w => rBin_2 a b w ha hb⟩
  by_cases h3 : op = 3
  · subst h3; exact ⟨_, fun w => Bin_3 a b w ha hb, fun w => rBin_3 a b w ha hb⟩
  by_cases h4 : op = 4
  · subst h4; exact ⟨_, fun w => Bin_4 a b w ha hb, fun w => rBin_4 a b w ha hb⟩
  by_cases h5 : op = 5
  · subst h5; exact ⟨_, fun w => Bin_5 a b w ha hb, fun w => rBin_5 a b w ha hb⟩
  by_cases h6 : op = 6
  · subst h6; exact ⟨_, fun w => Bin_6 a b w ha hb, fun w => rBin_6 a b w ha hb⟩
  by_cases h7 : op = 7
  · subst h7; exact ⟨_, fun w => Bin_7 a b w ha hb, fun w => rBin_7 a b w ha hb⟩
  by_cases h8 : op = 8
  · subst h8; exact ⟨_, fun w => Bin_8 a b w ha hb, fun w => rBin_8 a b w ha hb⟩
  by_cases h9 : op = 9
  · subst h9; exact ⟨_, fun w => Bin_9 a b w ha hb, fun w => rBin_9 a b w ha hb⟩
  by_cases h10 : op = 10
  · subst h10; exact ⟨_, fun w => Bin_10 a b w ha hb, fun w => rBin_10 a b w ha hb⟩
  by_cases h11 : op = 11
  · subst h11; exact ⟨_, fun w => Bin_11 a b w ha hb, fun w => rBin_11 a b w ha hb⟩
  by_cases h12 : op = 12
  · subst h12; exact ⟨_, fun w => Bin_12 a b w ha hb, fun w => rBin_12 a b w ha hb⟩
  by_cases h13 : op = 13
  · subst h13; exact ⟨_, fun w => Bin_13 a b w ha hb, fun w => rBin_13 a b w ha hb⟩
  by_cases h14 : op = 14
  · subst h14; exact ⟨_, fun w => Bin_14 a b w ha hb, fun w => rBin_14 a b w ha hb⟩
  exact ⟨_, fun w => Bin_no op a b w h1 h2 h3 h4 h5 h6 h7 h8 h9 h10 h11 h12 h13 h14, fun w => rBin_no op a b w ha hb h1 h2 h3 h4 h5 h6 h7 h8 h9 h10 h11 h12 h13 h14⟩

end Go.Proofs.YtmkploknoohliaaGreat

/- FloatOps: what comes in, its walk. -/
namespace Go.Proofs.YtmkploknoohliaaGreat
open Go.RowKit
open Flt
set_option linter.unusedVariables false
set_option linter.unusedSimpArgs false

theorem list3' {α : Type} {l : List α} (h : l.length = 3) : ∃ a b c, l = [a, b, c] := by
  match l, h with
  | [a, b, c], _ => exact ⟨a, b, c, rfl⟩
theorem cells_some {w : World} {base : Nat} {a : Addr} {k : Nat} {cs : List Value} (h : w.cells? base a k = some cs) : (List.range k).mapM (fun j => w.cell? (a.add j)) = some cs := by
  unfold World.cells? at h
  split at h
  · exact h
  · cases h

open Go.ChangeShapes Go.WideShapes Go.Deep Go.Joins
def IsOps (w : World) (a : Option Addr) (len : Nat) : Prop :=
  len ≤ 9223372036854775807 ∧ (0 < len → ∃ g o, a = some ⟨g, o, none⟩ ∧ g < w.heap.size ∧ ∀ i, i < len → ∃ (A : Int) (B C : Nat), B < 18446744073709551616 ∧ C < 18446744073709551616 ∧ w.cell? ⟨g, o + i * 3, none⟩ = some (.int .i64 A) ∧ w.cell? ⟨g, o + i * 3 + 1, none⟩ = some (.int .u64 B) ∧ w.cell? ⟨g, o + i * 3 + 2, none⟩ = some (.int .u64 C))

theorem cells_op : Tryz.prog.cellsOf 26 = 3 := by kernel_rfl

section
variable {H : Type} {enc : TypeId × Value → H} {w : World} {base : Nat} {spare : Nat → Bool} {held : Bool}
theorem op_cells {n : Nat} {cs : List Value} {y : DataW H × List MemPlace} (h : DataW.trod enc Tryz.prog w base spare held n 26 cs = some y) :
    ∃ (A : Int) (B : Nat) (C : Nat), cs = [.int .i64 A, .int .u64 (B : Int), .int .u64 (C : Int)] ∧ B < 18446744073709551616 ∧ C < 18446744073709551616 := by
  obtain ⟨y0, y1, y2, k, hx, hl, h0, h1, h2⟩ := trod_struct3 Tryz.underlying26 h
  have cu : Tryz.prog.cellsOf 23 = 1 := by kernel_rfl
  have ci : Tryz.prog.cellsOf 3 = 1 := by kernel_rfl
  rw [cells_op] at hl
  obtain ⟨v0, v1, v2, rfl⟩ := list3' hl
  simp only [cu, ci, List.drop_zero, List.drop_succ_cons, List.take_succ_cons, List.take_zero] at h0 h1 h2
  obtain ⟨d0, e0, _, w0⟩ := DataW.trod_int Tryz.underlying3 h0
  have b0 := bounds_i64 w0
  obtain ⟨d1, e1, _, w1⟩ := DataW.trod_int Tryz.underlying23 h1
  have b1 := bounds_u64 w1
  obtain ⟨d2, e2, _, w2⟩ := DataW.trod_int Tryz.underlying23 h2
  have b2 := bounds_u64 w2
  simp only [List.cons.injEq, and_true] at e0 e1 e2
  subst e0 e1 e2
  refine ⟨d0, d1.toNat, d2.toNat, ?_, by omega, by omega⟩
  rw [Int.toNat_of_nonneg b1.1, Int.toNat_of_nonneg b2.1]

theorem open_op {fuel : Nat} {v : Value} {y : DataW H × List MemPlace} (h : DataW.trod enc Tryz.prog w base spare held fuel 22 [v] = some y) : ∃ a len cap, v = .slice a len cap ∧ IsOps w a len := by
  rcases open_slice Tryz.underlying22 h with ⟨h0, _⟩ | ⟨ad, len, cap, mm, n', D, Pl, hcs, _, hlc, hcm, hmm, _, hx⟩
  · simp only [List.cons.injEq, and_true] at h0
    exact ⟨none, 0, 0, h0, by omega, fun h => by omega⟩
  · simp only [List.cons.injEq, and_true] at hcs
    unfold maxLen at hcm
    refine ⟨some ad, len, cap, hcs, by omega, fun h0 => ?_⟩
    have hlm : len ≤ mm := by rw [hmm]; split <;> omega
    have one : ∀ i, i < len → ∃ (A : Int) (B : Nat) (C : Nat), (w.cell? ((ad.add (i * 3)).add 0) = some (.int .i64 A) ∧ w.cell? ((ad.add (i * 3)).add 1) = some (.int .u64 (B : Int)) ∧ w.cell? ((ad.add (i * 3)).add 2) = some (.int .u64 (C : Int))) ∧ B < 18446744073709551616 ∧ C < 18446744073709551616 := by
      intro i hi
      obtain ⟨cs', hc, ht⟩ := hx i (by omega)
      obtain ⟨A, B, C, rfl, hb⟩ := op_cells ht
      rw [cells_op] at hc
      refine ⟨A, B, C, ?_, hb⟩
      have hc := cells_some hc
      rw [show List.range 3 = [0, 1, 2] from rfl] at hc
      simp only [List.mapM_cons, List.mapM_nil, Option.bind_eq_bind, Option.bind_eq_some_iff, Option.pure_def, Option.some.injEq, List.cons.injEq, exists_eq_left'] at hc
      obtain ⟨a0, h0, l0, ⟨a1, h1, l1, ⟨a2, h2, l2, hl2, rfl⟩, rfl⟩, e0, hr⟩ := hc
      simp only [List.cons.injEq] at hr
      obtain ⟨e1, e2, _⟩ := hr
      subst e0 e1 e2
      exact ⟨h0, h1, h2⟩
    obtain ⟨b, off, spot⟩ := ad
    obtain ⟨_, _, _, ⟨h00, _⟩, _⟩ := one 0 h0
    have hspot : spot = none := by simpa [Addr.add] using World.cell?_spot h00
    subst hspot
    refine ⟨b, off, rfl, ?_, fun j hj => ?_⟩
    · have := block_lt_of_cell h00
      simpa [Addr.add] using this
    · obtain ⟨A, B, C, ⟨k0, k1, k2⟩, q1, q2⟩ := one j hj
      simp only [Addr.add_mid, Nat.add_zero] at k0 k1 k2
      exact ⟨A, B, C, q1, q2, k0, k1, k2⟩
end


set_option maxRecDepth 100000 in
set_option maxHeartbeats 8000000 in
theorem ops_law (a0 : Option Addr) (len0 cap0 : Nat) (w : World) (h : IsOps w a0 len0) :
    Calls Tryz.prog 3 #[.slice a0 len0 cap0] w fun e w' => e = .returned (.bool true) ∧ Below w.heap.size w w' := by
  obtain ⟨hlen, hcell⟩ := h
  have HC := fhide hcell
  clear hcell
  go_enter Tryz.func3, Tryz.ntmps3
  go_wp2_with fail
  go_loopw [3] (fun t3 wr => ∃ i : Nat, i ≤ len0 ∧ i ≤ 2000 ∧ t3 = .int .i64 i ∧ Hid (Below w.heap.size w wr)) (fun t3 _ => 2000 - (intOf t3).toNat)
  case atStart => exact ⟨0, by omega, by omega, rfl, Below.refl _ _⟩
  case round =>
    obtain ⟨i, hi, hi20, rfl, HI⟩ := hrel
    by_cases hgo : i < len0 ∧ i < 2000
    · have g1 : (i : Int) < (len0 : Int) := by omega
      have g2 : (i : Int) < 2000 := by omega
      obtain ⟨g, o, rfl, hg, hj⟩ := HC.out (by omega)
      obtain ⟨A, B, C, hB, hC, cA, cB, cC⟩ := hj i hgo.1
      obtain ⟨u, U1, U2⟩ := un_both A B hB
      obtain ⟨v, V1, V2⟩ := bin_both A B C hB hC
      have HU1 := fhide U1
      have HU2 := fhide U2
      have HV1 := fhide V1
      have HV2 := fhide V2
      have cA0 : wr.drew.cell? ⟨g, o + i * 3, none⟩ = some (.int .i64 A) := by
        show wr.cell? ⟨g, o + i * 3, none⟩ = _
        rw [HI.out.cell (p := ⟨g, o + i * 3, none⟩) hg]; exact cA
      have cB0 : wr.drew.cell? ⟨g, o + i * 3 + 1, none⟩ = some (.int .u64 B) := by
        show wr.cell? ⟨g, o + i * 3 + 1, none⟩ = _
        rw [HI.out.cell (p := ⟨g, o + i * 3 + 1, none⟩) hg]; exact cB
      have cC0 : wr.drew.cell? ⟨g, o + i * 3 + 2, none⟩ = some (.int .u64 C) := by
        show wr.cell? ⟨g, o + i * 3 + 2, none⟩ = _
        rw [HI.out.cell (p := ⟨g, o + i * 3 + 2, none⟩) hg]; exact cC
      have HI := fhide HI.out.drew
      clear hj hgo cA cB cC hB hC U1 U2 V1 V2
      go_wp2_with fail
      go_region_held3 (fun w' => w'.cell? ⟨g, o + i * 3, none⟩ = some (.int .i64 A) ∧ w'.cell? ⟨g, o + i * 3 + 1, none⟩ = some (.int .u64 B) ∧ w'.cell? ⟨g, o + i * 3 + 2, none⟩ = some (.int .u64 C)) (exact ⟨cA0, cB0, cC0⟩)
        (first | (go_at_call 4; go_must (refine (HU1.out _).mono ?_); rintro _ w5 ⟨rfl, B5⟩; have HI := fhide (HI.out.trans (B5.mono HI.out.size)); have cC0 : w5.cell? ⟨g, o + i * 3 + 2, none⟩ = some (.int .u64 C) := (by rw [B5.cell (p := ⟨g, o + i * 3 + 2, none⟩) (block_lt_of_cell cC0)]; exact cC0); have cB0 : w5.cell? ⟨g, o + i * 3 + 1, none⟩ = some (.int .u64 B) := (by rw [B5.cell (p := ⟨g, o + i * 3 + 1, none⟩) (block_lt_of_cell cB0)]; exact cB0); have cA0 : w5.cell? ⟨g, o + i * 3, none⟩ = some (.int .i64 A) := (by rw [B5.cell (p := ⟨g, o + i * 3, none⟩) (block_lt_of_cell cA0)]; exact cA0); clear B5) | (go_at_call 5; go_must (refine (HU2.out _).mono ?_); rintro _ w5 ⟨rfl, B5⟩; have HI := fhide (HI.out.trans (B5.mono HI.out.size)); have cC0 : w5.cell? ⟨g, o + i * 3 + 2, none⟩ = some (.int .u64 C) := (by rw [B5.cell (p := ⟨g, o + i * 3 + 2, none⟩) (block_lt_of_cell cC0)]; exact cC0); have cB0 : w5.cell? ⟨g, o + i * 3 + 1, none⟩ = some (.int .u64 B) := (by rw [B5.cell (p := ⟨g, o + i * 3 + 1, none⟩) (block_lt_of_cell cB0)]; exact cB0); have cA0 : w5.cell? ⟨g, o + i * 3, none⟩ = some (.int .i64 A) := (by rw [B5.cell (p := ⟨g, o + i * 3, none⟩) (block_lt_of_cell cA0)]; exact cA0); clear B5) | (go_at_call 6; go_must (refine (HV1.out _).mono ?_); rintro _ w5 ⟨rfl, B5⟩; have HI := fhide (HI.out.trans (B5.mono HI.out.size)); have cC0 : w5.cell? ⟨g, o + i * 3 + 2, none⟩ = some (.int .u64 C) := (by rw [B5.cell (p := ⟨g, o + i * 3 + 2, none⟩) (block_lt_of_cell cC0)]; exact cC0); have cB0 : w5.cell? ⟨g, o + i * 3 + 1, none⟩ = some (.int .u64 B) := (by rw [B5.cell (p := ⟨g, o + i * 3 + 1, none⟩) (block_lt_of_cell cB0)]; exact cB0); have cA0 : w5.cell? ⟨g, o + i * 3, none⟩ = some (.int .i64 A) := (by rw [B5.cell (p := ⟨g, o + i * 3, none⟩) (block_lt_of_cell cA0)]; exact cA0); clear B5) | (go_at_call 7; go_must (refine (HV2.out _).mono ?_); rintro _ w5 ⟨rfl, B5⟩; have HI := fhide (HI.out.trans (B5.mono HI.out.size)); have cC0 : w5.cell? ⟨g, o + i * 3 + 2, none⟩ = some (.int .u64 C) := (by rw [B5.cell (p := ⟨g, o + i * 3 + 2, none⟩) (block_lt_of_cell cC0)]; exact cC0); have cB0 : w5.cell? ⟨g, o + i * 3 + 1, none⟩ = some (.int .u64 B) := (by rw [B5.cell (p := ⟨g, o + i * 3 + 1, none⟩) (block_lt_of_cell cB0)]; exact cB0); have cA0 : w5.cell? ⟨g, o + i * 3, none⟩ = some (.int .i64 A) := (by rw [B5.cell (p := ⟨g, o + i * 3, none⟩) (block_lt_of_cell cA0)]; exact cA0); clear B5))
      go_wp2_with fail
      go_roundw
      case rel => exact ⟨i + 1, by omega, by omega, by go_num, HI⟩
      case measure => simp [intOf]; omega
    · by_cases hl : i < len0
      · have g1 : (i : Int) < (len0 : Int) := by omega
        have g2 : ¬ (i : Int) < 2000 := by omega
        go_wp2_with fail
        refine (wakes_any _).mono ?_
        rintro e v14 ⟨rfl, hb14⟩
        go_wp2_with fail
        go_ret
        exact ⟨rfl, HI.out.trans (hb14.mono HI.out.size)⟩
      · have g1 : ¬ (i : Int) < (len0 : Int) := by omega
        go_wp2_with fail
        refine (wakes_any _).mono ?_
        rintro e v14 ⟨rfl, hb14⟩
        go_wp2_with fail
        go_ret
        exact ⟨rfl, HI.out.trans (hb14.mono HI.out.size)⟩
end Go.Proofs.YtmkploknoohliaaGreat

namespace Go.Proofs.YtmkploknoohliaaGreat.floatOps
open Go.ChangeShapes Go.WideShapes Go.ChangeAt Go.RowKit
set_option linter.unusedVariables false

theorem own : ownKnob Tryz.prog.godebug = none := by kernel_rfl
theorem laidOut : laidOutB Tryz.prog = true := by kernel_rfl

set_option maxRecDepth 100000 in
theorem lifted (os : Os) (started : os.Started) (H : Type) (enc : TypeId × Value → H) :
    ReturnsInHanded {} Tryz.checked os 3 .any (Rows.floatOpsSpec.pre6 enc Tryz.prog Tryz.f3 Rows.floatOpsRow.domain false) (Rows.floatOpsSpec.post enc Tryz.prog Tryz.f3 false true false false) := by
  refine returnsInHanded_of_change (C := Tryz.checked) own started (by kernel_rfl) Tryz.func3
    (ChangeSpec.witness6 (enc := enc) (C := Tryz.checked) false ⟨#[], #[.slice none 0 0], []⟩ 8 (by kernel_rfl) (by kernel_rfl) (by kernel_rfl) (by kernel_rfl)) ?_
  intro W base args ds gs before hval0 hW hcnd _
  have hval : ∀ (j : Nat) t v, Tryz.f3.params[j]? = some t → args[j]? = some v → Value.okWide Tryz.prog W .any base t v := hval0
  have hW' := hW
  obtain ⟨p, q, hA0, hV, rfl, hfz, hnd⟩ := hW
  have hA : DataW.TrodAll enc Tryz.prog W 0 (fun _ => true) true Tryz.f3.params.toList args.toList ds p := hA0
  rw [Tryz.params3] at hA hval
  obtain ⟨v0, vs0, d0, ds0, p0, q0, hargs, rfl, rfl, h0, r0⟩ := trodAll_cons hA
  obtain ⟨rfl, rfl, rfl⟩ := trodAll_nil r0
  obtain rfl : args = #[v0] := by cases args; simp_all
  obtain ⟨rfl, rfl⟩ := trodVars_none hV
  have k0 := h0
  have lt0 : ∀ x ∈ p0, x.block < W.heap.size := by obtain ⟨m, hm⟩ := k0; exact DataW.trod_lt m _ _ _ hm
  obtain ⟨aL, nL, cL, rfl⟩ := okWide_slice Tryz.underlying22 (hval 0 22 v0 rfl rfl)
  have w0 : IsOps W aL nL := by
    obtain ⟨fu, hf⟩ := h0
    obtain ⟨_, _, _, e, hp⟩ := open_op (v := .slice aL nL cL) (by simpa [Value.cells] using hf)
    cases e
    exact hp
  clear hA0 hval0
  refine (ops_law aL nL cL W w0).mono fun e W' ⟨he, bel⟩ => ?_
  subst he
  exact ⟨_, rfl, _, _, _, [], _, [], hW', trodAll_mk1 (shut_bool Tryz.underlying4 _), (trodAll_cons_mk (Below.trod laidOut (by kernel_rfl) (of_decide_eq_true (by kernel_rfl)) k0 bel lt0) trodAll_mk0), rfl, bel.frame _, fun h => by cases h⟩

theorem over : Rows.floatOpsRow.holds Tryz.pinned (OpenSpec.ofChange Rows.floatOpsSpec) :=
  OpenClaim.holds_of_wide 3 Tryz.f3 rfl rfl rfl rfl rfl rfl rfl ⟨rfl, rfl, rfl, rfl, rfl⟩ rfl rfl rfl rfl rfl (by kernel_rfl) Tryz.func3 (by kernel_rfl)
    (of_decide_eq_true (by kernel_rfl)) (by unfold Func.isWrapper; first | (rw [if_pos (by decide +kernel)]; kernel_rfl) | (rw [if_neg (by decide +kernel)]; exact ⟨rfl, rfl⟩))
    (fun os started H enc _ => lifted os started H enc)

end Go.Proofs.YtmkploknoohliaaGreat.floatOps
namespace Go.Proofs.YtmkploknoohliaaGreat

theorem floatOps_holds : Rows.FloatOpsSaid := floatOps.over
#print axioms floatOps_holds
end Go.Proofs.YtmkploknoohliaaGreat
