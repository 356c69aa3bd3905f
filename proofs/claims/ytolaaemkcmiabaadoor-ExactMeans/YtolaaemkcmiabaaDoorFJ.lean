/- Add, Sub, Mul, Div, Fma, Root: of 64 bits. -/
import Derived.Test.YtolaaemkcmiabaaDoorFG
/- value, Cmp: of 64 bits. -/
namespace Go.Proofs.YtolaaemkcmiabaaDoor
open Go.RowKit
set_option linter.unusedVariables false
set_option linter.unusedSimpArgs false

theorem frombits64 (b : Nat) (w : World) : (callFunc 70 #[.int .u64 b]).run Tryd.prog w = .ok (.value (.float .f64 b)) w := by
  rw [run_callFunc_extern Tryd.func70 (by kernel_rfl) (by kernel_rfl) (by kernel_rfl) (e := Extern.MathFloatBits.float64frombits) (by kernel_rfl)]
  rfl

set_option maxRecDepth 100000 in
theorem value64_any (b : Nat) (w : World) : Calls Tryd.prog 45 #[.int .u64 b] w fun e w' => e = .returned (.float .f64 b) ∧ w' = w := by
  have hf := frombits64 b
  go_enter Tryd.func45, Tryd.ntmps45
  go_wp2_with fail
  refine (wide64_any _).mono ?_
  rintro e w1 ⟨rfl, rfl⟩
  go_wp2_with (simp only [hf])
  go_ret
  exact ⟨rfl, rfl⟩

end Go.Proofs.YtolaaemkcmiabaaDoor

/- IsNaN, pattern, Add and its kin: of 64 bits. -/
namespace Go.Proofs.YtolaaemkcmiabaaDoor
open Go.RowKit
open Flt
set_option linter.unusedVariables false
set_option linter.unusedSimpArgs false

theorem rg64 (x : Nat) : rg Ieee.double x = x % 9223372036854775808 := rfl
theorem inf64 : Ieee.double.infRung = 9218868437227405312 := by decide +kernel
theorem rg32 (x : Nat) : rg Ieee.single x = x % 2147483648 := rfl
theorem inf32 : Ieee.single.infRung = 2139095040 := by decide +kernel

theorem order_self64 (x : Nat) : Ieee.double.order x x = if 9218868437227405312 < x % 9223372036854775808 then none else some .eq := by
  by_cases h : 9218868437227405312 < x % 9223372036854775808
  · rw [if_pos h]; exact order_nan _ (by decide) _ _ (.inl (by rw [rg64, inf64]; exact h))
  · rw [if_neg h, order_all _ (by decide) _ _ (by rw [rg64, inf64]; omega) (by rw [rg64, inf64]; omega), cmp_eq]

theorem IsNaN_any (x : Nat) (w : World) : Calls Tryd.prog 46 #[.float .f64 x] w fun e w' => e = .returned (.bool (decide (9218868437227405312 < x % 9223372036854775808))) ∧ w' = w := by
  have ho : FloatKind.f64.format.order x x = if 9218868437227405312 < x % 9223372036854775808 then none else some .eq := order_self64 x
  by_cases h : 9218868437227405312 < x % 9223372036854775808
  · rw [if_pos h] at ho
    rw [decide_eq_true h]
    go_enter Tryd.func46, Tryd.ntmps46
    go_wp2_with (simp only [ho])
    go_ret
    exact ⟨rfl, rfl⟩
  · rw [if_neg h] at ho
    rw [decide_eq_false h]
    go_enter Tryd.func46, Tryd.ntmps46
    go_wp2_with (simp only [ho])
    go_ret
    exact ⟨rfl, rfl⟩

theorem tobits64 (b : Nat) (w : World) : (callFunc 72 #[.float .f64 b]).run Tryd.prog w = .ok (.value (.int .u64 b)) w := by
  rw [run_callFunc_extern Tryd.func72 (by kernel_rfl) (by kernel_rfl) (by kernel_rfl) (e := Extern.MathFloatBits.float64bits) (by kernel_rfl)]
  rfl

/-- What is told of a float64. -/
def pat64 (x : Nat) : Nat := if 9218868437227405312 < x % 9223372036854775808 then 9221120237041090560 else x
theorem pat64_lt (x : Nat) (hx : x < 18446744073709551616) : pat64 x < 18446744073709551616 := by unfold pat64; split <;> omega
theorem pat64_num (x : Nat) (hx : x % 9223372036854775808 ≤ 9218868437227405312) : pat64 x = x := if_neg (by omega)
theorem pat64_nan (x : Nat) (hx : 9218868437227405312 < x % 9223372036854775808) : pat64 x = 9221120237041090560 := if_pos hx


/-- Some NaN. -/
def IsNan64 (x : Nat) : Prop := 9218868437227405312 < x % 9223372036854775808 ∧ x < 18446744073709551616

theorem run_nan (op : BinOp) (hop : op = .add ∨ op = .sub ∨ op = .mul ∨ op = .quo) (t : TypeId) (x y : Nat) (h : floatBits op .f64 x y = none) (w : World) :
    ∃ nb, IsNan64 nb ∧ (binOp op t (.float .f64 x) (.float .f64 y)).run Tryd.prog w = .ok (.float .f64 nb) w.drew := by
  refine ⟨Question.cut (.nanBits .f64 x y) (w.tape w.drawn (.nanBits .f64 x y)), ?_, ?_⟩
  · generalize w.tape w.drawn (.nanBits .f64 x y) = t
    show 9218868437227405312 < (t % 2 * 2 ^ 63 + 0x7ff0000000000000 + 1 + t / 2 % (2 ^ 52 - 1)) % 9223372036854775808 ∧ (t % 2 * 2 ^ 63 + 0x7ff0000000000000 + 1 + t / 2 % (2 ^ 52 - 1)) < 18446744073709551616
    have h1 : t / 2 % (2 ^ 52 - 1) < 2 ^ 52 - 1 := Nat.mod_lt _ (by omega)
    have h2 : t % 2 < 2 := Nat.mod_lt _ (by omega)
    generalize t / 2 % (2 ^ 52 - 1) = a at *
    generalize t % 2 = b at *
    omega
  · unfold floatBits at h
    rcases hop with rfl | rfl | rfl | rfl <;> simp only at h <;> simp [binOp, Op.floatArith, h, Question.forced]
end Go.Proofs.YtolaaemkcmiabaaDoor

namespace Go.Proofs.YtolaaemkcmiabaaDoor
open Go.RowKit
open Flt
set_option linter.unusedVariables false
set_option linter.unusedSimpArgs false

namespace Flt
open Ieee
theorem rg_word (f : Format) (neg : Bool) (r : Nat) (h : r < f.signWeight) : rg f (f.word neg r) = r := by
  unfold rg Format.word
  cases neg
  · exact Nat.mod_eq_of_lt h
  · show (f.signWeight + r) % f.signWeight = r
    rw [Nat.add_mod_left]; exact Nat.mod_eq_of_lt h
theorem sg_word (f : Format) (neg : Bool) (r : Nat) (h : r < f.signWeight) : sg f (f.word neg r) = neg := by
  unfold sg Format.word
  cases neg
  · show (r / f.signWeight % 2 == 1) = false
    rw [Nat.div_eq_of_lt h]; rfl
  · show ((f.signWeight + r) / f.signWeight % 2 == 1) = true
    rw [Nat.add_div_left _ (signWeight_pos f), Nat.div_eq_of_lt h]; rfl

theorem rg_write (f : Format) (d : Datum) (h : d.isNaN = false) : rg f (f.write d) ≤ f.infRung := by
  cases d with
  | number neg mag place =>
    show rg f (f.nearest neg mag place) ≤ _
    rw [nearest_rnd, rg_word f _ _ (Nat.lt_of_le_of_lt (Nat.min_le_right ..) f.infRung_lt)]
    exact Nat.min_le_right ..
  | infinity neg =>
    show rg f (f.word neg f.infRung) ≤ _
    rw [rg_word f _ _ f.infRung_lt]; exact Nat.le_refl _
  | nan neg t => simp [Datum.isNaN] at h

theorem sum_num {x y d : Datum} (h : x.sum y = some d) : d.isNaN = false := by
  cases x <;> cases y <;> simp only [Datum.sum] at h <;> try (cases h; done)
  · cases h; rfl
  · cases h; rfl
  · cases h; rfl
  · split at h
    · cases h; rfl
    · cases h
theorem product_num {x y d : Datum} (h : x.product y = some d) : d.isNaN = false := by
  cases x <;> cases y <;> simp only [Datum.product] at h <;> try (cases h; done)
  · cases h; rfl
  · split at h
    · cases h
    · cases h; rfl
  · split at h
    · cases h
    · cases h; rfl
  · cases h; rfl
theorem quotient_num {n : Nat} {x y d : Datum} (h : x.quotient n y = some d) : d.isNaN = false := by
  cases x <;> cases y <;> simp only [Datum.quotient] at h <;> try (cases h; done)
  · split at h
    · split at h
      · cases h
      · cases h; rfl
    · cases h; rfl
  · cases h; rfl
  · cases h; rfl
theorem root_num {n : Nat} {x d : Datum} (h : x.root n = some d) : d.isNaN = false := by
  cases x <;> simp only [Datum.root] at h <;> try (cases h; done)
  · split at h
    · cases h; rfl
    · split at h
      · cases h
      · cases h; rfl
  · split at h
    · cases h
    · cases h; rfl
end Flt

theorem map_num {o : Option Ieee.Datum} {r : Nat} (h : o.map Ieee.double.write = some r) (hn : ∀ d, o = some d → d.isNaN = false) : r % 9223372036854775808 ≤ 9218868437227405312 ∧ r < 18446744073709551616 := by
  cases o with
  | none => cases h
  | some d =>
    cases h
    have := rg_write Ieee.double d (hn d rfl)
    rw [rg64, inf64] at this
    exact ⟨this, Ieee.double.write_lt d⟩

/-- What is told of an operation's bits. -/
def told64 : Option Nat → Nat
  | some r => r
  | none => 9221120237041090560

theorem fb_num {op : BinOp} {a b r : Nat} (h : floatBits op .f64 a b = some r) : r % 9223372036854775808 ≤ 9218868437227405312 ∧ r < 18446744073709551616 := by
  unfold floatBits at h
  split at h
  · exact map_num h fun d => sum_num
  · exact map_num h fun d => sum_num
  · exact map_num h fun d => product_num
  · exact map_num h fun d => quotient_num
  · cases h




set_option maxRecDepth 100000 in
theorem Signbit_any (x : Nat) (w : World) (hx : x < 18446744073709551616) : Calls Tryd.prog 48 #[.float .f64 x] w fun e w' => e = .returned (.bool (decide (9223372036854775808 ≤ x))) ∧ w' = w := by
  have ht := tobits64 x
  by_cases h : 9223372036854775808 ≤ x
  · obtain ⟨y, hy⟩ : ∃ y : Int, (x : Int) - 18446744073709551616 = y := ⟨_, rfl⟩
    have hw : wrap64 (x : Int) = y := by unfold wrap64; omega
    have hw2 : IntKind.i64.wrap (x : Int) = y := by rw [IntKind.wrap_i64]; omega
    have hy0 : y < 0 := by omega
    rw [decide_eq_true h]
    clear h hx hy
    go_enter Tryd.func48, Tryd.ntmps48
    go_wp2_with (simp only [ht, hw, hw2])
    go_ret
    exact ⟨by simp [hy0], rfl⟩
  · have hw : wrap64 (x : Int) = x := by unfold wrap64; omega
    have hw2 : IntKind.i64.wrap (x : Int) = x := by rw [IntKind.wrap_i64]; omega
    rw [decide_eq_false h]
    clear h hx
    go_enter Tryd.func48, Tryd.ntmps48
    go_wp2_with (simp only [ht, hw, hw2])
    go_ret
    exact ⟨by simp, rfl⟩



end Go.Proofs.YtolaaemkcmiabaaDoor
