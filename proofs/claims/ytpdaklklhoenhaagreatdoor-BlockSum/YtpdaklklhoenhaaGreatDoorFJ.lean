/- Add, Sub, Mul, Div, Fma, Root: of 64 bits. -/
import Derived.Test.YtpdaklklhoenhaaGreatDoorU1G
/- value, Cmp: of 64 bits. -/
namespace Go.Proofs.YtpdaklklhoenhaaGreatDoor
open Go.RowKit
set_option linter.unusedVariables false
set_option linter.unusedSimpArgs false

theorem frombits64 (b : Nat) (w : World) : (callFunc 57 #[.int .u64 b]).run Tryz.prog w = .ok (.value (.float .f64 b)) w := by
  rw [run_callFunc_extern Tryz.func57 (by kernel_rfl) (by kernel_rfl) (by kernel_rfl) (e := Extern.MathFloatBits.float64frombits) (by kernel_rfl)]
  rfl

set_option maxRecDepth 100000 in
theorem value64_any (b : Nat) (w : World) : Calls Tryz.prog 35 #[.int .u64 b] w fun e w' => e = .returned (.float .f64 b) ∧ w' = w := by
  have hf := frombits64 b
  go_enter Tryz.func35, Tryz.ntmps35
  go_wp2_with fail
  refine (wide64_any _).mono ?_
  rintro e w1 ⟨rfl, rfl⟩
  go_wp2_with (simp only [hf])
  go_ret
  exact ⟨rfl, rfl⟩

/-- What Cmp tells. -/
def cmpI : Option Ordering → Int
  | some .lt => -1
  | some .gt => 1
  | _ => 0

set_option maxRecDepth 100000 in
set_option maxHeartbeats 1000000 in
theorem Cmp64_any (a b : Nat) (w : World) : Calls Tryz.prog 21 #[.int .u64 a, .int .u64 b] w fun e w' => e = .returned (.tuple #[.int .i64 (cmpI (Ieee.double.order a b)), .bool (Ieee.double.order a b).isSome]) ∧ w' = w := by
  have hk : ∀ o : Option Ordering, o = none ∨ o = some .lt ∨ o = some .eq ∨ o = some .gt := by
    rintro (_ | _ | _ | _) <;> simp
  have hk := hk (Ieee.double.order a b)
  have hd : FloatKind.f64.format.order a b = Ieee.double.order a b := rfl
  generalize Ieee.double.order a b = o at *
  rcases hk with rfl | rfl | rfl | rfl
  all_goals
    go_enter Tryz.func21, Tryz.ntmps21
    go_wp2_with fail
    refine (value64_any _ _).mono ?_
    rintro e w1 ⟨rfl, rfl⟩
    go_wp2_with fail
    refine (value64_any _ _).mono ?_
    rintro e w1 ⟨rfl, rfl⟩
    go_wp2_with (simp only [hd])
    go_ret2
    exact ⟨rfl, rfl⟩
end Go.Proofs.YtpdaklklhoenhaaGreatDoor

/- IsNaN, pattern, Add and its kin: of 64 bits. -/
namespace Go.Proofs.YtpdaklklhoenhaaGreatDoor
open Go.RowKit
open Flt
set_option linter.unusedVariables false
set_option linter.unusedSimpArgs false

theorem rg64 (x : Nat) : rg Ieee.double x = x % 9223372036854775808 := rfl
theorem inf64 : Ieee.double.infRung = 9218868437227405312 := by decide +kernel
theorem rg32 (x : Nat) : rg Ieee.single x = x % 2147483648 := rfl
theorem inf32 : Ieee.single.infRung = 2139095040 := by decide +kernel

theorem order_self64 (x : Nat) : Ieee.double.order x x = if 9218868437227405312 < x % 9223372036854775808 then none else some .eq := by
  by_cases h : 9218868437227405312 < x % 9223372036854775808
  · rw [if_pos h]; exact order_nan _ (by decide) _ _ (.inl (by rw [rg64, inf64]; exact h))
  · rw [if_neg h, order_all _ (by decide) _ _ (by rw [rg64, inf64]; omega) (by rw [rg64, inf64]; omega), cmp_eq]

theorem IsNaN_any (x : Nat) (w : World) : Calls Tryz.prog 60 #[.float .f64 x] w fun e w' => e = .returned (.bool (decide (9218868437227405312 < x % 9223372036854775808))) ∧ w' = w := by
  have ho : FloatKind.f64.format.order x x = if 9218868437227405312 < x % 9223372036854775808 then none else some .eq := order_self64 x
  by_cases h : 9218868437227405312 < x % 9223372036854775808
  · rw [if_pos h] at ho
    rw [decide_eq_true h]
    go_enter Tryz.func60, Tryz.ntmps60
    go_wp2_with (simp only [ho])
    go_ret
    exact ⟨rfl, rfl⟩
  · rw [if_neg h] at ho
    rw [decide_eq_false h]
    go_enter Tryz.func60, Tryz.ntmps60
    go_wp2_with (simp only [ho])
    go_ret
    exact ⟨rfl, rfl⟩

theorem tobits64 (b : Nat) (w : World) : (callFunc 37 #[.float .f64 b]).run Tryz.prog w = .ok (.value (.int .u64 b)) w := by
  rw [run_callFunc_extern Tryz.func37 (by kernel_rfl) (by kernel_rfl) (by kernel_rfl) (e := Extern.MathFloatBits.float64bits) (by kernel_rfl)]
  rfl
theorem tobits32 (b : Nat) (w : World) : (callFunc 91 #[.float .f32 b]).run Tryz.prog w = .ok (.value (.int .u32 b)) w := by
  rw [run_callFunc_extern Tryz.func91 (by kernel_rfl) (by kernel_rfl) (by kernel_rfl) (e := Extern.MathFloatBits.float32bits) (by kernel_rfl)]
  rfl

/-- What is told of a float64. -/
def pat64 (x : Nat) : Nat := if 9218868437227405312 < x % 9223372036854775808 then 9221120237041090560 else x
theorem pat64_lt (x : Nat) (hx : x < 18446744073709551616) : pat64 x < 18446744073709551616 := by unfold pat64; split <;> omega
theorem pat64_num (x : Nat) (hx : x % 9223372036854775808 ≤ 9218868437227405312) : pat64 x = x := if_neg (by omega)
theorem pat64_nan (x : Nat) (hx : 9218868437227405312 < x % 9223372036854775808) : pat64 x = 9221120237041090560 := if_pos hx

set_option maxRecDepth 100000 in
theorem pattern64_any (x : Nat) (w : World) (hx : x < 18446744073709551616) : Calls Tryz.prog 40 #[.float .f64 x] w fun e w' => e = .returned (.int .u64 (pat64 x : Nat)) ∧ Below w.heap.size w w' := by
  have ht := tobits64 x
  by_cases h : 9218868437227405312 < x % 9223372036854775808
  · rw [pat64_nan x h]
    go_enter Tryz.func40, Tryz.ntmps40
    go_wp2_with fail
    refine (IsNaN_any x _).mono ?_
    rintro e w1 ⟨rfl, rfl⟩
    rw [decide_eq_true h]
    go_wp2_with fail
    refine (layoutOf64_any _).mono ?_
    rintro e w2 ⟨rfl, hb2⟩
    go_wp2_with fail
    refine (theNaN64_any _).mono ?_
    rintro e w3 ⟨rfl, hb3⟩
    go_wp2_with fail
    go_ret
    exact ⟨rfl, hb2.trans (hb3.mono hb2.size)⟩
  · rw [pat64_num x (by omega)]
    go_enter Tryz.func40, Tryz.ntmps40
    go_wp2_with fail
    refine (IsNaN_any x _).mono ?_
    rintro e w1 ⟨rfl, rfl⟩
    rw [decide_eq_false h]
    go_wp2_with fail
    refine (wide64_any _).mono ?_
    rintro e w2 ⟨rfl, rfl⟩
    go_wp2_with (simp only [ht])
    go_ret
    exact ⟨rfl, Below.refl _ _⟩

/-- Some NaN. -/
def IsNan64 (x : Nat) : Prop := 9218868437227405312 < x % 9223372036854775808 ∧ x < 18446744073709551616

theorem run_nan (op : BinOp) (hop : op = .add ∨ op = .sub ∨ op = .mul ∨ op = .quo) (t : TypeId) (x y : Nat) (h : floatBits op .f64 x y = none) (w : World) :
    ∃ nb, IsNan64 nb ∧ (binOp op t (.float .f64 x) (.float .f64 y)).run Tryz.prog w = .ok (.float .f64 nb) w.drew := by
  refine ⟨Question.cut (.nanBits .f64 x y) (w.tape w.drawn (.nanBits .f64 x y)), ?_, ?_⟩
  · generalize w.tape w.drawn (.nanBits .f64 x y) = t
    show 9218868437227405312 < (t % 2 * 2 ^ 63 + 0x7ff0000000000000 + 1 + t / 2 % (2 ^ 52 - 1)) % 9223372036854775808 ∧ (t % 2 * 2 ^ 63 + 0x7ff0000000000000 + 1 + t / 2 % (2 ^ 52 - 1)) < 18446744073709551616
    have h1 : t / 2 % (2 ^ 52 - 1) < 2 ^ 52 - 1 := Nat.mod_lt _ (by omega)
    have h2 : t % 2 < 2 := Nat.mod_lt _ (by omega)
    generalize t / 2 % (2 ^ 52 - 1) = a at *
    generalize t % 2 = b at *
    omega
  · unfold floatBits at h
    rcases hop with rfl | rfl | rfl | rfl <;> simp only at h <;> simp [binOp, Op.floatArith, h, Question.forced]
end Go.Proofs.YtpdaklklhoenhaaGreatDoor

namespace Go.Proofs.YtpdaklklhoenhaaGreatDoor
open Go.RowKit
open Flt
set_option linter.unusedVariables false
set_option linter.unusedSimpArgs false

namespace Flt
open Ieee
theorem rg_word (f : Format) (neg : Bool) (r : Nat) (h : r < f.signWeight) : rg f (f.word neg r) = r := by
  unfold rg Format.word
  cases neg
  · exact Nat.mod_eq_of_lt h
  · show (f.signWeight + r) % f.signWeight = r
    rw [Nat.add_mod_left]; exact Nat.mod_eq_of_lt h
theorem sg_word (f : Format) (neg : Bool) (r : Nat) (h : r < f.signWeight) : sg f (f.word neg r) = neg := by
  unfold sg Format.word
  cases neg
  · show (r / f.signWeight % 2 == 1) = false
    rw [Nat.div_eq_of_lt h]; rfl
  · show ((f.signWeight + r) / f.signWeight % 2 == 1) = true
    rw [Nat.add_div_left _ (signWeight_pos f), Nat.div_eq_of_lt h]; rfl

theorem rg_write (f : Format) (d : Datum) (h : d.isNaN = false) : rg f (f.write d) ≤ f.infRung := by
  cases d with
  | number neg mag place =>
    show rg f (f.nearest neg mag place) ≤ _
    rw [nearest_rnd, rg_word f _ _ (Nat.lt_of_le_of_lt (Nat.min_le_right ..) f.infRung_lt)]
    exact Nat.min_le_right ..
  | infinity neg =>
    show rg f (f.word neg f.infRung) ≤ _
    rw [rg_word f _ _ f.infRung_lt]; exact Nat.le_refl _
  | nan neg t => simp [Datum.isNaN] at h

theorem sum_num {x y d : Datum} (h : x.sum y = some d) : d.isNaN = false := by
  cases x <;> cases y <;> simp only [Datum.sum] at h <;> try (cases h; done)
  · cases h; rfl
  · cases h; rfl
  · cases h; rfl
  · split at h
    · cases h; rfl
    · cases h
theorem product_num {x y d : Datum} (h : x.product y = some d) : d.isNaN = false := by
  cases x <;> cases y <;> simp only [Datum.product] at h <;> try (cases h; done)
  · cases h; rfl
  · split at h
    · cases h
    · cases h; rfl
  · split at h
    · cases h
    · cases h; rfl
  · cases h; rfl
theorem quotient_num {n : Nat} {x y d : Datum} (h : x.quotient n y = some d) : d.isNaN = false := by
  cases x <;> cases y <;> simp only [Datum.quotient] at h <;> try (cases h; done)
  · split at h
    · split at h
      · cases h
      · cases h; rfl
    · cases h; rfl
  · cases h; rfl
  · cases h; rfl
theorem root_num {n : Nat} {x d : Datum} (h : x.root n = some d) : d.isNaN = false := by
  cases x <;> simp only [Datum.root] at h <;> try (cases h; done)
  · split at h
    · cases h; rfl
    · split at h
      · cases h
      · cases h; rfl
  · split at h
    · cases h
    · cases h; rfl
end Flt

theorem map_num {o : Option Ieee.Datum} {r : Nat} (h : o.map Ieee.double.write = some r) (hn : ∀ d, o = some d → d.isNaN = false) : r % 9223372036854775808 ≤ 9218868437227405312 ∧ r < 18446744073709551616 := by
  cases o with
  | none => cases h
  | some d =>
    cases h
    have := rg_write Ieee.double d (hn d rfl)
    rw [rg64, inf64] at this
    exact ⟨this, Ieee.double.write_lt d⟩

/-- What is told of an operation's bits. -/
def told64 : Option Nat → Nat
  | some r => r
  | none => 9221120237041090560

theorem fb_num {op : BinOp} {a b r : Nat} (h : floatBits op .f64 a b = some r) : r % 9223372036854775808 ≤ 9218868437227405312 ∧ r < 18446744073709551616 := by
  unfold floatBits at h
  split at h
  · exact map_num h fun d => sum_num
  · exact map_num h fun d => sum_num
  · exact map_num h fun d => product_num
  · exact map_num h fun d => quotient_num
  · cases h



set_option maxRecDepth 100000 in
theorem Mul64_any (a b : Nat) (w : World) : Calls Tryz.prog 186 #[.int .u64 a, .int .u64 b] w fun e w' => e = .returned (.int .u64 (told64 (Ieee.double.mul a b) : Nat)) ∧ Below w.heap.size w w' := by
  have hs : floatBits .mul .f64 a b = Ieee.double.mul a b := rfl
  cases ho : Ieee.double.mul a b with
  | none =>
    rw [ho] at hs
    obtain ⟨nb, hnb, hadd⟩ := run_nan .mul (by simp) 78 a b hs w
    go_enter Tryz.func186, Tryz.ntmps186
    go_wp2_with fail
    refine (value64_any a _).mono ?_
    rintro e w1 ⟨rfl, rfl⟩
    go_wp2_with fail
    refine (value64_any b _).mono ?_
    rintro e w2 ⟨rfl, rfl⟩
    go_wp2_with (simp only [hadd])
    refine (pattern64_any nb _ hnb.2).mono ?_
    rintro e w3 ⟨rfl, hb3⟩
    rw [pat64_nan nb hnb.1]
    go_wp2_with fail
    go_ret
    exact ⟨rfl, (Below.refl _ _).drew.trans hb3⟩
  | some r =>
    rw [ho] at hs
    obtain ⟨hr1, hr2⟩ := fb_num hs
    have hadd := fun w : World => run_float_arith (P := Tryz.prog) w .mul 78 .f64 a b r hs
    go_enter Tryz.func186, Tryz.ntmps186
    go_wp2_with fail
    refine (value64_any a _).mono ?_
    rintro e w1 ⟨rfl, rfl⟩
    go_wp2_with fail
    refine (value64_any b _).mono ?_
    rintro e w2 ⟨rfl, rfl⟩
    go_wp2_with (simp only [hadd])
    refine (pattern64_any r _ hr2).mono ?_
    rintro e w3 ⟨rfl, hb3⟩
    rw [pat64_num r hr1]
    go_wp2_with fail
    go_ret
    exact ⟨rfl, hb3⟩

set_option maxRecDepth 100000 in
theorem Signbit_any (x : Nat) (w : World) (hx : x < 18446744073709551616) : Calls Tryz.prog 211 #[.float .f64 x] w fun e w' => e = .returned (.bool (decide (9223372036854775808 ≤ x))) ∧ w' = w := by
  have ht := tobits64 x
  by_cases h : 9223372036854775808 ≤ x
  · obtain ⟨y, hy⟩ : ∃ y : Int, (x : Int) - 18446744073709551616 = y := ⟨_, rfl⟩
    have hw : wrap64 (x : Int) = y := by unfold wrap64; omega
    have hw2 : IntKind.i64.wrap (x : Int) = y := by rw [IntKind.wrap_i64]; omega
    have hy0 : y < 0 := by omega
    rw [decide_eq_true h]
    clear h hx hy
    go_enter Tryz.func211, Tryz.ntmps211
    go_wp2_with (simp only [ht, hw, hw2])
    go_ret
    exact ⟨by simp [hy0], rfl⟩
  · have hw : wrap64 (x : Int) = x := by unfold wrap64; omega
    have hw2 : IntKind.i64.wrap (x : Int) = x := by rw [IntKind.wrap_i64]; omega
    rw [decide_eq_false h]
    clear h hx
    go_enter Tryz.func211, Tryz.ntmps211
    go_wp2_with (simp only [ht, hw, hw2])
    go_ret
    exact ⟨by simp, rfl⟩

theorem NaN_any (w : World) : Calls Tryz.prog 226 #[] w fun e w' => e = .returned (.float .f64 9221120237041090561) ∧ w' = w := by
  have hf : ∀ w : World, (callFunc 57 #[.int .u64 9221120237041090561]).run Tryz.prog w = .ok (.value (.float .f64 9221120237041090561)) w := frombits64 9221120237041090561
  go_enter Tryz.func226, Tryz.ntmps226
  go_wp2_with (simp only [hf])
  go_ret
  exact ⟨rfl, rfl⟩
theorem Inf_up (w : World) : Calls Tryz.prog 227 #[.int .i64 1] w fun e w' => e = .returned (.float .f64 9218868437227405312) ∧ w' = w := by
  have hf : ∀ w : World, (callFunc 57 #[.int .u64 9218868437227405312]).run Tryz.prog w = .ok (.value (.float .f64 9218868437227405312)) w := frombits64 9218868437227405312
  go_enter Tryz.func227, Tryz.ntmps227
  go_wp2_with (simp only [hf])
  go_ret
  exact ⟨rfl, rfl⟩
theorem Inf_down (w : World) : Calls Tryz.prog 227 #[.int .i64 (-1)] w fun e w' => e = .returned (.float .f64 18442240474082181120) ∧ w' = w := by
  have hf : ∀ w : World, (callFunc 57 #[.int .u64 18442240474082181120]).run Tryz.prog w = .ok (.value (.float .f64 18442240474082181120)) w := frombits64 18442240474082181120
  go_enter Tryz.func227, Tryz.ntmps227
  go_wp2_with (simp only [hf])
  go_ret
  exact ⟨rfl, rfl⟩

theorem order_nought (x : Nat) : Ieee.double.order x 0 = if 9218868437227405312 < x % 9223372036854775808 then none else if x % 9223372036854775808 = 0 then some .eq else if sg Ieee.double x then some .lt else some .gt := by
  by_cases h : 9218868437227405312 < x % 9223372036854775808
  · rw [if_pos h]; exact order_nan _ (by decide) _ _ (.inl (by rw [rg64, inf64]; exact h))
  · rw [if_neg h, order_all _ (by decide) _ _ (by rw [rg64, inf64]; omega) (by rw [rg64, inf64]; omega)]
    have h0 : sv Ieee.double 0 = 0 := by decide
    rw [h0]
    by_cases h1 : x % 9223372036854775808 = 0
    · rw [if_pos h1]
      have : sv Ieee.double x = 0 := by unfold sv; rw [rg64, h1, V_zero]; simp
      rw [this, cmp_eq]
    · rw [if_neg h1]
      have hv : 0 < V Ieee.double (rg Ieee.double x) := by
        have := V_lt (f := Ieee.double) (show 0 < rg Ieee.double x by rw [rg64]; omega)
        omega
      unfold sv
      by_cases hs : sg Ieee.double x = true
      · rw [if_pos hs, if_pos hs, cmp_lt (by omega)]
      · rw [if_neg hs, if_neg hs, cmp_gt (by omega)]

/-- What byNought tells: NaN, or the infinity of a sign. -/
def byN (a : Nat) (t : Bool) : Nat := if 9218868437227405312 < a % 9223372036854775808 ∨ a % 9223372036854775808 = 0 then 9221120237041090561 else if (decide (9223372036854775808 ≤ a)) = t then 9218868437227405312 else 18442240474082181120

set_option maxRecDepth 100000 in
theorem byNought_any (a : Nat) (t : Bool) (w : World) (ha : a < 18446744073709551616) : Calls Tryz.prog 210 #[.float .f64 a, .bool t] w fun e w' => e = .returned (.float .f64 (byN a t)) ∧ w' = w := by
  have ho : FloatKind.f64.format.order a 0 = _ := order_nought a
  unfold byN
  by_cases h : 9218868437227405312 < a % 9223372036854775808
  · rw [if_pos h] at ho
    rw [if_pos (.inl h)]
    go_enter Tryz.func210, Tryz.ntmps210
    go_wp2_with fail
    refine (IsNaN_any a _).mono ?_
    rintro e w1 ⟨rfl, rfl⟩
    rw [decide_eq_true h]
    go_wp2_with (simp only [ho])
    refine (NaN_any _).mono ?_
    rintro e w1 ⟨rfl, rfl⟩
    go_wp2_with fail
    go_ret
    exact ⟨rfl, rfl⟩
  · rw [if_neg h] at ho
    by_cases h0 : a % 9223372036854775808 = 0
    · rw [if_pos h0] at ho
      rw [if_pos (.inr h0)]
      go_enter Tryz.func210, Tryz.ntmps210
      go_wp2_with fail
      refine (IsNaN_any a _).mono ?_
      rintro e w1 ⟨rfl, rfl⟩
      rw [decide_eq_false h]
      go_wp2_with (simp only [ho])
      refine (NaN_any _).mono ?_
      rintro e w1 ⟨rfl, rfl⟩
      go_wp2_with fail
      go_ret
      exact ⟨rfl, rfl⟩
    · rw [if_neg h0] at ho
      have ho' : FloatKind.f64.format.order a 0 = some .lt ∨ FloatKind.f64.format.order a 0 = some .gt := by
        rw [ho]; cases sg Ieee.double a <;> simp
      clear ho
      rw [if_neg (by omega)]
      have HS := fhide (fun w : World => Signbit_any a w ha)
      generalize decide (9223372036854775808 ≤ a) = s at *
      by_cases hst : s = t
      · subst hst
        rcases ho' with ho | ho <;> cases s
        all_goals
          go_enter Tryz.func210, Tryz.ntmps210
          go_wp2_with fail
          refine (IsNaN_any a _).mono ?_
          rintro e w1 ⟨rfl, rfl⟩
          rw [decide_eq_false h]
          go_wp2_with (simp only [ho])
          refine (HS.out _).mono ?_
          rintro e w1 ⟨rfl, rfl⟩
          go_wp2_with fail
          refine (Inf_up _).mono ?_
          rintro e w1 ⟨rfl, rfl⟩
          go_wp2_with fail
          go_ret
          exact ⟨rfl, rfl⟩
      · obtain rfl : t = !s := by cases s <;> cases t <;> simp_all
        clear hst
        rcases ho' with ho | ho <;> cases s
        all_goals
          go_enter Tryz.func210, Tryz.ntmps210
          go_wp2_with fail
          refine (IsNaN_any a _).mono ?_
          rintro e w1 ⟨rfl, rfl⟩
          rw [decide_eq_false h]
          go_wp2_with (simp only [ho])
          refine (HS.out _).mono ?_
          rintro e w1 ⟨rfl, rfl⟩
          go_wp2_with fail
          refine (Inf_down _).mono ?_
          rintro e w1 ⟨rfl, rfl⟩
          go_wp2_with fail
          go_ret
          exact ⟨rfl, rfl⟩

theorem sg64 (x : Nat) (hx : x < 18446744073709551616) : sg Ieee.double x = decide (9223372036854775808 ≤ x) := by
  show (x / 9223372036854775808 % 2 == 1) = _
  have h : x / 9223372036854775808 = 0 ∨ x / 9223372036854775808 = 1 := by omega
  rcases h with h | h
  · rw [h, decide_eq_false (by omega)]; rfl
  · rw [h, decide_eq_true (by omega)]; rfl

theorem div_nought (a b : Nat) (ha : a < 18446744073709551616) (hb : b < 18446744073709551616) (h0 : b % 9223372036854775808 = 0) : told64 (Ieee.double.div a b) = pat64 (byN a (decide (9223372036854775808 ≤ b))) := by
  obtain ⟨n, l, e3, e4, _⟩ := read_fin Ieee.double b (by rw [rg64, inf64]; omega)
  have hn : n = 0 := by
    rw [rg64, h0, V_zero] at e4
    rcases Nat.mul_eq_zero.1 e4 with h | h
    · exact h
    · have := Nat.two_pow_pos l; omega
  subst hn
  unfold Ieee.Format.div byN
  rw [e3, sg64 b hb]
  have hnan : pat64 9221120237041090561 = 9221120237041090560 := by decide +kernel
  rcases Nat.lt_trichotomy (a % 9223372036854775808) 9218868437227405312 with h | h | h
  · obtain ⟨m, k, e1, e2, _⟩ := read_fin Ieee.double a (by rw [rg64, inf64]; exact h)
    rw [e1, sg64 a ha]
    simp only [Ieee.Datum.quotient, if_true]
    by_cases hm : m = 0
    · have hz : a % 9223372036854775808 = 0 := by
        rw [hm, Nat.zero_mul] at e2
        have := V_inj (f := Ieee.double) (r := rg Ieee.double a) (s := 0) (by rw [← e2, V_zero])
        rw [rg64] at this; exact this
      rw [if_pos hm, if_pos (.inr hz), hnan]
      rfl
    · have hz : a % 9223372036854775808 ≠ 0 := by
        intro hz
        rw [rg64, hz, V_zero] at e2
        rcases Nat.mul_eq_zero.1 e2 with h | h
        · exact hm h
        · have := Nat.two_pow_pos k; omega
      rw [if_neg hm, if_neg (by omega)]
      cases decide (9223372036854775808 ≤ a) <;> cases decide (9223372036854775808 ≤ b) <;> decide +kernel
  · rw [read_inf Ieee.double a (by decide) (by rw [rg64, inf64]; exact h), sg64 a ha]
    simp only [Ieee.Datum.quotient]
    rw [if_neg (by omega)]
    cases decide (9223372036854775808 ≤ a) <;> cases decide (9223372036854775808 ≤ b) <;> decide +kernel
  · rw [read_nan Ieee.double a (by decide) (by rw [rg64, inf64]; exact h), if_pos (.inl h), hnan]
    rfl

set_option maxRecDepth 100000 in
set_option maxHeartbeats 1000000 in
theorem Div64_any (a b : Nat) (w : World) (ha : a < 18446744073709551616) (hb : b < 18446744073709551616) : Calls Tryz.prog 187 #[.int .u64 a, .int .u64 b] w fun e w' => e = .returned (.int .u64 (told64 (Ieee.double.div a b) : Nat)) ∧ Below w.heap.size w w' := by
  have hz : FloatKind.f64.format.order b 0 = _ := order_nought b
  by_cases h0 : b % 9223372036854775808 = 0
  · rw [if_neg (by omega), if_pos h0] at hz
    rw [div_nought a b ha hb h0]
    have HS := fhide (fun w : World => Signbit_any b w hb)
    have hbl : byN a (decide (9223372036854775808 ≤ b)) < 18446744073709551616 := by unfold byN; split; omega; split <;> omega
    have HB := fhide (fun w : World => byNought_any a (decide (9223372036854775808 ≤ b)) w ha)
    generalize decide (9223372036854775808 ≤ b) = t at *
    generalize byN a t = y at *
    clear h0 ha hb
    go_enter Tryz.func187, Tryz.ntmps187
    go_wp2_with fail
    refine (value64_any a _).mono ?_
    rintro e w1 ⟨rfl, rfl⟩
    go_wp2_with fail
    refine (value64_any b _).mono ?_
    rintro e w2 ⟨rfl, rfl⟩
    go_wp2_with (simp only [hz])
    refine (HS.out _).mono ?_
    rintro e w2 ⟨rfl, rfl⟩
    go_wp2_with fail
    refine (HB.out _).mono ?_
    rintro e w2 ⟨rfl, rfl⟩
    go_wp2_with fail
    refine (pattern64_any y _ hbl).mono ?_
    rintro e w3 ⟨rfl, hb3⟩
    go_wp2_with fail
    go_ret
    exact ⟨rfl, hb3⟩
  · rw [if_neg h0] at hz
    have hz' : FloatKind.f64.format.order b 0 = none ∨ FloatKind.f64.format.order b 0 = some .lt ∨ FloatKind.f64.format.order b 0 = some .gt := by
      rw [hz]; split
      · simp
      · cases sg Ieee.double b <;> simp
    clear hz
    have hs : floatBits .quo .f64 a b = Ieee.double.div a b := rfl
    cases ho : Ieee.double.div a b with
    | none =>
      rw [ho] at hs
      obtain ⟨nb, hnb, hadd⟩ := run_nan .quo (by simp) 78 a b hs w
      rcases hz' with hz | hz | hz
      all_goals
        go_enter Tryz.func187, Tryz.ntmps187
        go_wp2_with fail
        refine (value64_any a _).mono ?_
        rintro e w1 ⟨rfl, rfl⟩
        go_wp2_with fail
        refine (value64_any b _).mono ?_
        rintro e w2 ⟨rfl, rfl⟩
        go_wp2_with (simp only [hadd, hz])
        refine (pattern64_any nb _ hnb.2).mono ?_
        rintro e w3 ⟨rfl, hb3⟩
        rw [pat64_nan nb hnb.1]
        go_wp2_with fail
        go_ret
        exact ⟨rfl, (Below.refl _ _).drew.trans hb3⟩
    | some r =>
      rw [ho] at hs
      obtain ⟨hr1, hr2⟩ := fb_num hs
      have hadd := fun w : World => run_float_arith (P := Tryz.prog) w .quo 78 .f64 a b r hs
      rcases hz' with hz | hz | hz
      all_goals
        go_enter Tryz.func187, Tryz.ntmps187
        go_wp2_with fail
        refine (value64_any a _).mono ?_
        rintro e w1 ⟨rfl, rfl⟩
        go_wp2_with fail
        refine (value64_any b _).mono ?_
        rintro e w2 ⟨rfl, rfl⟩
        go_wp2_with (simp only [hadd, hz])
        refine (pattern64_any r _ hr2).mono ?_
        rintro e w3 ⟨rfl, hb3⟩
        rw [pat64_num r hr1]
        go_wp2_with fail
        go_ret
        exact ⟨rfl, hb3⟩

end Go.Proofs.YtpdaklklhoenhaaGreatDoor
