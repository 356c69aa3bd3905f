/- Numbers made whole: the program's whole, Round, ToInt. -/
import Derived.Test.YtpdaklklhoenhaaGreatDoorFJ
import Derived.Test.YtpdaklklhoenhaaGreatDoorRI
import Derived.Test.YtpdaklklhoenhaaGreatDoorRA
/- What wakes asks. -/
namespace Go.Proofs.YtpdaklklhoenhaaGreatDoor
open Go.RowKit
open Flt
set_option linter.unusedVariables false
set_option linter.unusedSimpArgs false

set_option maxRecDepth 100000 in
theorem Abs_any (x : Nat) (w : World) (hx : x < 18446744073709551616) : Calls Tryz.prog 90 #[.float .f64 x] w fun e w' => e = .returned (.float .f64 (x % 9223372036854775808)) ∧ w' = w := by
  have ht := tobits64 x
  have hab := b64_abs x hx
  have hf := frombits64 (x % 9223372036854775808)
  generalize x % 9223372036854775808 = r at *
  clear hx
  go_enter Tryz.func90, Tryz.ntmps90
  go_wp2_with (simp only [ht, hab, hf])
  go_ret
  exact ⟨rfl, rfl⟩

theorem and_top64 (x : Nat) (hx : x < 18446744073709551616) : bits BinOp.and IntKind.u64 (x : Int) 9223372036854775808 = ((x / 9223372036854775808 * 9223372036854775808 : Nat) : Int) := by
  by_cases h : x < 9223372036854775808
  · rw [b64_and_lo x h]; have : x / 9223372036854775808 = 0 := by omega
    rw [this]; rfl
  · rw [b64_and_hi x (by omega) hx]; have : x / 9223372036854775808 = 1 := by omega
    rw [this]; rfl
theorem or_top64 (q y : Nat) (hq : q < 2) (hy : y < 9223372036854775808) : bits BinOp.or IntKind.u64 (y : Int) ((q * 9223372036854775808 : Nat) : Int) = ((q * 9223372036854775808 + y : Nat) : Int) := by
  have h : q = 0 ∨ q = 1 := by omega
  rcases h with rfl | rfl
  · have := u64_or_nat y 0 (by omega) (by omega)
    rw [Nat.or_zero] at this
    rw [Nat.zero_mul, Nat.zero_add]; exact this
  · have := b64_or_lo y hy
    rw [Nat.one_mul]; exact this
theorem and_top32' (f : Nat) (hf : f < 4294967296) : bits BinOp.and IntKind.u32 (f : Int) 2147483648 = ((f / 2147483648 * 2147483648 : Nat) : Int) := by
  by_cases h : f < 2147483648
  · rw [b32_and_lo f h]; have : f / 2147483648 = 0 := by omega
    rw [this]; rfl
  · rw [b32_and_hi f (by omega) hf]; have : f / 2147483648 = 1 := by omega
    rw [this]; rfl

set_option maxRecDepth 100000 in
theorem Copysign_any (y x : Nat) (w : World) (hy : y < 9223372036854775808) (hx : x < 18446744073709551616) : Calls Tryz.prog 92 #[.float .f64 y, .float .f64 x] w fun e w' => e = .returned (.float .f64 (x / 9223372036854775808 * 9223372036854775808 + y)) ∧ w' = w := by
  have ht := tobits64 x
  have ht2 := tobits64 y
  have hab := b64_abs y (by omega)
  rw [Nat.mod_eq_of_lt hy] at hab
  have h1 := and_top64 x hx
  have h2 := or_top64 (x / 9223372036854775808) y (by omega) hy
  have hf := frombits64 (x / 9223372036854775808 * 9223372036854775808 + y)
  generalize x / 9223372036854775808 * 9223372036854775808 + y = r at *
  generalize x / 9223372036854775808 * 9223372036854775808 = t at *
  clear hx hy
  go_enter Tryz.func92, Tryz.ntmps92
  go_wp2_with (simp only [ht, ht2, hab, h1, h2, hf])
  go_ret
  exact ⟨rfl, rfl⟩

/-- How two numbers without a sign stand to each other. -/
theorem order_pos (a b : Nat) (ha : a ≤ 9218868437227405312) (hb : b ≤ 9218868437227405312) : Ieee.double.order a b = some (if a < b then .lt else if b < a then .gt else .eq) := by
  have ra : rg Ieee.double a = a := by rw [rg64]; omega
  have rb : rg Ieee.double b = b := by rw [rg64]; omega
  have sa : ∀ x, x ≤ 9218868437227405312 → sg Ieee.double x = false := by
    intro x hx
    show (x / 9223372036854775808 % 2 == 1) = false
    rw [show x / 9223372036854775808 = 0 by omega]; rfl
  rw [order_all _ (by decide) _ _ (by rw [ra, inf64]; exact ha) (by rw [rb, inf64]; exact hb)]
  unfold sv
  rw [sa a ha, sa b hb, ra, rb]
  simp only [Bool.false_eq_true, if_false]
  rcases Nat.lt_trichotomy a b with h | h | h
  · rw [if_pos h, cmp_lt (by have := V_lt (f := Ieee.double) h; omega)]
  · subst h; rw [if_neg (by omega), if_neg (by omega), cmp_eq]
  · rw [if_neg (by omega), if_pos h, cmp_gt (by have := V_lt (f := Ieee.double) h; omega)]

/-- The nearest binary32, of a number. -/
def nar32 (x : Nat) : Nat := x / 9223372036854775808 * 2147483648 + min (rnd Ieee.single (V Ieee.double (x % 9223372036854775808)) (2 ^ gapE)) 2139095040

theorem rnd_max : rnd Ieee.single (V Ieee.double 5183643170566569984) (2 ^ gapE) = 2139095039 := by decide +kernel
theorem rnd_last : rnd Ieee.single (V Ieee.double 5183643170835005439) (2 ^ gapE) = 2139095039 := by decide +kernel
theorem rnd_beyond : rnd Ieee.single (V Ieee.double 5183643170835005440) (2 ^ gapE) = 2139095040 := by decide +kernel
theorem rnd32_mono {r s : Nat} (h : r ≤ s) : rnd Ieee.single (V Ieee.double r) (2 ^ gapE) ≤ rnd Ieee.single (V Ieee.double s) (2 ^ gapE) :=
  rnd_mono _ (by decide) _ _ _ _ (Nat.two_pow_pos _) (Nat.two_pow_pos _) (Nat.mul_le_mul_right _ (V_le h))

theorem word32 (s : Bool) (R : Nat) (h : R < 2147483648) : Ieee.single.word s R = s.toNat * 2147483648 + R := by
  cases s
  · show R = 0 * 2147483648 + R; omega
  · show 2147483648 + R = 1 * 2147483648 + R; omega

theorem f2f_narrow (x : Nat) (hx : x < 18446744073709551616) (h : x % 9223372036854775808 ≤ 5183643170566569984) : floatToFloatBits .f64 x .f32 = some (nar32 x) := by
  have hu : ∀ (s d : FloatKind) (b : Nat), s ≠ d → floatToFloatBits s b d = match s.decode b with
      | .nan _ _ => none
      | .infinity s => some (d.encode (.infinity s))
      | .number s m e => if (d.decode (d.encode (.number s m e))).isInfinity then none else some (d.encode (.number s m e)) := by
    intro s d b hne
    unfold floatToFloatBits
    rw [if_neg hne]
    cases s.decode b <;> rfl
  have hr : rg Ieee.double x < Ieee.double.infRung := by rw [rg64, inf64]; omega
  obtain ⟨m, k, e1, e2, _⟩ := read_fin Ieee.double x hr
  have e3 := narrow_rnd x hr _ _ _ e1
  rw [rg64, inf32] at e3
  have hle : rnd Ieee.single (V Ieee.double (x % 9223372036854775808)) (2 ^ gapE) ≤ 2139095039 := by rw [← rnd_max]; exact rnd32_mono h
  unfold nar32
  generalize rnd Ieee.single (V Ieee.double (x % 9223372036854775808)) (2 ^ gapE) = R at *
  obtain ⟨R', hR', hRl⟩ : ∃ R', min R 2139095040 = R' ∧ R' < 2139095040 := ⟨_, rfl, by omega⟩
  rw [hR'] at e3 ⊢
  have hw := word32 (sg Ieee.double x) R' (by omega)
  have hs : (sg Ieee.double x).toNat = x / 9223372036854775808 := by
    show (x / 9223372036854775808 % 2 == 1).toNat = _
    have h : x / 9223372036854775808 = 0 ∨ x / 9223372036854775808 = 1 := by omega
    rcases h with h | h <;> rw [h] <;> rfl
  rw [hs] at hw
  have hr2 : rg Ieee.single (Ieee.single.word (sg Ieee.double x) R') < Ieee.single.infRung := by
    have hsw : R' < Ieee.single.signWeight := by show R' < 2147483648; omega
    rw [rg_word _ _ _ hsw, inf32]; exact hRl
  obtain ⟨m', k', g1, _⟩ := read_fin Ieee.single _ hr2
  have hd : FloatKind.f64.decode x = .number (sg Ieee.double x) m (Ieee.double.leastPlace + (k : Int)) := e1
  have he : FloatKind.f32.encode (.number (sg Ieee.double x) m (Ieee.double.leastPlace + (k : Int))) = Ieee.single.word (sg Ieee.double x) R' := e3
  have hf : FloatKind.f32.decode (Ieee.single.word (sg Ieee.double x) R') = _ := g1
  rw [hu _ _ _ (by decide), hd]
  simp only [he, hf, Ieee.Datum.isInfinity]
  rw [hw]
  rfl

theorem run_min64 (w : World) (a b : Nat) (ts : Array TypeId) (t : TypeId) (ha : a ≤ 9218868437227405312) (hb : b ≤ 9218868437227405312) : (Builtin.min_ ts t #[.float .f64 a, .float .f64 b]).run Tryz.prog w = .ok (.float .f64 (min a b)) w := by
  have h : FloatKind.f64.format.order a b = _ := order_pos a b ha hb
  have hd : (FloatKind.f64.decode a).neg = sg Ieee.double a ∨ a = b := by
    by_cases e : a = b
    · exact .inr e
    · left
      rcases Nat.lt_or_ge a 9218868437227405312 with h1 | h1
      · obtain ⟨m, k, e1, _⟩ := read_fin Ieee.double a (by rw [rg64, inf64]; omega)
        rw [show FloatKind.f64.decode a = _ from e1]; rfl
      · rw [show FloatKind.f64.decode a = _ from read_inf Ieee.double a (by decide) (by rw [rg64, inf64]; omega)]; rfl
  unfold Builtin.min_
  simp only [List.foldlM, Builtin.min2, h]
  rcases Nat.lt_trichotomy a b with h1 | h1 | h1
  · simp [h1, Nat.min_eq_left (Nat.le_of_lt h1)]
  · subst h1; simp
  · simp [Nat.lt_asymm h1, h1, Nat.min_eq_right (Nat.le_of_lt h1)]

set_option maxRecDepth 100000 in
set_option maxHeartbeats 1000000 in
theorem narrowed_any (x : Nat) (w : World) (hx : x < 18446744073709551616) (hn : x % 9223372036854775808 ≤ 9218868437227405312) : Calls Tryz.prog 62 #[.float .f64 x] w fun e w' => e = .returned (.int .u32 (nar32 x : Nat)) ∧ w' = w := by
  obtain ⟨r, hr, hrl⟩ : ∃ r, x % 9223372036854775808 = r ∧ r ≤ 9218868437227405312 := ⟨_, rfl, hn⟩
  have ho : FloatKind.f64.format.order r 5183643170835005440 = _ := order_pos r 5183643170835005440 hrl (by omega)
  have HA := fhide (fun w : World => Abs_any x w hx)
  rw [hr] at HA
  by_cases h : 5183643170835005440 ≤ r
  · have ho' : FloatKind.f64.format.order r 5183643170835005440 = some .gt ∨ FloatKind.f64.format.order r 5183643170835005440 = some .eq := by
      rw [ho, if_neg (by omega)]
      by_cases e : 5183643170835005440 < r
      · left; rw [if_pos e]
      · right; rw [if_neg e]
    have ht := tobits64 x
    have e0 : nar32 x = x / 9223372036854775808 * 2147483648 + 2139095040 := by
      unfold nar32
      have := rnd32_mono h
      rw [rnd_beyond] at this
      rw [hr, Nat.min_eq_right this]
    have h1 : bits BinOp.and IntKind.u32 ((x : Int) / 4294967296) 2147483648 = ((x / 9223372036854775808 * 2147483648 : Nat) : Int) := by
      rw [show (x : Int) / 4294967296 = ((x / 4294967296 : Nat) : Int) by simp, and_top32' _ (by omega), show x / 4294967296 / 2147483648 = x / 9223372036854775808 by omega]
    have h2 : bits BinOp.or IntKind.u32 ((x / 9223372036854775808 * 2147483648 : Nat) : Int) 2139095040 = ((nar32 x : Nat) : Int) := by
      rw [e0]
      have h : x / 9223372036854775808 = 0 ∨ x / 9223372036854775808 = 1 := by omega
      rcases h with h | h <;> rw [h] <;> decide +kernel
    have hxl : (x : Int) / 4294967296 < 4294967296 := by omega
    have hx0 : (0 : Int) ≤ (x : Int) / 4294967296 := by omega
    generalize nar32 x = y at *
    generalize x / 9223372036854775808 * 2147483648 = t at *
    clear ho hrl hn hr h e0
    rcases ho' with ho | ho
    all_goals
      go_enter Tryz.func62, Tryz.ntmps62
      go_wp2_with fail
      refine (HA.out _).mono ?_
      rintro e w1 ⟨rfl, rfl⟩
      go_wp2_with (simp only [ho, ht, h1, h2])
      go_ret
      exact ⟨rfl, rfl⟩
  · have ho' : FloatKind.f64.format.order r 5183643170835005440 = some .lt := by rw [ho, if_pos (by omega)]
    have hm := fun w : World => run_min64 w r 5183643170566569984 #[78, 78] 78 hrl (by omega)
    obtain ⟨y, hy, hyl⟩ : ∃ y, min r 5183643170566569984 = y ∧ y ≤ 5183643170566569984 := ⟨_, rfl, by omega⟩
    rw [hy] at hm
    have HC := fhide (fun w : World => Copysign_any y x w (by omega) hx)
    obtain ⟨z, hz⟩ : ∃ z, x / 9223372036854775808 * 9223372036854775808 + y = z := ⟨_, rfl⟩
    rw [hz] at HC
    have hzr : z % 9223372036854775808 = y := by omega
    have hzs : z / 9223372036854775808 = x / 9223372036854775808 := by omega
    have hcb := f2f_narrow z (by omega) (by omega)
    have e0 : nar32 z = nar32 x := by
      unfold nar32
      rw [hzr, hzs, hr]
      have h5 : rnd Ieee.single (V Ieee.double y) (2 ^ gapE) = rnd Ieee.single (V Ieee.double r) (2 ^ gapE) := by
        rcases Nat.le_total r 5183643170566569984 with h6 | h6
        · rw [← hy, Nat.min_eq_left h6]
        · rw [← hy, Nat.min_eq_right h6]
          have a1 := rnd32_mono h6
          have a2 := rnd32_mono (show r ≤ 5183643170835005439 by omega)
          rw [rnd_max] at a1 ⊢
          rw [rnd_last] at a2
          omega
      rw [h5]
    rw [e0] at hcb
    have ht := tobits32 (nar32 x)
    have hcv := fun w : World => run_convert_float_float (P := Tryz.prog) w 78 113 .f64 .f32 z (nar32 x) (by kernel_rfl) (by kernel_rfl) hcb
    generalize nar32 x = q at *
    clear ho hrl hn hr h hy hyl hz hzr hzs e0 hcb
    go_enter Tryz.func62, Tryz.ntmps62
    go_wp2_with fail
    refine (HA.out _).mono ?_
    rintro e w1 ⟨rfl, rfl⟩
    go_wp2_with (simp only [ho', hm])
    refine (HC.out _).mono ?_
    rintro e w1 ⟨rfl, rfl⟩
    go_wp2_with (simp only [ht, hcv])
    go_ret
    exact ⟨rfl, rfl⟩

/-- What is told of a float64 as a binary32. -/
def pat32 (x : Nat) : Nat := if 9218868437227405312 < x % 9223372036854775808 then 2143289344 else nar32 x
theorem pat32_num (x : Nat) (hx : x % 9223372036854775808 ≤ 9218868437227405312) : pat32 x = nar32 x := if_neg (by omega)
theorem pat32_nan (x : Nat) (hx : 9218868437227405312 < x % 9223372036854775808) : pat32 x = 2143289344 := if_pos hx

set_option maxRecDepth 100000 in
theorem pattern32_any (x : Nat) (w : World) (hx : x < 18446744073709551616) : Calls Tryz.prog 43 #[.float .f64 x] w fun e w' => e = .returned (.int .u32 (pat32 x : Nat)) ∧ Below w.heap.size w w' := by
  by_cases h : 9218868437227405312 < x % 9223372036854775808
  · rw [pat32_nan x h]
    go_enter Tryz.func43, Tryz.ntmps43
    go_wp2_with fail
    refine (IsNaN_any x _).mono ?_
    rintro e w1 ⟨rfl, rfl⟩
    rw [decide_eq_true h]
    go_wp2_with fail
    refine (layoutOf32_any _).mono ?_
    rintro e w2 ⟨rfl, hb2⟩
    go_wp2_with fail
    refine (theNaN32_any _).mono ?_
    rintro e w3 ⟨rfl, hb3⟩
    go_wp2_with fail
    go_ret
    exact ⟨rfl, hb2.trans (hb3.mono hb2.size)⟩
  · rw [pat32_num x (by omega)]
    have HN := fhide (fun w : World => narrowed_any x w hx (by omega))
    go_enter Tryz.func43, Tryz.ntmps43
    go_wp2_with fail
    refine (IsNaN_any x _).mono ?_
    rintro e w1 ⟨rfl, rfl⟩
    rw [decide_eq_false h]
    go_wp2_with fail
    refine (wide32_any _).mono ?_
    rintro e w2 ⟨rfl, rfl⟩
    go_wp2_with fail
    refine (HN.out _).mono ?_
    rintro e w2 ⟨rfl, rfl⟩
    go_wp2_with fail
    go_ret
    exact ⟨rfl, Below.refl _ _⟩

set_option maxRecDepth 100000 in
theorem Narrow_num (b : Nat) (w : World) (hb : b < 18446744073709551616) (hx : ¬ 9218868437227405312 < b % 9223372036854775808) : Calls Tryz.prog 27 #[.int .u64 b] w fun e w' => e = .returned (.int .u32 (nar32 b : Nat)) ∧ Below w.heap.size w w' := by
  have HP := fhide (fun w : World => pattern32_any b w hb)
  rw [pat32_num b (by omega)] at HP
  go_enter Tryz.func27, Tryz.ntmps27
  go_wp2_with fail
  refine (layoutOf64_any _).mono ?_
  rintro e w1 ⟨rfl, hb1⟩
  go_wp2_with fail
  refine (isNaN64_any b _ hb).mono ?_
  rintro e w2 ⟨rfl, hb2⟩
  rw [decide_eq_false hx]
  have H2 := fhide (hb1.trans (hb2.mono hb1.size))
  clear hb1 hb2
  go_wp2_with fail
  refine (value64_any b _).mono ?_
  rintro e w3 ⟨rfl, rfl⟩
  go_wp2_with fail
  refine (HP.out _).mono ?_
  rintro e w4 ⟨rfl, hb4⟩
  go_wp2_with fail
  go_ret
  exact ⟨rfl, H2.out.trans (hb4.mono H2.out.size)⟩

set_option maxRecDepth 100000 in
theorem Round_wake (w : World) : Calls Tryz.prog 235 #[.float .f64 4612811918334230528] w fun e w' => e = .returned (.float .f64 4613937818241073152) ∧ w' = w := by
  have h1 := tobits64 4612811918334230528
  have h2 : ∀ w : World, (callFunc 57 #[.int .u64 4613937818241073152]).run Tryz.prog w = .ok (.value (.float .f64 4613937818241073152)) w := frombits64 4613937818241073152
  have h3 : bits BinOp.and IntKind.u64 1024 2047 = 1024 := by decide +kernel
  have h4 : bits BinOp.andNot IntKind.u64 4613937818241073152 2251799813685247 = 4613937818241073152 := by decide +kernel
  go_enter Tryz.func235, Tryz.ntmps235
  go_wp2_with (simp only [h1, h2, h3, h4])
  go_ret
  exact ⟨rfl, rfl⟩

set_option maxRecDepth 100000 in
theorem whole_wake (w : World) : Calls Tryz.prog 233 #[.float .f64 4612811918334230528, .int .i64 1] w fun e w' => e = .returned (.tuple #[.float .f64 4613937818241073152, .bool true]) ∧ w' = w := by
  go_enter Tryz.func233, Tryz.ntmps233
  go_wp2_with fail
  refine (Round_wake _).mono ?_
  rintro e w1 ⟨rfl, rfl⟩
  go_wp2_with fail
  go_ret2
  exact ⟨rfl, rfl⟩

set_option maxRecDepth 100000 in
theorem ToInt_wake (w : World) : Calls Tryz.prog 231 #[.int .u64 4612811918334230528, .int .i64 1] w fun e w' => e = .returned (.tuple #[.int .i64 3, .int .i64 0]) ∧ w' = w := by
  have hv : ∀ w : World, Calls Tryz.prog 35 #[.int .u64 4612811918334230528] w fun e w' => e = .returned (.float .f64 4612811918334230528) ∧ w' = w := fun w => value64_any 4612811918334230528 w
  have h1 : FloatKind.f64.format.order 4613937818241073152 14114281232179134464 = some .gt := by decide +kernel
  have h2 : FloatKind.f64.format.order 4613937818241073152 4890909195324358656 = some .lt := by decide +kernel
  have h3 : floatToIntVal .f64 4613937818241073152 .i64 = some 3 := by decide +kernel
  have hcv := fun w : World => run_convert_float_int (P := Tryz.prog) w 78 2 .f64 .i64 4613937818241073152 3 (by kernel_rfl) (by kernel_rfl) h3
  go_enter Tryz.func231, Tryz.ntmps231
  go_wp2_with fail
  refine (hv _).mono ?_
  rintro e w1 ⟨rfl, rfl⟩
  go_wp2_with fail
  refine (whole_wake _).mono ?_
  rintro e w2 ⟨rfl, rfl⟩
  go_wp2_with (simp only [h1, h2, hcv])
  go_ret2
  exact ⟨rfl, rfl⟩


end Go.Proofs.YtpdaklklhoenhaaGreatDoor

/- Fma, finite, Widen, Narrow of NaNs. -/
namespace Go.Proofs.YtpdaklklhoenhaaGreatDoor
open Go.RowKit
open Flt
set_option linter.unusedVariables false
set_option linter.unusedSimpArgs false


theorem cut_nan (x y t : Nat) : IsNan64 (Question.cut (.nanBits .f64 x y) t) := by
  show 9218868437227405312 < (t % 2 * 2 ^ 63 + 0x7ff0000000000000 + 1 + t / 2 % (2 ^ 52 - 1)) % 9223372036854775808 ∧ (t % 2 * 2 ^ 63 + 0x7ff0000000000000 + 1 + t / 2 % (2 ^ 52 - 1)) < 18446744073709551616
  have h1 : t / 2 % (2 ^ 52 - 1) < 2 ^ 52 - 1 := Nat.mod_lt _ (by omega)
  have h2 : t % 2 < 2 := Nat.mod_lt _ (by omega)
  generalize t / 2 % (2 ^ 52 - 1) = a at *
  generalize t % 2 = b at *
  omega


theorem frombits32 (b : Nat) (w : World) : (callFunc 58 #[.int .u32 b]).run Tryz.prog w = .ok (.value (.float .f32 b)) w := by
  rw [run_callFunc_extern Tryz.func58 (by kernel_rfl) (by kernel_rfl) (by kernel_rfl) (e := Extern.MathFloatBits.float32frombits) (by kernel_rfl)]
  rfl

set_option maxRecDepth 100000 in
theorem value32_num (b x : Nat) (w : World) (h : floatToFloatBits .f32 b .f64 = some x) : Calls Tryz.prog 41 #[.int .u32 b] w fun e w' => e = .returned (.float .f64 x) ∧ w' = w := by
  have hf := frombits32 b
  have hcv := fun w : World => run_convert_float_float (P := Tryz.prog) w 113 78 .f32 .f64 b x (by kernel_rfl) (by kernel_rfl) h
  go_enter Tryz.func41, Tryz.ntmps41
  go_wp2_with fail
  refine (wide32_any _).mono ?_
  rintro e w1 ⟨rfl, rfl⟩
  go_wp2_with (simp only [hf, hcv])
  go_ret
  exact ⟨rfl, rfl⟩

theorem word64 (s : Bool) (R : Nat) (h : R < 9223372036854775808) : Ieee.double.word s R < 18446744073709551616 ∧ Ieee.double.word s R % 9223372036854775808 = R ∧ Ieee.double.word s R / 9223372036854775808 = s.toNat := by
  cases s
  · show R < _ ∧ R % _ = R ∧ R / _ = 0
    omega
  · show 9223372036854775808 + R < _ ∧ (9223372036854775808 + R) % _ = R ∧ (9223372036854775808 + R) / _ = 1
    omega
theorem sg32 (f : Nat) (hf : f < 4294967296) : (sg Ieee.single f).toNat = f / 2147483648 := by
  show (f / 2147483648 % 2 == 1).toNat = _
  have h : f / 2147483648 = 0 ∨ f / 2147483648 = 1 := by omega
  rcases h with h | h <;> rw [h] <;> rfl

/-- A binary32's number as a binary64, and back. -/
theorem f2f_wide (f : Nat) (hf : f < 4294967296) (h : f % 2147483648 ≤ 2139095040) : ∃ x, floatToFloatBits .f32 f .f64 = some x ∧ x < 18446744073709551616 ∧ x % 9223372036854775808 ≤ 9218868437227405312 ∧ floatToFloatBits .f64 x .f32 = some f ∧
    x / 9223372036854775808 = f / 2147483648 ∧ (x % 9223372036854775808 = 9218868437227405312 ↔ f % 2147483648 = 2139095040) ∧ (f % 2147483648 < 2139095040 → V Ieee.double (x % 9223372036854775808) = V Ieee.single (f % 2147483648) * 2 ^ gapE) := by
  have hws := word_self Ieee.single f (show f < 4294967296 from hf)
  have hu : ∀ (s d : FloatKind) (b : Nat), s ≠ d → floatToFloatBits s b d = match s.decode b with
      | .nan _ _ => none
      | .infinity s => some (d.encode (.infinity s))
      | .number s m e => if (d.decode (d.encode (.number s m e))).isInfinity then none else some (d.encode (.number s m e)) := by
    intro s d b hne
    unfold floatToFloatBits
    rw [if_neg hne]
    cases s.decode b <;> rfl
  rcases Nat.lt_or_ge (f % 2147483648) 2139095040 with h1 | h1
  · have hr : rg Ieee.single f < Ieee.single.infRung := by rw [rg32, inf32]; exact h1
    obtain ⟨R, m', k', ⟨hR, hV⟩, ⟨m, k, e1, e2⟩, e3, e4⟩ := widened f hr
    rw [inf64] at hR
    obtain ⟨w1, w2, w3⟩ := word64 (sg Ieee.single f) R (by omega)
    refine ⟨Ieee.double.word (sg Ieee.single f) R, ?_, w1, by omega, ?_, by rw [w3, sg32 f hf], by rw [w2]; omega, fun _ => by rw [w2]; exact hV⟩
    · rw [hu _ _ _ (by decide), show FloatKind.f32.decode f = _ from e1]
      show (if (Ieee.double.read (Ieee.double.nearest _ _ _)).isInfinity = true then none else some (Ieee.double.nearest _ _ _)) = _
      rw [e2, e3]
      rfl
    · rw [hu _ _ _ (by decide), show FloatKind.f64.decode _ = _ from e3]
      show (if (Ieee.single.read (Ieee.single.nearest _ _ _)).isInfinity = true then none else some (Ieee.single.nearest _ _ _)) = _
      rw [e4, hws, e1]
      rfl
  · have h2 : f % 2147483648 = 2139095040 := by omega
    have e1 : Ieee.single.read f = .infinity (sg Ieee.single f) := read_inf _ _ (by decide) (by rw [rg32, inf32]; exact h2)
    obtain ⟨w1, w2, w3⟩ := word64 (sg Ieee.single f) 9218868437227405312 (by omega)
    have e2 : Ieee.double.read (Ieee.double.word (sg Ieee.single f) 9218868437227405312) = .infinity (sg Ieee.single f) := by
      rw [read_inf _ _ (by decide) (by rw [rg64, inf64]; exact w2)]
      rw [sg_word _ _ _ (show 9218868437227405312 < 9223372036854775808 by omega)]
    refine ⟨Ieee.double.word (sg Ieee.single f) 9218868437227405312, ?_, w1, by omega, ?_, by rw [w3, sg32 f hf], by rw [w2]; omega, fun h => by omega⟩
    · rw [hu _ _ _ (by decide), show FloatKind.f32.decode f = _ from e1]
      show some (Ieee.double.word _ Ieee.double.infRung) = _
      rw [inf64]
    · rw [hu _ _ _ (by decide), show FloatKind.f64.decode _ = _ from e2]
      show some (Ieee.single.word _ Ieee.single.infRung) = _
      rw [rg32, h2] at hws
      rw [inf32, hws]

theorem nar_wide (f x : Nat) (hf : f < 4294967296) (h : f % 2147483648 ≤ 2139095040) (e : x / 9223372036854775808 = f / 2147483648) (hi : x % 9223372036854775808 = 9218868437227405312 ↔ f % 2147483648 = 2139095040)
    (hv : f % 2147483648 < 2139095040 → V Ieee.double (x % 9223372036854775808) = V Ieee.single (f % 2147483648) * 2 ^ gapE) : nar32 x = f := by
  unfold nar32
  rw [e]
  rcases Nat.lt_or_ge (f % 2147483648) 2139095040 with h1 | h1
  · have h2 := rnd_scale Ieee.single (V Ieee.single (f % 2147483648)) 1 (2 ^ gapE) (Nat.two_pow_pos _)
    rw [Nat.one_mul, rnd_V] at h2
    rw [hv h1, h2]
    omega
  · have h2 := rnd32_mono (show 5183643170835005440 ≤ x % 9223372036854775808 by rw [hi.2 (by omega)]; omega)
    rw [rnd_beyond] at h2
    rw [Nat.min_eq_right h2]
    omega

/-- What Widen tells of a NaN, and Narrow. -/
def widNan (f : Nat) : Nat := f / 2147483648 * 9223372036854775808 + 9218868437227405312 + f % 8388608 * 536870912
def narNan (b : Nat) : Nat := b / 9223372036854775808 * 2147483648 + 2143289344 + b / 536870912 % 4194304

theorem and_top32 (f : Nat) (hf : f < 4294967296) : bits BinOp.and IntKind.u32 (f : Int) 2147483648 = ((f / 2147483648 * 2147483648 : Nat) : Int) := by
  by_cases h : f < 2147483648
  · rw [b32_and_lo f h]; have : f / 2147483648 = 0 := by omega
    rw [this]; rfl
  · rw [b32_and_hi f (by omega) hf]; have : f / 2147483648 = 1 := by omega
    rw [this]; rfl
theorem and_low32 (f n : Nat) (hf : f < 4294967296) (hn : n < 32) : bits BinOp.and IntKind.u32 (f : Int) ((2 ^ n - 1 : Nat) : Int) = ((f % 2 ^ n : Nat) : Int) := by
  have h2 : 2 ^ n ≤ 2 ^ 32 := Nat.pow_le_pow_right (by omega) (by omega)
  have := u32_and_nat f (2 ^ n - 1) hf (by omega)
  rw [Nat.and_two_pow_sub_one_eq_mod] at this; exact this
theorem or_split64 (q y n : Nat) (hy : y < 2 ^ n) (h : 2 ^ n * q + y < 18446744073709551616) : bits BinOp.or IntKind.u64 ((2 ^ n * q : Nat) : Int) (y : Int) = ((2 ^ n * q + y : Nat) : Int) := by
  rw [u64_or_nat _ _ (by omega) (by omega), ← Nat.two_pow_add_eq_or_of_lt hy]
theorem or_split32 (q y n : Nat) (hy : y < 2 ^ n) (h : 2 ^ n * q + y < 4294967296) : bits BinOp.or IntKind.u32 ((2 ^ n * q : Nat) : Int) (y : Int) = ((2 ^ n * q + y : Nat) : Int) := by
  rw [u32_or_nat _ _ (by omega) (by omega), ← Nat.two_pow_add_eq_or_of_lt hy]

theorem wid_expr (f : Nat) (hf : f < 4294967296) : bits BinOp.or IntKind.u64 (bits BinOp.or IntKind.u64 (IntKind.u64.wrap (IntKind.u64.wrap (bits BinOp.and IntKind.u32 (f : Int) 2147483648) * 4294967296)) 9218868437227405312)
      (IntKind.u64.wrap (IntKind.u64.wrap (bits BinOp.and IntKind.u32 (f : Int) 8388607) * 536870912)) = ((widNan f : Nat) : Int) := by
  rw [and_top32 f hf, show bits BinOp.and IntKind.u32 (f : Int) 8388607 = ((f % 8388608 : Nat) : Int) from and_low32 f 23 hf (by omega)]
  unfold widNan
  have hq : f / 2147483648 < 2 := by omega
  have hy : f % 8388608 < 8388608 := by omega
  generalize f / 2147483648 = q at *
  generalize f % 8388608 = y at *
  simp only [IntKind.wrap_u64]
  rw [show ((q * 2147483648 : Nat) : Int) % 18446744073709551616 * 4294967296 % 18446744073709551616 = ((q * 9223372036854775808 : Nat) : Int) by omega, show ((y : Nat) : Int) % 18446744073709551616 * 536870912 % 18446744073709551616 = ((y * 536870912 : Nat) : Int) by omega]
  have e1 : bits BinOp.or IntKind.u64 ((q * 9223372036854775808 : Nat) : Int) 9218868437227405312 = ((2 ^ 52 * (q * 2048 + 2047) : Nat) : Int) := by
    have h : q = 0 ∨ q = 1 := by omega
    rcases h with rfl | rfl <;> decide +kernel
  rw [e1, or_split64 _ _ _ (by omega) (by omega)]
  omega

set_option maxRecDepth 100000 in
theorem Widen_nan (f : Nat) (w : World) (hf : f < 4294967296) (h : 2139095040 < f % 2147483648) : Calls Tryz.prog 26 #[.int .u32 f] w fun e w' => e = .returned (.int .u64 (widNan f : Nat)) ∧ Below w.heap.size w w' := by
  go_enter Tryz.func26, Tryz.ntmps26
  go_wp2_with fail
  refine (layoutOf32_any _).mono ?_
  rintro e w1 ⟨rfl, hb1⟩
  go_wp2_with fail
  refine (isNaN32_any f _ hf).mono ?_
  rintro e w2 ⟨rfl, hb2⟩
  rw [decide_eq_true h]
  have H2 := fhide (hb1.trans (hb2.mono hb1.size))
  clear hb1 hb2
  go_wp2_with fail
  go_ret
  refine ⟨?_, H2.out⟩
  rw [← wid_expr f hf]
  rfl

set_option maxRecDepth 100000 in
theorem Widen_num (f x : Nat) (w : World) (hf : f < 4294967296) (h : ¬ 2139095040 < f % 2147483648) (hx : floatToFloatBits .f32 f .f64 = some x) (hx1 : x < 18446744073709551616) (hx2 : x % 9223372036854775808 ≤ 9218868437227405312) : Calls Tryz.prog 26 #[.int .u32 f] w fun e w' => e = .returned (.int .u64 x) ∧ Below w.heap.size w w' := by
  go_enter Tryz.func26, Tryz.ntmps26
  go_wp2_with fail
  refine (layoutOf32_any _).mono ?_
  rintro e w1 ⟨rfl, hb1⟩
  go_wp2_with fail
  refine (isNaN32_any f _ hf).mono ?_
  rintro e w2 ⟨rfl, hb2⟩
  rw [decide_eq_false h]
  have H2 := fhide (hb1.trans (hb2.mono hb1.size))
  clear hb1 hb2
  go_wp2_with fail
  refine (value32_num f x _ hx).mono ?_
  rintro e w3 ⟨rfl, rfl⟩
  go_wp2_with fail
  refine (pattern64_any x _ hx1).mono ?_
  rintro e w4 ⟨rfl, hb4⟩
  rw [pat64_num x hx2]
  go_wp2_with fail
  go_ret
  exact ⟨rfl, H2.out.trans (hb4.mono H2.out.size)⟩

theorem nar_expr (b : Nat) (hb : b < 18446744073709551616) : bits BinOp.or IntKind.u32 (bits BinOp.or IntKind.u32 (bits BinOp.and IntKind.u32 ((b : Int) / 4294967296) 2147483648) 2143289344)
      (bits BinOp.and IntKind.u32 ((b : Int) / 536870912 % 4294967296) 4194303) = ((narNan b : Nat) : Int) := by
  rw [show (b : Int) / 4294967296 = ((b / 4294967296 : Nat) : Int) by simp, show (b : Int) / 536870912 % 4294967296 = ((b / 536870912 % 4294967296 : Nat) : Int) by simp, and_top32 _ (by omega),
    show bits BinOp.and IntKind.u32 ((b / 536870912 % 4294967296 : Nat) : Int) 4194303 = ((b / 536870912 % 4294967296 % 4194304 : Nat) : Int) from and_low32 _ 22 (by omega) (by omega)]
  unfold narNan
  have e0 : b / 4294967296 / 2147483648 = b / 9223372036854775808 := by omega
  have e1 : b / 536870912 % 4294967296 % 4194304 = b / 536870912 % 4194304 := by omega
  rw [e0, e1]
  have hq : b / 9223372036854775808 < 2 := by omega
  have hy : b / 536870912 % 4194304 < 4194304 := by omega
  generalize b / 9223372036854775808 = q at *
  generalize b / 536870912 % 4194304 = y at *
  have e2 : bits BinOp.or IntKind.u32 ((q * 2147483648 : Nat) : Int) 2143289344 = ((2 ^ 22 * (q * 512 + 511) : Nat) : Int) := by
    have h : q = 0 ∨ q = 1 := by omega
    rcases h with rfl | rfl <;> decide +kernel
  rw [e2, or_split32 _ _ _ (by omega) (by omega)]
  omega

set_option maxRecDepth 100000 in
theorem Narrow_nan (b : Nat) (w : World) (hb : b < 18446744073709551616) (hx : 9218868437227405312 < b % 9223372036854775808) : Calls Tryz.prog 27 #[.int .u64 b] w fun e w' => e = .returned (.int .u32 (narNan b : Nat)) ∧ Below w.heap.size w w' := by
  go_enter Tryz.func27, Tryz.ntmps27
  go_wp2_with fail
  refine (layoutOf64_any _).mono ?_
  rintro e w1 ⟨rfl, hb1⟩
  go_wp2_with fail
  refine (isNaN64_any b _ hb).mono ?_
  rintro e w2 ⟨rfl, hb2⟩
  rw [decide_eq_true hx]
  have H2 := fhide (hb1.trans (hb2.mono hb1.size))
  clear hb1 hb2
  go_wp2_with fail
  go_ret
  refine ⟨?_, H2.out⟩
  rw [← nar_expr b hb]
  rfl

theorem widNan_nan (f : Nat) (hf : f < 4294967296) (h : 2139095040 < f % 2147483648) : widNan f < 18446744073709551616 ∧ 9218868437227405312 < widNan f % 9223372036854775808 := by
  unfold widNan; omega
theorem nar_wid (f : Nat) (hf : f < 4294967296) (h : 2143289344 ≤ f % 2147483648) : narNan (widNan f) = f := by
  unfold narNan widNan; omega
end Go.Proofs.YtpdaklklhoenhaaGreatDoor

namespace Go.Proofs.YtpdaklklhoenhaaGreatDoor
open Go.RowKit
open Flt
set_option linter.unusedVariables false
set_option linter.unusedSimpArgs false

/-- What is told of a float64 that is made whole. -/
def IsWhole (T mode a x : Nat) : Prop := x < 18446744073709551616 ∧ (9218868437227405312 < a % 9223372036854775808 → 9218868437227405312 < x % 9223372036854775808) ∧ (a % 9223372036854775808 = 9218868437227405312 → x = a) ∧
  (a % 9223372036854775808 < 9218868437227405312 → x = ent T (sg Ieee.double a) (whl mode (sg Ieee.double a) (V Ieee.double (rg Ieee.double a)) (2 ^ T)))

theorem ent_lt (T : Nat) (s : Bool) (K : Nat) : ent T s K < 18446744073709551616 ∧ ent T s K % 9223372036854775808 ≤ 9218868437227405312 := by
  unfold ent
  rw [inf64]
  obtain ⟨w1, w2, _⟩ := word64 s (min (rnd Ieee.double (K * 2 ^ T) 1) 9218868437227405312) (by omega)
  exact ⟨w1, by omega⟩

theorem toInt_as (name : String) (way : Ieee.Toward) (a : Nat) : Extern.MathFloor.toIntegral name way #[.float .f64 a] = (match FloatKind.f64.decode a with
    | .nan s t =>
      if FloatKind.f64.format.quiet t = t then pure (.float .f64 a) else do
      let kept ← choose (.extern "math.Floor,Ceil,Trunc,RoundToEven.signallingNaN kept" 2)
      pure (.float .f64 (if kept == 1 then a else FloatKind.f64.encode (.nan s (FloatKind.f64.format.quiet t))))
    | d => pure (.float .f64 (FloatKind.f64.encode (d.integral way)))) := rfl

theorem quiet_nan (s : Bool) (t : Nat) (h : t < 4503599627370496) : FloatKind.f64.encode (.nan s (FloatKind.f64.format.quiet t)) < 18446744073709551616 ∧ 9218868437227405312 < FloatKind.f64.encode (.nan s (FloatKind.f64.format.quiet t)) % 9223372036854775808 := by
  have hq : FloatKind.f64.format.quiet t = t ||| 2 ^ 51 := rfl
  have h1 : 2 ^ 51 ≤ t ||| 2 ^ 51 := Nat.right_le_or
  have h2 : t ||| 2 ^ 51 < 2 ^ 52 := Nat.or_lt_two_pow (by omega) (by omega)
  rw [hq]
  have hB : Ieee.double.binade = 4503599627370496 := by decide
  show Ieee.double.word s (Ieee.double.infRung + (t ||| 2 ^ 51) % Ieee.double.binade) < _ ∧ _ < Ieee.double.word s (Ieee.double.infRung + (t ||| 2 ^ 51) % Ieee.double.binade) % _
  rw [hB, inf64, Nat.mod_eq_of_lt (by omega)]
  generalize t ||| 2 ^ 51 = q at *
  obtain ⟨w1, w2, _⟩ := word64 s (9218868437227405312 + q) (by omega)
  exact ⟨w1, by omega⟩

theorem toInt_run (T : Nat) (hT : T = 1074) (name : String) (mode a : Nat) (hm : mode = 0 ∨ mode = 2 ∨ mode = 3 ∨ mode = 4) (ha : a < 18446744073709551616) (w : World) : ∃ x w', IsWhole T mode a x ∧ (w' = w ∨ w' = w.drew) ∧ (Extern.MathFloor.toIntegral name (wayOf mode) #[.float .f64 a]).run Tryz.prog w = .ok (.float .f64 x) w' := by
  rw [toInt_as]
  rcases Nat.lt_trichotomy (a % 9223372036854775808) 9218868437227405312 with h | h | h
  · have hr : rg Ieee.double a < Ieee.double.infRung := by rw [rg64, inf64]; exact h
    obtain ⟨m, k, e1, _⟩ := read_fin Ieee.double a hr
    have hd : FloatKind.f64.decode a = _ := e1
    have hi := integral_fin T hT mode a hm hr
    rw [e1] at hi
    have hl := ent_lt T (sg Ieee.double a) (whl mode (sg Ieee.double a) (V Ieee.double (rg Ieee.double a)) (2 ^ T))
    refine ⟨_, w, ⟨hl.1, fun h' => by omega, fun h' => by omega, fun _ => rfl⟩, .inl rfl, ?_⟩
    rw [hd, ← hi]
    rfl
  · have e1 := read_inf Ieee.double a (by decide) (by rw [rg64, inf64]; exact h)
    have hd : FloatKind.f64.decode a = _ := e1
    have hself := word_self Ieee.double a (show a < 2 * 9223372036854775808 by omega)
    rw [rg64, h] at hself
    refine ⟨a, w, ⟨ha, fun h' => by omega, fun _ => rfl, fun h' => by omega⟩, .inl rfl, ?_⟩
    rw [hd]
    show Result.ok (Value.float .f64 (Ieee.double.word (sg Ieee.double a) Ieee.double.infRung)) w = _
    rw [inf64, hself]
  · have e1 := read_nan Ieee.double a (by decide) (by rw [rg64, inf64]; exact h)
    have hd : FloatKind.f64.decode a = _ := e1
    rw [hd]
    have ht : rg Ieee.double a - Ieee.double.infRung < 4503599627370496 := by rw [rg64, inf64]; omega
    generalize rg Ieee.double a - Ieee.double.infRung = t at *
    by_cases hq : FloatKind.f64.format.quiet t = t
    · refine ⟨a, w, ⟨ha, fun _ => h, fun h' => by omega, fun h' => by omega⟩, .inl rfl, ?_⟩
      simp [hq]
    · obtain ⟨q1, q2⟩ := quiet_nan (sg Ieee.double a) t ht
      obtain ⟨kp, hkp⟩ : ∃ kp : Nat, Question.cut (.extern "math.Floor,Ceil,Trunc,RoundToEven.signallingNaN kept" 2) (w.tape w.drawn (.extern "math.Floor,Ceil,Trunc,RoundToEven.signallingNaN kept" 2)) = kp := ⟨_, rfl⟩
      refine ⟨if kp == 1 then a else FloatKind.f64.encode (.nan (sg Ieee.double a) (FloatKind.f64.format.quiet t)), w.drew, ⟨?_, fun _ => ?_, fun h' => by omega, fun h' => by omega⟩, .inr rfl, ?_⟩
      · split
        · exact ha
        · exact q1
      · split
        · exact h
        · exact q2
      · simp [hq, Question.forced, hkp]

theorem run_evenW (T : Nat) (hT : T = 1074) (a : Nat) (ha : a < 18446744073709551616) (w : World) : ∃ x w', IsWhole T 0 a x ∧ (w' = w ∨ w' = w.drew) ∧ (callFunc 234 #[.float .f64 a]).run Tryz.prog w = .ok (.value (.float .f64 x)) w' := by
  obtain ⟨x, w', h1, h2, h3⟩ := toInt_run T hT "math.RoundToEven" 0 a (by simp) ha w
  refine ⟨x, w', h1, h2, ?_⟩
  rw [run_callFunc_extern Tryz.func234 (by kernel_rfl) (by kernel_rfl) (by kernel_rfl) (e := Extern.MathFloor.toIntegral "math.RoundToEven" .even) (by kernel_rfl)]
  rw [show Extern.MathFloor.toIntegral "math.RoundToEven" .even = Extern.MathFloor.toIntegral "math.RoundToEven" (wayOf 0) from rfl, h3]
  rfl
theorem run_truncW (T : Nat) (hT : T = 1074) (a : Nat) (ha : a < 18446744073709551616) (w : World) : ∃ x w', IsWhole T 2 a x ∧ (w' = w ∨ w' = w.drew) ∧ (callFunc 239 #[.float .f64 a]).run Tryz.prog w = .ok (.value (.float .f64 x)) w' := by
  obtain ⟨x, w', h1, h2, h3⟩ := toInt_run T hT "math.archTrunc" 2 a (by simp) ha w
  refine ⟨x, w', h1, h2, ?_⟩
  rw [run_callFunc_extern Tryz.func239 (by kernel_rfl) (by kernel_rfl) (by kernel_rfl) (e := Extern.MathFloor.toIntegral "math.archTrunc" .zero) (by kernel_rfl)]
  rw [show Extern.MathFloor.toIntegral "math.archTrunc" .zero = Extern.MathFloor.toIntegral "math.archTrunc" (wayOf 2) from rfl, h3]
  rfl
theorem run_floorW (T : Nat) (hT : T = 1074) (a : Nat) (ha : a < 18446744073709551616) (w : World) : ∃ x w', IsWhole T 3 a x ∧ (w' = w ∨ w' = w.drew) ∧ (callFunc 241 #[.float .f64 a]).run Tryz.prog w = .ok (.value (.float .f64 x)) w' := by
  obtain ⟨x, w', h1, h2, h3⟩ := toInt_run T hT "math.archFloor" 3 a (by simp) ha w
  refine ⟨x, w', h1, h2, ?_⟩
  rw [run_callFunc_extern Tryz.func241 (by kernel_rfl) (by kernel_rfl) (by kernel_rfl) (e := Extern.MathFloor.toIntegral "math.archFloor" .down) (by kernel_rfl)]
  rw [show Extern.MathFloor.toIntegral "math.archFloor" .down = Extern.MathFloor.toIntegral "math.archFloor" (wayOf 3) from rfl, h3]
  rfl
theorem run_ceilW (T : Nat) (hT : T = 1074) (a : Nat) (ha : a < 18446744073709551616) (w : World) : ∃ x w', IsWhole T 4 a x ∧ (w' = w ∨ w' = w.drew) ∧ (callFunc 243 #[.float .f64 a]).run Tryz.prog w = .ok (.value (.float .f64 x)) w' := by
  obtain ⟨x, w', h1, h2, h3⟩ := toInt_run T hT "math.archCeil" 4 a (by simp) ha w
  refine ⟨x, w', h1, h2, ?_⟩
  rw [run_callFunc_extern Tryz.func243 (by kernel_rfl) (by kernel_rfl) (by kernel_rfl) (e := Extern.MathFloor.toIntegral "math.archCeil" .up) (by kernel_rfl)]
  rw [show Extern.MathFloor.toIntegral "math.archCeil" .up = Extern.MathFloor.toIntegral "math.archCeil" (wayOf 4) from rfl, h3]
  rfl
set_option maxRecDepth 100000 in
theorem Trunc_any (T : Nat) (hT : T = 1074) (a : Nat) (w : World) (ha : a < 18446744073709551616) : Calls Tryz.prog 236 #[.float .f64 a] w fun e w' => ∃ x, IsWhole T 2 a x ∧ e = .returned (.float .f64 x) ∧ Below w.heap.size w w' := by
  obtain ⟨x, w', h1, h2, h3⟩ := run_truncW T hT a ha w
  have H1 := fhide h1
  have H2 : Hid (Below w.heap.size w w') := by
    show Below _ _ _
    rcases h2 with rfl | rfl
    · exact Below.refl _ _
    · exact (Below.refl _ _).drew
  clear h1 h2 ha hT
  go_enter Tryz.func236, Tryz.ntmps236
  go_wp2_with (simp only [h3])
  go_ret
  exact ⟨x, H1.out, rfl, H2.out⟩
set_option maxRecDepth 100000 in
theorem Floor_any (T : Nat) (hT : T = 1074) (a : Nat) (w : World) (ha : a < 18446744073709551616) : Calls Tryz.prog 237 #[.float .f64 a] w fun e w' => ∃ x, IsWhole T 3 a x ∧ e = .returned (.float .f64 x) ∧ Below w.heap.size w w' := by
  obtain ⟨x, w', h1, h2, h3⟩ := run_floorW T hT a ha w
  have H1 := fhide h1
  have H2 : Hid (Below w.heap.size w w') := by
    show Below _ _ _
    rcases h2 with rfl | rfl
    · exact Below.refl _ _
    · exact (Below.refl _ _).drew
  clear h1 h2 ha hT
  go_enter Tryz.func237, Tryz.ntmps237
  go_wp2_with (simp only [h3])
  go_ret
  exact ⟨x, H1.out, rfl, H2.out⟩
set_option maxRecDepth 100000 in
theorem Ceil_any (T : Nat) (hT : T = 1074) (a : Nat) (w : World) (ha : a < 18446744073709551616) : Calls Tryz.prog 238 #[.float .f64 a] w fun e w' => ∃ x, IsWhole T 4 a x ∧ e = .returned (.float .f64 x) ∧ Below w.heap.size w w' := by
  obtain ⟨x, w', h1, h2, h3⟩ := run_ceilW T hT a ha w
  have H1 := fhide h1
  have H2 : Hid (Below w.heap.size w w') := by
    show Below _ _ _
    rcases h2 with rfl | rfl
    · exact Below.refl _ _
    · exact (Below.refl _ _).drew
  clear h1 h2 ha hT
  go_enter Tryz.func238, Tryz.ntmps238
  go_wp2_with (simp only [h3])
  go_ret
  exact ⟨x, H1.out, rfl, H2.out⟩

theorem low_mask (g : Nat) (hg : g ≤ 52) (b : Nat) (hb : b < 18446744073709551616) : bits BinOp.andNot IntKind.u64 (b : Int) ((2 ^ g - 1 : Nat) : Int) = ((b / 2 ^ g * 2 ^ g : Nat) : Int) := by
  have hp := Nat.two_pow_pos g
  have hl : 2 ^ g ≤ 2 ^ 52 := Nat.pow_le_pow_right (by omega) hg
  have := u64_andNot_nat b (2 ^ g - 1) hb (by omega)
  rw [this]
  have e : b &&& (18446744073709551615 - (2 ^ g - 1)) = b / 2 ^ g * 2 ^ g := by
    have h1 : 18446744073709551615 - (2 ^ g - 1) = (2 ^ (64 - g) - 1) * 2 ^ g := by
      rw [Nat.sub_mul, ← Nat.pow_add, show 64 - g + g = 64 by omega]; omega
    rw [h1, n_mask b g (64 - g), Nat.mod_eq_of_lt]
    rw [Nat.div_lt_iff_lt_mul hp, ← Nat.pow_add, show 64 - g + g = 64 by omega]; exact hb
  rw [e]

set_option maxRecDepth 100000 in
set_option maxHeartbeats 1000000 in
theorem RoundAway_any (T : Nat) (hT : T = 1074) (a : Nat) (w : World) (ha : a < 18446744073709551616) : Calls Tryz.prog 235 #[.float .f64 a] w fun e w' => ∃ x, IsWhole T 1 a x ∧ e = .returned (.float .f64 x) ∧ Below w.heap.size w w' := by
  have ht := tobits64 a
  obtain ⟨r, hr, hrl⟩ : ∃ r, a % 9223372036854775808 = r ∧ r < 9223372036854775808 := ⟨_, rfl, by omega⟩
  obtain ⟨e, he, hel⟩ : ∃ e : Nat, r / 4503599627370496 = e ∧ e < 2048 := ⟨_, rfl, by omega⟩
  obtain ⟨f, hf, hfl⟩ : ∃ f : Nat, r % 4503599627370496 = f ∧ f < 4503599627370496 := ⟨_, rfl, by omega⟩
  have hre : r = e * 4503599627370496 + f := by omega
  have hF : bits BinOp.and IntKind.u64 ((a : Int) / 4503599627370496) 2047 = (e : Int) := by
    rw [show (a : Int) / 4503599627370496 = ((a / 4503599627370496 : Nat) : Int) by simp]
    have := u64_and_nat (a / 4503599627370496) 2047 (by omega) (by omega)
    rw [show a / 4503599627370496 &&& 2047 = a / 4503599627370496 % 2048 from Nat.and_two_pow_sub_one_eq_mod _ 11, show a / 4503599627370496 % 2048 = e by omega] at this
    exact this
  have hei : (e : Int) < 2048 := by omega
  have hsg : (sg Ieee.double a).toNat = a / 9223372036854775808 := by rw [sg64 a ha]; by_cases h : 9223372036854775808 ≤ a <;> simp [h] <;> omega
  have hwd : ∀ R, Ieee.double.word (sg Ieee.double a) R = a / 9223372036854775808 * 9223372036854775808 + R := by
    intro R
    rw [← hsg]
    cases sg Ieee.double a
    · show R = 0 * 9223372036854775808 + R; omega
    · show 9223372036854775808 + R = 1 * 9223372036854775808 + R; omega
  have hrg : rg Ieee.double a = r := by rw [rg64]; exact hr
  by_cases h1 : e < 1023
  · have h1' : (e : Int) < 1023 := by omega
    have hIs : IsWhole T 1 a (a / 9223372036854775808 * 9223372036854775808 + if 4602678819172646912 ≤ r then 4607182418800017408 else 0) := by
      refine ⟨by split <;> omega, fun h => by omega, fun h => by omega, fun _ => ?_⟩
      rw [hrg, away_low T r _ hT (by omega), hwd]
    have hand : bits BinOp.and IntKind.u64 (a : Int) 9223372036854775808 = ((a / 9223372036854775808 * 9223372036854775808 : Nat) : Int) := and_top64 a ha
    by_cases h2 : e = 1022
    · have h2' : ((e : Int) == 1022) = true := by simp; omega
      rw [if_pos (by omega)] at hIs
      have hor : bits BinOp.or IntKind.u64 ((a / 9223372036854775808 * 9223372036854775808 : Nat) : Int) 4607182418800017408 = ((a / 9223372036854775808 * 9223372036854775808 + 4607182418800017408 : Nat) : Int) := by
        have h : a / 9223372036854775808 = 0 ∨ a / 9223372036854775808 = 1 := by omega
        rcases h with h | h <;> rw [h] <;> decide +kernel
      have hfb := frombits64 (a / 9223372036854775808 * 9223372036854775808 + 4607182418800017408)
      obtain ⟨y, hy⟩ : ∃ y, a / 9223372036854775808 * 9223372036854775808 = y := ⟨_, rfl⟩
      rw [hy] at hIs hand hor hfb
      obtain ⟨x, hx⟩ : ∃ x, y + 4607182418800017408 = x := ⟨_, rfl⟩
      rw [hx] at hIs hor hfb
      have HIs := fhide hIs
      clear hx hy hT hIs hre hel hf hfl he hr hrl hsg hwd hrg h1 h2 ha
      go_enter Tryz.func235, Tryz.ntmps235
      go_wp2_with (simp only [ht, hF, hand, hor, hfb])
      go_ret
      exact ⟨x, HIs.out, rfl, Below.refl _ _⟩
    · have h2' : ((e : Int) == 1022) = false := by simp; omega
      rw [if_neg (by omega), Nat.add_zero] at hIs
      have hfb := frombits64 (a / 9223372036854775808 * 9223372036854775808)
      obtain ⟨y, hy⟩ : ∃ y, a / 9223372036854775808 * 9223372036854775808 = y := ⟨_, rfl⟩
      rw [hy] at hIs hand hfb
      have HIs := fhide hIs
      clear hy hT hIs hre hel hf hfl he hr hrl hsg hwd hrg h1 h2 ha
      go_enter Tryz.func235, Tryz.ntmps235
      go_wp2_with (simp only [ht, hF, hand, hfb])
      go_ret
      exact ⟨y, HIs.out, rfl, Below.refl _ _⟩
  · have h1' : ¬ (e : Int) < 1023 := by omega
    by_cases h2 : e < 1075
    · have h2' : (e : Int) < 1075 := by omega
      obtain ⟨g, hg⟩ : ∃ g, e + g = 1075 := ⟨1075 - e, by omega⟩
      obtain ⟨c, hc, hc1⟩ : ∃ c : Nat, e - 1023 = c ∧ (e : Int) - 1023 = (c : Int) := ⟨_, rfl, by omega⟩
      obtain ⟨am1, am2⟩ := away_mid T e f g (sg Ieee.double a) hT hfl (by omega) hg (by omega)
      have hhalf : (2251799813685248 : Int) / ((2 ^ c : Nat) : Int) = ((2 ^ (g - 1) : Nat) : Int) := by
        rw [show (2251799813685248 : Int) = ((2 ^ 51 : Nat) : Int) by decide, ← Int.natCast_ediv]
        congr 1
        rw [show 51 = (g - 1) + c by omega, Nat.pow_add]; exact Nat.mul_div_cancel _ (Nat.two_pow_pos c)
      have hfull : (4503599627370495 : Int) / ((2 ^ c : Nat) : Int) = ((2 ^ g - 1 : Nat) : Int) := by
        rw [show (4503599627370495 : Int) = ((2 ^ 52 - 1 : Nat) : Int) by decide, ← Int.natCast_ediv]
        congr 1
        have hp := Nat.two_pow_pos c
        rw [Nat.div_eq_iff hp]
        have hpe : 2 ^ 52 = 2 ^ g * 2 ^ c := by rw [← Nat.pow_add, show g + c = 52 by omega]
        have hgp := Nat.two_pow_pos g
        rw [hpe, Nat.sub_mul, Nat.one_mul]
        have : 2 ^ c ≤ 2 ^ g * 2 ^ c := Nat.le_mul_of_pos_left _ hgp
        omega
      obtain ⟨P, hP⟩ : ∃ P, 2 ^ (g - 1) = P := ⟨_, rfl⟩
      have hPl : P ≤ 2251799813685248 := by rw [← hP]; exact Nat.le_trans (Nat.pow_le_pow_right (by omega) (show g - 1 ≤ 51 by omega)) (by decide)
      obtain ⟨b, hb, hb1⟩ : ∃ b : Nat, a + P = b ∧ (a : Int) + (P : Int) = (b : Int) := ⟨_, rfl, by omega⟩
      have hbl : b < 18446744073709551616 := by omega
      have hmask := low_mask g (by omega) b hbl
      -- what is left
      have hbits : b / 2 ^ g * 2 ^ g = a / 9223372036854775808 * 9223372036854775808 + (e * 4503599627370496 + (f + P) / 2 ^ g * 2 ^ g) := by
        have hgp := Nat.two_pow_pos g
        have hs52 : 4503599627370496 = 2 ^ (52 - g) * 2 ^ g := by rw [← Nat.pow_add, show 52 - g + g = 52 by omega]
        have e1 : b = (f + P) + (a / 9223372036854775808 * 2048 + e) * 4503599627370496 := by omega
        rw [e1, hs52, ← Nat.mul_assoc, Nat.add_mul_div_right _ _ hgp, Nat.add_mul, Nat.mul_assoc _ (2 ^ (52 - g)), ← hs52]
        omega
      rw [hP] at am1 am2 hhalf
      have hIs : IsWhole T 1 a (b / 2 ^ g * 2 ^ g) := by
        refine ⟨by omega, fun h => by omega, fun h => by omega, fun _ => ?_⟩
        rw [hrg, hre, am1, hwd, hbits]
      have hfb := frombits64 (b / 2 ^ g * 2 ^ g)
      obtain ⟨M, hM⟩ : ∃ M, 2 ^ g - 1 = M := ⟨_, rfl⟩
      rw [hM] at hmask hfull
      have HIs := fhide hIs
      generalize b / 2 ^ g * 2 ^ g = x at *
      obtain ⟨C, hC⟩ : ∃ C, 2 ^ c = C := ⟨_, rfl⟩
      rw [hC] at hhalf hfull
      have hCi : (2 : Int) ^ c = (C : Int) := by rw [← hC]; simp
      have hcl : (c : Int) < 52 := by omega
      have hbi : (b : Int) < 18446744073709551616 := by omega
      have hbw : IntKind.u64.wrap (b : Int) = (b : Int) := by rw [IntKind.wrap_u64]; omega
      have hbm : (b : Int) % 18446744073709551616 = (b : Int) := by omega
      clear hT hIs hre hel hf hfl he hr hrl hsg hwd hrg h1 h2 ha am1 am2 hP hPl hb hbl hbits hM hC hg hc
      go_enter Tryz.func235, Tryz.ntmps235
      go_wp2_with (simp only [ht, hF, hc1, hCi, hhalf, hfull, hb1, hbw, hbm, hmask, hfb])
      go_ret
      exact ⟨x, HIs.out, rfl, Below.refl _ _⟩
    · have h2' : ¬ (e : Int) < 1075 := by omega
      have hIs : IsWhole T 1 a a := by
        refine ⟨ha, fun h => h, fun _ => rfl, fun h => ?_⟩
        rw [hrg, away_high T r _ hT (by omega) (by rw [inf64]; omega), hwd]; omega
      have hfb := frombits64 a
      have HIs := fhide hIs
      clear hT hIs hre hel hf hfl he hr hrl hsg hwd hrg h1 h2 ha
      go_enter Tryz.func235, Tryz.ntmps235
      go_wp2_with (simp only [ht, hF, hfb])
      go_ret
      exact ⟨a, HIs.out, rfl, Below.refl _ _⟩
end Go.Proofs.YtpdaklklhoenhaaGreatDoor
