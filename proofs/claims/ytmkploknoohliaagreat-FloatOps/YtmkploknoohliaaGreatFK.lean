/- What wakes asks. -/
import Derived.Test.YtmkploknoohliaaGreatFJ
import Derived.Test.YtmkploknoohliaaGreatRB
import Derived.Test.YtmkploknoohliaaGreatRC
namespace Go.Proofs.YtmkploknoohliaaGreat
open Go.RowKit
open Flt
set_option linter.unusedVariables false
set_option linter.unusedSimpArgs false

set_option maxRecDepth 100000 in
theorem Abs_any (x : Nat) (w : World) (hx : x < 18446744073709551616) : Calls Tryz.prog 11 #[.float .f64 x] w fun e w' => e = .returned (.float .f64 (x % 9223372036854775808)) ∧ w' = w := by
  have ht := tobits64 x
  have hab := b64_abs x hx
  have hf := frombits64 (x % 9223372036854775808)
  generalize x % 9223372036854775808 = r at *
  clear hx
  go_enter Tryz.func11, Tryz.ntmps11
  go_wp2_with (simp only [ht, hab, hf])
  go_ret
  exact ⟨rfl, rfl⟩

theorem and_top64 (x : Nat) (hx : x < 18446744073709551616) : bits BinOp.and IntKind.u64 (x : Int) 9223372036854775808 = ((x / 9223372036854775808 * 9223372036854775808 : Nat) : Int) := by
  by_cases h : x < 9223372036854775808
  · rw [b64_and_lo x h]; have : x / 9223372036854775808 = 0 := by omega
    rw [this]; rfl
  · rw [b64_and_hi x (by omega) hx]; have : x / 9223372036854775808 = 1 := by omega
    rw [this]; rfl
theorem or_top64 (q y : Nat) (hq : q < 2) (hy : y < 9223372036854775808) : bits BinOp.or IntKind.u64 (y : Int) ((q * 9223372036854775808 : Nat) : Int) = ((q * 9223372036854775808 + y : Nat) : Int) := by
  have h : q = 0 ∨ q = 1 := by omega
  rcases h with rfl | rfl
  · have := u64_or_nat y 0 (by omega) (by omega)
    rw [Nat.or_zero] at this
    rw [Nat.zero_mul, Nat.zero_add]; exact this
  · have := b64_or_lo y hy
    rw [Nat.one_mul]; exact this
theorem and_top32' (f : Nat) (hf : f < 4294967296) : bits BinOp.and IntKind.u32 (f : Int) 2147483648 = ((f / 2147483648 * 2147483648 : Nat) : Int) := by
  by_cases h : f < 2147483648
  · rw [b32_and_lo f h]; have : f / 2147483648 = 0 := by omega
    rw [this]; rfl
  · rw [b32_and_hi f (by omega) hf]; have : f / 2147483648 = 1 := by omega
    rw [this]; rfl

set_option maxRecDepth 100000 in
theorem Copysign_any (y x : Nat) (w : World) (hy : y < 9223372036854775808) (hx : x < 18446744073709551616) : Calls Tryz.prog 79 #[.float .f64 y, .float .f64 x] w fun e w' => e = .returned (.float .f64 (x / 9223372036854775808 * 9223372036854775808 + y)) ∧ w' = w := by
  have ht := tobits64 x
  have ht2 := tobits64 y
  have hab := b64_abs y (by omega)
  rw [Nat.mod_eq_of_lt hy] at hab
  have h1 := and_top64 x hx
  have h2 := or_top64 (x / 9223372036854775808) y (by omega) hy
  have hf := frombits64 (x / 9223372036854775808 * 9223372036854775808 + y)
  generalize x / 9223372036854775808 * 9223372036854775808 + y = r at *
  generalize x / 9223372036854775808 * 9223372036854775808 = t at *
  clear hx hy
  go_enter Tryz.func79, Tryz.ntmps79
  go_wp2_with (simp only [ht, ht2, hab, h1, h2, hf])
  go_ret
  exact ⟨rfl, rfl⟩

/-- How two numbers without a sign stand to each other. -/
theorem order_pos (a b : Nat) (ha : a ≤ 9218868437227405312) (hb : b ≤ 9218868437227405312) : Ieee.double.order a b = some (if a < b then .lt else if b < a then .gt else .eq) := by
  have ra : rg Ieee.double a = a := by rw [rg64]; omega
  have rb : rg Ieee.double b = b := by rw [rg64]; omega
  have sa : ∀ x, x ≤ 9218868437227405312 → sg Ieee.double x = false := by
    intro x hx
    show (x / 9223372036854775808 % 2 == 1) = false
    rw [show x / 9223372036854775808 = 0 by omega]; rfl
  rw [order_all _ (by decide) _ _ (by rw [ra, inf64]; exact ha) (by rw [rb, inf64]; exact hb)]
  unfold sv
  rw [sa a ha, sa b hb, ra, rb]
  simp only [Bool.false_eq_true, if_false]
  rcases Nat.lt_trichotomy a b with h | h | h
  · rw [if_pos h, cmp_lt (by have := V_lt (f := Ieee.double) h; omega)]
  · subst h; rw [if_neg (by omega), if_neg (by omega), cmp_eq]
  · rw [if_neg (by omega), if_pos h, cmp_gt (by have := V_lt (f := Ieee.double) h; omega)]

/-- The nearest binary32, of a number. -/
def nar32 (x : Nat) : Nat := x / 9223372036854775808 * 2147483648 + min (rnd Ieee.single (V Ieee.double (x % 9223372036854775808)) (2 ^ gapE)) 2139095040

theorem rnd_max : rnd Ieee.single (V Ieee.double 5183643170566569984) (2 ^ gapE) = 2139095039 := by decide +kernel
theorem rnd_last : rnd Ieee.single (V Ieee.double 5183643170835005439) (2 ^ gapE) = 2139095039 := by decide +kernel
theorem rnd_beyond : rnd Ieee.single (V Ieee.double 5183643170835005440) (2 ^ gapE) = 2139095040 := by decide +kernel
theorem rnd32_mono {r s : Nat} (h : r ≤ s) : rnd Ieee.single (V Ieee.double r) (2 ^ gapE) ≤ rnd Ieee.single (V Ieee.double s) (2 ^ gapE) :=
  rnd_mono _ (by decide) _ _ _ _ (Nat.two_pow_pos _) (Nat.two_pow_pos _) (Nat.mul_le_mul_right _ (V_le h))

theorem word32 (s : Bool) (R : Nat) (h : R < 2147483648) : Ieee.single.word s R = s.toNat * 2147483648 + R := by
  cases s
  · show R = 0 * 2147483648 + R; omega
  · show 2147483648 + R = 1 * 2147483648 + R; omega

theorem f2f_narrow (x : Nat) (hx : x < 18446744073709551616) (h : x % 9223372036854775808 ≤ 5183643170566569984) : floatToFloatBits .f64 x .f32 = some (nar32 x) := by
  have hu : ∀ (s d : FloatKind) (b : Nat), s ≠ d → floatToFloatBits s b d = match s.decode b with
      | .nan _ _ => none
      | .infinity s => some (d.encode (.infinity s))
      | .number s m e => if (d.decode (d.encode (.number s m e))).isInfinity then none else some (d.encode (.number s m e)) := by
    intro s d b hne
    unfold floatToFloatBits
    rw [if_neg hne]
    cases s.decode b <;> rfl
  have hr : rg Ieee.double x < Ieee.double.infRung := by rw [rg64, inf64]; omega
  obtain ⟨m, k, e1, e2, _⟩ := read_fin Ieee.double x hr
  have e3 := narrow_rnd x hr _ _ _ e1
  rw [rg64, inf32] at e3
  have hle : rnd Ieee.single (V Ieee.double (x % 9223372036854775808)) (2 ^ gapE) ≤ 2139095039 := by rw [← rnd_max]; exact rnd32_mono h
  unfold nar32
  generalize rnd Ieee.single (V Ieee.double (x % 9223372036854775808)) (2 ^ gapE) = R at *
  obtain ⟨R', hR', hRl⟩ : ∃ R', min R 2139095040 = R' ∧ R' < 2139095040 := ⟨_, rfl, by omega⟩
  rw [hR'] at e3 ⊢
  have hw := word32 (sg Ieee.double x) R' (by omega)
  have hs : (sg Ieee.double x).toNat = x / 9223372036854775808 := by
    show (x / 9223372036854775808 % 2 == 1).toNat = _
    have h : x / 9223372036854775808 = 0 ∨ x / 9223372036854775808 = 1 := by omega
    rcases h with h | h <;> rw [h] <;> rfl
  rw [hs] at hw
  have hr2 : rg Ieee.single (Ieee.single.word (sg Ieee.double x) R') < Ieee.single.infRung := by
    have hsw : R' < Ieee.single.signWeight := by show R' < 2147483648; omega
    rw [rg_word _ _ _ hsw, inf32]; exact hRl
  obtain ⟨m', k', g1, _⟩ := read_fin Ieee.single _ hr2
  have hd : FloatKind.f64.decode x = .number (sg Ieee.double x) m (Ieee.double.leastPlace + (k : Int)) := e1
  have he : FloatKind.f32.encode (.number (sg Ieee.double x) m (Ieee.double.leastPlace + (k : Int))) = Ieee.single.word (sg Ieee.double x) R' := e3
  have hf : FloatKind.f32.decode (Ieee.single.word (sg Ieee.double x) R') = _ := g1
  rw [hu _ _ _ (by decide), hd]
  simp only [he, hf, Ieee.Datum.isInfinity]
  rw [hw]
  rfl

theorem run_min64 (w : World) (a b : Nat) (ts : Array TypeId) (t : TypeId) (ha : a ≤ 9218868437227405312) (hb : b ≤ 9218868437227405312) : (Builtin.min_ ts t #[.float .f64 a, .float .f64 b]).run Tryz.prog w = .ok (.float .f64 (min a b)) w := by
  have h : FloatKind.f64.format.order a b = _ := order_pos a b ha hb
  have hd : (FloatKind.f64.decode a).neg = sg Ieee.double a ∨ a = b := by
    by_cases e : a = b
    · exact .inr e
    · left
      rcases Nat.lt_or_ge a 9218868437227405312 with h1 | h1
      · obtain ⟨m, k, e1, _⟩ := read_fin Ieee.double a (by rw [rg64, inf64]; omega)
        rw [show FloatKind.f64.decode a = _ from e1]; rfl
      · rw [show FloatKind.f64.decode a = _ from read_inf Ieee.double a (by decide) (by rw [rg64, inf64]; omega)]; rfl
  unfold Builtin.min_
  simp only [List.foldlM, Builtin.min2, h]
  rcases Nat.lt_trichotomy a b with h1 | h1 | h1
  · simp [h1, Nat.min_eq_left (Nat.le_of_lt h1)]
  · subst h1; simp
  · simp [Nat.lt_asymm h1, h1, Nat.min_eq_right (Nat.le_of_lt h1)]

set_option maxRecDepth 100000 in
set_option maxHeartbeats 1000000 in
theorem narrowed_any (x : Nat) (w : World) (hx : x < 18446744073709551616) (hn : x % 9223372036854775808 ≤ 9218868437227405312) : Calls Tryz.prog 49 #[.float .f64 x] w fun e w' => e = .returned (.int .u32 (nar32 x : Nat)) ∧ w' = w := by
  obtain ⟨r, hr, hrl⟩ : ∃ r, x % 9223372036854775808 = r ∧ r ≤ 9218868437227405312 := ⟨_, rfl, hn⟩
  have ho : FloatKind.f64.format.order r 5183643170835005440 = _ := order_pos r 5183643170835005440 hrl (by omega)
  have HA := fhide (fun w : World => Abs_any x w hx)
  rw [hr] at HA
  by_cases h : 5183643170835005440 ≤ r
  · have ho' : FloatKind.f64.format.order r 5183643170835005440 = some .gt ∨ FloatKind.f64.format.order r 5183643170835005440 = some .eq := by
      rw [ho, if_neg (by omega)]
      by_cases e : 5183643170835005440 < r
      · left; rw [if_pos e]
      · right; rw [if_neg e]
    have ht := tobits64 x
    have e0 : nar32 x = x / 9223372036854775808 * 2147483648 + 2139095040 := by
      unfold nar32
      have := rnd32_mono h
      rw [rnd_beyond] at this
      rw [hr, Nat.min_eq_right this]
    have h1 : bits BinOp.and IntKind.u32 ((x : Int) / 4294967296) 2147483648 = ((x / 9223372036854775808 * 2147483648 : Nat) : Int) := by
      rw [show (x : Int) / 4294967296 = ((x / 4294967296 : Nat) : Int) by simp, and_top32' _ (by omega), show x / 4294967296 / 2147483648 = x / 9223372036854775808 by omega]
    have h2 : bits BinOp.or IntKind.u32 ((x / 9223372036854775808 * 2147483648 : Nat) : Int) 2139095040 = ((nar32 x : Nat) : Int) := by
      rw [e0]
      have h : x / 9223372036854775808 = 0 ∨ x / 9223372036854775808 = 1 := by omega
      rcases h with h | h <;> rw [h] <;> decide +kernel
    have hxl : (x : Int) / 4294967296 < 4294967296 := by omega
    have hx0 : (0 : Int) ≤ (x : Int) / 4294967296 := by omega
    generalize nar32 x = y at *
    generalize x / 9223372036854775808 * 2147483648 = t at *
    clear ho hrl hn hr h e0
    rcases ho' with ho | ho
    all_goals
      go_enter Tryz.func49, Tryz.ntmps49
      go_wp2_with fail
      refine (HA.out _).mono ?_
      rintro e w1 ⟨rfl, rfl⟩
      go_wp2_with (simp only [ho, ht, h1, h2])
      go_ret
      exact ⟨rfl, rfl⟩
  · have ho' : FloatKind.f64.format.order r 5183643170835005440 = some .lt := by rw [ho, if_pos (by omega)]
    have hm := fun w : World => run_min64 w r 5183643170566569984 #[30, 30] 30 hrl (by omega)
    obtain ⟨y, hy, hyl⟩ : ∃ y, min r 5183643170566569984 = y ∧ y ≤ 5183643170566569984 := ⟨_, rfl, by omega⟩
    rw [hy] at hm
    have HC := fhide (fun w : World => Copysign_any y x w (by omega) hx)
    obtain ⟨z, hz⟩ : ∃ z, x / 9223372036854775808 * 9223372036854775808 + y = z := ⟨_, rfl⟩
    rw [hz] at HC
    have hzr : z % 9223372036854775808 = y := by omega
    have hzs : z / 9223372036854775808 = x / 9223372036854775808 := by omega
    have hcb := f2f_narrow z (by omega) (by omega)
    have e0 : nar32 z = nar32 x := by
      unfold nar32
      rw [hzr, hzs, hr]
      have h5 : rnd Ieee.single (V Ieee.double y) (2 ^ gapE) = rnd Ieee.single (V Ieee.double r) (2 ^ gapE) := by
        rcases Nat.le_total r 5183643170566569984 with h6 | h6
        · rw [← hy, Nat.min_eq_left h6]
        · rw [← hy, Nat.min_eq_right h6]
          have a1 := rnd32_mono h6
          have a2 := rnd32_mono (show r ≤ 5183643170835005439 by omega)
          rw [rnd_max] at a1 ⊢
          rw [rnd_last] at a2
          omega
      rw [h5]
    rw [e0] at hcb
    have ht := tobits32 (nar32 x)
    have hcv := fun w : World => run_convert_float_float (P := Tryz.prog) w 30 59 .f64 .f32 z (nar32 x) (by kernel_rfl) (by kernel_rfl) hcb
    generalize nar32 x = q at *
    clear ho hrl hn hr h hy hyl hz hzr hzs e0 hcb
    go_enter Tryz.func49, Tryz.ntmps49
    go_wp2_with fail
    refine (HA.out _).mono ?_
    rintro e w1 ⟨rfl, rfl⟩
    go_wp2_with (simp only [ho', hm])
    refine (HC.out _).mono ?_
    rintro e w1 ⟨rfl, rfl⟩
    go_wp2_with (simp only [ht, hcv])
    go_ret
    exact ⟨rfl, rfl⟩

/-- What is told of a float64 as a binary32. -/
def pat32 (x : Nat) : Nat := if 9218868437227405312 < x % 9223372036854775808 then 2143289344 else nar32 x
theorem pat32_num (x : Nat) (hx : x % 9223372036854775808 ≤ 9218868437227405312) : pat32 x = nar32 x := if_neg (by omega)
theorem pat32_nan (x : Nat) (hx : 9218868437227405312 < x % 9223372036854775808) : pat32 x = 2143289344 := if_pos hx

set_option maxRecDepth 100000 in
theorem pattern32_any (x : Nat) (w : World) (hx : x < 18446744073709551616) : Calls Tryz.prog 58 #[.float .f64 x] w fun e w' => e = .returned (.int .u32 (pat32 x : Nat)) ∧ Below w.heap.size w w' := by
  by_cases h : 9218868437227405312 < x % 9223372036854775808
  · rw [pat32_nan x h]
    go_enter Tryz.func58, Tryz.ntmps58
    go_wp2_with fail
    refine (IsNaN_any x _).mono ?_
    rintro e w1 ⟨rfl, rfl⟩
    rw [decide_eq_true h]
    go_wp2_with fail
    refine (layoutOf32_any _).mono ?_
    rintro e w2 ⟨rfl, hb2⟩
    go_wp2_with fail
    refine (theNaN32_any _).mono ?_
    rintro e w3 ⟨rfl, hb3⟩
    go_wp2_with fail
    go_ret
    exact ⟨rfl, hb2.trans (hb3.mono hb2.size)⟩
  · rw [pat32_num x (by omega)]
    have HN := fhide (fun w : World => narrowed_any x w hx (by omega))
    go_enter Tryz.func58, Tryz.ntmps58
    go_wp2_with fail
    refine (IsNaN_any x _).mono ?_
    rintro e w1 ⟨rfl, rfl⟩
    rw [decide_eq_false h]
    go_wp2_with fail
    refine (wide32_any _).mono ?_
    rintro e w2 ⟨rfl, rfl⟩
    go_wp2_with fail
    refine (HN.out _).mono ?_
    rintro e w2 ⟨rfl, rfl⟩
    go_wp2_with fail
    go_ret
    exact ⟨rfl, Below.refl _ _⟩

set_option maxRecDepth 100000 in
theorem Narrow_num (b : Nat) (w : World) (hb : b < 18446744073709551616) (hx : ¬ 9218868437227405312 < b % 9223372036854775808) : Calls Tryz.prog 15 #[.int .u64 b] w fun e w' => e = .returned (.int .u32 (nar32 b : Nat)) ∧ Below w.heap.size w w' := by
  have HP := fhide (fun w : World => pattern32_any b w hb)
  rw [pat32_num b (by omega)] at HP
  go_enter Tryz.func15, Tryz.ntmps15
  go_wp2_with fail
  refine (layoutOf64_any _).mono ?_
  rintro e w1 ⟨rfl, hb1⟩
  go_wp2_with fail
  refine (isNaN64_any b _ hb).mono ?_
  rintro e w2 ⟨rfl, hb2⟩
  rw [decide_eq_false hx]
  have H2 := fhide (hb1.trans (hb2.mono hb1.size))
  clear hb1 hb2
  go_wp2_with fail
  refine (value64_any b _).mono ?_
  rintro e w3 ⟨rfl, rfl⟩
  go_wp2_with fail
  refine (HP.out _).mono ?_
  rintro e w4 ⟨rfl, hb4⟩
  go_wp2_with fail
  go_ret
  exact ⟨rfl, H2.out.trans (hb4.mono H2.out.size)⟩

set_option maxRecDepth 100000 in
theorem Round_wake (w : World) : Calls Tryz.prog 52 #[.float .f64 4612811918334230528] w fun e w' => e = .returned (.float .f64 4613937818241073152) ∧ w' = w := by
  have h1 := tobits64 4612811918334230528
  have h2 : ∀ w : World, (callFunc 44 #[.int .u64 4613937818241073152]).run Tryz.prog w = .ok (.value (.float .f64 4613937818241073152)) w := frombits64 4613937818241073152
  have h3 : bits BinOp.and IntKind.u64 1024 2047 = 1024 := by decide +kernel
  have h4 : bits BinOp.andNot IntKind.u64 4613937818241073152 2251799813685247 = 4613937818241073152 := by decide +kernel
  go_enter Tryz.func52, Tryz.ntmps52
  go_wp2_with (simp only [h1, h2, h3, h4])
  go_ret
  exact ⟨rfl, rfl⟩

set_option maxRecDepth 100000 in
theorem whole_wake (w : World) : Calls Tryz.prog 13 #[.float .f64 4612811918334230528, .int .i64 1] w fun e w' => e = .returned (.tuple #[.float .f64 4613937818241073152, .bool true]) ∧ w' = w := by
  go_enter Tryz.func13, Tryz.ntmps13
  go_wp2_with fail
  refine (Round_wake _).mono ?_
  rintro e w1 ⟨rfl, rfl⟩
  go_wp2_with fail
  go_ret2
  exact ⟨rfl, rfl⟩

set_option maxRecDepth 100000 in
theorem ToInt_wake (w : World) : Calls Tryz.prog 39 #[.int .u64 4612811918334230528, .int .i64 1] w fun e w' => e = .returned (.tuple #[.int .i64 3, .int .i64 0]) ∧ w' = w := by
  have hv : ∀ w : World, Calls Tryz.prog 9 #[.int .u64 4612811918334230528] w fun e w' => e = .returned (.float .f64 4612811918334230528) ∧ w' = w := fun w => value64_any 4612811918334230528 w
  have h1 : FloatKind.f64.format.order 4613937818241073152 14114281232179134464 = some .gt := by decide +kernel
  have h2 : FloatKind.f64.format.order 4613937818241073152 4890909195324358656 = some .lt := by decide +kernel
  have h3 : floatToIntVal .f64 4613937818241073152 .i64 = some 3 := by decide +kernel
  have hcv := fun w : World => run_convert_float_int (P := Tryz.prog) w 30 2 .f64 .i64 4613937818241073152 3 (by kernel_rfl) (by kernel_rfl) h3
  go_enter Tryz.func39, Tryz.ntmps39
  go_wp2_with fail
  refine (hv _).mono ?_
  rintro e w1 ⟨rfl, rfl⟩
  go_wp2_with fail
  refine (whole_wake _).mono ?_
  rintro e w2 ⟨rfl, rfl⟩
  go_wp2_with (simp only [h1, h2, hcv])
  go_ret2
  exact ⟨rfl, rfl⟩

theorem num_any (e : Int) (w : World) : Calls Tryz.prog 41 #[.int .i64 e] w fun r w' => r = .returned (.int .i64 e) ∧ w' = w := by
  go_enter Tryz.func41, Tryz.ntmps41
  go_wp2
  go_ret
  exact ⟨rfl, rfl⟩

set_option maxRecDepth 100000 in
set_option maxHeartbeats 1000000 in
theorem wakes_any (w : World) : Calls Tryz.prog 8 #[] w fun e w' => e = .returned (.bool true) ∧ Below w.heap.size w w' := by
  have hc : ∀ w : World, Calls Tryz.prog 40 #[.int .u64 1] w fun e w' => e = .returned (.int .i64 1) ∧ Below w.heap.size w w' := fun w => Class64_any 1 w (by omega)
  have ha : ∀ w : World, Calls Tryz.prog 25 #[.int .u64 4607182418800017408, .int .u64 4607182418800017408] w fun e w' => e = .returned (.int .u64 4611686018427387904) ∧ Below w.heap.size w w' := by
    intro w
    have := Add64_any 4607182418800017408 4607182418800017408 w
    rw [show Ieee.double.add 4607182418800017408 4607182418800017408 = some 4611686018427387904 by decide +kernel] at this
    exact this
  have hn : ∀ w : World, Calls Tryz.prog 15 #[.int .u64 4607182419605323776] w fun e w' => e = .returned (.int .u32 1065353218) ∧ Below w.heap.size w w' := fun w => by
    have := Narrow_num 4607182419605323776 w (by omega) (by omega)
    rwa [show nar32 4607182419605323776 = 1065353218 by decide +kernel] at this
  have hk : ∀ w : World, Calls Tryz.prog 42 #[.int .u32 0] w fun e w' => e = .returned (.int .u32 2147483648) ∧ Below w.heap.size w w' := fun w => Key32_any 0 w (by omega)
  have H := fhide (And.intro hc (And.intro ha (And.intro hn hk)))
  clear hc ha hn hk
  go_enter Tryz.func8, Tryz.ntmps8
  go_wp2_with fail
  refine (ToInt_wake _).mono ?_
  rintro e w1 ⟨rfl, rfl⟩
  go_wp2_with fail
  refine (H.out.1 _).mono ?_
  rintro e w2 ⟨rfl, hb2⟩
  have H2 := fhide hb2
  clear hb2
  go_wp2_with fail
  refine (H.out.2.1 _).mono ?_
  rintro e w3 ⟨rfl, hb3⟩
  have H3 := fhide (H2.out.trans (hb3.mono H2.out.size))
  clear hb3 H2
  go_wp2_with fail
  refine (H.out.2.2.1 _).mono ?_
  rintro e w4 ⟨rfl, hb4⟩
  have H4 := fhide (H3.out.trans (hb4.mono H3.out.size))
  clear hb4 H3
  go_wp2_with fail
  refine (num_any _ _).mono ?_
  rintro e w5 ⟨rfl, rfl⟩
  go_wp2_with fail
  refine (H.out.2.2.2 _).mono ?_
  rintro e w6 ⟨rfl, hb6⟩
  go_wp2_with fail
  go_ret
  exact ⟨rfl, H4.out.trans (hb6.mono H4.out.size)⟩
end Go.Proofs.YtmkploknoohliaaGreat
