/- valueOf of a finite number. -/
import Derived.Test.YtolaaemkcmiabaaDoorQR
import Derived.Lib.TrailingZeros
import Derived.Deep.RegionHeld3
import Derived.Test.YtolaaemkcmiabaaDoorYD
/- math.Ldexp of anything, math.frexp, TrailingZeros64; the program's Split and Scale. -/
namespace Go.Proofs.YtolaaemkcmiabaaDoor
open Go.RowKit
open Flt
set_option linter.unusedVariables false
set_option linter.unusedSimpArgs false

set_option maxRecDepth 100000 in
/-- IsInf of what is not finite. -/
theorem IsInf_not (a : Nat) (w : World) (ha : a < 18446744073709551616) (hf : 9218868437227405312 ≤ a % 9223372036854775808) : Calls Tryd.prog 47 #[.float .f64 a, .int .i64 0] w fun e w' => e = .returned (.bool (decide (a % 9223372036854775808 = 9218868437227405312))) ∧ w' = w := by
  have HA := fhide (fun w : World => Abs_any a w ha)
  obtain ⟨r, hr⟩ : ∃ r : Nat, a % 9223372036854775808 = r := ⟨_, rfl⟩
  rw [hr] at HA hf
  rw [hr]
  by_cases c : r = 9218868437227405312
  · have c1 : FloatKind.f64.format.order r 9218868437227405311 = some .gt := by rw [c]; decide +kernel
    rw [decide_eq_true c]
    clear c hf ha hr
    go_enter Tryd.func47, Tryd.ntmps47
    go_wp2_with fail
    refine (HA.out _).mono ?_
    rintro e w1 ⟨rfl, hw1⟩
    have hw1 := hw1.symm
    subst hw1
    go_wp2_with (simp only [c1])
    go_ret
    exact ⟨rfl, rfl⟩
  · have c1 : FloatKind.f64.format.order r 9218868437227405311 = none := order_nan Ieee.double (by decide) _ _ (.inl (by rw [rg64, inf64]; omega))
    rw [decide_eq_false c]
    clear c hf ha hr
    go_enter Tryd.func47, Tryd.ntmps47
    go_wp2_with fail
    refine (HA.out _).mono ?_
    rintro e w1 ⟨rfl, hw1⟩
    have hw1 := hw1.symm
    subst hw1
    go_wp2_with (simp only [c1])
    go_ret
    exact ⟨rfl, rfl⟩



theorem order_zero0 (a : Nat) (h : a % 9223372036854775808 = 0) : Ieee.double.order a 0 = some .eq := by
  rw [order_all Ieee.double (by decide) a 0 (by rw [rg64, inf64]; omega) (by rw [rg64, inf64]; omega)]
  have e0 : ∀ b, rg Ieee.double b = 0 → sv Ieee.double b = 0 := by
    intro b hb
    unfold sv
    rw [hb, V_zero]; split <;> rfl
  rw [e0 0 (by decide +kernel), e0 a (by rw [rg64]; exact h), cmp_eq]

theorem order_inf0 (a : Nat) (h : a % 9223372036854775808 = 9218868437227405312) : Ieee.double.order a 0 = some .lt ∨ Ieee.double.order a 0 = some .gt := by
  rw [order_all Ieee.double (by decide) a 0 (by rw [rg64, inf64]; omega) (by rw [rg64, inf64]; omega)]
  have e0 : sv Ieee.double 0 = 0 := by
    unfold sv
    rw [show rg Ieee.double 0 = 0 by decide +kernel, V_zero]; split <;> rfl
  have hv : 0 < V Ieee.double (rg Ieee.double a) := by
    rw [rg64, ← V_zero Ieee.double]; exact V_lt (by omega)
  rw [e0]
  unfold sv
  cases sg Ieee.double a
  · right; rw [cmp_gt (by simp only [Bool.false_eq_true, if_false]; omega)]
  · left; rw [cmp_lt (by simp only [if_true]; omega)]


theorem u64_and2047 (y g : Nat) (hg : g < 4096) : bits .and .u64 (g : Int) 2047 = ((g % 2048 : Nat) : Int) := by
  have := u64_and_nat g 2047 (by omega) (by omega)
  rw [show g &&& 2047 = g % 2048 from Nat.and_two_pow_sub_one_eq_mod g 11] at this
  exact this

set_option maxRecDepth 100000 in
set_option maxHeartbeats 2000000 in
/-- A positive number's share, of half to 1, and its power. -/
theorem frexp_num (a : Nat) (w : World) (ha : a < 9218868437227405312) (h0 : 0 < a) : Calls Tryd.prog 74 #[.float .f64 a] w fun e w' => ∃ f t u : Nat, e = .returned (.tuple #[.float .f64 (4602678819172646912 + t), .int .i64 ((f : Int) - u - 1021)]) ∧ t < 4503599627370496 ∧ f ≤ 2045 ∧ u ≤ 52 ∧ (4503599627370496 + t) * 2 ^ f = V Ieee.double a * 2 ^ u ∧ w' = w := by
  have hm : a % 9223372036854775808 = a := by omega
  have HI := fhide (fun w : World => IsInf_fin a w (by omega) (by omega))
  have HN := fhide (fun w : World => IsNaN_any a w)
  rw [decide_eq_false (by omega)] at HN
  have HM := fhide (fun w : World => normalize_any a w (by omega) (by omega) (by omega))
  have hs : sg Ieee.double a = false := by rw [sgQ a (by omega), decide_eq_false (by omega)]
  have ord := order_fin0 a (by omega) (by omega)
  rw [hs] at ord HM
  rw [hm] at HM
  have ord0 : FloatKind.f64.format.order a 0 = some .gt := ord
  generalize V Ieee.double a = W at HM ⊢
  clear ord hs hm ha h0
  go_enter Tryd.func74, Tryd.ntmps74
  go_wp2_with (simp only [ord0])
  refine (HI.out _).mono ?_
  rintro e w1 ⟨rfl, hw1⟩
  have hw1 := hw1.symm
  subst hw1
  go_wp2_with fail
  refine (HN.out _).mono ?_
  rintro e w1 ⟨rfl, hw1⟩
  have hw1 := hw1.symm
  subst hw1
  go_wp2_with fail
  refine (HM.out _).mono ?_
  rintro e w1 ⟨f, t, u, rfl, ht, hf, hu, he, hw1⟩
  have hw1 := hw1.symm
  subst hw1
  obtain ⟨g, hg, hg2, hand0⟩ := field_out false f t ht hf
  have hgv : g = f + 1 := by
    have h1 : ((Ieee.double.word false ((f + 1) * 4503599627370496 + t) : Nat) : Int) / 4503599627370496 = ((f + 1 : Nat) : Int) := by rw [word_put]; simp only [Bool.toNat_false]; omega
    omega
  have hand := u64_and2047 0 g (by omega)
  rw [show g % 2048 = g by omega] at hand
  have hcut := field_cut false f t ht hf
  rw [show 9223372036854775808 * false.toNat + t = t by simp] at hcut
  have hto := tobits64 (Ieee.double.word false ((f + 1) * 4503599627370496 + t))
  generalize Ieee.double.word false ((f + 1) * 4503599627370496 + t) = y at *
  have hor : bits BinOp.or IntKind.u64 (t : Int) 4602678819172646912 = ((4602678819172646912 + t : Nat) : Int) := by
    have := b64_put 0 1022 t (by omega) (by omega) ht
    rw [show 9223372036854775808 * 0 + t = t by omega] at this
    rw [show 9223372036854775808 * 0 + (4503599627370496 * 1022 + t) = 4602678819172646912 + t by omega] at this
    exact this
  have hfr := frombits64 (4602678819172646912 + t)
  generalize hz : 4602678819172646912 + t = z at *
  obtain ⟨e1, hE1, hb1⟩ : ∃ e1 : Int, (g : Int) - 1023 = e1 ∧ (-3000 ≤ e1 ∧ e1 ≤ 3000) := ⟨_, rfl, by omega⟩
  obtain ⟨e2, hE2, hb2⟩ : ∃ e2 : Int, e1 + 1 = e2 ∧ (-3000 ≤ e2 ∧ e2 ≤ 3000) := ⟨_, rfl, by omega⟩
  obtain ⟨e3, hE3, hb3⟩ : ∃ e3 : Int, -(u : Int) + e2 = e3 ∧ (-6000 ≤ e3 ∧ e3 ≤ 6000) := ⟨_, rfl, by omega⟩
  have HE := fhide (And.intro ht (And.intro hf (And.intro hu (And.intro he (And.intro hz (show e3 = (f : Int) - u - 1021 by omega))))))
  clear ht hf hu he hz hgv hand0
  go_wp2_with (simp only [hto, hg, hand, hE1, hE2, hE3, hcut, hor, hfr])
  go_ret2
  exact ⟨f, t, u, by rw [HE.out.2.2.2.2.1, ← HE.out.2.2.2.2.2]; rfl, HE.out.1, HE.out.2.1, HE.out.2.2.1, HE.out.2.2.2.1, rfl⟩

set_option maxRecDepth 100000 in
theorem Frexp_num (a : Nat) (w : World) (ha : a < 9218868437227405312) (h0 : 0 < a) : Calls Tryd.prog 49 #[.float .f64 a] w fun e w' => ∃ f t u : Nat, e = .returned (.tuple #[.float .f64 (4602678819172646912 + t), .int .i64 ((f : Int) - u - 1021)]) ∧ t < 4503599627370496 ∧ f ≤ 2045 ∧ u ≤ 52 ∧ (4503599627370496 + t) * 2 ^ f = V Ieee.double a * 2 ^ u ∧ w' = w := by
  have HL := fhide (fun w : World => frexp_num a w ha h0)
  generalize V Ieee.double a = W at *
  clear ha h0
  go_enter Tryd.func49, Tryd.ntmps49
  go_wp2_with fail
  refine (HL.out _).mono ?_
  rintro e w1 ⟨f, t, u, rfl, ht, hf, hu, he, hw1⟩
  have hw1 := hw1.symm
  subst hw1
  have HE := fhide (And.intro ht (And.intro hf (And.intro hu he)))
  clear ht hf hu he
  generalize hz : 4602678819172646912 + t = z at *
  generalize hy : (f : Int) - u - 1021 = y at *
  have HY := fhide (And.intro hz hy)
  clear hz hy
  go_wp2_with fail
  go_ret2
  exact ⟨f, t, u, by rw [HY.out.1, HY.out.2]; rfl, HE.out.1, HE.out.2.1, HE.out.2.2.1, HE.out.2.2.2, rfl⟩


/-- The library's table lies as its text lays it. -/
def Tab64 (w : World) : Prop := ∀ j, j < 64 → w.cell? ⟨1, j, none⟩ = some (.int .u8 (Lib.deBruijn64tab.getD j 0 : Nat))

theorem Tab64.below {w w' : World} (h : Tab64 w) (hb : Below w.heap.size w w') : Tab64 w' := fun j hj => by
  rw [hb.cell (p := ⟨1, j, none⟩) (block_lt_of_cell (h j hj))]; exact h j hj

theorem tz64_key (x a : Nat) (hx : x < 18446744073709551616) (hx0 : x ≠ 0) (hlow : x &&& (18446744073709551616 - x) = a) :
    IntKind.u64.wrap (bits BinOp.and IntKind.u64 (x : Int) (IntKind.u64.wrap (-(x : Int))) * 285870213051353865) / 288230376151711744 = ((a * 285870213051353865 % 18446744073709551616 / 288230376151711744 : Nat) : Int) := by
  have e1 : -(x : Int) % 18446744073709551616 = ((18446744073709551616 - x : Nat) : Int) := by omega
  rw [IntKind.wrap_u64, IntKind.wrap_u64, e1, u64_and_nat x _ hx (by omega), hlow]
  omega

set_option maxRecDepth 100000 in
set_option maxHeartbeats 1000000 in
theorem tz64_core (x k idx : Nat) (w : World) (hx0 : ((x : Int) == 0) = false)
    (key : IntKind.u64.wrap (bits BinOp.and IntKind.u64 (x : Int) (IntKind.u64.wrap (-(x : Int))) * 285870213051353865) / 288230376151711744 = (idx : Int))
    (hi : idx < 64) (hk : k < 64) (hcell : w.cell? ⟨1, idx, none⟩ = some (.int .u8 k)) :
    Calls Tryd.prog 51 #[.int .u64 x] w fun e w' => e = .returned (.int .i64 k) ∧ w' = w := by
  go_enter Tryd.func51, Tryd.ntmps51
  go_wp2_with (simp only [key])
  go_ret
  exact ⟨rfl, rfl⟩

theorem tz64_any (x : Nat) (w : World) (hx : x < 18446744073709551616) (hx0 : x ≠ 0) (hT : Tab64 w) :
    Calls Tryd.prog 51 #[.int .u64 x] w fun e w' => e = .returned (.int .i64 (Lib.ctz 64 x : Nat)) ∧ w' = w := by
  obtain ⟨hlow, hk⟩ := Lib.lowest_bit 64 x hx0 hx
  obtain ⟨hi, htab⟩ := Lib.deBruijn64_at _ hk
  have hcell := hT _ hi
  rw [htab] at hcell
  exact tz64_core x _ _ w (by simp; omega) (tz64_key x _ hx hx0 hlow) hi hk hcell

end Go.Proofs.YtolaaemkcmiabaaDoor

/- The program's Split and Scale. -/
namespace Go.Proofs.YtolaaemkcmiabaaDoor
open Go.RowKit
open Flt
set_option linter.unusedVariables false
set_option linter.unusedSimpArgs false

theorem toU64 (t : Nat) (ht : t < 4503599627370496) : floatToIntVal .f64 (4841369599423283200 + t) .u64 = some ((4503599627370496 + t : Nat) : Int) := by
  obtain ⟨K, hK⟩ : ∃ K : Nat, K = 1075 := ⟨_, rfl⟩
  have hr : FloatKind.f64.decode (4841369599423283200 + t) = .number false (4503599627370496 + t) 0 := by
    show Ieee.double.read (4841369599423283200 + t) = _
    unfold Ieee.Format.read
    dsimp only
    rw [show (4841369599423283200 + t) % Ieee.double.signWeight = 4841369599423283200 + t from Nat.mod_eq_of_lt (by show _ < 9223372036854775808; omega),
      show (4841369599423283200 + t) / Ieee.double.signWeight = 0 from Nat.div_eq_of_lt (by show _ < 9223372036854775808; omega), binade64, if_neg (by omega), if_pos (by rw [inf64]; omega),
      show (4841369599423283200 + t) % 4503599627370496 = t by omega, show (4841369599423283200 + t) / 4503599627370496 = 1075 by omega]
    rfl
  have hto : (FloatKind.f64.decode (4841369599423283200 + t)).toInt .zero = some ((4503599627370496 + t : Nat) : Int) := by
    rw [hr]
    show some (Ieee.signed false (Ieee.Toward.zero.cut false ((4503599627370496 + t) <<< (0 : Int).toNat) (-(0 : Int)).toNat) 0) = _
    generalize 4503599627370496 + t = m
    unfold Ieee.Toward.cut Ieee.signed
    simp
  unfold floatToIntVal
  rw [hto]
  have hmn : IntKind.u64.min = 0 := by decide
  have hmx : IntKind.u64.max = 18446744073709551615 := by decide
  simp only [hmn, hmx]
  rw [if_pos ⟨by omega, by omega⟩]

/-- A share times 2^53. -/
theorem mul_53 (T t : Nat) (hT : T = 1074) (ht : t < 4503599627370496) : FloatKind.f64.format.mul (4602678819172646912 + t) 4845873199050653696 = some (4841369599423283200 + t) := by
  have hl : Ieee.double.leastPlace = -(T : Int) := by rw [hT]; decide
  have hm := mul_rnd Ieee.double T (4602678819172646912 + t) 4845873199050653696 hl (by rw [rg64, inf64]; omega) (by rw [rg64, inf64]; omega)
  obtain ⟨A, hA⟩ : ∃ A : Nat, A = 1021 := ⟨_, rfl⟩
  obtain ⟨B, hB⟩ : ∃ B : Nat, B = 1075 := ⟨_, rfl⟩
  obtain ⟨C, hC⟩ : ∃ C : Nat, C = 1074 := ⟨_, rfl⟩
  have hz1 : V Ieee.double (4602678819172646912 + t) = (4503599627370496 + t) * 2 ^ A := by
    rw [← V_field A t ht]; congr 1; omega
  have hz2 : V Ieee.double 4845873199050653696 = 2 ^ 52 * 2 ^ B := by
    have := V_field B 0 (by omega)
    rw [show (B + 1) * 4503599627370496 + 0 = 4845873199050653696 by omega] at this
    rw [this]
  rw [rg64, rg64, show (4602678819172646912 + t) % 9223372036854775808 = 4602678819172646912 + t by omega, show 4845873199050653696 % 9223372036854775808 = 4845873199050653696 by omega, hz1, hz2,
    sgQ _ (by omega), decide_eq_false (by omega), show sg Ieee.double 4845873199050653696 = false by decide +kernel, Bool.false_xor,
    rnd_eq Ieee.double (n' := (4503599627370496 + t) * 2 ^ C) (d' := 1) (Nat.two_pow_pos T) (by omega) (by
      rw [Nat.mul_one, Nat.mul_assoc, Nat.mul_assoc, ← Nat.pow_add, ← Nat.pow_add, ← Nat.pow_add]
      exact congrArg ((4503599627370496 + t) * 2 ^ ·) (by omega)), scale_mid C t ht, inf64, Nat.min_eq_left (by omega), show (C + 1) * 4503599627370496 + t = 4841369599423283200 + t by omega] at hm
  exact hm

/-- The odd part of a number. -/
theorem odd_part (m t f u W : Nat) (hm : m = 4503599627370496 + t) (hl : m < 18446744073709551616) (he : m * 2 ^ f = W * 2 ^ u) : ∃ x q : Nat, Lib.ctz 64 m ≤ 63 ∧ m = x * 2 ^ Lib.ctz 64 m ∧ x % 2 = 1 ∧ x * 2 ^ q = W ∧ q + u = Lib.ctz 64 m + f ∧ m / 2 ^ Lib.ctz 64 m = x := by
  have h0 : m ≠ 0 := by omega
  obtain ⟨c, hc, hk⟩ := Lib.ctzFrom_spec 64 m (by omega) hl
  have e : Lib.ctz 64 m = Lib.ctzFrom 64 m := by simp [Lib.ctz, h0]
  rw [e]
  generalize Lib.ctzFrom 64 m = k at *
  have hu : u ≤ k + f := by
    rcases Nat.lt_or_ge (k + f) u with h | h
    · exfalso
      obtain ⟨d, hd⟩ : ∃ d, u = k + f + (d + 1) := ⟨u - (k + f) - 1, by omega⟩
      rw [hc, hd, Nat.pow_add, Nat.mul_comm (2 ^ k), Nat.mul_assoc, ← Nat.pow_add, ← Nat.mul_assoc, Nat.mul_right_comm] at he
      have := Nat.eq_of_mul_eq_mul_right (Nat.two_pow_pos _) he
      rw [Nat.pow_succ, ← Nat.mul_assoc] at this
      omega
    · exact h
  obtain ⟨q, hq⟩ : ∃ q, q + u = k + f := ⟨k + f - u, by omega⟩
  refine ⟨2 * c + 1, q, by omega, by rw [Nat.mul_comm]; exact hc, by omega, ?_, hq, ?_⟩
  · refine Nat.eq_of_mul_eq_mul_right (Nat.two_pow_pos u) ?_
    rw [← he, Nat.mul_assoc, ← Nat.pow_add, hq, hc, Nat.pow_add]
    simp only [Nat.mul_assoc, Nat.mul_left_comm, Nat.mul_comm]
  · rw [hc, Nat.mul_div_cancel_left _ (Nat.two_pow_pos k)]

set_option maxRecDepth 100000 in
set_option maxHeartbeats 2000000 in
theorem Split_bad (b : Nat) (w : World) (hb : b < 18446744073709551616) (hf : ¬ b % 9223372036854775808 < 9218868437227405312) : Calls Tryd.prog 28 #[.int .u64 b] w fun e w' => e = .returned (.tuple #[.bool false, .int .u64 0, .int .i64 0, .bool false]) ∧ w' = w := by
  have HN := fhide (fun w : World => IsNaN_any b w)
  have HI := fhide (fun w : World => IsInf_not b w hb (by omega))
  by_cases c : b % 9223372036854775808 = 9218868437227405312
  · rw [decide_eq_false (by omega)] at HN
    rw [decide_eq_true c] at HI
    clear c hb hf
    go_enter Tryd.func28, Tryd.ntmps28
    go_wp2_with fail
    refine (value64_any _ _).mono ?_
    rintro e w1 ⟨rfl, hw1⟩
    have hw1 := hw1.symm
    subst hw1
    go_wp2_with fail
    refine (HN.out _).mono ?_
    rintro e w1 ⟨rfl, hw1⟩
    have hw1 := hw1.symm
    subst hw1
    go_wp2_with fail
    refine (HI.out _).mono ?_
    rintro e w1 ⟨rfl, hw1⟩
    have hw1 := hw1.symm
    subst hw1
    go_wp2_with fail
    try simp only [Exit.inBlock, Exit.then]
    refine bodyPost_ret (four_results rfl _ _ _) rfl ?_
    exact ⟨rfl, rfl⟩
  · rw [decide_eq_true (by omega)] at HN
    clear c hb hf HI
    go_enter Tryd.func28, Tryd.ntmps28
    go_wp2_with fail
    refine (value64_any _ _).mono ?_
    rintro e w1 ⟨rfl, hw1⟩
    have hw1 := hw1.symm
    subst hw1
    go_wp2_with fail
    refine (HN.out _).mono ?_
    rintro e w1 ⟨rfl, hw1⟩
    have hw1 := hw1.symm
    subst hw1
    go_wp2_with fail
    try simp only [Exit.inBlock, Exit.then]
    refine bodyPost_ret (four_results rfl _ _ _) rfl ?_
    exact ⟨rfl, rfl⟩

set_option maxRecDepth 100000 in
set_option maxHeartbeats 2000000 in
theorem Split_zero (b : Nat) (w : World) (hb : b < 18446744073709551616) (hz : b % 9223372036854775808 = 0) : Calls Tryd.prog 28 #[.int .u64 b] w fun e w' => e = .returned (.tuple #[.bool (decide (9223372036854775808 ≤ b)), .int .u64 0, .int .i64 0, .bool true]) ∧ w' = w := by
  have HN := fhide (fun w : World => IsNaN_any b w)
  rw [decide_eq_false (by omega)] at HN
  have HI := fhide (fun w : World => IsInf_fin b w hb (by omega))
  have o : FloatKind.f64.format.order b 0 = some .eq := order_zero0 b hz
  have HS := fhide (fun w : World => Signbit_any b w hb)
  generalize decide (9223372036854775808 ≤ b) = s at *
  clear hz hb
  go_enter Tryd.func28, Tryd.ntmps28
  go_wp2_with fail
  refine (value64_any _ _).mono ?_
  rintro e w1 ⟨rfl, hw1⟩
  have hw1 := hw1.symm
  subst hw1
  go_wp2_with fail
  refine (HN.out _).mono ?_
  rintro e w1 ⟨rfl, hw1⟩
  have hw1 := hw1.symm
  subst hw1
  go_wp2_with fail
  refine (HI.out _).mono ?_
  rintro e w1 ⟨rfl, hw1⟩
  have hw1 := hw1.symm
  subst hw1
  go_wp2_with (simp only [o])
  refine (HS.out _).mono ?_
  rintro e w1 ⟨rfl, hw1⟩
  have hw1 := hw1.symm
  subst hw1
  go_wp2_with fail
  try simp only [Exit.inBlock, Exit.then]
  refine bodyPost_ret (four_results rfl _ _ _) rfl ?_
  exact ⟨rfl, rfl⟩

set_option maxRecDepth 100000 in
set_option maxHeartbeats 4000000 in
theorem Split_num (b : Nat) (w : World) (hb : b < 18446744073709551616) (h0 : 0 < b % 9223372036854775808) (hf : b % 9223372036854775808 < 9218868437227405312) (hT : Tab64 w) : Calls Tryd.prog 28 #[.int .u64 b] w fun e w' => ∃ x q : Nat, e = .returned (.tuple #[.bool (decide (9223372036854775808 ≤ b)), .int .u64 x, .int .i64 ((q : Int) - 1074), .bool true]) ∧ x % 2 = 1 ∧ x * 2 ^ q = V Ieee.double (b % 9223372036854775808) ∧ Below w.heap.size w w' := by
  have HN := fhide (fun w : World => IsNaN_any b w)
  rw [decide_eq_false (by omega)] at HN
  have HI := fhide (fun w : World => IsInf_fin b w hb hf)
  have o0 : FloatKind.f64.format.order b 0 = some .lt ∨ FloatKind.f64.format.order b 0 = some .gt := by
    have := order_fin0 b h0 hf
    rw [show FloatKind.f64.format.order b 0 = _ from this]
    cases sg Ieee.double b
    · right; rfl
    · left; rfl
  have HS := fhide (fun w : World => Signbit_any b w hb)
  have HA := fhide (fun w : World => Abs_any b w hb)
  have HF := fhide (fun w : World => Frexp_num (b % 9223372036854775808) w hf h0)
  generalize decide (9223372036854775808 ≤ b) = s at *
  generalize V Ieee.double (b % 9223372036854775808) = W at *
  generalize b % 9223372036854775808 = r at *
  clear hf h0 hb
  have HT := fhide hT
  clear hT
  rcases o0 with o | o
  all_goals
    go_enter Tryd.func28, Tryd.ntmps28
    go_wp2_with fail
    refine (value64_any _ _).mono ?_
    rintro e w1 ⟨rfl, hw1⟩
    have hw1 := hw1.symm
    subst hw1
    go_wp2_with fail
    refine (HN.out _).mono ?_
    rintro e w1 ⟨rfl, hw1⟩
    have hw1 := hw1.symm
    subst hw1
    go_wp2_with fail
    refine (HI.out _).mono ?_
    rintro e w1 ⟨rfl, hw1⟩
    have hw1 := hw1.symm
    subst hw1
    go_wp2_with (simp only [o])
    refine (HA.out _).mono ?_
    rintro e w1 ⟨rfl, hw1⟩
    have hw1 := hw1.symm
    subst hw1
    go_wp2_with fail
    refine (HF.out _).mono ?_
    rintro e w1 ⟨f, t, u, rfl, ht, hf, hu, he, hw1⟩
    have hw1 := hw1.symm
    subst hw1
    have hmul := fun w : World => run_float_arith (P := Tryd.prog) w .mul 88 .f64 _ 4845873199050653696 _ (mul_53 1074 t rfl ht)
    have hcv := fun w : World => run_convert_float_int (P := Tryd.prog) w 88 24 .f64 .u64 _ _ (by kernel_rfl) (by kernel_rfl) (toU64 t ht)
    obtain ⟨m, hm⟩ : ∃ m : Nat, 4503599627370496 + t = m := ⟨_, rfl⟩
    rw [hm] at hcv he
    have hml : m < 18446744073709551616 := by omega
    obtain ⟨x, q, hk, hmx, hx1, hxq, hqu, hdiv⟩ := odd_part m t f u W hm.symm hml he
    have HZ := fhide (tz64_any m w hml (by omega) HT.out)
    generalize Lib.ctz 64 m = k at *
    generalize 4602678819172646912 + t = y1 at *
    generalize 4841369599423283200 + t = y2 at *
    obtain ⟨y, hy, hyb⟩ : ∃ y : Int, (f : Int) - u - 1021 = y ∧ (-3000 ≤ y ∧ y ≤ 3000) := ⟨_, rfl, by omega⟩
    rw [hy]
    obtain ⟨y5, hy5, hyb5⟩ : ∃ y5 : Int, y - 53 = y5 ∧ (-4000 ≤ y5 ∧ y5 ≤ 4000) := ⟨_, rfl, by omega⟩
    obtain ⟨y6, hy6, hyb6⟩ : ∃ y6 : Int, y5 + (k : Int) = y6 ∧ (-5000 ≤ y6 ∧ y6 ≤ 5000) := ⟨_, rfl, by omega⟩
    have hE : y6 = (q : Int) - 1074 := by omega
    have hsh : (m : Int) / (2 ^ k : Nat) = (x : Int) := by rw [← Int.natCast_ediv, hdiv]
    have HE := fhide (And.intro hE (And.intro hx1 (And.intro hxq hml)))
    have hk0 : ¬ (k : Int) < 0 := by omega
    clear ht hf hu he hmx hx1 hxq hqu hdiv hy hE hml hm
    go_wp2_with (simp only [hmul, hcv])
    refine HZ.out.mono ?_
    rintro e w1 ⟨rfl, hw1⟩
    have hw1 := hw1.symm
    subst hw1
    go_wp2_with fail
    have HB := fhide (Below.refl w.heap.size w).drew
    go_region_held3 (fun w' => True) (trivial)
      (first | (simp only [hsh, hy5, hy6]; done) | (go_at_call 48; go_must (refine (HS.out _).mono ?_); rintro _ w5 ⟨rfl, hw5⟩; have hw5 := hw5.symm; subst hw5))
    go_wp2_with fail
    try simp only [Exit.inBlock, Exit.then]
    refine bodyPost_ret (four_results rfl _ _ _) rfl ?_
    refine ⟨x, q, ?_, HE.out.2.1, HE.out.2.2.1, HB.out⟩
    show Ending.returned (Value.tuple #[.bool s, .int .u64 ((m : Int) / 2 ^ k), .int .i64 (IntKind.i64.wrap (IntKind.i64.wrap y5 + (k : Int))), .bool true]) = _
    have e1 : (m : Int) / 2 ^ k = (x : Int) := by rw [← hsh, Int.natCast_pow]; rfl
    rw [e1, IntKind.wrap_i64, IntKind.wrap_i64, show (y5 + 9223372036854775808) % 18446744073709551616 - 9223372036854775808 = y5 by omega, show (y5 + (k : Int) + 9223372036854775808) % 18446744073709551616 - 9223372036854775808 = y6 by omega, HE.out.1]


end Go.Proofs.YtolaaemkcmiabaaDoor

namespace Go.Proofs.YtolaaemkcmiabaaDoor
open Go.RowKit
open M
open Flt
set_option linter.unusedVariables false
set_option linter.unusedSimpArgs false

theorem odd_split (x q m e : Nat) (hx : x % 2 = 1) (hm : 0 < m) (hm2 : m < 2 ^ 53) (h : x * 2 ^ q = m * 2 ^ e) : x < 2 ^ 53 ∧ q < e + 53 := by
  rcases Nat.lt_or_ge q e with hq | hq
  · obtain ⟨d, rfl⟩ : ∃ d, e = q + (d + 1) := ⟨e - q - 1, by omega⟩
    rw [Nat.pow_add, Nat.mul_comm (2 ^ q), ← Nat.mul_assoc] at h
    have h2 := Nat.eq_of_mul_eq_mul_right (Nat.two_pow_pos q) h
    rw [Nat.pow_succ, ← Nat.mul_assoc] at h2
    omega
  · obtain ⟨d, rfl⟩ : ∃ d, q = e + d := ⟨q - e, by omega⟩
    rw [Nat.pow_add, Nat.mul_comm (2 ^ e), ← Nat.mul_assoc] at h
    have h2 := Nat.eq_of_mul_eq_mul_right (Nat.two_pow_pos e) h
    have h3 : x * 1 ≤ x * 2 ^ d := Nat.mul_le_mul_left _ (Nat.two_pow_pos d)
    have h4 : 1 * 2 ^ d ≤ x * 2 ^ d := Nat.mul_le_mul_right _ (by omega)
    refine ⟨by omega, ?_⟩
    have h5 : 2 ^ d < 2 ^ 53 := by omega
    have := (Nat.pow_lt_pow_iff_right (by omega : 1 < 2)).1 h5
    omega

theorem V_odd (r x q : Nat) (h0 : 0 < r) (hr : r < 9218868437227405312) (hx : x % 2 = 1) (h : x * 2 ^ q = V Ieee.double r) : x < 9007199254740992 ∧ q ≤ 2098 := by
  have hb : Ieee.double.binade = 4503599627370496 := by decide
  unfold V at h
  rw [hb] at h
  by_cases c : r < 4503599627370496
  · rw [if_pos c] at h
    obtain ⟨h1, h2⟩ := odd_split x q r 0 hx h0 (by omega) (by rw [h, Nat.pow_zero, Nat.mul_one])
    exact ⟨by omega, by omega⟩
  · rw [if_neg c] at h
    obtain ⟨h1, h2⟩ := odd_split x q _ _ hx (by omega) (by omega) h
    exact ⟨by omega, by omega⟩

/-- What a finite value is in units of the least one. -/
def ofV (b : Nat) : Int := W6.sgn (decide (9223372036854775808 ≤ b)) (V Ieee.double (b % 9223372036854775808))

def ValEnd (b : Nat) (w : World) (e : Ending) (w' : World) : Prop :=
  ∃ x q : Nat, e = .returned (.tuple #[prt (decide (9223372036854775808 ≤ b)) x q, .bool true]) ∧ x < 9007199254740992 ∧ q ≤ 2098 ∧ x * 2 ^ q = V Ieee.double (b % 9223372036854775808) ∧ Below w.heap.size w w'

set_option maxRecDepth 100000 in
set_option maxHeartbeats 2000000 in
theorem valueOf_fin (b : Nat) (w : World) (hb : b < 18446744073709551616) (hf : b % 9223372036854775808 < 9218868437227405312) (hT : Tab64 w) :
    Calls Tryd.prog 13 #[.int .u64 b] w fun e w' => ValEnd b w e w' := by
  have hbW : ∀ o, Below w.heap.size w (w.alloc o) := fun o => (Below.refl _ w).alloc (Nat.le_refl _) _
  have HSP : Hid (∀ W : World, Below w.heap.size w W → w.heap.size ≤ W.heap.size → Calls Tryd.prog 28 #[.int .u64 b] W fun e w' => ∃ x q : Nat, e = .returned (.tuple #[.bool (decide (9223372036854775808 ≤ b)), .int .u64 x, .int .i64 ((q : Int) - 1074), .bool true]) ∧ x < 9007199254740992 ∧ q ≤ 2098 ∧ x * 2 ^ q = V Ieee.double (b % 9223372036854775808) ∧ Below W.heap.size W w') := by
    intro W hW _
    by_cases h0 : b % 9223372036854775808 = 0
    · refine (Split_zero b W hb h0).mono ?_
      rintro e w' ⟨rfl, rfl⟩
      obtain ⟨q, hq⟩ : ∃ q : Nat, q = 1074 := ⟨_, rfl⟩
      exact ⟨0, q, by rw [hq]; rfl, by omega, by omega, by rw [h0, V_zero, Nat.zero_mul], Below.refl _ _⟩
    · refine (Split_num b W hb (by omega) hf (hT.below hW)).mono ?_
      rintro e w' ⟨x, q, rfl, h1, h2, h3⟩
      obtain ⟨h4, h5⟩ := V_odd _ x q (by omega) hf h1 h2
      exact ⟨x, q, rfl, h4, h5, h2, h3⟩
  unfold ValEnd
  generalize V Ieee.double (b % 9223372036854775808) = U at *
  generalize decide (9223372036854775808 ≤ b) = s at *
  clear hf hb hT
  go_enter Tryd.func13, Tryd.ntmps13
  go_wp2_with fail
  refine (HSP.out _ (hbW _) (by simp)).mono ?_
  rintro e w2 ⟨x, q, rfl, hx, hq, hU, B2⟩
  have B0 := (hbW (.cells #[.bool false, .int .u64 0, .int .i64 0] 39)).trans (B2.mono (by simp))
  have k0 : w2.cell? ⟨w.heap.size, 0, none⟩ = some (.bool false) := by rw [B2.cell (p := ⟨w.heap.size, 0, none⟩) (by simp)]; exact cell_of_row _ _ 0 _ _ _ (heap_alloc_new w _)
  have k1 : w2.cell? ⟨w.heap.size, 1, none⟩ = some (.int .u64 0) := by rw [B2.cell (p := ⟨w.heap.size, 1, none⟩) (by simp)]; exact cell_of_row _ _ 1 _ _ _ (heap_alloc_new w _)
  have k2 : w2.cell? ⟨w.heap.size, 2, none⟩ = some (.int .i64 0) := by rw [B2.cell (p := ⟨w.heap.size, 2, none⟩) (by simp)]; exact cell_of_row _ _ 2 _ _ _ (heap_alloc_new w _)
  have z0 : w2.frozen? ⟨w.heap.size, 0, none⟩ = false := by rw [B2.frozen (p := ⟨w.heap.size, 0, none⟩) (by simp)]; exact frozen_of_row _ _ _ _ _ (heap_alloc_new w _)
  have z1 : w2.frozen? ⟨w.heap.size, 1, none⟩ = false := by rw [B2.frozen (p := ⟨w.heap.size, 1, none⟩) (by simp)]; exact frozen_of_row _ _ _ _ _ (heap_alloc_new w _)
  have z2 : w2.frozen? ⟨w.heap.size, 2, none⟩ = false := by rw [B2.frozen (p := ⟨w.heap.size, 2, none⟩) (by simp)]; exact frozen_of_row _ _ _ _ _ (heap_alloc_new w _)
  have HB := fhide (And.intro B0 hU)
  clear B2 B0 hU HSP hbW
  go_wp2_with fail
  obtain ⟨r0, r1, r2, r3⟩ := three_put (a := .bool s) (b := .int .u64 (x : Nat)) (c := .int .i64 (q : Nat)) k0 k1 k2
  refine bodyPost_ret (v := .tuple #[prt s x q, .bool true]) (by simp [results, Tryd.results13, go_sem, prt, r0, r1, r2]) rfl ?_
  exact ⟨x, q, rfl, hx, hq, HB.out.2, r3 _ _ (Nat.le_refl _) HB.out.1⟩

end Go.Proofs.YtolaaemkcmiabaaDoor
