/- The program's Split and Scale. -/
import Derived.Test.YtmkploknoohliaaDoorQS
namespace Go.Proofs.YtmkploknoohliaaDoor
open Go.RowKit
open Flt
set_option linter.unusedVariables false
set_option linter.unusedSimpArgs false

theorem toU64 (t : Nat) (ht : t < 4503599627370496) : floatToIntVal .f64 (4841369599423283200 + t) .u64 = some ((4503599627370496 + t : Nat) : Int) := by
  obtain ⟨K, hK⟩ : ∃ K : Nat, K = 1075 := ⟨_, rfl⟩
  have hr : FloatKind.f64.decode (4841369599423283200 + t) = .number false (4503599627370496 + t) 0 := by
    show Ieee.double.read (4841369599423283200 + t) = _
    unfold Ieee.Format.read
    dsimp only
    rw [show (4841369599423283200 + t) % Ieee.double.signWeight = 4841369599423283200 + t from Nat.mod_eq_of_lt (by show _ < 9223372036854775808; omega),
      show (4841369599423283200 + t) / Ieee.double.signWeight = 0 from Nat.div_eq_of_lt (by show _ < 9223372036854775808; omega), binade64, if_neg (by omega), if_pos (by rw [inf64]; omega),
      show (4841369599423283200 + t) % 4503599627370496 = t by omega, show (4841369599423283200 + t) / 4503599627370496 = 1075 by omega]
    rfl
  have hto : (FloatKind.f64.decode (4841369599423283200 + t)).toInt .zero = some ((4503599627370496 + t : Nat) : Int) := by
    rw [hr]
    show some (Ieee.signed false (Ieee.Toward.zero.cut false ((4503599627370496 + t) <<< (0 : Int).toNat) (-(0 : Int)).toNat) 0) = _
    generalize 4503599627370496 + t = m
    unfold Ieee.Toward.cut Ieee.signed
    simp
  unfold floatToIntVal
  rw [hto]
  have hmn : IntKind.u64.min = 0 := by decide
  have hmx : IntKind.u64.max = 18446744073709551615 := by decide
  simp only [hmn, hmx]
  rw [if_pos ⟨by omega, by omega⟩]

/-- A share times 2^53. -/
theorem mul_53 (T t : Nat) (hT : T = 1074) (ht : t < 4503599627370496) : FloatKind.f64.format.mul (4602678819172646912 + t) 4845873199050653696 = some (4841369599423283200 + t) := by
  have hl : Ieee.double.leastPlace = -(T : Int) := by rw [hT]; decide
  have hm := mul_rnd Ieee.double T (4602678819172646912 + t) 4845873199050653696 hl (by rw [rg64, inf64]; omega) (by rw [rg64, inf64]; omega)
  obtain ⟨A, hA⟩ : ∃ A : Nat, A = 1021 := ⟨_, rfl⟩
  obtain ⟨B, hB⟩ : ∃ B : Nat, B = 1075 := ⟨_, rfl⟩
  obtain ⟨C, hC⟩ : ∃ C : Nat, C = 1074 := ⟨_, rfl⟩
  have hz1 : V Ieee.double (4602678819172646912 + t) = (4503599627370496 + t) * 2 ^ A := by
    rw [← V_field A t ht]; congr 1; omega
  have hz2 : V Ieee.double 4845873199050653696 = 2 ^ 52 * 2 ^ B := by
    have := V_field B 0 (by omega)
    rw [show (B + 1) * 4503599627370496 + 0 = 4845873199050653696 by omega] at this
    rw [this]
  rw [rg64, rg64, show (4602678819172646912 + t) % 9223372036854775808 = 4602678819172646912 + t by omega, show 4845873199050653696 % 9223372036854775808 = 4845873199050653696 by omega, hz1, hz2,
    sgQ _ (by omega), decide_eq_false (by omega), show sg Ieee.double 4845873199050653696 = false by decide +kernel, Bool.false_xor,
    rnd_eq Ieee.double (n' := (4503599627370496 + t) * 2 ^ C) (d' := 1) (Nat.two_pow_pos T) (by omega) (by
      rw [Nat.mul_one, Nat.mul_assoc, Nat.mul_assoc, ← Nat.pow_add, ← Nat.pow_add, ← Nat.pow_add]
      exact congrArg ((4503599627370496 + t) * 2 ^ ·) (by omega)), scale_mid C t ht, inf64, Nat.min_eq_left (by omega), show (C + 1) * 4503599627370496 + t = 4841369599423283200 + t by omega] at hm
  exact hm

/-- The odd part of a number. -/
theorem odd_part (m t f u W : Nat) (hm : m = 4503599627370496 + t) (hl : m < 18446744073709551616) (he : m * 2 ^ f = W * 2 ^ u) : ∃ x q : Nat, Lib.ctz 64 m ≤ 63 ∧ m = x * 2 ^ Lib.ctz 64 m ∧ x % 2 = 1 ∧ x * 2 ^ q = W ∧ q + u = Lib.ctz 64 m + f ∧ m / 2 ^ Lib.ctz 64 m = x := by
  have h0 : m ≠ 0 := by omega
  obtain ⟨c, hc, hk⟩ := Lib.ctzFrom_spec 64 m (by omega) hl
  have e : Lib.ctz 64 m = Lib.ctzFrom 64 m := by simp [Lib.ctz, h0]
  rw [e]
  generalize Lib.ctzFrom 64 m = k at *
  have hu : u ≤ k + f := by
    rcases Nat.lt_or_ge (k + f) u with h | h
    · exfalso
      obtain ⟨d, hd⟩ : ∃ d, u = k + f + (d + 1) := ⟨u - (k + f) - 1, by omega⟩
      rw [hc, hd, Nat.pow_add, Nat.mul_comm (2 ^ k), Nat.mul_assoc, ← Nat.pow_add, ← Nat.mul_assoc, Nat.mul_right_comm] at he
      have := Nat.eq_of_mul_eq_mul_right (Nat.two_pow_pos _) he
      rw [Nat.pow_succ, ← Nat.mul_assoc] at this
      omega
    · exact h
  obtain ⟨q, hq⟩ : ∃ q, q + u = k + f := ⟨k + f - u, by omega⟩
  refine ⟨2 * c + 1, q, by omega, by rw [Nat.mul_comm]; exact hc, by omega, ?_, hq, ?_⟩
  · refine Nat.eq_of_mul_eq_mul_right (Nat.two_pow_pos u) ?_
    rw [← he, Nat.mul_assoc, ← Nat.pow_add, hq, hc, Nat.pow_add]
    simp only [Nat.mul_assoc, Nat.mul_left_comm, Nat.mul_comm]
  · rw [hc, Nat.mul_div_cancel_left _ (Nat.two_pow_pos k)]

set_option maxRecDepth 100000 in
set_option maxHeartbeats 2000000 in
theorem Split_bad (b : Nat) (w : World) (hb : b < 18446744073709551616) (hf : ¬ b % 9223372036854775808 < 9218868437227405312) : Calls Tryd.prog 4 #[.int .u64 b] w fun e w' => e = .returned (.tuple #[.bool false, .int .u64 0, .int .i64 0, .bool false]) ∧ w' = w := by
  have HN := fhide (fun w : World => IsNaN_any b w)
  have HI := fhide (fun w : World => IsInf_not b w hb (by omega))
  by_cases c : b % 9223372036854775808 = 9218868437227405312
  · rw [decide_eq_false (by omega)] at HN
    rw [decide_eq_true c] at HI
    clear c hb hf
    go_enter Tryd.func4, Tryd.ntmps4
    go_wp2_with fail
    refine (value64_any _ _).mono ?_
    rintro e w1 ⟨rfl, hw1⟩
    have hw1 := hw1.symm
    subst hw1
    go_wp2_with fail
    refine (HN.out _).mono ?_
    rintro e w1 ⟨rfl, hw1⟩
    have hw1 := hw1.symm
    subst hw1
    go_wp2_with fail
    refine (HI.out _).mono ?_
    rintro e w1 ⟨rfl, hw1⟩
    have hw1 := hw1.symm
    subst hw1
    go_wp2_with fail
    try simp only [Exit.inBlock, Exit.then]
    refine bodyPost_ret (four_results rfl _ _ _) rfl ?_
    exact ⟨rfl, rfl⟩
  · rw [decide_eq_true (by omega)] at HN
    clear c hb hf HI
    go_enter Tryd.func4, Tryd.ntmps4
    go_wp2_with fail
    refine (value64_any _ _).mono ?_
    rintro e w1 ⟨rfl, hw1⟩
    have hw1 := hw1.symm
    subst hw1
    go_wp2_with fail
    refine (HN.out _).mono ?_
    rintro e w1 ⟨rfl, hw1⟩
    have hw1 := hw1.symm
    subst hw1
    go_wp2_with fail
    try simp only [Exit.inBlock, Exit.then]
    refine bodyPost_ret (four_results rfl _ _ _) rfl ?_
    exact ⟨rfl, rfl⟩

set_option maxRecDepth 100000 in
set_option maxHeartbeats 2000000 in
theorem Split_zero (b : Nat) (w : World) (hb : b < 18446744073709551616) (hz : b % 9223372036854775808 = 0) : Calls Tryd.prog 4 #[.int .u64 b] w fun e w' => e = .returned (.tuple #[.bool (decide (9223372036854775808 ≤ b)), .int .u64 0, .int .i64 0, .bool true]) ∧ w' = w := by
  have HN := fhide (fun w : World => IsNaN_any b w)
  rw [decide_eq_false (by omega)] at HN
  have HI := fhide (fun w : World => IsInf_fin b w hb (by omega))
  have o : FloatKind.f64.format.order b 0 = some .eq := order_zero0 b hz
  have HS := fhide (fun w : World => Signbit_any b w hb)
  generalize decide (9223372036854775808 ≤ b) = s at *
  clear hz hb
  go_enter Tryd.func4, Tryd.ntmps4
  go_wp2_with fail
  refine (value64_any _ _).mono ?_
  rintro e w1 ⟨rfl, hw1⟩
  have hw1 := hw1.symm
  subst hw1
  go_wp2_with fail
  refine (HN.out _).mono ?_
  rintro e w1 ⟨rfl, hw1⟩
  have hw1 := hw1.symm
  subst hw1
  go_wp2_with fail
  refine (HI.out _).mono ?_
  rintro e w1 ⟨rfl, hw1⟩
  have hw1 := hw1.symm
  subst hw1
  go_wp2_with (simp only [o])
  refine (HS.out _).mono ?_
  rintro e w1 ⟨rfl, hw1⟩
  have hw1 := hw1.symm
  subst hw1
  go_wp2_with fail
  try simp only [Exit.inBlock, Exit.then]
  refine bodyPost_ret (four_results rfl _ _ _) rfl ?_
  exact ⟨rfl, rfl⟩

set_option maxRecDepth 100000 in
set_option maxHeartbeats 4000000 in
theorem Split_num (b : Nat) (w : World) (hb : b < 18446744073709551616) (h0 : 0 < b % 9223372036854775808) (hf : b % 9223372036854775808 < 9218868437227405312) (hT : Tab64 w) : Calls Tryd.prog 4 #[.int .u64 b] w fun e w' => ∃ x q : Nat, e = .returned (.tuple #[.bool (decide (9223372036854775808 ≤ b)), .int .u64 x, .int .i64 ((q : Int) - 1074), .bool true]) ∧ x % 2 = 1 ∧ x * 2 ^ q = V Ieee.double (b % 9223372036854775808) ∧ Below w.heap.size w w' := by
  have HN := fhide (fun w : World => IsNaN_any b w)
  rw [decide_eq_false (by omega)] at HN
  have HI := fhide (fun w : World => IsInf_fin b w hb hf)
  have o0 : FloatKind.f64.format.order b 0 = some .lt ∨ FloatKind.f64.format.order b 0 = some .gt := by
    have := order_fin0 b h0 hf
    rw [show FloatKind.f64.format.order b 0 = _ from this]
    cases sg Ieee.double b
    · right; rfl
    · left; rfl
  have HS := fhide (fun w : World => Signbit_any b w hb)
  have HA := fhide (fun w : World => Abs_any b w hb)
  have HF := fhide (fun w : World => Frexp_num (b % 9223372036854775808) w hf h0)
  generalize decide (9223372036854775808 ≤ b) = s at *
  generalize V Ieee.double (b % 9223372036854775808) = W at *
  generalize b % 9223372036854775808 = r at *
  clear hf h0 hb
  have HT := fhide hT
  clear hT
  rcases o0 with o | o
  all_goals
    go_enter Tryd.func4, Tryd.ntmps4
    go_wp2_with fail
    refine (value64_any _ _).mono ?_
    rintro e w1 ⟨rfl, hw1⟩
    have hw1 := hw1.symm
    subst hw1
    go_wp2_with fail
    refine (HN.out _).mono ?_
    rintro e w1 ⟨rfl, hw1⟩
    have hw1 := hw1.symm
    subst hw1
    go_wp2_with fail
    refine (HI.out _).mono ?_
    rintro e w1 ⟨rfl, hw1⟩
    have hw1 := hw1.symm
    subst hw1
    go_wp2_with (simp only [o])
    refine (HA.out _).mono ?_
    rintro e w1 ⟨rfl, hw1⟩
    have hw1 := hw1.symm
    subst hw1
    go_wp2_with fail
    refine (HF.out _).mono ?_
    rintro e w1 ⟨f, t, u, rfl, ht, hf, hu, he, hw1⟩
    have hw1 := hw1.symm
    subst hw1
    have hmul := fun w : World => run_float_arith (P := Tryd.prog) w .mul 31 .f64 _ 4845873199050653696 _ (mul_53 1074 t rfl ht)
    have hcv := fun w : World => run_convert_float_int (P := Tryd.prog) w 31 23 .f64 .u64 _ _ (by kernel_rfl) (by kernel_rfl) (toU64 t ht)
    obtain ⟨m, hm⟩ : ∃ m : Nat, 4503599627370496 + t = m := ⟨_, rfl⟩
    rw [hm] at hcv he
    have hml : m < 18446744073709551616 := by omega
    obtain ⟨x, q, hk, hmx, hx1, hxq, hqu, hdiv⟩ := odd_part m t f u W hm.symm hml he
    have HZ := fhide (tz64_any m w hml (by omega) HT.out)
    generalize Lib.ctz 64 m = k at *
    generalize 4602678819172646912 + t = y1 at *
    generalize 4841369599423283200 + t = y2 at *
    obtain ⟨y, hy, hyb⟩ : ∃ y : Int, (f : Int) - u - 1021 = y ∧ (-3000 ≤ y ∧ y ≤ 3000) := ⟨_, rfl, by omega⟩
    rw [hy]
    obtain ⟨y5, hy5, hyb5⟩ : ∃ y5 : Int, y - 53 = y5 ∧ (-4000 ≤ y5 ∧ y5 ≤ 4000) := ⟨_, rfl, by omega⟩
    obtain ⟨y6, hy6, hyb6⟩ : ∃ y6 : Int, y5 + (k : Int) = y6 ∧ (-5000 ≤ y6 ∧ y6 ≤ 5000) := ⟨_, rfl, by omega⟩
    have hE : y6 = (q : Int) - 1074 := by omega
    have hsh : (m : Int) / (2 ^ k : Nat) = (x : Int) := by rw [← Int.natCast_ediv, hdiv]
    have HE := fhide (And.intro hE (And.intro hx1 (And.intro hxq hml)))
    have hk0 : ¬ (k : Int) < 0 := by omega
    clear ht hf hu he hmx hx1 hxq hqu hdiv hy hE hml hm
    go_wp2_with (simp only [hmul, hcv])
    refine HZ.out.mono ?_
    rintro e w1 ⟨rfl, hw1⟩
    have hw1 := hw1.symm
    subst hw1
    go_wp2_with fail
    have HB := fhide (Below.refl w.heap.size w).drew
    go_region_held3 (fun w' => True) (trivial)
      (first | (simp only [hsh, hy5, hy6]; done) | (go_at_call 12; go_must (refine (HS.out _).mono ?_); rintro _ w5 ⟨rfl, hw5⟩; have hw5 := hw5.symm; subst hw5))
    go_wp2_with fail
    try simp only [Exit.inBlock, Exit.then]
    refine bodyPost_ret (four_results rfl _ _ _) rfl ?_
    refine ⟨x, q, ?_, HE.out.2.1, HE.out.2.2.1, HB.out⟩
    show Ending.returned (Value.tuple #[.bool s, .int .u64 ((m : Int) / 2 ^ k), .int .i64 (IntKind.i64.wrap (IntKind.i64.wrap y5 + (k : Int))), .bool true]) = _
    have e1 : (m : Int) / 2 ^ k = (x : Int) := by rw [← hsh, Int.natCast_pow]; rfl
    rw [e1, IntKind.wrap_i64, IntKind.wrap_i64, show (y5 + 9223372036854775808) % 18446744073709551616 - 9223372036854775808 = y5 by omega, show (y5 + (k : Int) + 9223372036854775808) % 18446744073709551616 - 9223372036854775808 = y6 by omega, HE.out.1]

/-- Beyond all bounds nothing changes. -/
theorem scw_great (W : Nat) (c : Int) (h0 : 0 < W) (hc : 2200 ≤ c) : 9218868437227405312 ≤ rnd Ieee.double (W * 2 ^ c.toNat) (2 ^ (-c).toNat) := by
  have h := le_rnd Ieee.double (by decide) (W * 2 ^ c.toNat) (2 ^ (-c).toNat) Ieee.double.infRung (Nat.two_pow_pos _) (by
    rw [V_inf Ieee.double (by decide), show (-c).toNat = 0 by omega, Nat.pow_zero, Nat.mul_one]
    refine Nat.le_trans ?_ (Nat.le_mul_of_pos_left _ h0)
    refine Nat.pow_le_pow_right (by omega) ?_
    have : Ieee.double.fractionBits + (2 ^ Ieee.double.exponentBits - 2) = 2098 := by decide
    omega)
  rw [inf64] at h
  exact h

theorem scw_less (r : Nat) (c : Int) (hr : r < 9218868437227405312) (hc : c ≤ -2200) : rnd Ieee.double (V Ieee.double r * 2 ^ c.toNat) (2 ^ (-c).toNat) = 0 := by
  obtain ⟨Z, hZ⟩ : ∃ Z : Nat, Z = 2098 := ⟨_, rfl⟩
  have hV : V Ieee.double r < 2 ^ Z := by
    have h := V_lt (f := Ieee.double) (r := r) (s := Ieee.double.infRung) (by rw [inf64]; exact hr)
    rw [V_inf Ieee.double (by decide), show Ieee.double.fractionBits + (2 ^ Ieee.double.exponentBits - 2) = Z by rw [hZ]; decide] at h
    exact h
  rw [show c.toNat = 0 by omega, Nat.pow_zero, Nat.mul_one]
  generalize V Ieee.double r = W at *
  obtain ⟨k, hk⟩ : ∃ k : Nat, k = (-c).toNat := ⟨_, rfl⟩
  rw [← hk]
  have hd : 2 * 2 ^ Z ≤ 2 ^ k := by
    rw [← Nat.pow_succ']; exact Nat.pow_le_pow_right (by omega) (by omega)
  obtain ⟨q, h1, h2, h3⟩ := rnd_spec Ieee.double (by decide) W (2 ^ k) (Nat.two_pow_pos _)
  generalize 2 ^ Z = z at *
  generalize 2 ^ k = d at *
  have hq : q = 0 := by
    rcases Nat.eq_zero_or_pos q with h | h
    · exact h
    · exfalso
      have h4 : V Ieee.double 0 < V Ieee.double q := V_lt h
      have h5 : 1 * d ≤ V Ieee.double q * d := Nat.mul_le_mul_right d (by omega)
      omega
  subst hq
  have v0 : V Ieee.double 0 = 0 := by decide +kernel
  have v1 : V Ieee.double (0 + 1) = 1 := by decide +kernel
  rw [h3, v0, v1, if_neg (by omega)]

theorem scale_same (n : Int) (b : Nat) (hb : b < 18446744073709551616) : pat64 (ldx (max (-2200) (min n 2200)) b) = sclv n b := by
  unfold ldx sclv
  by_cases c1 : 9218868437227405312 < b % 9223372036854775808
  · rw [if_pos (.inr (by omega)), if_pos c1, pat64_nan _ c1]
  rw [if_neg c1]
  by_cases c2 : b % 9223372036854775808 = 9218868437227405312 ∨ b % 9223372036854775808 = 0
  · rw [if_pos (by omega), if_pos c2, pat64_num _ (by omega)]
  rw [if_neg (by omega), if_neg c2]
  have hs : ∀ c : Int, scw c b = sclf c b := by
    intro c
    unfold scw sclf
    rw [sgQ b hb]
    unfold wd64
    cases decide (9223372036854775808 ≤ b) <;> rfl
  have hnum : ∀ c : Int, pat64 (scw c b) = scw c b := by
    intro c
    refine pat64_num _ ?_
    have h : min (rnd Ieee.double (V Ieee.double (b % 9223372036854775808) * 2 ^ c.toNat) (2 ^ (-c).toNat)) 9218868437227405312 ≤ 9218868437227405312 := Nat.min_le_right ..
    have := rg_word Ieee.double (sg Ieee.double b) (min (rnd Ieee.double (V Ieee.double (b % 9223372036854775808) * 2 ^ c.toNat) (2 ^ (-c).toNat)) 9218868437227405312) (by show _ < 9223372036854775808; omega)
    rw [rg64] at this
    unfold scw
    rw [this]; exact h
  rw [hnum, hs]
  have hV : 0 < V Ieee.double (b % 9223372036854775808) := by rw [← V_zero Ieee.double]; exact V_lt (by omega)
  by_cases g1 : n < -2200
  · unfold sclf
    rw [show max (-2200) (min n 2200) = (-2200 : Int) by omega, scw_less _ _ (by omega) (by omega), scw_less _ _ (by omega) (by omega)]
  by_cases g2 : 2200 < n
  · unfold sclf
    rw [show max (-2200) (min n 2200) = (2200 : Int) by omega, Nat.min_eq_right (scw_great _ _ hV (by omega)), Nat.min_eq_right (scw_great _ _ hV (by omega))]
  · rw [show max (-2200) (min n 2200) = n by omega, show max (-10000) (min n 10000) = n by omega]

set_option maxRecDepth 100000 in
set_option maxHeartbeats 2000000 in
theorem Scale_any (b : Nat) (n : Int) (w : World) (hb : b < 18446744073709551616) : Calls Tryd.prog 6 #[.int .u64 b, .int .i64 n] w fun e w' => e = .returned (.int .u64 (sclv n b : Nat)) ∧ Below w.heap.size w w' := by
  rw [← scale_same n b hb]
  have HL := fhide (fun w : World => Ldexp_any b (max (-2200) (min n 2200)) w hb (by omega) (by omega))
  have hlt : ldx (max (-2200) (min n 2200)) b < 18446744073709551616 := by
    unfold ldx scw
    split
    · exact hb
    · have h : min (rnd Ieee.double (V Ieee.double (b % 9223372036854775808) * 2 ^ (max (-2200) (min n 2200)).toNat) (2 ^ (-(max (-2200) (min n 2200))).toNat)) 9218868437227405312 ≤ 9218868437227405312 := Nat.min_le_right ..
      have := Bool.toNat_le (sg Ieee.double b)
      rw [word_put]
      omega
  have hcase : (n < -2200 ∧ max (-2200) (min n 2200) = -2200) ∨ (2200 < n ∧ ¬ n < -2200 ∧ max (-2200) (min n 2200) = 2200) ∨ (¬ 2200 < n ∧ ¬ n < -2200 ∧ max (-2200) (min n 2200) = n) := by omega
  generalize ldx (max (-2200) (min n 2200)) b = y at *
  have HP := fhide (fun w : World => pattern64_any y w hlt)
  generalize pat64 y = out at *
  clear hlt hb
  rcases hcase with ⟨h1, h2⟩ | ⟨h1, h3, h2⟩ | ⟨h1, h3, h2⟩
  all_goals
    rw [h2] at HL
    clear h2
    go_enter Tryd.func6, Tryd.ntmps6
    go_wp2_with fail
    refine (value64_any _ _).mono ?_
    rintro e w1 ⟨rfl, hw1⟩
    have hw1 := hw1.symm
    subst hw1
    go_wp2_with fail
    refine (HL.out _).mono ?_
    rintro e w1 ⟨rfl, hw1⟩
    have hw1 := hw1.symm
    subst hw1
    go_wp2_with fail
    refine (HP.out _).mono ?_
    rintro e w1 ⟨rfl, hb1⟩
    have HB := fhide hb1
    clear hb1
    go_wp2_with fail
    go_ret
    exact ⟨rfl, HB.out⟩

end Go.Proofs.YtmkploknoohliaaDoor
