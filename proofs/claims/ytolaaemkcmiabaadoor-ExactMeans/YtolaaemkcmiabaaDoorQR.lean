/- math.ldexp. -/
import Derived.Test.YtolaaemkcmiabaaDoorRK
/- math.normalize. -/
namespace Go.Proofs.YtolaaemkcmiabaaDoor
open Go.RowKit
open Flt
set_option linter.unusedVariables false
set_option linter.unusedSimpArgs false

theorem norm_math (r : Nat) (h0 : 0 < r) (h : r < 4503599627370496) : ∃ f t : Nat, t < 4503599627370496 ∧ f ≤ 51 ∧ (4503599627370496 + t) * 2 ^ f = r * 4503599627370496 := by
  obtain ⟨l, hl⟩ : ∃ l, r.log2 = l := ⟨_, rfl⟩
  have h1 : 2 ^ l ≤ r := by rw [← hl]; exact Nat.log2_self_le (by omega)
  have h2 : r < 2 ^ (l + 1) := by rw [← hl]; exact Nat.lt_log2_self
  have h3 : l ≤ 51 := by
    rcases Nat.lt_or_ge 51 l with h4 | h4
    · exfalso
      have h5 := Nat.pow_le_pow_right (n := 2) (by omega) (show 52 ≤ l by omega)
      have h6 : 2 ^ 52 = 4503599627370496 := by decide
      rw [h6] at h5
      omega
    · exact h4
  obtain ⟨q, hq⟩ : ∃ q, l + q = 52 := ⟨52 - l, by omega⟩
  have hB : 2 ^ l * 2 ^ q = 4503599627370496 := by rw [← Nat.pow_add, hq]
  rw [Nat.pow_succ] at h2
  obtain ⟨d, hd⟩ : ∃ d, r = 2 ^ l + d := ⟨r - 2 ^ l, by omega⟩
  refine ⟨l, d * 2 ^ q, ?_, h3, ?_⟩
  · rw [← hB]; exact (Nat.mul_lt_mul_right (Nat.two_pow_pos q)).2 (by omega)
  · rw [hd, ← hB, ← Nat.add_mul, Nat.mul_assoc, Nat.mul_comm (2 ^ q)]

theorem sgQ (x : Nat) (hx : x < 18446744073709551616) : sg Ieee.double x = decide (9223372036854775808 ≤ x) := by
  show (x / 9223372036854775808 % 2 == 1) = _
  have h : x / 9223372036854775808 = 0 ∨ x / 9223372036854775808 = 1 := by omega
  rcases h with h | h
  · rw [h, decide_eq_false (by omega)]; rfl
  · rw [h, decide_eq_true (by omega)]; rfl

/-! A finite number that is not nought, made normal. -/
set_option maxRecDepth 100000 in
set_option maxHeartbeats 1000000 in
theorem normalize_any (a : Nat) (w : World) (ha : a < 18446744073709551616) (h0 : 0 < a % 9223372036854775808) (hf : a % 9223372036854775808 < 9218868437227405312) : Calls Tryd.prog 91 #[.float .f64 a] w fun e w' => ∃ f t u : Nat, e = .returned (.tuple #[.float .f64 (Ieee.double.word (sg Ieee.double a) ((f + 1) * 4503599627370496 + t)), .int .i64 (-(u : Int))]) ∧ t < 4503599627370496 ∧ f ≤ 2045 ∧ u ≤ 52 ∧ (4503599627370496 + t) * 2 ^ f = V Ieee.double (a % 9223372036854775808) * 2 ^ u ∧ w' = w := by
  have HA := fhide (fun w : World => Abs_any a w ha)
  have hr : rg Ieee.double (a % 9223372036854775808) = a % 9223372036854775808 := by rw [rg64]; omega
  have hsm : sv Ieee.double (a % 9223372036854775808) = ((V Ieee.double (a % 9223372036854775808) : Nat) : Int) := by
    unfold sv
    rw [hr, sgQ _ (by omega), decide_eq_false (by omega)]; rfl
  have hsn : sv Ieee.double 4503599627370496 = ((V Ieee.double 4503599627370496 : Nat) : Int) := by
    unfold sv
    rw [show sg Ieee.double 4503599627370496 = false by decide +kernel, show rg Ieee.double 4503599627370496 = 4503599627370496 by decide +kernel]; rfl
  have ho := order_all Ieee.double (by decide) (a % 9223372036854775808) 4503599627370496 (by rw [hr, inf64]; omega) (by rw [rg64, inf64]; omega)
  rw [hsm, hsn] at ho
  rcases Nat.lt_or_ge (a % 9223372036854775808) 4503599627370496 with c | c
  · rw [cmp_lt (Int.ofNat_lt.2 (V_lt c))] at ho
    have ho' : FloatKind.f64.format.order (a % 9223372036854775808) 4503599627370496 = some .lt := ho
    obtain ⟨f, t, ht, hfl, he⟩ := norm_math _ h0 c
    obtain ⟨T, hT⟩ : ∃ T : Nat, T = 1074 := ⟨_, rfl⟩
    have hl : Ieee.double.leastPlace = -(T : Int) := by rw [hT]; decide
    have hz : V Ieee.double 4841369599423283200 = 4503599627370496 * 2 ^ T := by
      have := V_field T 0 (by omega)
      rw [show (T + 1) * 4503599627370496 + 0 = 4841369599423283200 by omega] at this
      exact this
    have hV : V Ieee.double (a % 9223372036854775808) = a % 9223372036854775808 := by
      unfold V; rw [binade64, if_pos c]
    have hm := mul_rnd Ieee.double T a 4841369599423283200 hl (by rw [rg64, inf64]; exact hf) (by rw [rg64, inf64]; omega)
    rw [rg64, rg64, show 4841369599423283200 % 9223372036854775808 = 4841369599423283200 by omega, hz, hV, ← Nat.mul_assoc, ← he, show sg Ieee.double 4841369599423283200 = false by decide +kernel, Bool.xor_false,
      rnd_eq Ieee.double (n' := (4503599627370496 + t) * 2 ^ f) (d' := 1) (Nat.two_pow_pos T) (by omega) (by rw [Nat.mul_one]), scale_mid f t ht, inf64, Nat.min_eq_left (by omega)] at hm
    have hs : FloatKind.f64.format.mul a 4841369599423283200 = some (Ieee.double.word (sg Ieee.double a) ((f + 1) * 4503599627370496 + t)) := hm
    obtain ⟨y, hy⟩ : ∃ y : Nat, Ieee.double.word (sg Ieee.double a) ((f + 1) * 4503599627370496 + t) = y := ⟨_, rfl⟩
    rw [hy] at hs
    have hmul := fun w : World => run_float_arith (P := Tryd.prog) w .mul 88 .f64 a 4841369599423283200 y hs
    have HY := fhide hy
    have HE : Hid (t < 4503599627370496 ∧ f ≤ 2045 ∧ (52 : Nat) ≤ 52 ∧ (4503599627370496 + t) * 2 ^ f = V Ieee.double (a % 9223372036854775808) * 2 ^ 52) := ⟨ht, by omega, by omega, by rw [hV, he]⟩
    clear hm hs hy he hV hz hl hT ho hsm hsn hr h0 hf ha ht hfl c
    go_enter Tryd.func91, Tryd.ntmps91
    go_wp2_with fail
    refine (HA.out _).mono ?_
    rintro e w1 ⟨rfl, hw1⟩
    have hw1 := hw1.symm
    subst hw1
    go_wp2_with (simp only [ho', hmul])
    go_ret2
    exact ⟨f, t, 52, by rw [HY.out]; rfl, HE.out.1, HE.out.2.1, HE.out.2.2.1, HE.out.2.2.2, rfl⟩
  · obtain ⟨f, t, hft, ht⟩ : ∃ f t : Nat, a % 9223372036854775808 = (f + 1) * 4503599627370496 + t ∧ t < 4503599627370496 := ⟨a % 9223372036854775808 / 4503599627370496 - 1, a % 9223372036854775808 % 4503599627370496, by omega, by omega⟩
    have hV : V Ieee.double (a % 9223372036854775808) = (4503599627370496 + t) * 2 ^ f := by rw [hft, V_field f t ht]
    have hy : Ieee.double.word (sg Ieee.double a) ((f + 1) * 4503599627370496 + t) = a := by
      rw [← hft, sgQ a ha]
      by_cases h9 : 9223372036854775808 ≤ a
      · rw [decide_eq_true h9]
        show 9223372036854775808 + a % 9223372036854775808 = a
        omega
      · rw [decide_eq_false h9]
        show a % 9223372036854775808 = a
        omega
    have HY := fhide hy
    have HE : Hid (t < 4503599627370496 ∧ f ≤ 2045 ∧ (0 : Nat) ≤ 52 ∧ (4503599627370496 + t) * 2 ^ f = V Ieee.double (a % 9223372036854775808) * 2 ^ 0) := ⟨ht, by omega, by omega, by rw [hV]; omega⟩
    have ho' : FloatKind.f64.format.order (a % 9223372036854775808) 4503599627370496 = some .gt ∨ FloatKind.f64.format.order (a % 9223372036854775808) 4503599627370496 = some .eq := by
      rcases Nat.lt_or_ge 4503599627370496 (a % 9223372036854775808) with c2 | c2
      · left; rw [cmp_gt (Int.ofNat_lt.2 (V_lt c2))] at ho; exact ho
      · right
        have : a % 9223372036854775808 = 4503599627370496 := by omega
        rw [this, cmp_eq] at ho
        rw [this]; exact ho
    clear hy hV ho hsm hsn hr h0 hf ha ht hft c
    rcases ho' with ho' | ho'
    all_goals
      go_enter Tryd.func91, Tryd.ntmps91
      go_wp2_with fail
      refine (HA.out _).mono ?_
      rintro e w1 ⟨rfl, hw1⟩
      have hw1 := hw1.symm
      subst hw1
      go_wp2_with (simp only [ho'])
      go_ret2
      exact ⟨f, t, 0, by rw [HY.out]; rfl, HE.out.1, HE.out.2.1, HE.out.2.2.1, HE.out.2.2.2, rfl⟩

end Go.Proofs.YtolaaemkcmiabaaDoor

/- Bits of a float's field: what math.ldexp and math.frexp take out and put in. -/
namespace Go.Proofs.YtolaaemkcmiabaaDoor
open Go.RowKit
open Flt
set_option linter.unusedVariables false
set_option linter.unusedSimpArgs false

theorem n_ends (b : Nat) : b &&& 9227875636482146303 = 9223372036854775808 * (b / 9223372036854775808 % 2) + b % 4503599627370496 := by
  have h1 : (9227875636482146303 : Nat) = 9223372036854775808 ||| 4503599627370495 := by decide +kernel
  have h2 : b &&& 9223372036854775808 = b / 9223372036854775808 % 2 * 9223372036854775808 := n_mask b 63 1
  have h3 : b &&& 4503599627370495 = b % 4503599627370496 := Nat.and_two_pow_sub_one_eq_mod b 52
  have h4 := Nat.two_pow_add_eq_or_of_lt (i := 63) (b := b % 4503599627370496) (by omega) (b / 9223372036854775808 % 2)
  rw [h1, Nat.and_or_distrib_left, h2, h3, Nat.mul_comm]
  exact h4.symm

theorem b64_ends (b : Nat) (hb : b < 18446744073709551616) : bits BinOp.andNot IntKind.u64 (b : Int) 9218868437227405312 = ((9223372036854775808 * (b / 9223372036854775808 % 2) + b % 4503599627370496 : Nat) : Int) := by
  have := u64_andNot_nat b 9218868437227405312 hb (by omega)
  rw [show b &&& (18446744073709551615 - 9218868437227405312) = _ from n_ends b] at this; exact this

theorem b64_put (s g t : Nat) (hs : s ≤ 1) (hg : g < 2048) (ht : t < 4503599627370496) : bits BinOp.or IntKind.u64 ((9223372036854775808 * s + t : Nat) : Int) ((4503599627370496 * g : Nat) : Int) = ((9223372036854775808 * s + (4503599627370496 * g + t) : Nat) : Int) := by
  rw [u64_or_nat _ _ (by omega) (by omega)]
  have h1 := Nat.two_pow_add_eq_or_of_lt (i := 63) (b := t) (by omega) s
  have h2 := Nat.two_pow_add_eq_or_of_lt (i := 52) (b := t) (by omega) g
  have h3 := Nat.two_pow_add_eq_or_of_lt (i := 63) (b := 4503599627370496 * g + t) (by omega) s
  have e1 : 9223372036854775808 * s + t = 9223372036854775808 * s ||| t := h1
  have e2 : 4503599627370496 * g + t = 4503599627370496 * g ||| t := h2
  have e3 : 9223372036854775808 * s + (4503599627370496 * g + t) = 9223372036854775808 * s ||| (4503599627370496 * g + t) := h3
  rw [e3, e2, e1, Nat.or_assoc, Nat.or_comm t]

theorem i64_and2047 (n : Int) : bits .and .i64 n 2047 = n % 2048 := by
  have h63 : (BitVec.ofInt 64 2047).toNat = 2 ^ 11 - 1 := by decide
  have key : (BitVec.ofInt 64 n &&& BitVec.ofInt 64 2047).toNat = (n % ((2 ^ 64 : Nat) : Int)).toNat % 2 ^ 11 := by
    rw [BitVec.toNat_and, BitVec.toNat_ofInt, h63, Nat.and_two_pow_sub_one_eq_mod]
  show IntKind.i64.wrap ((BitVec.ofInt 64 n &&& BitVec.ofInt 64 2047).toNat : Nat) = n % 2048
  rw [key, IntKind.wrap_i64]
  omega

set_option maxRecDepth 100000 in
/-- A finite number is not infinite. -/
theorem IsInf_fin (a : Nat) (w : World) (ha : a < 18446744073709551616) (hf : a % 9223372036854775808 < 9218868437227405312) : Calls Tryd.prog 47 #[.float .f64 a, .int .i64 0] w fun e w' => e = .returned (.bool false) ∧ w' = w := by
  have HA := fhide (fun w : World => Abs_any a w ha)
  obtain ⟨r, hr⟩ : ∃ r : Nat, a % 9223372036854775808 = r := ⟨_, rfl⟩
  rw [hr] at HA hf
  have hrr : rg Ieee.double r = r := by rw [rg64]; omega
  have sx : sv Ieee.double r = ((V Ieee.double r : Nat) : Int) := by
    unfold sv
    rw [hrr, sgQ r (by omega), decide_eq_false (by omega)]; rfl
  have o1 := order_all Ieee.double (by decide) r 9218868437227405311 (by rw [hrr, inf64]; omega) (by rw [rg64, inf64]; omega)
  have s1 : sv Ieee.double 9218868437227405311 = ((V Ieee.double 9218868437227405311 : Nat) : Int) := by
    unfold sv
    rw [show sg Ieee.double 9218868437227405311 = false by decide +kernel, show rg Ieee.double 9218868437227405311 = 9218868437227405311 by decide +kernel]; rfl
  rw [s1, sx] at o1
  have c1 : FloatKind.f64.format.order r 9218868437227405311 = some .lt ∨ FloatKind.f64.format.order r 9218868437227405311 = some .eq := by
    rcases Nat.lt_or_ge r 9218868437227405311 with h | h
    · left; rw [cmp_lt (Int.ofNat_lt.2 (V_lt h))] at o1; exact o1
    · right
      have h2 : r = 9218868437227405311 := by omega
      rw [h2, cmp_eq] at o1
      rw [h2]; exact o1
  clear o1 s1 sx hrr hf ha hr
  rcases c1 with c1 | c1
  all_goals
    go_enter Tryd.func47, Tryd.ntmps47
    go_wp2_with fail
    refine (HA.out _).mono ?_
    rintro e w1 ⟨rfl, hw1⟩
    have hw1 := hw1.symm
    subst hw1
    go_wp2_with (simp only [c1])
    go_ret
    exact ⟨rfl, rfl⟩

end Go.Proofs.YtolaaemkcmiabaaDoor

namespace Go.Proofs.YtolaaemkcmiabaaDoor
open Go.RowKit
open Flt
set_option linter.unusedVariables false
set_option linter.unusedSimpArgs false

/-- A finite number times a power of 2, rounded once. -/
def scw (c : Int) (b : Nat) : Nat := Ieee.double.word (sg Ieee.double b) (min (rnd Ieee.double (V Ieee.double (b % 9223372036854775808) * 2 ^ c.toNat) (2 ^ (-c).toNat)) 9218868437227405312)

theorem scw_rnd (W t f u : Nat) (n X : Int) (h : (4503599627370496 + t) * 2 ^ f = W * 2 ^ u) (hX : X = n - u + f) :
    rnd Ieee.double (W * 2 ^ n.toNat) (2 ^ (-n).toNat) = rnd Ieee.double ((4503599627370496 + t) * 2 ^ X.toNat) (2 ^ (-X).toNat) := by
  refine rnd_eq _ (Nat.two_pow_pos _) (Nat.two_pow_pos _) ?_
  refine Nat.eq_of_mul_eq_mul_right (Nat.two_pow_pos u) ?_
  generalize hm : 4503599627370496 + t = m at *
  have e : W * 2 ^ n.toNat * 2 ^ (-X).toNat * 2 ^ u = m * 2 ^ f * (2 ^ n.toNat * 2 ^ (-X).toNat) := by
    rw [h]; simp only [Nat.mul_assoc, Nat.mul_left_comm, Nat.mul_comm]
  rw [e]
  simp only [Nat.mul_assoc, ← Nat.pow_add]
  exact congrArg (m * 2 ^ ·) (by omega)

theorem word_put (s : Bool) (r : Nat) : Ieee.double.word s r = 9223372036854775808 * s.toNat + r := by
  cases s
  · show r = 9223372036854775808 * 0 + r; omega
  · show 9223372036854775808 + r = 9223372036854775808 * 1 + r; omega

theorem inf_word (s : Bool) : Ieee.double.word s 9218868437227405312 = if s then 18442240474082181120 else 9218868437227405312 := by
  cases s <;> rfl

/-- A product with 1. -/
theorem mul_one64 (T y : Nat) (hT : T = 1074) (hy : y < 18446744073709551616) (hf : y % 9223372036854775808 < 9218868437227405312) : FloatKind.f64.format.mul 4607182418800017408 y = some y := by
  have hl : Ieee.double.leastPlace = -(T : Int) := by rw [hT]; decide
  have hm := mul_rnd Ieee.double T 4607182418800017408 y hl (by rw [rg64, inf64]; omega) (by rw [rg64, inf64]; exact hf)
  have hz : V Ieee.double 4607182418800017408 = 2 ^ T := by
    obtain ⟨k, hk⟩ : ∃ k : Nat, k = 1022 := ⟨_, rfl⟩
    have := V_field k 0 (by omega)
    rw [show (k + 1) * 4503599627370496 + 0 = 4607182418800017408 by omega] at this
    rw [this, show T = 52 + k by omega, Nat.pow_add]
  rw [rg64, rg64, show 4607182418800017408 % 9223372036854775808 = 4607182418800017408 by omega, hz, show sg Ieee.double 4607182418800017408 = false by decide +kernel, Bool.false_xor,
    rnd_eq Ieee.double (n' := V Ieee.double (y % 9223372036854775808)) (d' := 1) (Nat.two_pow_pos T) (by omega) (by rw [Nat.mul_one, Nat.mul_comm]), rnd_V, inf64, Nat.min_eq_left (by omega)] at hm
  have hw := word_self Ieee.double y (by show y < 2 * 9223372036854775808; omega)
  rw [rg64] at hw
  rw [hw] at hm
  exact hm

/-- A product with 2^-53. -/
theorem mul_low64 (T c t : Nat) (s : Bool) (hT : T = 1074) (h1 : 1 ≤ c) (h2 : c ≤ 53) (ht : t < 4503599627370496) : FloatKind.f64.format.mul 4368491638549381120 (Ieee.double.word s ((53 - c + 1) * 4503599627370496 + t)) = some (Ieee.double.word s (min (rnd Ieee.double (4503599627370496 + t) (2 ^ c)) 9218868437227405312)) := by
  have hl : Ieee.double.leastPlace = -(T : Int) := by rw [hT]; decide
  have hr : (53 - c + 1) * 4503599627370496 + t < 9218868437227405312 := by omega
  have e1 : rg Ieee.double (Ieee.double.word s ((53 - c + 1) * 4503599627370496 + t)) = (53 - c + 1) * 4503599627370496 + t := rg_word _ _ _ (by show _ < 9223372036854775808; omega)
  have e2 : sg Ieee.double (Ieee.double.word s ((53 - c + 1) * 4503599627370496 + t)) = s := sg_word _ _ _ (by show _ < 9223372036854775808; omega)
  have hm := mul_rnd Ieee.double T 4368491638549381120 _ hl (by rw [rg64, inf64]; omega) (by rw [e1, inf64]; exact hr)
  rw [e1, e2, rg64, show 4368491638549381120 % 9223372036854775808 = 4368491638549381120 by omega, show sg Ieee.double 4368491638549381120 = false by decide +kernel, Bool.false_xor, Nat.mul_comm (V Ieee.double 4368491638549381120), scale_low T c t hT h1 h2 ht, inf64] at hm
  exact hm

theorem field_out (s : Bool) (f t : Nat) (ht : t < 4503599627370496) (hf : f ≤ 2045) : ∃ g : Nat, ((Ieee.double.word s ((f + 1) * 4503599627370496 + t) : Nat) : Int) / 4503599627370496 = (g : Int) ∧ g ≤ 4095 ∧ bits .and .i64 (g : Int) 2047 = ((f + 1 : Nat) : Int) := by
  refine ⟨2048 * s.toNat + (f + 1), ?_, ?_, ?_⟩
  · rw [word_put]; cases s <;> simp only [Bool.toNat_false, Bool.toNat_true] <;> omega
  · cases s <;> simp only [Bool.toNat_false, Bool.toNat_true] <;> omega
  · rw [i64_and2047]; cases s <;> simp only [Bool.toNat_false, Bool.toNat_true] <;> omega

theorem field_cut (s : Bool) (f t : Nat) (ht : t < 4503599627370496) (hf : f ≤ 2045) : bits BinOp.andNot IntKind.u64 ((Ieee.double.word s ((f + 1) * 4503599627370496 + t) : Nat) : Int) 9218868437227405312 = ((9223372036854775808 * s.toNat + t : Nat) : Int) := by
  have hs := Bool.toNat_le s
  rw [b64_ends _ (by rw [word_put]; omega), word_put, show (9223372036854775808 * s.toNat + ((f + 1) * 4503599627370496 + t)) / 9223372036854775808 = s.toNat by omega, show (9223372036854775808 * s.toNat + ((f + 1) * 4503599627370496 + t)) % 4503599627370496 = t by omega, show s.toNat % 2 = s.toNat by omega]

theorem order_fin0 (a : Nat) (h0 : 0 < a % 9223372036854775808) (hf : a % 9223372036854775808 < 9218868437227405312) : Ieee.double.order a 0 = if sg Ieee.double a then some .lt else some .gt := by
  rw [order_all Ieee.double (by decide) a 0 (by rw [rg64, inf64]; omega) (by rw [rg64, inf64]; omega)]
  have e0 : sv Ieee.double 0 = 0 := by
    unfold sv
    rw [show rg Ieee.double 0 = 0 by decide +kernel, V_zero]; split <;> rfl
  have hv : 0 < V Ieee.double (rg Ieee.double a) := by
    rw [rg64, ← V_zero Ieee.double]; exact V_lt h0
  rw [e0]
  unfold sv
  cases sg Ieee.double a
  · show some (compare (_ : Int) 0) = _
    rw [cmp_gt (by simp only [Bool.false_eq_true, if_false]; omega)]; rfl
  · show some (compare (_ : Int) 0) = _
    rw [cmp_lt (by simp only [if_true]; omega)]; rfl


end Go.Proofs.YtolaaemkcmiabaaDoor
