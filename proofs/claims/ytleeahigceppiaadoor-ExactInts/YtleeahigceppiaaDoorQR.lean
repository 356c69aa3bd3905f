/- math.ldexp. -/
import Derived.Test.YtleeahigceppiaaDoorQP
/- Bits of a float's field: what math.ldexp and math.frexp take out and put in. -/
namespace Go.Proofs.YtleeahigceppiaaDoor
open Go.RowKit
open Flt
set_option linter.unusedVariables false
set_option linter.unusedSimpArgs false

theorem n_ends (b : Nat) : b &&& 9227875636482146303 = 9223372036854775808 * (b / 9223372036854775808 % 2) + b % 4503599627370496 := by
  have h1 : (9227875636482146303 : Nat) = 9223372036854775808 ||| 4503599627370495 := by decide +kernel
  have h2 : b &&& 9223372036854775808 = b / 9223372036854775808 % 2 * 9223372036854775808 := n_mask b 63 1
  have h3 : b &&& 4503599627370495 = b % 4503599627370496 := Nat.and_two_pow_sub_one_eq_mod b 52
  have h4 := Nat.two_pow_add_eq_or_of_lt (i := 63) (b := b % 4503599627370496) (by omega) (b / 9223372036854775808 % 2)
  rw [h1, Nat.and_or_distrib_left, h2, h3, Nat.mul_comm]
  exact h4.symm

theorem b64_ends (b : Nat) (hb : b < 18446744073709551616) : bits BinOp.andNot IntKind.u64 (b : Int) 9218868437227405312 = ((9223372036854775808 * (b / 9223372036854775808 % 2) + b % 4503599627370496 : Nat) : Int) := by
  have := u64_andNot_nat b 9218868437227405312 hb (by omega)
  rw [show b &&& (18446744073709551615 - 9218868437227405312) = _ from n_ends b] at this; exact this

theorem b64_put (s g t : Nat) (hs : s ≤ 1) (hg : g < 2048) (ht : t < 4503599627370496) : bits BinOp.or IntKind.u64 ((9223372036854775808 * s + t : Nat) : Int) ((4503599627370496 * g : Nat) : Int) = ((9223372036854775808 * s + (4503599627370496 * g + t) : Nat) : Int) := by
  rw [u64_or_nat _ _ (by omega) (by omega)]
  have h1 := Nat.two_pow_add_eq_or_of_lt (i := 63) (b := t) (by omega) s
  have h2 := Nat.two_pow_add_eq_or_of_lt (i := 52) (b := t) (by omega) g
  have h3 := Nat.two_pow_add_eq_or_of_lt (i := 63) (b := 4503599627370496 * g + t) (by omega) s
  have e1 : 9223372036854775808 * s + t = 9223372036854775808 * s ||| t := h1
  have e2 : 4503599627370496 * g + t = 4503599627370496 * g ||| t := h2
  have e3 : 9223372036854775808 * s + (4503599627370496 * g + t) = 9223372036854775808 * s ||| (4503599627370496 * g + t) := h3
  rw [e3, e2, e1, Nat.or_assoc, Nat.or_comm t]

theorem i64_and2047 (n : Int) : bits .and .i64 n 2047 = n % 2048 := by
  have h63 : (BitVec.ofInt 64 2047).toNat = 2 ^ 11 - 1 := by decide
  have key : (BitVec.ofInt 64 n &&& BitVec.ofInt 64 2047).toNat = (n % ((2 ^ 64 : Nat) : Int)).toNat % 2 ^ 11 := by
    rw [BitVec.toNat_and, BitVec.toNat_ofInt, h63, Nat.and_two_pow_sub_one_eq_mod]
  show IntKind.i64.wrap ((BitVec.ofInt 64 n &&& BitVec.ofInt 64 2047).toNat : Nat) = n % 2048
  rw [key, IntKind.wrap_i64]
  omega

set_option maxRecDepth 100000 in
/-- A finite number is not infinite. -/
theorem IsInf_fin (a : Nat) (w : World) (ha : a < 18446744073709551616) (hf : a % 9223372036854775808 < 9218868437227405312) : Calls Tryd.prog 27 #[.float .f64 a, .int .i64 0] w fun e w' => e = .returned (.bool false) ∧ w' = w := by
  have HA := fhide (fun w : World => Abs_any a w ha)
  obtain ⟨r, hr⟩ : ∃ r : Nat, a % 9223372036854775808 = r := ⟨_, rfl⟩
  rw [hr] at HA hf
  have hrr : rg Ieee.double r = r := by rw [rg64]; omega
  have sx : sv Ieee.double r = ((V Ieee.double r : Nat) : Int) := by
    unfold sv
    rw [hrr, sgQ r (by omega), decide_eq_false (by omega)]; rfl
  have o1 := order_all Ieee.double (by decide) r 9218868437227405311 (by rw [hrr, inf64]; omega) (by rw [rg64, inf64]; omega)
  have s1 : sv Ieee.double 9218868437227405311 = ((V Ieee.double 9218868437227405311 : Nat) : Int) := by
    unfold sv
    rw [show sg Ieee.double 9218868437227405311 = false by decide +kernel, show rg Ieee.double 9218868437227405311 = 9218868437227405311 by decide +kernel]; rfl
  rw [s1, sx] at o1
  have c1 : FloatKind.f64.format.order r 9218868437227405311 = some .lt ∨ FloatKind.f64.format.order r 9218868437227405311 = some .eq := by
    rcases Nat.lt_or_ge r 9218868437227405311 with h | h
    · left; rw [cmp_lt (Int.ofNat_lt.2 (V_lt h))] at o1; exact o1
    · right
      have h2 : r = 9218868437227405311 := by omega
      rw [h2, cmp_eq] at o1
      rw [h2]; exact o1
  clear o1 s1 sx hrr hf ha hr
  rcases c1 with c1 | c1
  all_goals
    go_enter Tryd.func27, Tryd.ntmps27
    go_wp2_with fail
    refine (HA.out _).mono ?_
    rintro e w1 ⟨rfl, hw1⟩
    have hw1 := hw1.symm
    subst hw1
    go_wp2_with (simp only [c1])
    go_ret
    exact ⟨rfl, rfl⟩

end Go.Proofs.YtleeahigceppiaaDoor

namespace Go.Proofs.YtleeahigceppiaaDoor
open Go.RowKit
open Flt
set_option linter.unusedVariables false
set_option linter.unusedSimpArgs false

/-- A finite number times a power of 2, rounded once. -/
def scw (c : Int) (b : Nat) : Nat := Ieee.double.word (sg Ieee.double b) (min (rnd Ieee.double (V Ieee.double (b % 9223372036854775808) * 2 ^ c.toNat) (2 ^ (-c).toNat)) 9218868437227405312)

theorem scw_rnd (W t f u : Nat) (n X : Int) (h : (4503599627370496 + t) * 2 ^ f = W * 2 ^ u) (hX : X = n - u + f) :
    rnd Ieee.double (W * 2 ^ n.toNat) (2 ^ (-n).toNat) = rnd Ieee.double ((4503599627370496 + t) * 2 ^ X.toNat) (2 ^ (-X).toNat) := by
  refine rnd_eq _ (Nat.two_pow_pos _) (Nat.two_pow_pos _) ?_
  refine Nat.eq_of_mul_eq_mul_right (Nat.two_pow_pos u) ?_
  generalize hm : 4503599627370496 + t = m at *
  have e : W * 2 ^ n.toNat * 2 ^ (-X).toNat * 2 ^ u = m * 2 ^ f * (2 ^ n.toNat * 2 ^ (-X).toNat) := by
    rw [h]; simp only [Nat.mul_assoc, Nat.mul_left_comm, Nat.mul_comm]
  rw [e]
  simp only [Nat.mul_assoc, ← Nat.pow_add]
  exact congrArg (m * 2 ^ ·) (by omega)

theorem word_put (s : Bool) (r : Nat) : Ieee.double.word s r = 9223372036854775808 * s.toNat + r := by
  cases s
  · show r = 9223372036854775808 * 0 + r; omega
  · show 9223372036854775808 + r = 9223372036854775808 * 1 + r; omega

theorem inf_word (s : Bool) : Ieee.double.word s 9218868437227405312 = if s then 18442240474082181120 else 9218868437227405312 := by
  cases s <;> rfl

/-- A product with 1. -/
theorem mul_one64 (T y : Nat) (hT : T = 1074) (hy : y < 18446744073709551616) (hf : y % 9223372036854775808 < 9218868437227405312) : FloatKind.f64.format.mul 4607182418800017408 y = some y := by
  have hl : Ieee.double.leastPlace = -(T : Int) := by rw [hT]; decide
  have hm := mul_rnd Ieee.double T 4607182418800017408 y hl (by rw [rg64, inf64]; omega) (by rw [rg64, inf64]; exact hf)
  have hz : V Ieee.double 4607182418800017408 = 2 ^ T := by
    obtain ⟨k, hk⟩ : ∃ k : Nat, k = 1022 := ⟨_, rfl⟩
    have := V_field k 0 (by omega)
    rw [show (k + 1) * 4503599627370496 + 0 = 4607182418800017408 by omega] at this
    rw [this, show T = 52 + k by omega, Nat.pow_add]
  rw [rg64, rg64, show 4607182418800017408 % 9223372036854775808 = 4607182418800017408 by omega, hz, show sg Ieee.double 4607182418800017408 = false by decide +kernel, Bool.false_xor,
    rnd_eq Ieee.double (n' := V Ieee.double (y % 9223372036854775808)) (d' := 1) (Nat.two_pow_pos T) (by omega) (by rw [Nat.mul_one, Nat.mul_comm]), rnd_V, inf64, Nat.min_eq_left (by omega)] at hm
  have hw := word_self Ieee.double y (by show y < 2 * 9223372036854775808; omega)
  rw [rg64] at hw
  rw [hw] at hm
  exact hm

/-- A product with 2^-53. -/
theorem mul_low64 (T c t : Nat) (s : Bool) (hT : T = 1074) (h1 : 1 ≤ c) (h2 : c ≤ 53) (ht : t < 4503599627370496) : FloatKind.f64.format.mul 4368491638549381120 (Ieee.double.word s ((53 - c + 1) * 4503599627370496 + t)) = some (Ieee.double.word s (min (rnd Ieee.double (4503599627370496 + t) (2 ^ c)) 9218868437227405312)) := by
  have hl : Ieee.double.leastPlace = -(T : Int) := by rw [hT]; decide
  have hr : (53 - c + 1) * 4503599627370496 + t < 9218868437227405312 := by omega
  have e1 : rg Ieee.double (Ieee.double.word s ((53 - c + 1) * 4503599627370496 + t)) = (53 - c + 1) * 4503599627370496 + t := rg_word _ _ _ (by show _ < 9223372036854775808; omega)
  have e2 : sg Ieee.double (Ieee.double.word s ((53 - c + 1) * 4503599627370496 + t)) = s := sg_word _ _ _ (by show _ < 9223372036854775808; omega)
  have hm := mul_rnd Ieee.double T 4368491638549381120 _ hl (by rw [rg64, inf64]; omega) (by rw [e1, inf64]; exact hr)
  rw [e1, e2, rg64, show 4368491638549381120 % 9223372036854775808 = 4368491638549381120 by omega, show sg Ieee.double 4368491638549381120 = false by decide +kernel, Bool.false_xor, Nat.mul_comm (V Ieee.double 4368491638549381120), scale_low T c t hT h1 h2 ht, inf64] at hm
  exact hm

theorem field_out (s : Bool) (f t : Nat) (ht : t < 4503599627370496) (hf : f ≤ 2045) : ∃ g : Nat, ((Ieee.double.word s ((f + 1) * 4503599627370496 + t) : Nat) : Int) / 4503599627370496 = (g : Int) ∧ g ≤ 4095 ∧ bits .and .i64 (g : Int) 2047 = ((f + 1 : Nat) : Int) := by
  refine ⟨2048 * s.toNat + (f + 1), ?_, ?_, ?_⟩
  · rw [word_put]; cases s <;> simp only [Bool.toNat_false, Bool.toNat_true] <;> omega
  · cases s <;> simp only [Bool.toNat_false, Bool.toNat_true] <;> omega
  · rw [i64_and2047]; cases s <;> simp only [Bool.toNat_false, Bool.toNat_true] <;> omega

theorem field_cut (s : Bool) (f t : Nat) (ht : t < 4503599627370496) (hf : f ≤ 2045) : bits BinOp.andNot IntKind.u64 ((Ieee.double.word s ((f + 1) * 4503599627370496 + t) : Nat) : Int) 9218868437227405312 = ((9223372036854775808 * s.toNat + t : Nat) : Int) := by
  have hs := Bool.toNat_le s
  rw [b64_ends _ (by rw [word_put]; omega), word_put, show (9223372036854775808 * s.toNat + ((f + 1) * 4503599627370496 + t)) / 9223372036854775808 = s.toNat by omega, show (9223372036854775808 * s.toNat + ((f + 1) * 4503599627370496 + t)) % 4503599627370496 = t by omega, show s.toNat % 2 = s.toNat by omega]

theorem order_fin0 (a : Nat) (h0 : 0 < a % 9223372036854775808) (hf : a % 9223372036854775808 < 9218868437227405312) : Ieee.double.order a 0 = if sg Ieee.double a then some .lt else some .gt := by
  rw [order_all Ieee.double (by decide) a 0 (by rw [rg64, inf64]; omega) (by rw [rg64, inf64]; omega)]
  have e0 : sv Ieee.double 0 = 0 := by
    unfold sv
    rw [show rg Ieee.double 0 = 0 by decide +kernel, V_zero]; split <;> rfl
  have hv : 0 < V Ieee.double (rg Ieee.double a) := by
    rw [rg64, ← V_zero Ieee.double]; exact V_lt h0
  rw [e0]
  unfold sv
  cases sg Ieee.double a
  · show some (compare (_ : Int) 0) = _
    rw [cmp_gt (by simp only [Bool.false_eq_true, if_false]; omega)]; rfl
  · show some (compare (_ : Int) 0) = _
    rw [cmp_lt (by simp only [if_true]; omega)]; rfl


end Go.Proofs.YtleeahigceppiaaDoor
