/- Bits of a float's field: what math.ldexp and math.frexp take out and put in. -/
import Derived.Test.YtmkploknoohliaaDoorQP
namespace Go.Proofs.YtmkploknoohliaaDoor
open Go.RowKit
open Flt
set_option linter.unusedVariables false
set_option linter.unusedSimpArgs false

theorem n_ends (b : Nat) : b &&& 9227875636482146303 = 9223372036854775808 * (b / 9223372036854775808 % 2) + b % 4503599627370496 := by
  have h1 : (9227875636482146303 : Nat) = 9223372036854775808 ||| 4503599627370495 := by decide +kernel
  have h2 : b &&& 9223372036854775808 = b / 9223372036854775808 % 2 * 9223372036854775808 := n_mask b 63 1
  have h3 : b &&& 4503599627370495 = b % 4503599627370496 := Nat.and_two_pow_sub_one_eq_mod b 52
  have h4 := Nat.two_pow_add_eq_or_of_lt (i := 63) (b := b % 4503599627370496) (by omega) (b / 9223372036854775808 % 2)
  rw [h1, Nat.and_or_distrib_left, h2, h3, Nat.mul_comm]
  exact h4.symm

theorem b64_ends (b : Nat) (hb : b < 18446744073709551616) : bits BinOp.andNot IntKind.u64 (b : Int) 9218868437227405312 = ((9223372036854775808 * (b / 9223372036854775808 % 2) + b % 4503599627370496 : Nat) : Int) := by
  have := u64_andNot_nat b 9218868437227405312 hb (by omega)
  rw [show b &&& (18446744073709551615 - 9218868437227405312) = _ from n_ends b] at this; exact this

theorem b64_put (s g t : Nat) (hs : s ≤ 1) (hg : g < 2048) (ht : t < 4503599627370496) : bits BinOp.or IntKind.u64 ((9223372036854775808 * s + t : Nat) : Int) ((4503599627370496 * g : Nat) : Int) = ((9223372036854775808 * s + (4503599627370496 * g + t) : Nat) : Int) := by
  rw [u64_or_nat _ _ (by omega) (by omega)]
  have h1 := Nat.two_pow_add_eq_or_of_lt (i := 63) (b := t) (by omega) s
  have h2 := Nat.two_pow_add_eq_or_of_lt (i := 52) (b := t) (by omega) g
  have h3 := Nat.two_pow_add_eq_or_of_lt (i := 63) (b := 4503599627370496 * g + t) (by omega) s
  have e1 : 9223372036854775808 * s + t = 9223372036854775808 * s ||| t := h1
  have e2 : 4503599627370496 * g + t = 4503599627370496 * g ||| t := h2
  have e3 : 9223372036854775808 * s + (4503599627370496 * g + t) = 9223372036854775808 * s ||| (4503599627370496 * g + t) := h3
  rw [e3, e2, e1, Nat.or_assoc, Nat.or_comm t]

theorem i64_and2047 (n : Int) : bits .and .i64 n 2047 = n % 2048 := by
  have h63 : (BitVec.ofInt 64 2047).toNat = 2 ^ 11 - 1 := by decide
  have key : (BitVec.ofInt 64 n &&& BitVec.ofInt 64 2047).toNat = (n % ((2 ^ 64 : Nat) : Int)).toNat % 2 ^ 11 := by
    rw [BitVec.toNat_and, BitVec.toNat_ofInt, h63, Nat.and_two_pow_sub_one_eq_mod]
  show IntKind.i64.wrap ((BitVec.ofInt 64 n &&& BitVec.ofInt 64 2047).toNat : Nat) = n % 2048
  rw [key, IntKind.wrap_i64]
  omega

set_option maxRecDepth 100000 in
/-- A finite number is not infinite. -/
theorem IsInf_fin (a : Nat) (w : World) (ha : a < 18446744073709551616) (hf : a % 9223372036854775808 < 9218868437227405312) : Calls Tryd.prog 11 #[.float .f64 a, .int .i64 0] w fun e w' => e = .returned (.bool false) ∧ w' = w := by
  have HA := fhide (fun w : World => Abs_any a w ha)
  obtain ⟨r, hr⟩ : ∃ r : Nat, a % 9223372036854775808 = r := ⟨_, rfl⟩
  rw [hr] at HA hf
  have hrr : rg Ieee.double r = r := by rw [rg64]; omega
  have sx : sv Ieee.double r = ((V Ieee.double r : Nat) : Int) := by
    unfold sv
    rw [hrr, sgQ r (by omega), decide_eq_false (by omega)]; rfl
  have o1 := order_all Ieee.double (by decide) r 9218868437227405311 (by rw [hrr, inf64]; omega) (by rw [rg64, inf64]; omega)
  have s1 : sv Ieee.double 9218868437227405311 = ((V Ieee.double 9218868437227405311 : Nat) : Int) := by
    unfold sv
    rw [show sg Ieee.double 9218868437227405311 = false by decide +kernel, show rg Ieee.double 9218868437227405311 = 9218868437227405311 by decide +kernel]; rfl
  rw [s1, sx] at o1
  have c1 : FloatKind.f64.format.order r 9218868437227405311 = some .lt ∨ FloatKind.f64.format.order r 9218868437227405311 = some .eq := by
    rcases Nat.lt_or_ge r 9218868437227405311 with h | h
    · left; rw [cmp_lt (Int.ofNat_lt.2 (V_lt h))] at o1; exact o1
    · right
      have h2 : r = 9218868437227405311 := by omega
      rw [h2, cmp_eq] at o1
      rw [h2]; exact o1
  clear o1 s1 sx hrr hf ha hr
  rcases c1 with c1 | c1
  all_goals
    go_enter Tryd.func11, Tryd.ntmps11
    go_wp2_with fail
    refine (HA.out _).mono ?_
    rintro e w1 ⟨rfl, hw1⟩
    have hw1 := hw1.symm
    subst hw1
    go_wp2_with (simp only [c1])
    go_ret
    exact ⟨rfl, rfl⟩

end Go.Proofs.YtmkploknoohliaaDoor
