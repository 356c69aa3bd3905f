/- Up and Down, how numbers stand by their places, nan; pairs that came in. -/
import Derived.Test.YtmkploknoohliaaGreatFK
namespace Go.Proofs.YtmkploknoohliaaGreat
open Go.RowKit
open Flt
set_option linter.unusedVariables false
set_option linter.unusedSimpArgs false

theorem up64_key (a : Nat) (ha : a < 18446744073709551616) (h1 : a % 9223372036854775808 ≤ 9218868437227405312) (h2 : a ≠ 9218868437227405312) (h3 : a % 9223372036854775808 ≠ 0) : key64 (up64 a) = key64 a + 1 := by
  unfold up64
  rw [if_neg (by omega), if_neg h2, if_neg h3]
  unfold key64
  by_cases h : a < 9223372036854775808
  · rw [if_pos h, if_pos h, if_pos (by omega)]; omega
  · rw [if_neg h, if_neg h, if_neg (by omega)]; omega
theorem down64_up (a : Nat) (ha : a < 18446744073709551616) (h1 : a % 9223372036854775808 ≤ 9218868437227405312) (h2 : a ≠ 9218868437227405312) (h3 : a % 9223372036854775808 ≠ 0) (h4 : up64 a % 9223372036854775808 ≠ 0) : down64 (up64 a) = a := by
  have e : up64 a = if a < 9223372036854775808 then a + 1 else a - 1 := by
    unfold up64
    rw [if_neg (by omega), if_neg h2, if_neg h3]
  rw [e] at h4 ⊢
  unfold down64
  by_cases h : a < 9223372036854775808
  · rw [if_pos h] at h4 ⊢
    rw [if_neg (by omega)]
    have e1 : flip64 (a + 1) = 9223372036854775808 + (a + 1) := if_pos (by omega)
    rw [e1]
    have e2 : up64 (9223372036854775808 + (a + 1)) = 9223372036854775808 + a := by
      unfold up64
      rw [if_neg (by omega), if_neg (by omega), if_neg (by omega), if_neg (by omega)]; omega
    rw [e2]
    unfold flip64
    rw [if_neg (by omega)]; omega
  · rw [if_neg h] at h4 ⊢
    rw [if_neg (by omega)]
    have e1 : flip64 (a - 1) = a - 1 - 9223372036854775808 := if_neg (by omega)
    rw [e1]
    have e2 : up64 (a - 1 - 9223372036854775808) = a - 9223372036854775808 := by
      unfold up64
      rw [if_neg (by omega), if_neg (by omega), if_neg (by omega), if_pos (by omega)]; omega
    rw [e2]
    unfold flip64
    rw [if_pos (by omega)]; omega

theorem V_zero_iff (f : Ieee.Format) (r : Nat) : V f r = 0 ↔ r = 0 := by
  constructor
  · intro h
    have : V f r = V f 0 := by rw [h, V_zero]
    exact V_inj this
  · rintro rfl; exact V_zero f

theorem sv64 (a : Nat) (ha : a < 18446744073709551616) : sv Ieee.double a = if a < 9223372036854775808 then (V Ieee.double (a % 9223372036854775808) : Int) else -(V Ieee.double (a % 9223372036854775808) : Int) := by
  have hs : sg Ieee.double a = decide (9223372036854775808 ≤ a) := by
    show (a / 9223372036854775808 % 2 == 1) = _
    by_cases h : 9223372036854775808 ≤ a
    · rw [decide_eq_true h]; have : a / 9223372036854775808 = 1 := by omega
      rw [this]; rfl
    · rw [decide_eq_false h]; have : a / 9223372036854775808 = 0 := by omega
      rw [this]; rfl
  unfold sv
  rw [hs, rg64]
  by_cases h : a < 9223372036854775808
  · rw [if_pos h, decide_eq_false (by omega)]; rfl
  · rw [if_neg h, decide_eq_true (by omega)]; rfl

/-- How two numbers stand to each other, by their places. -/
theorem order_key (a b : Nat) (ha : a < 18446744073709551616) (hb : b < 18446744073709551616) (h1 : a % 9223372036854775808 ≤ 9218868437227405312) (h2 : b % 9223372036854775808 ≤ 9218868437227405312) (h3 : ¬ (a % 9223372036854775808 = 0 ∧ b % 9223372036854775808 = 0)) :
    (Ieee.double.order a b = some .lt ∧ key64 a < key64 b ∧ a ≠ b) ∨ (Ieee.double.order a b = some .eq ∧ a = b) ∨ (Ieee.double.order a b = some .gt ∧ key64 b < key64 a ∧ a ≠ b) := by
  rw [order_all _ (by decide) a b (by rw [rg64, inf64]; exact h1) (by rw [rg64, inf64]; exact h2), sv64 a ha, sv64 b hb]
  have v1 := V_lt_iff (f := Ieee.double) (r := a % 9223372036854775808) (s := b % 9223372036854775808)
  have v2 := V_lt_iff (f := Ieee.double) (r := b % 9223372036854775808) (s := a % 9223372036854775808)
  have v3 := V_zero_iff Ieee.double (a % 9223372036854775808)
  have v4 := V_zero_iff Ieee.double (b % 9223372036854775808)
  generalize V Ieee.double (a % 9223372036854775808) = p at *
  generalize V Ieee.double (b % 9223372036854775808) = q at *
  unfold key64
  generalize hx : (if a < 9223372036854775808 then (p : Int) else -(p : Int)) = x
  generalize hy : (if b < 9223372036854775808 then (q : Int) else -(q : Int)) = y
  rcases Int.lt_trichotomy x y with h | h | h
  · left
    refine ⟨by rw [cmp_lt h], ?_, ?_⟩
    · split at hx <;> split at hy <;> (repeat' split) <;> omega
    · rintro rfl; split at hx <;> split at hy <;> omega
  · right; left
    refine ⟨by rw [h, cmp_eq], ?_⟩
    split at hx <;> split at hy <;> omega
  · right; right
    refine ⟨by rw [cmp_gt h], ?_, ?_⟩
    · split at hx <;> split at hy <;> (repeat' split) <;> omega
    · rintro rfl; split at hx <;> split at hy <;> omega
theorem order_zero (a b : Nat) (ha : a < 18446744073709551616) (hb : b < 18446744073709551616) (h1 : a % 9223372036854775808 = 0) (h2 : b % 9223372036854775808 = 0) : Ieee.double.order a b = some .eq := by
  rw [order_all _ (by decide) a b (by rw [rg64, inf64]; omega) (by rw [rg64, inf64]; omega), sv64 a ha, sv64 b hb, h1, h2, V_zero]
  simp [cmp_eq]
theorem order_nan64 (a b : Nat) (h : 9218868437227405312 < a % 9223372036854775808 ∨ 9218868437227405312 < b % 9223372036854775808) : Ieee.double.order a b = none :=
  order_nan _ (by decide) _ _ (by rw [rg64, rg64, inf64]; exact h)

theorem or_abs (a b : Nat) (ha : a < 18446744073709551616) (hb : b < 18446744073709551616) : ∃ v : Nat, bits BinOp.andNot IntKind.u64 (bits BinOp.or IntKind.u64 (a : Int) (b : Int)) 9223372036854775808 = (v : Int) ∧ (v = 0 ↔ (a % 9223372036854775808 = 0 ∧ b % 9223372036854775808 = 0)) := by
  refine ⟨(a ||| b) % 9223372036854775808, ?_, ?_⟩
  · rw [u64_or_nat a b ha hb]
    exact b64_abs _ (Nat.or_lt_two_pow (n := 64) ha hb)
  · have e : (a ||| b) % 9223372036854775808 = a % 9223372036854775808 ||| b % 9223372036854775808 := Nat.or_mod_two_pow (n := 63)
    rw [e, Nat.or_eq_zero_iff]


/-- A slice of pairs that came in. -/
def IsTwos (w : World) (a : Option Addr) (len : Nat) : Prop :=
  len ≤ 9223372036854775807 ∧ (0 < len → ∃ g o, a = some ⟨g, o, none⟩ ∧ g < w.heap.size ∧ ∀ i, i < len → ∃ A B : Nat, A < 18446744073709551616 ∧ B < 18446744073709551616 ∧
    w.cell? ⟨g, o + i * 2, none⟩ = some (.int .u64 A) ∧ w.cell? ⟨g, o + i * 2 + 1, none⟩ = some (.int .u64 B))

end Go.Proofs.YtmkploknoohliaaGreat
