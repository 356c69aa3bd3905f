/- How numbers stand by their places, of both widths: Cmp and the document's Compare; Distance; words that came in. -/
import Derived.Test.YtmkploknoohliaaGreatFU
import Derived.Test.YtmkploknoohliaaGreatFQ
import Derived.Test.YtmkploknoohliaaGreatFL
namespace Go.Proofs.YtmkploknoohliaaGreat
open Go.RowKit
open Flt
set_option linter.unusedVariables false
set_option linter.unusedSimpArgs false

/-- How two stand to each other, by their places. -/
def ord64 (a b : Nat) : Option Ordering := if 9218868437227405312 < a % 9223372036854775808 ∨ 9218868437227405312 < b % 9223372036854775808 then none else if a % 9223372036854775808 = 0 ∧ b % 9223372036854775808 = 0 then some .eq else if key64 a < key64 b then some .lt else if key64 b < key64 a then some .gt else some .eq
def ord32 (a b : Nat) : Option Ordering := if 2139095040 < a % 2147483648 ∨ 2139095040 < b % 2147483648 then none else if a % 2147483648 = 0 ∧ b % 2147483648 = 0 then some .eq else if key32 a < key32 b then some .lt else if key32 b < key32 a then some .gt else some .eq

theorem order64 (a b : Nat) (ha : a < 18446744073709551616) (hb : b < 18446744073709551616) : Ieee.double.order a b = ord64 a b := by
  unfold ord64
  by_cases h : 9218868437227405312 < a % 9223372036854775808 ∨ 9218868437227405312 < b % 9223372036854775808
  · rw [if_pos h, order_nan64 a b h]
  · rw [if_neg h]
    by_cases h0 : a % 9223372036854775808 = 0 ∧ b % 9223372036854775808 = 0
    · rw [if_pos h0, order_zero a b ha hb h0.1 h0.2]
    · rw [if_neg h0]
      rcases order_key a b ha hb (by omega) (by omega) h0 with ⟨e, h1, _⟩ | ⟨e, h1⟩ | ⟨e, h1, _⟩
      · rw [e, if_pos h1]
      · subst h1; rw [e, if_neg (by omega), if_neg (by omega)]
      · rw [e, if_neg (by omega), if_pos h1]

/-- The wider words stand as the narrow ones do. -/
theorem rung_lt (a b x y : Nat) (ha : a % 2147483648 ≤ 2139095040) (hb : b % 2147483648 ≤ 2139095040) (hx : x % 9223372036854775808 ≤ 9218868437227405312) (hy : y % 9223372036854775808 ≤ 9218868437227405312)
    (x1 : x % 9223372036854775808 = 9218868437227405312 ↔ a % 2147483648 = 2139095040) (x2 : a % 2147483648 < 2139095040 → V Ieee.double (x % 9223372036854775808) = V Ieee.single (a % 2147483648) * 2 ^ gapE)
    (y1 : y % 9223372036854775808 = 9218868437227405312 ↔ b % 2147483648 = 2139095040) (y2 : b % 2147483648 < 2139095040 → V Ieee.double (y % 9223372036854775808) = V Ieee.single (b % 2147483648) * 2 ^ gapE) :
    x % 9223372036854775808 < y % 9223372036854775808 ↔ a % 2147483648 < b % 2147483648 := by
  by_cases h1 : a % 2147483648 < 2139095040
  · by_cases h2 : b % 2147483648 < 2139095040
    · rw [← V_lt_iff (f := Ieee.double), x2 h1, y2 h2, Nat.mul_lt_mul_right (Nat.two_pow_pos _), V_lt_iff]
    · omega
  · omega

theorem order32 (a b x y : Nat) (ha : a < 4294967296) (hb : b < 4294967296) (na : a % 2147483648 ≤ 2139095040) (nb : b % 2147483648 ≤ 2139095040)
    (hx : floatToFloatBits .f32 a .f64 = some x) (hy : floatToFloatBits .f32 b .f64 = some y) : Ieee.double.order x y = ord32 a b := by
  obtain ⟨x', e1, xl, xn, _, xs, xi, xv⟩ := f2f_wide a ha na
  obtain ⟨y', e2, yl, yn, _, ys, yi, yv⟩ := f2f_wide b hb nb
  rw [hx] at e1; cases e1
  rw [hy] at e2; cases e2
  have r1 := rung_lt a b x y na nb xn yn xi xv yi yv
  have r2 := rung_lt b a y x nb na yn xn yi yv xi xv
  have z1 : x % 9223372036854775808 = 0 ↔ a % 2147483648 = 0 := by
    by_cases h : a % 2147483648 < 2139095040
    · have := xv h
      rw [← V_zero_iff Ieee.double, this, Nat.mul_eq_zero, V_zero_iff]
      constructor
      · rintro (h | h)
        · exact h
        · have := Nat.two_pow_pos gapE; omega
      · exact Or.inl
    · omega
  have z2 : y % 9223372036854775808 = 0 ↔ b % 2147483648 = 0 := by
    by_cases h : b % 2147483648 < 2139095040
    · have := yv h
      rw [← V_zero_iff Ieee.double, this, Nat.mul_eq_zero, V_zero_iff]
      constructor
      · rintro (h | h)
        · exact h
        · have := Nat.two_pow_pos gapE; omega
      · exact Or.inl
    · omega
  clear xv yv
  rw [order64 x y xl yl]
  unfold ord64 ord32
  rw [if_neg (by omega), if_neg (show ¬ (2139095040 < a % 2147483648 ∨ 2139095040 < b % 2147483648) by omega)]
  have k1 : key64 x < key64 y ↔ key32 a < key32 b := by unfold key64 key32; split <;> split <;> split <;> split <;> omega
  have k2 : key64 y < key64 x ↔ key32 b < key32 a := by unfold key64 key32; split <;> split <;> split <;> split <;> omega
  simp only [z1, z2, k1, k2]


/-- Words that came in. -/
def IsWords (w : World) (a : Option Addr) (len : Nat) : Prop :=
  len ≤ 9223372036854775807 ∧ (0 < len → ∃ g o, a = some ⟨g, o, none⟩ ∧ g < w.heap.size ∧ ∀ i, i < len → ∃ A : Nat, A < 18446744073709551616 ∧ w.cell? ⟨g, o + i, none⟩ = some (.int .u64 A))
end Go.Proofs.YtmkploknoohliaaGreat
