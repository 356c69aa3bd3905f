/- Narrow and Widen: the program's and the document's. -/
import Derived.Test.YtdiinhccfifiaabNV
import Derived.Test.YtdiinhccfifiaabFQ
namespace Go.Proofs.Ytdiinhccfifiaab
open Go.RowKit
open M
set_option linter.unusedVariables false
set_option linter.unusedSimpArgs false

/-- What Narrow tells. -/
def narr (b : Nat) : Nat := if 9218868437227405312 < b % 9223372036854775808 then narNan b else nar32 b
/-- What Widen tells. -/
def wid (f : Nat) : Nat := if 2139095040 ≤ f % 2147483648 then widNan f else f / 2147483648 * 9223372036854775808 + Flt.rnd Ieee.double (Flt.V Ieee.single (f % 2147483648) * 2 ^ Flt.gapE) 1

theorem nar32_lt (x : Nat) (hx : x < 18446744073709551616) : nar32 x < 4294967296 := by unfold nar32; omega
theorem narr_lt (x : Nat) (hx : x < 18446744073709551616) : narr x < 4294967296 := by
  unfold narr; split
  · unfold narNan; omega
  · exact nar32_lt x hx
theorem wid_of (f x : Nat) (hf : f < 4294967296) (h : f % 2147483648 ≤ 2139095040) (e : x / 9223372036854775808 = f / 2147483648) (hi : x % 9223372036854775808 = 9218868437227405312 ↔ f % 2147483648 = 2139095040)
    (hv : f % 2147483648 < 2139095040 → Flt.V Ieee.double (x % 9223372036854775808) = Flt.V Ieee.single (f % 2147483648) * 2 ^ Flt.gapE) : wid f = x := by
  unfold wid
  by_cases h1 : 2139095040 ≤ f % 2147483648
  · rw [if_pos h1]; have := hi.2 (by omega); unfold widNan; omega
  · rw [if_neg h1, ← hv (by omega), Flt.rnd_V, ← e]; omega
theorem wid_lt (f : Nat) (hf : f < 4294967296) : wid f < 18446744073709551616 := by
  by_cases h1 : 2139095040 < f % 2147483648
  · unfold wid; rw [if_pos (by omega)]; unfold widNan; omega
  · obtain ⟨x, x1, x2, x3, x4, x5, x6, x7⟩ := f2f_wide f hf (by omega)
    rw [wid_of f x hf (by omega) x5 x6 x7]; exact x2

theorem Narrow_any (b : Nat) (w : World) (hb : b < 18446744073709551616) : Calls Try.prog 29 #[.int .u64 b] w fun e w' => e = .returned (.int .u32 (narr b : Nat)) ∧ Below w.heap.size w w' := by
  unfold narr
  by_cases h : 9218868437227405312 < b % 9223372036854775808
  · rw [if_pos h]; exact Narrow_nan b w hb h
  · rw [if_neg h]; exact Narrow_num b w hb h
theorem Widen_any (f : Nat) (w : World) (hf : f < 4294967296) : Calls Try.prog 28 #[.int .u32 f] w fun e w' => e = .returned (.int .u64 (wid f : Nat)) ∧ Below w.heap.size w w' := by
  by_cases h : 2139095040 < f % 2147483648
  · unfold wid; rw [if_pos (by omega)]; exact Widen_nan f w hf h
  · obtain ⟨x, x1, x2, x3, x4, x5, x6, x7⟩ := f2f_wide f hf (by omega)
    rw [wid_of f x hf (by omega) x5 x6 x7]
    exact Widen_num f x w hf h x1 x2 x3

theorem nrst_nar (b m j : Nat) (hb : b < 18446744073709551616) (h : m * 2 ^ j = Flt.V Ieee.double (b % 9223372036854775808)) : nrst32 (decide (9223372036854775808 ≤ b)) m 1 ((j : Int) - 1074) = nar32 b := by
  unfold nrst32 nar32 wd32
  have hE : Flt.gapE = 925 := rfl
  have e : Flt.rnd Ieee.single (m * 2 ^ ((j : Int) - 1074 + 149).toNat) (1 * 2 ^ (-149 - ((j : Int) - 1074)).toNat) = Flt.rnd Ieee.single (Flt.V Ieee.double (b % 9223372036854775808)) (2 ^ Flt.gapE) := by
    refine Flt.rnd_eq _ (by rw [Nat.one_mul]; exact Nat.two_pow_pos _) (Nat.two_pow_pos _) ?_
    rw [← h, Nat.one_mul, Nat.mul_assoc, Nat.mul_assoc, ← Nat.pow_add, ← Nat.pow_add]
    congr 2; omega
  rw [e]
  generalize min (Flt.rnd Ieee.single (Flt.V Ieee.double (b % 9223372036854775808)) (2 ^ Flt.gapE)) 2139095040 = R
  by_cases h1 : 9223372036854775808 ≤ b
  · rw [decide_eq_true h1, if_pos rfl]; omega
  · rw [decide_eq_false h1]; simp only [Bool.false_eq_true, if_false]; omega
theorem nrst_wid (f m j : Nat) (hf : f < 4294967296) (h1 : f % 2147483648 < 2139095040) (h : m * 2 ^ j = Flt.V Ieee.single (f % 2147483648)) : nrst64 (decide (2147483648 ≤ f)) m 1 ((j : Int) - 149) = wid f := by
  obtain ⟨x, x1, x2, x3, x4, x5, x6, x7⟩ := f2f_wide f hf (by omega)
  have hx := wid_of f x hf (by omega) x5 x6 x7
  unfold wid at hx ⊢
  rw [if_neg (by omega)] at hx ⊢
  have hE : Flt.gapE = 925 := rfl
  clear x7
  generalize Flt.gapE = E at *
  unfold nrst64 wd64
  have e : Flt.rnd Ieee.double (m * 2 ^ ((j : Int) - 149 + 1074).toNat) (1 * 2 ^ (-1074 - ((j : Int) - 149)).toNat) = Flt.rnd Ieee.double (Flt.V Ieee.single (f % 2147483648) * 2 ^ E) 1 := by
    refine Flt.rnd_eq _ (by rw [Nat.one_mul]; exact Nat.two_pow_pos _) (by omega) ?_
    rw [← h, Nat.one_mul, Nat.mul_one, Nat.mul_assoc, Nat.mul_assoc, ← Nat.pow_add, ← Nat.pow_add]
    congr 2; omega
  rw [e]
  generalize Flt.rnd Ieee.double (Flt.V Ieee.single (f % 2147483648) * 2 ^ E) 1 = R at *
  by_cases h2 : 2147483648 ≤ f
  · rw [decide_eq_true h2, if_pos rfl]; omega
  · rw [decide_eq_false h2]; simp only [Bool.false_eq_true, if_false]; omega

theorem or_nan32 (y : Nat) (hy : y < 4194304) : bits BinOp.or IntKind.u64 2143289344 (y : Int) = ((2143289344 + y : Nat) : Int) := by
  have := or_split64 511 y 22 (by omega) (by omega)
  exact this
theorem and_22 (x : Nat) (hx : x < 18446744073709551616) : bits BinOp.and IntKind.u64 (x : Int) 4194303 = ((x % 4194304 : Nat) : Int) := by
  have := u64_and_nat x 4194303 hx (by omega)
  rw [show x &&& 4194303 = x % 4194304 from Nat.and_two_pow_sub_one_eq_mod x 22] at this; exact this
theorem and_23 (x : Nat) (hx : x < 18446744073709551616) : bits BinOp.and IntKind.u64 (x : Int) 8388607 = ((x % 8388608 : Nat) : Int) := by
  have := u64_and_nat x 8388607 hx (by omega)
  rw [show x &&& 8388607 = x % 8388608 from Nat.and_two_pow_sub_one_eq_mod x 23] at this; exact this
theorem or_inf64 (y : Nat) (hy : y < 4503599627370496) : bits BinOp.or IntKind.u64 9218868437227405312 (y : Int) = ((9218868437227405312 + y : Nat) : Int) := by
  have := or_split64 2047 y 52 (by omega) (by omega)
  exact this


end Go.Proofs.Ytdiinhccfifiaab
