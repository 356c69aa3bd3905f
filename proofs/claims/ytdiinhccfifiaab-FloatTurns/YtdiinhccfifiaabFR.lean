/- FloatTurns: its walk. -/
import Derived.Test.YtdiinhccfifiaabFL
import Derived.Test.YtdiinhccfifiaabFQ
namespace Go.Proofs.Ytdiinhccfifiaab
open Go.RowKit
open Flt
set_option linter.unusedVariables false
set_option linter.unusedSimpArgs false

theorem told64_lt {o : Option Nat} (h : ∀ r, o = some r → r < 18446744073709551616) : told64 o < 18446744073709551616 := by
  cases o with
  | none => show 9221120237041090560 < _; omega
  | some r => exact h r rfl
theorem mul_lt64 (a b : Nat) : told64 (Ieee.double.mul a b) < 18446744073709551616 := told64_lt fun r h => (fb_num (op := .mul) h).2
theorem sg_flip (b : Nat) (hb : b < 18446744073709551616) : rg Ieee.double (flip64 b) = rg Ieee.double b ∧ sg Ieee.double (flip64 b) = !sg Ieee.double b := by
  refine ⟨by rw [rg64, rg64, flip64_mod b hb], ?_⟩
  show (flip64 b / 9223372036854775808 % 2 == 1) = !(b / 9223372036854775808 % 2 == 1)
  unfold flip64
  by_cases h : b < 9223372036854775808
  · rw [if_pos h, show (9223372036854775808 + b) / 9223372036854775808 = 1 by omega, show b / 9223372036854775808 = 0 by omega]; rfl
  · rw [if_neg h, show (b - 9223372036854775808) / 9223372036854775808 = 0 by omega, show b / 9223372036854775808 = 1 by omega]; rfl
theorem sub_flip (a b : Nat) (hb : b < 18446744073709551616) : Ieee.double.sub a b = Ieee.double.add a (flip64 b) := sub_add _ a b _ (sg_flip b hb).1 (sg_flip b hb).2
theorem sub_self64 (a : Nat) (h : a % 9223372036854775808 < 9218868437227405312) : Ieee.double.sub a a = some 0 := sub_self _ a (by rw [rg64, inf64]; exact h)
theorem add_nan (a b : Nat) (h : 9218868437227405312 < a % 9223372036854775808 ∨ 9218868437227405312 < b % 9223372036854775808) : Ieee.double.add a b = none := by
  unfold Ieee.Format.add
  rcases h with h | h
  · rw [read_nan _ a (by decide) (by rw [rg64, inf64]; exact h)]; rfl
  · rw [read_nan _ b (by decide) (by rw [rg64, inf64]; exact h)]; cases Ieee.double.read a <;> rfl
theorem div_nan (a b : Nat) (h : 9218868437227405312 < a % 9223372036854775808 ∨ 9218868437227405312 < b % 9223372036854775808) : Ieee.double.div a b = none := by
  unfold Ieee.Format.div
  rcases h with h | h
  · rw [read_nan _ a (by decide) (by rw [rg64, inf64]; exact h)]; rfl
  · rw [read_nan _ b (by decide) (by rw [rg64, inf64]; exact h)]; cases Ieee.double.read a <;> rfl
theorem mul_two (a : Nat) (h : a % 9223372036854775808 < 9218868437227405312) : Ieee.double.mul a 4611686018427387904 = Ieee.double.add a a := by
  obtain ⟨m, k, e1, _⟩ := read_fin Ieee.double a (by rw [rg64, inf64]; exact h)
  unfold Ieee.Format.mul Ieee.Format.add
  rw [e1, show Ieee.double.read 4611686018427387904 = .number false (2 ^ 52) (-51) by decide +kernel]
  simp only [Ieee.Datum.product, Ieee.Datum.sum, Option.map_some, Bool.xor_false]
  refine congrArg some ?_
  show Ieee.double.nearest _ _ _ = Ieee.double.nearest _ _ _
  have e2 : (Ieee.double.leastPlace + (k : Int) - min (Ieee.double.leastPlace + (k : Int)) (Ieee.double.leastPlace + (k : Int))).toNat = 0 := by omega
  rw [e2, Int.min_self]
  have e3 : Ieee.signed (sg Ieee.double a) m 0 + Ieee.signed (sg Ieee.double a) m 0 = Ieee.signed (sg Ieee.double a) (2 * m) 0 := by
    unfold Ieee.signed; cases sg Ieee.double a <;> simp <;> omega
  rw [e3]
  have e4 : (Ieee.signed (sg Ieee.double a) (2 * m) 0).natAbs = 2 * m := by
    unfold Ieee.signed; cases sg Ieee.double a <;> simp <;> omega
  have e5 : (if Ieee.signed (sg Ieee.double a) (2 * m) 0 = 0 then (sg Ieee.double a && sg Ieee.double a) else decide (Ieee.signed (sg Ieee.double a) (2 * m) 0 < 0)) = sg Ieee.double a := by
    by_cases h0 : m = 0
    · subst h0
      unfold Ieee.signed; cases sg Ieee.double a <;> simp
    · unfold Ieee.signed; cases sg Ieee.double a <;> simp <;> omega
  rw [e4, e5, show m * 2 ^ 52 = (2 * m) * 2 ^ 51 by omega, show Ieee.double.leastPlace + (k : Int) + -51 = Ieee.double.leastPlace + (k : Int) - ((51 : Nat) : Int) by omega, nearest_shift]

/-- There and back. -/
theorem wide_back (f : Nat) (hf : f < 4294967296) (h : class32 f ≠ 5) : ∃ x : Nat, (∀ w : World, Calls Try.prog 28 #[.int .u32 f] w fun e w' => e = .returned (.int .u64 x) ∧ Below w.heap.size w w') ∧
    (∀ w : World, Calls Try.prog 29 #[.int .u64 x] w fun e w' => e = .returned (.int .u32 f) ∧ Below w.heap.size w w') := by
  by_cases hn : 2139095040 < f % 2147483648
  · have hq : 2143289344 ≤ f % 2147483648 := by
      rcases Nat.lt_or_ge (f % 2147483648) 2143289344 with h1 | h1
      · exfalso; apply h
        unfold class32
        rw [if_neg (by omega), if_neg (by omega), if_neg (by omega), if_neg (by omega), if_pos h1]
      · exact h1
    obtain ⟨h1, h2⟩ := widNan_nan f hf hn
    refine ⟨widNan f, fun w => Widen_nan f w hf hn, fun w => ?_⟩
    have := Narrow_nan (widNan f) w h1 h2
    rw [nar_wid f hf hq] at this
    exact this
  · obtain ⟨x, x1, x2, x3, x4, x5, x6, x7⟩ := f2f_wide f hf (by omega)
    exact ⟨x, fun w => Widen_num f x w hf hn x1 x2 x3, fun w => by
      have := Narrow_num x w x2 (by omega)
      rwa [nar_wide f x hf (by omega) x5 x6 x7] at this⟩

end Go.Proofs.Ytdiinhccfifiaab
