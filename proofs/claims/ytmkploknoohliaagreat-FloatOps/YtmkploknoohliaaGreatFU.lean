/- The document's own: Key, OfKey, Up, Down, Distance. -/
import Derived.Test.YtmkploknoohliaaGreatFT
namespace Go.Proofs.YtmkploknoohliaaGreat
open Go.RowKit
set_option linter.unusedVariables false
set_option linter.unusedSimpArgs false

set_option maxRecDepth 100000 in
theorem rKey64 (b : Nat) (w : World) (hb : b < 18446744073709551616) : Calls Tryz.prog 74 #[.int .u64 b, .int .i64 64] w fun e w' => e = .returned (.int .u64 (key64 b : Nat)) ∧ w' = w := by
  unfold key64
  by_cases h : b < 9223372036854775808
  · rw [if_pos h]
    have hx : ((9223372036854775808 + b : Nat) : Int) = (b : Int) + 9223372036854775808 := by omega
    rw [hx]
    have hl : (b : Int) + 9223372036854775808 < 18446744073709551616 := by omega
    go_enter Tryz.func74, Tryz.ntmps74
    go_wp2_with fail
    refine (rNeg64 b _ hb).mono ?_
    rw [decide_eq_false (by omega)]
    rintro e w1 ⟨rfl, rfl⟩
    go_wp2_with fail
    refine (rSign64 _).mono ?_
    rintro e w1 ⟨rfl, rfl⟩
    go_wp2_with fail
    go_ret
    exact ⟨rfl, rfl⟩
  · rw [if_neg h]
    have hA := fhide (fun w : World => rAbs64 b w hb)
    have hx : ((18446744073709551615 - b : Nat) : Int) = 9223372036854775807 - ((b % 9223372036854775808 : Nat) : Int) := by omega
    have hl : b % 9223372036854775808 ≤ 9223372036854775807 := by omega
    rw [hx]
    have hn := fhide (show 9223372036854775808 ≤ b by omega)
    clear hx
    generalize b % 9223372036854775808 = r at *
    go_enter Tryz.func74, Tryz.ntmps74
    go_wp2_with fail
    refine (rNeg64 b _ hb).mono ?_
    rw [decide_eq_true hn.out]
    rintro e w1 ⟨rfl, rfl⟩
    go_wp2_with fail
    refine (rSign64 _).mono ?_
    rintro e w1 ⟨rfl, rfl⟩
    go_wp2_with fail
    refine (hA.out _).mono ?_
    rintro e w1 ⟨rfl, rfl⟩
    go_wp2_with fail
    go_ret
    exact ⟨rfl, rfl⟩
/-- How far two are apart. -/
def dist64 (a b : Nat) : Nat := if key64 a < key64 b then key64 b - key64 a else key64 a - key64 b
set_option maxRecDepth 100000 in
theorem rKey32 (b : Nat) (w : World) (hb : b < 4294967296) : Calls Tryz.prog 74 #[.int .u64 b, .int .i64 32] w fun e w' => e = .returned (.int .u64 (key32 b : Nat)) ∧ w' = w := by
  unfold key32
  by_cases h : b < 2147483648
  · rw [if_pos h]
    have hx : ((2147483648 + b : Nat) : Int) = (b : Int) + 2147483648 := by omega
    rw [hx]
    have hl : (b : Int) + 2147483648 < 18446744073709551616 := by omega
    go_enter Tryz.func74, Tryz.ntmps74
    go_wp2_with fail
    refine (rNeg32 b _ hb).mono ?_
    rw [decide_eq_false (by omega)]
    rintro e w1 ⟨rfl, rfl⟩
    go_wp2_with fail
    refine (rSign32 _).mono ?_
    rintro e w1 ⟨rfl, rfl⟩
    go_wp2_with fail
    go_ret
    exact ⟨rfl, rfl⟩
  · rw [if_neg h]
    have hA := fhide (fun w : World => rAbs32 b w hb)
    have hx : ((4294967295 - b : Nat) : Int) = 2147483647 - ((b % 2147483648 : Nat) : Int) := by omega
    have hl : b % 2147483648 ≤ 2147483647 := by omega
    rw [hx]
    have hn := fhide (show 2147483648 ≤ b by omega)
    clear hx
    generalize b % 2147483648 = r at *
    go_enter Tryz.func74, Tryz.ntmps74
    go_wp2_with fail
    refine (rNeg32 b _ hb).mono ?_
    rw [decide_eq_true hn.out]
    rintro e w1 ⟨rfl, rfl⟩
    go_wp2_with fail
    refine (rSign32 _).mono ?_
    rintro e w1 ⟨rfl, rfl⟩
    go_wp2_with fail
    refine (hA.out _).mono ?_
    rintro e w1 ⟨rfl, rfl⟩
    go_wp2_with fail
    go_ret
    exact ⟨rfl, rfl⟩
/-- How far two are apart. -/
def dist32 (a b : Nat) : Nat := if key32 a < key32 b then key32 b - key32 a else key32 a - key32 b
end Go.Proofs.YtmkploknoohliaaGreat
