/- A whole number by a mode, from the bits that are cut off. -/
import Derived.Test.YtdiinhccfifiaaaRI
namespace Go.Proofs.Ytdiinhccfifiaaa
namespace Flt
open Ieee
set_option linter.unusedVariables false
set_option linter.unusedSimpArgs false

/-- Whether a number that is cut off after sh + 1 bits is one more, by a mode. -/
def upQ (mode : Nat) (s : Bool) (m sh : Nat) : Bool := match mode with
  | 0 => decide (m / 2 ^ sh % 2 = 1) && (decide (m % 2 ^ sh ≠ 0) || decide (m / 2 ^ (sh + 1) % 2 = 1))
  | 1 => decide (m / 2 ^ sh % 2 = 1)
  | 2 => false
  | 3 => s && decide (m % 2 ^ (sh + 1) ≠ 0)
  | _ => !s && decide (m % 2 ^ (sh + 1) ≠ 0)

theorem half_bit (m sh : Nat) : 2 ^ (sh + 1) ≤ 2 * (m % 2 ^ (sh + 1)) ↔ m / 2 ^ sh % 2 = 1 := by
  have h1 := Nat.mod_mul (a := 2 ^ sh) (b := 2) (x := m)
  have h2 := Nat.mod_lt m (Nat.two_pow_pos sh)
  have h3 := Nat.two_pow_pos sh
  rw [Nat.pow_succ, h1]
  rcases Nat.mod_two_eq_zero_or_one (m / 2 ^ sh) with h | h <;> rw [h] <;> simp <;> omega

theorem whl_up (mode : Nat) (s : Bool) (m sh : Nat) : whl mode s m (2 ^ (sh + 1)) = m / 2 ^ (sh + 1) + (upQ mode s m sh).toNat := by
  unfold whl upQ
  split
  · have := cutE_quot m 1 sh (by omega)
    rw [Nat.one_mul] at this
    rw [this]
    unfold cutN
    rw [Nat.div_one, Nat.mod_one, Nat.div_div_eq_div_mul, ← Nat.pow_succ]
    congr 1
    by_cases h1 : m / 2 ^ sh % 2 = 1 <;> by_cases h2 : m % 2 ^ sh = 0 <;> by_cases h3 : m / 2 ^ (sh + 1) % 2 = 1 <;> simp [h1, h2, h3]
  · congr 2
    exact decide_eq_decide.2 (half_bit m sh)
  · simp
  · rfl
  · split <;> simp_all

theorem whl_mul (mode : Nat) (s : Bool) (K D : Nat) (h : 0 < D) : whl mode s (K * D) D = K := by
  have h1 : K * D / D = K := Nat.mul_div_cancel K h
  have h2 : K * D % D = 0 := Nat.mul_mod_left K D
  unfold whl cutE
  split <;> rw [h1] <;> simp [h2]
  all_goals omega

end Flt
end Go.Proofs.Ytdiinhccfifiaaa
