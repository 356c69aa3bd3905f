/- The worth of a rung. -/
import Ieee.Arith
import Derived.Laws.FloatBits
namespace Go.Proofs.Ytanijhgmgldiiaa
namespace Flt
set_option linter.unusedVariables false
set_option linter.unusedSimpArgs false
open Ieee

/-- A rung's magnitude, in units of the least place. -/
def V (f : Format) (r : Nat) : Nat := if r < f.binade then r else (f.binade + r % f.binade) * 2 ^ (r / f.binade - 1)

theorem binade_pos (f : Format) : 0 < f.binade := Nat.two_pow_pos _

theorem V_step (f : Format) (r : Nat) : V f (r + 1) = V f r + 2 ^ (r / f.binade - 1) := by
  have hb := binade_pos f
  unfold V
  generalize f.binade = B at *
  by_cases h1 : r + 1 < B
  · have h2 : r < B := by omega
    have h3 : r / B = 0 := Nat.div_eq_of_lt h2
    simp [h1, h2, h3]
  · by_cases h2 : r < B
    · have h3 : r + 1 = B := by omega
      have h4 : r / B = 0 := Nat.div_eq_of_lt h2
      rw [if_neg h1, if_pos h2, h3, h4, Nat.mod_self, Nat.div_self hb]
      simp; omega
    · rw [if_neg h1, if_neg h2]
      have hd := Nat.div_add_mod r B
      have hm := Nat.mod_lt r hb
      have hq : 0 < r / B := Nat.div_pos (by omega) hb
      by_cases h5 : r % B + 1 = B
      · have e1 : r + 1 = B * (r / B + 1) := by rw [Nat.mul_add]; omega
        have e2 : (r + 1) % B = 0 := by rw [e1]; exact Nat.mul_mod_right ..
        have e3 : (r + 1) / B = r / B + 1 := by rw [e1]; exact Nat.mul_div_cancel_left _ hb
        rw [e2, e3]
        obtain ⟨q, hq⟩ : ∃ q, r / B = q + 1 := ⟨r / B - 1, by omega⟩
        rw [hq]
        simp only [Nat.add_sub_cancel]
        have : B + r % B = 2 * B - 1 := by omega
        rw [this, Nat.pow_succ, Nat.sub_mul, Nat.add_zero, Nat.one_mul]
        have : 2 ^ q ≤ 2 * B * 2 ^ q := Nat.le_mul_of_pos_left _ (by omega)
        rw [Nat.sub_add_cancel this, Nat.mul_comm (2 ^ q) 2, ← Nat.mul_assoc, Nat.mul_comm B 2]
      · have e2 : (r + 1) % B = r % B + 1 := by
          have : r + 1 = (r % B + 1) + B * (r / B) := by omega
          rw [this, Nat.add_mul_mod_self_left]; exact Nat.mod_eq_of_lt (by omega)
        have e3 : (r + 1) / B = r / B := by
          have : r + 1 = (r % B + 1) + B * (r / B) := by omega
          rw [this, Nat.add_mul_div_left _ _ hb, Nat.div_eq_of_lt (by omega), Nat.zero_add]
        rw [e2, e3, ← Nat.add_assoc, Nat.add_mul (B + r % B), Nat.one_mul]

theorem V_lt {f : Format} {r s : Nat} (h : r < s) : V f r < V f s := by
  induction s with
  | zero => omega
  | succ n ih =>
    have := V_step f n
    have hp : 0 < 2 ^ (n / f.binade - 1) := Nat.two_pow_pos _
    rcases Nat.lt_or_ge r n with h1 | h1
    · have := ih h1; omega
    · have : r = n := by omega
      subst this; omega

theorem V_le {f : Format} {r s : Nat} (h : r ≤ s) : V f r ≤ V f s := by
  rcases Nat.lt_or_ge r s with h1 | h1
  · exact Nat.le_of_lt (V_lt h1)
  · have : r = s := by omega
    subst this; exact Nat.le_refl _

theorem V_lt_iff {f : Format} {r s : Nat} : V f r < V f s ↔ r < s := by
  refine ⟨fun h => ?_, V_lt⟩
  rcases Nat.lt_or_ge r s with h1 | h1
  · exact h1
  · have := V_le (f := f) h1; omega

theorem V_inj {f : Format} {r s : Nat} (h : V f r = V f s) : r = s := by
  rcases Nat.lt_trichotomy r s with h1 | h1 | h1
  · have := V_lt (f := f) h1; omega
  · exact h1
  · have := V_lt (f := f) h1; omega

theorem V_zero (f : Format) : V f 0 = 0 := by
  unfold V; rw [if_pos (binade_pos f)]

end Flt
end Go.Proofs.Ytanijhgmgldiiaa
