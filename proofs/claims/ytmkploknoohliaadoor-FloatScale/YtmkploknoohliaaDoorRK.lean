/- A number times a power of 2: by rungs. -/
import Derived.Test.YtmkploknoohliaaDoorRC
import Derived.Test.YtmkploknoohliaaDoorRB
namespace Go.Proofs.YtmkploknoohliaaDoor
namespace Flt
open Ieee
set_option linter.unusedVariables false
set_option linter.unusedSimpArgs false

theorem binade64 : double.binade = 4503599627370496 := by decide +kernel

theorem V_field (k t : Nat) (ht : t < 4503599627370496) : V double ((k + 1) * 4503599627370496 + t) = (4503599627370496 + t) * 2 ^ k := by
  unfold V
  rw [binade64, if_neg (by omega), show ((k + 1) * 4503599627370496 + t) / 4503599627370496 = k + 1 by omega, show ((k + 1) * 4503599627370496 + t) % 4503599627370496 = t by omega, Nat.add_sub_cancel]

/-- In the middle: nothing is lost. -/
theorem scale_mid (k t : Nat) (ht : t < 4503599627370496) : rnd double ((4503599627370496 + t) * 2 ^ k) 1 = (k + 1) * 4503599627370496 + t := by
  rw [← V_field k t ht, rnd_V]

/-- Beyond the greatest. -/
theorem scale_great (k t : Nat) (hk : 2046 ≤ k) : double.infRung ≤ rnd double ((4503599627370496 + t) * 2 ^ k) 1 := by
  refine le_rnd double (by decide) _ _ _ (by omega) ?_
  obtain ⟨q, hq⟩ : ∃ q : Nat, q = 2046 := ⟨_, rfl⟩
  have h1 : double.infRung = (q + 1) * 4503599627370496 + 0 := by
    rw [hq]; decide +kernel
  rw [h1, V_field q 0 (by omega), Nat.mul_one]
  exact Nat.mul_le_mul (by omega) (Nat.pow_le_pow_right (by omega) (by omega))

/-- Beneath half the least. -/
theorem scale_less (c t : Nat) (hc : 54 ≤ c) (ht : t < 4503599627370496) : rnd double (4503599627370496 + t) (2 ^ c) = 0 := by
  obtain ⟨r, h1, h2, h3⟩ := rnd_spec double (by decide) (4503599627370496 + t) (2 ^ c) (Nat.two_pow_pos _)
  have hd : 18014398509481984 ≤ 2 ^ c := by
    have := Nat.pow_le_pow_right (n := 2) (by omega) hc
    simpa using this
  generalize 2 ^ c = d at *
  have hr : r = 0 := by
    rcases Nat.eq_zero_or_pos r with h | h
    · exact h
    · exfalso
      have h4 : V double 0 < V double r := V_lt h
      have h5 : 1 * d ≤ V double r * d := Nat.mul_le_mul_right d (by omega)
      omega
  subst hr
  have v0 : V double 0 = 0 := by decide +kernel
  have v1 : V double (0 + 1) = 1 := by decide +kernel
  rw [h3, v0, v1, if_neg (by omega)]

/-- Between: by a product that is rounded once. -/
theorem scale_low (T c t : Nat) (hT : T = 1074) (h1 : 1 ≤ c) (h2 : c ≤ 53) (ht : t < 4503599627370496) :
    rnd double (V double ((53 - c + 1) * 4503599627370496 + t) * V double 4368491638549381120) (2 ^ T) = rnd double (4503599627370496 + t) (2 ^ c) := by
  obtain ⟨q, hq⟩ : ∃ q : Nat, q = 969 := ⟨_, rfl⟩
  obtain ⟨s, hs⟩ : ∃ s : Nat, s = 52 := ⟨_, rfl⟩
  have hz : V double 4368491638549381120 = 2 ^ s * 2 ^ q := by
    have := V_field q 0 (by omega)
    rw [show (q + 1) * 4503599627370496 + 0 = 4368491638549381120 by omega] at this
    rw [this, show 2 ^ s = 4503599627370496 by rw [hs]]
  rw [V_field _ t ht, hz]
  refine rnd_eq double (Nat.two_pow_pos _) (Nat.two_pow_pos _) ?_
  rw [Nat.mul_assoc, Nat.mul_assoc, ← Nat.pow_add, ← Nat.pow_add, ← Nat.pow_add]
  exact congrArg ((4503599627370496 + t) * 2 ^ ·) (by omega)

end Flt
end Go.Proofs.YtmkploknoohliaaDoor
