/- Rounding keeps the order. -/
import Derived.Test.YtmkploknoohliaaGreatRA
namespace Go.Proofs.YtmkploknoohliaaGreat
namespace Flt
set_option linter.unusedVariables false
set_option linter.unusedSimpArgs false
open Ieee

theorem rnd_mono (f : Format) (hf : 1 ≤ f.fractionBits) (n d n' d' : Nat) (hd : 0 < d) (hd' : 0 < d') (h : n * d' ≤ n' * d) : rnd f n d ≤ rnd f n' d' := by
  obtain ⟨r, a1, a2, a3⟩ := rnd_spec f hf n d hd
  obtain ⟨s, b1, b2, b3⟩ := rnd_spec f hf n' d' hd'
  rw [a3, b3]
  have hrs : r < s + 1 := by
    rw [← V_lt_iff (f := f)]
    refine Nat.lt_of_mul_lt_mul_right (a := d * d') ?_
    calc V f r * (d * d') = V f r * d * d' := by rw [Nat.mul_assoc]
      _ ≤ n * d' := Nat.mul_le_mul_right _ a1
      _ ≤ n' * d := h
      _ < V f (s + 1) * d' * d := Nat.mul_lt_mul_of_pos_right b2 hd
      _ = V f (s + 1) * (d * d') := by rw [Nat.mul_assoc, Nat.mul_comm d' d]
  rcases Nat.lt_or_ge r s with h1 | h1
  · split <;> split <;> omega
  · have : r = s := by omega
    subst this
    have key : ((V f r + V f (r + 1)) * d < 2 * n ∨ ((V f r + V f (r + 1)) * d = 2 * n ∧ r % 2 = 1)) → ((V f r + V f (r + 1)) * d' < 2 * n' ∨ ((V f r + V f (r + 1)) * d' = 2 * n' ∧ r % 2 = 1)) := by
      generalize V f r + V f (r + 1) = M
      rintro (h2 | ⟨h2, h3⟩)
      · left
        refine Nat.lt_of_mul_lt_mul_right (a := d) ?_
        have := Nat.mul_lt_mul_of_pos_right h2 hd'
        calc M * d' * d = M * d * d' := Nat.mul_right_comm ..
          _ < 2 * n * d' := this
          _ = 2 * (n * d') := Nat.mul_assoc ..
          _ ≤ 2 * (n' * d) := Nat.mul_le_mul_left _ h
          _ = 2 * n' * d := (Nat.mul_assoc ..).symm
      · have h4 : M * d' * d ≤ 2 * n' * d := by
          calc M * d' * d = M * d * d' := Nat.mul_right_comm ..
            _ = 2 * n * d' := by rw [h2]
            _ = 2 * (n * d') := Nat.mul_assoc ..
            _ ≤ 2 * (n' * d) := Nat.mul_le_mul_left _ h
            _ = 2 * n' * d := (Nat.mul_assoc ..).symm
        have h5 := Nat.le_of_mul_le_mul_right h4 hd
        rcases Nat.lt_or_ge (M * d') (2 * n') with h6 | h6
        · exact .inl h6
        · exact .inr ⟨by omega, h3⟩
    by_cases h2 : (V f r + V f (r + 1)) * d < 2 * n ∨ ((V f r + V f (r + 1)) * d = 2 * n ∧ r % 2 = 1)
    · rw [if_pos h2, if_pos (key h2)]; exact Nat.le_refl _
    · rw [if_neg h2]; split <;> omega

theorem rnd_le (f : Format) (hf : 1 ≤ f.fractionBits) (n d R : Nat) (hd : 0 < d) (h : n ≤ V f R * d) : rnd f n d ≤ R := by
  have := rnd_mono f hf n d (V f R) 1 hd (by omega) (by omega)
  rwa [rnd_V] at this
theorem le_rnd (f : Format) (hf : 1 ≤ f.fractionBits) (n d R : Nat) (hd : 0 < d) (h : V f R * d ≤ n) : R ≤ rnd f n d := by
  have := rnd_mono f hf (V f R) 1 n d (by omega) hd (by omega)
  rwa [rnd_V] at this

/-- Between the middles. -/
theorem rnd_mid (f : Format) (hf : 1 ≤ f.fractionBits) (n d : Nat) (hd : 0 < d) :
    (rnd f n d ≠ 0 → (V f (rnd f n d) + V f (rnd f n d - 1)) * d ≤ 2 * n) ∧ 2 * n ≤ (V f (rnd f n d) + V f (rnd f n d + 1)) * d := by
  obtain ⟨r, a1, a2, a3⟩ := rnd_spec f hf n d hd
  by_cases h : (V f r + V f (r + 1)) * d < 2 * n ∨ ((V f r + V f (r + 1)) * d = 2 * n ∧ r % 2 = 1)
  · rw [if_pos h] at a3
    rw [a3]
    refine ⟨fun _ => ?_, ?_⟩
    · rw [Nat.add_sub_cancel, Nat.add_comm (V f (r + 1))]
      rcases h with h | h
      · exact Nat.le_of_lt h
      · exact Nat.le_of_eq h.1
    · have := Nat.mul_le_mul_right d (V_le (f := f) (show r + 1 ≤ r + 1 + 1 by omega))
      rw [Nat.add_mul]; omega
  · rw [if_neg h, Nat.add_zero] at a3
    rw [a3]
    refine ⟨fun _ => ?_, ?_⟩
    · have := Nat.mul_le_mul_right d (V_le (f := f) (show r - 1 ≤ r by omega))
      rw [Nat.add_mul]; omega
    · exact Nat.le_of_not_lt fun e => h (.inl e)
end Flt
end Go.Proofs.YtmkploknoohliaaGreat
