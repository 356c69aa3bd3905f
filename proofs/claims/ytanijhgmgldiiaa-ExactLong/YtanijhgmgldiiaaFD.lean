/- Rounding to the nearest: between which rungs, and to which. -/
import Derived.Test.YtanijhgmgldiiaaFC
namespace Go.Proofs.Ytanijhgmgldiiaa
namespace Flt
set_option linter.unusedVariables false
set_option linter.unusedSimpArgs false
open Ieee

theorem V_at (f : Format) (k c : Nat) (h1 : c < 2 * f.binade) (h2 : k = 0 ∨ f.binade ≤ c) : V f (k * f.binade + c) = c * 2 ^ k ∧ V f (k * f.binade + c + 1) = (c + 1) * 2 ^ k := by
  have hb := binade_pos f
  have main : V f (k * f.binade + c) = c * 2 ^ k ∧ (k * f.binade + c) / f.binade - 1 = k := by
    rcases Nat.lt_or_ge c f.binade with h | h
    · have hk : k = 0 := by omega
      subst hk
      rw [Nat.zero_mul, Nat.zero_add, Nat.div_eq_of_lt h]
      unfold V; rw [if_pos h]; simp
    · obtain ⟨e, he⟩ : ∃ e, c = f.binade + e := ⟨c - f.binade, by omega⟩
      have hlt : e < f.binade := by omega
      have e0 : k * f.binade + c = e + f.binade * (k + 1) := by rw [he, Nat.mul_add, Nat.mul_comm]; omega
      have e1 : (k * f.binade + c) / f.binade = k + 1 := by rw [e0, Nat.add_mul_div_left _ _ hb, Nat.div_eq_of_lt hlt, Nat.zero_add]
      have e2 : (k * f.binade + c) % f.binade = e := by rw [e0, Nat.add_mul_mod_self_left, Nat.mod_eq_of_lt hlt]
      have e3 : ¬ (k * f.binade + c < f.binade) := by omega
      unfold V
      rw [if_neg e3, e1, e2, he]
      simp
  refine ⟨main.1, ?_⟩
  rw [V_step, main.1, main.2, Nat.add_mul, Nat.one_mul]

theorem rnd_spec (f : Format) (hf : 1 ≤ f.fractionBits) (n d : Nat) (hd : 0 < d) :
    ∃ r, V f r * d ≤ n ∧ n < V f (r + 1) * d ∧ rnd f n d = r + (if (V f r + V f (r + 1)) * d < 2 * n ∨ ((V f r + V f (r + 1)) * d = 2 * n ∧ r % 2 = 1) then 1 else 0) := by
  have hb := binade_pos f
  unfold rnd
  generalize hk : (n / d).log2 - f.fractionBits = k
  have hc : n / (d * 2 ^ k) < 2 * f.binade ∧ (k = 0 ∨ f.binade ≤ n / (d * 2 ^ k)) := by
    rw [← Nat.div_div_eq_div_mul]
    by_cases h0 : n / d = 0
    · rw [h0] at hk ⊢
      simp at hk ⊢
      omega
    · have l1 := Nat.log2_self_le h0
      have l2 := Nat.lt_log2_self (n := n / d)
      by_cases hk0 : k = 0
      · subst hk0
        rw [Nat.pow_zero, Nat.div_one]
        refine ⟨?_, Or.inl rfl⟩
        have : 2 ^ ((n / d).log2 + 1) ≤ 2 ^ (f.fractionBits + 1) := Nat.pow_le_pow_right (by omega) (by omega)
        have : 2 ^ (f.fractionBits + 1) = 2 * f.binade := by rw [Nat.pow_succ, Nat.mul_comm]; rfl
        omega
      · have el : (n / d).log2 = f.fractionBits + k := by omega
        rw [el] at l1 l2
        constructor
        · rw [Nat.div_lt_iff_lt_mul (Nat.two_pow_pos k)]
          rw [show f.fractionBits + k + 1 = 1 + f.fractionBits + k by omega, Nat.pow_add, Nat.pow_add] at l2
          exact l2
        · right
          rw [Nat.le_div_iff_mul_le (Nat.two_pow_pos k)]
          rw [Nat.pow_add] at l1
          exact l1
  obtain ⟨v1, v2⟩ := V_at f k _ hc.1 hc.2
  refine ⟨k * f.binade + n / (d * 2 ^ k), ?_, ?_, ?_⟩
  · rw [v1, Nat.mul_assoc, Nat.mul_comm (2 ^ k) d]; exact Nat.div_mul_le_self ..
  · rw [v2, Nat.mul_assoc, Nat.mul_comm (2 ^ k) d, Nat.mul_comm]
    exact Nat.lt_mul_div_succ n (Nat.mul_pos hd (Nat.two_pow_pos k))
  · rw [v1, v2]
    unfold cutE
    rw [← Nat.add_assoc]
    refine congrArg _ ?_
    have hU : 0 < d * 2 ^ k := Nat.mul_pos hd (Nat.two_pow_pos k)
    have e1 : (n / (d * 2 ^ k) * 2 ^ k + (n / (d * 2 ^ k) + 1) * 2 ^ k) * d = 2 * (d * 2 ^ k * (n / (d * 2 ^ k))) + d * 2 ^ k := by
      generalize n / (d * 2 ^ k) = c
      rw [Nat.add_mul c, Nat.one_mul, Nat.add_mul, Nat.add_mul, Nat.mul_assoc c, Nat.mul_comm (2 ^ k) d, Nat.mul_comm c]
      omega
    have hdm := Nat.div_add_mod n (d * 2 ^ k)
    rw [e1]
    have ep : (k * f.binade + n / (d * 2 ^ k)) % 2 = n / (d * 2 ^ k) % 2 := by
      obtain ⟨x, hx⟩ : ∃ x, f.fractionBits = x + 1 := ⟨f.fractionBits - 1, by omega⟩
      have : f.binade = 2 * 2 ^ x := by unfold Format.binade; rw [hx, Nat.pow_succ, Nat.mul_comm]
      rw [this, Nat.mul_left_comm, Nat.mul_add_mod]
    rw [ep]
    generalize d * 2 ^ k * (n / (d * 2 ^ k)) = t at *
    generalize n / (d * 2 ^ k) = c at *
    generalize n % (d * 2 ^ k) = s at *
    generalize d * 2 ^ k = U at *
    by_cases h : U < 2 * s ∨ U = 2 * s ∧ c % 2 = 1
    · rw [if_pos h, if_pos (by omega)]
    · rw [if_neg h, if_neg (by omega)]
end Flt
end Go.Proofs.Ytanijhgmgldiiaa
