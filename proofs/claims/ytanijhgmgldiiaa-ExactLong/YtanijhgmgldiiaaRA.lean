/- Rounding a quotient by its whole part and what is left. -/
import Derived.Test.YtanijhgmgldiiaaFD
namespace Go.Proofs.Ytanijhgmgldiiaa
namespace Flt
set_option linter.unusedVariables false
set_option linter.unusedSimpArgs false
open Ieee

theorem cutE_eq {n u n' u' : Nat} (hu : 0 < u) (hu' : 0 < u') (h : n * u' = n' * u) : cutE n u = cutE n' u' := by
  rw [← cutE_scale n u u' hu', ← cutE_scale n' u' u hu, h, Nat.mul_comm u u']

/-- To the nearest, by the whole part n, whether something is left, and how many digits fall. -/
def cutN (n sh : Nat) (more : Bool) : Nat := n / 2 ^ sh / 2 + if n / 2 ^ sh % 2 = 1 ∧ ((more || decide (n % 2 ^ sh ≠ 0)) = true ∨ n / 2 ^ sh / 2 % 2 = 1) then 1 else 0

theorem cutE_quot (P Q sh : Nat) (hQ : 0 < Q) : cutE P (Q * 2 ^ (sh + 1)) = cutN (P / Q) sh (decide (P % Q ≠ 0)) := by
  unfold cutE cutN
  have hp := Nat.two_pow_pos sh
  have e1 : P / (Q * 2 ^ (sh + 1)) = P / Q / 2 ^ sh / 2 := by
    rw [← Nat.div_div_eq_div_mul, Nat.pow_succ, ← Nat.div_div_eq_div_mul]
  have e2 : P % (Q * 2 ^ (sh + 1)) = P % Q + Q * (P / Q % 2 ^ (sh + 1)) := Nat.mod_mul
  have hr : P % Q < Q := Nat.mod_lt _ hQ
  rw [e1, e2]
  generalize P / Q = n at *
  generalize P % Q = r at *
  have e3 : n % 2 ^ (sh + 1) = n % 2 ^ sh + 2 ^ sh * (n / 2 ^ sh % 2) := by rw [Nat.pow_succ]; exact Nat.mod_mul
  have hx : n % 2 ^ sh < 2 ^ sh := Nat.mod_lt _ hp
  rw [e3, Nat.pow_succ]
  generalize n / 2 ^ sh = c at *
  generalize n % 2 ^ sh = x at *
  generalize 2 ^ sh = H at *
  refine congrArg _ ?_
  have key : (Q * (H * 2) < 2 * (r + Q * (x + H * (c % 2))) ∨ (Q * (H * 2) = 2 * (r + Q * (x + H * (c % 2))) ∧ c / 2 % 2 = 1)) ↔ (c % 2 = 1 ∧ ((decide (r ≠ 0) || decide (x ≠ 0)) = true ∨ c / 2 % 2 = 1)) := by
    have e4 : Q * (H * 2) = 2 * (Q * H) := by rw [← Nat.mul_assoc, Nat.mul_comm]
    rw [e4]
    have hc : c % 2 = 0 ∨ c % 2 = 1 := by omega
    rcases hc with hc | hc
    · rw [hc, Nat.mul_zero, Nat.add_zero]
      have h1 : Q * (x + 1) ≤ Q * H := Nat.mul_le_mul_left _ hx
      rw [Nat.mul_add, Nat.mul_one] at h1
      constructor
      · rintro (h | h) <;> omega
      · rintro ⟨h, _⟩; omega
    · rw [hc, Nat.mul_one, Nat.mul_add Q]
      have h2 : Q * x = 0 ↔ x = 0 := by
        constructor
        · intro h; rcases Nat.mul_eq_zero.1 h with h | h <;> omega
        · intro h; rw [h, Nat.mul_zero]
      generalize hqx : Q * x = y at *
      simp only [Bool.or_eq_true, decide_eq_true_eq]
      constructor
      · rintro (h | h)
        · refine ⟨trivial, .inl ?_⟩
          by_cases hx0 : x = 0
          · left; have := h2.2 hx0; omega
          · exact .inr hx0
        · exact ⟨trivial, .inr h.2⟩
      · rintro ⟨_, h | h⟩
        · left
          rcases h with h | h
          · omega
          · have : y ≠ 0 := fun e => h (h2.1 e)
            omega
        · by_cases hz : r + y = 0
          · exact .inr ⟨by omega, h⟩
          · left; omega
  by_cases h : Q * (H * 2) < 2 * (r + Q * (x + H * (c % 2))) ∨ (Q * (H * 2) = 2 * (r + Q * (x + H * (c % 2))) ∧ c / 2 % 2 = 1)
  · rw [if_pos h, if_pos (key.1 h)]
  · rw [if_neg h, if_neg (fun e => h (key.2 e))]

theorem log2_quot (N D P Q A B : Nat) (hD : 0 < D) (hQ : 0 < Q) (hn : P / Q ≠ 0) (h : N * (Q * 2 ^ B) = P * (D * 2 ^ A)) : (N / D).log2 = (P / Q).log2 + A - B := by
  have l1 := Nat.log2_self_le hn
  have l2 := Nat.lt_log2_self (n := P / Q)
  generalize (P / Q).log2 = g at *
  rw [Nat.le_div_iff_mul_le hQ] at l1
  rw [Nat.div_lt_iff_lt_mul hQ] at l2
  have g1 : 2 ^ (g + A) * D ≤ N * 2 ^ B := by
    refine Nat.le_of_mul_le_mul_right (c := Q) ?_ hQ
    rw [Nat.mul_assoc N, Nat.mul_comm (2 ^ B), h, Nat.pow_add]
    have := Nat.mul_le_mul_right (D * 2 ^ A) l1
    refine Nat.le_trans (Nat.le_of_eq ?_) this
    simp only [Nat.mul_assoc, Nat.mul_left_comm, Nat.mul_comm]
  have g2 : N * 2 ^ B < 2 ^ (g + 1 + A) * D := by
    refine Nat.lt_of_mul_lt_mul_right (a := Q) ?_
    rw [Nat.mul_assoc N, Nat.mul_comm (2 ^ B), h, Nat.pow_add 2 (g + 1)]
    have := Nat.mul_lt_mul_of_pos_right l2 (Nat.mul_pos hD (Nat.two_pow_pos A))
    refine Nat.lt_of_lt_of_le this (Nat.le_of_eq ?_)
    simp only [Nat.mul_assoc, Nat.mul_left_comm, Nat.mul_comm]
  by_cases hB : B ≤ g + A
  · obtain ⟨j, hj⟩ : ∃ j, g + A = j + B := ⟨g + A - B, by omega⟩
    rw [hj, Nat.pow_add, Nat.mul_right_comm] at g1
    rw [show g + 1 + A = j + 1 + B by omega, Nat.pow_add, Nat.mul_right_comm] at g2
    have g3 := Nat.le_of_mul_le_mul_right g1 (Nat.two_pow_pos B)
    have g4 := Nat.lt_of_mul_lt_mul_right g2
    have h5 : 2 ^ j ≤ N / D := (Nat.le_div_iff_mul_le hD).2 g3
    have h6 : N / D < 2 ^ (j + 1) := (Nat.div_lt_iff_lt_mul hD).2 g4
    rw [hj, Nat.add_sub_cancel]
    have h0 : N / D ≠ 0 := by have := Nat.two_pow_pos j; omega
    exact (Nat.log2_eq_iff h0).2 ⟨h5, h6⟩
  · have h7 : N < D := by
      refine Nat.lt_of_mul_lt_mul_right (a := 2 ^ B) ?_
      refine Nat.lt_of_lt_of_le g2 ?_
      rw [Nat.mul_comm D]
      exact Nat.mul_le_mul_right _ (Nat.pow_le_pow_right (by omega) (by omega))
    rw [Nat.div_eq_of_lt h7, show g + A - B = 0 by omega]
    simp

/-- The nearest rung of N / D = P / Q * 2 ^ (A - B), by the quotient's whole part. -/
theorem rnd_quot (f : Format) (N D P Q A B sh k : Nat) (hD : 0 < D) (hQ : 0 < Q) (hn : P / Q ≠ 0) (h : N * (Q * 2 ^ B) = P * (D * 2 ^ A))
    (hk : k = (P / Q).log2 + A - B - f.fractionBits) (hsh : sh + 1 + A = k + B) : rnd f N D = k * f.binade + cutN (P / Q) sh (decide (P % Q ≠ 0)) := by
  unfold rnd
  rw [log2_quot N D P Q A B hD hQ hn h, ← hk]
  refine congrArg _ ?_
  rw [← cutE_quot P Q sh hQ]
  refine cutE_eq (Nat.mul_pos hD (Nat.two_pow_pos k)) (Nat.mul_pos hQ (Nat.two_pow_pos _)) ?_
  refine Nat.eq_of_mul_eq_mul_right (Nat.two_pow_pos A) ?_
  have e : 2 ^ (sh + 1) * 2 ^ A = 2 ^ k * 2 ^ B := by rw [← Nat.pow_add, ← Nat.pow_add, hsh]
  calc N * (Q * 2 ^ (sh + 1)) * 2 ^ A = N * (Q * (2 ^ (sh + 1) * 2 ^ A)) := by simp only [Nat.mul_assoc]
    _ = N * (Q * 2 ^ B) * 2 ^ k := by rw [e]; simp only [Nat.mul_assoc, Nat.mul_left_comm, Nat.mul_comm]
    _ = P * (D * 2 ^ A) * 2 ^ k := by rw [h]
    _ = P * (D * 2 ^ k) * 2 ^ A := by simp only [Nat.mul_assoc, Nat.mul_left_comm, Nat.mul_comm]

theorem cutN_lt (n sh t : Nat) (more : Bool) (h : n < 2 ^ (sh + 1 + t)) : cutN n sh more ≤ 2 ^ t := by
  unfold cutN
  have : n / 2 ^ sh / 2 < 2 ^ t := by
    rw [Nat.div_div_eq_div_mul, ← Nat.pow_succ, Nat.div_lt_iff_lt_mul (Nat.two_pow_pos _), ← Nat.pow_add, Nat.add_comm t]; exact h
  split <;> omega
end Flt
end Go.Proofs.Ytanijhgmgldiiaa
