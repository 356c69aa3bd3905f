/- The document's way to the nearest root, in numbers. -/
import Derived.Test.YtdiinhccfifiaabRF
import Derived.Test.YtdiinhccfifiaabRD
namespace Go.Proofs.Ytdiinhccfifiaab
namespace Flt
set_option linter.unusedVariables false
set_option linter.unusedSimpArgs false
open Ieee

theorem root_math (f : Format) (hf : 1 ≤ f.fractionBits) (T P Q : Nat) (e s u l : Int) (P' Q' w : Nat) (st : Bool) (hP : 0 < P) (hQ : 0 < Q) (hl : l = ((P.log2 + 1 : Nat) : Int) - ((Q.log2 + 1 : Nat) : Int) + e) (hu : u = l / 2 - ((f.fractionBits : Int) + 1) - 4) (hs : s = e - 2 * u)
    (hPQ : (0 ≤ s ∧ P' = P * 2 ^ s.toNat ∧ Q' = Q) ∨ (s < 0 ∧ P' = P ∧ Q' = Q * 2 ^ (-s).toNat)) (h1 : w * w ≤ P' / Q') (h2 : P' / Q' < (w + 1) * (w + 1)) (h3 : st = true ↔ ¬ (w * w = P' / Q' ∧ P' % Q' = 0)) :
    ∃ k sh g : Nat, 0 < Q' ∧ P' / Q' < 2 ^ (2 * f.fractionBits + 13) ∧ w ≠ 0 ∧ w.log2 = g ∧ f.fractionBits + 3 ≤ g ∧ g ≤ f.fractionBits + 6 ∧ w / 2 ^ sh < 2 ^ (f.fractionBits + 2) ∧ (w / 2 ^ sh / 2 < f.binade → k = 0) ∧
      (((g : Int) + 1 + u - ((f.fractionBits : Int) + 1) < -(T : Int) ∧ k = 0) ∨ (-(T : Int) ≤ (g : Int) + 1 + u - ((f.fractionBits : Int) + 1) ∧ (g : Int) + 1 + u - ((f.fractionBits : Int) + 1) = (k : Int) - (T : Int))) ∧
      (k : Int) - (T : Int) - u - 1 = (sh : Int) ∧
      RtR f (P * 2 ^ (e + 2 * (T : Int)).toNat) (Q * 2 ^ (-(2 * (T : Int)) - e).toNat) (k * f.binade + cutN w sh st) := by
  have bP := log2_bounds hP
  have bQ := log2_bounds hQ
  have hQ' : 0 < Q' := by
    rcases hPQ with ⟨_, _, h⟩ | ⟨_, _, h⟩
    · rw [h]; exact hQ
    · rw [h]; exact Nat.mul_pos hQ (Nat.two_pow_pos _)
  -- how many digits the quotient has
  obtain ⟨d, hd, hd1, hd2⟩ : ∃ d : Nat, s + (P.log2 : Int) = (d : Int) + (Q.log2 : Int) + 1 ∧ 2 * f.fractionBits + 8 ≤ d ∧ d ≤ 2 * f.fractionBits + 11 := ⟨(s + (P.log2 : Int) - (Q.log2 : Int) - 1).toNat, by omega, by omega, by omega⟩
  have hn : 2 ^ d ≤ P' / Q' ∧ P' / Q' < 2 ^ (d + 2) := by
    rcases hPQ with ⟨g1, g2, g3⟩ | ⟨g1, g2, g3⟩
    · rw [g2, g3]
      exact quot_len _ _ _ _ _ (shift_bounds _ bP) bQ (by omega)
    · rw [g2, g3]
      exact quot_len _ _ _ _ _ bP (shift_bounds _ bQ) (by omega)
  have hnb : P' / Q' < 2 ^ (2 * f.fractionBits + 13) := Nat.lt_of_lt_of_le hn.2 (Nat.pow_le_pow_right (by omega) (by omega))
  have hlo : 2 ^ (f.fractionBits + 3) ≤ w := by
    rcases Nat.lt_or_ge w (2 ^ (f.fractionBits + 3)) with h | h
    · exfalso
      have := sq_le (show w + 1 ≤ 2 ^ (f.fractionBits + 4) by rw [Nat.pow_succ]; omega)
      rw [← Nat.pow_add] at this
      have h5 : 2 ^ (f.fractionBits + 4 + (f.fractionBits + 4)) ≤ 2 ^ d := Nat.pow_le_pow_right (by omega) (by omega)
      omega
    · exact h
  have hhi : w < 2 ^ (f.fractionBits + 7) := by
    rcases Nat.lt_or_ge w (2 ^ (f.fractionBits + 7)) with h | h
    · exact h
    · exfalso
      have := sq_le h
      rw [← Nat.pow_add] at this
      have h5 : 2 ^ (d + 2) ≤ 2 ^ (f.fractionBits + 7 + (f.fractionBits + 7)) := Nat.pow_le_pow_right (by omega) (by omega)
      omega
  have hw0 : w ≠ 0 := by have := Nat.two_pow_pos (f.fractionBits + 3); omega
  obtain ⟨g, hg⟩ : ∃ g, w.log2 = g := ⟨_, rfl⟩
  have hg1 : f.fractionBits + 3 ≤ g := by rw [← hg]; exact (Nat.le_log2 hw0).2 hlo
  have hg2 : g ≤ f.fractionBits + 6 := by
    have : g < f.fractionBits + 7 := by rw [← hg]; exact (Nat.log2_lt hw0).2 hhi
    omega
  obtain ⟨A, hA⟩ : ∃ A, A = (u + T - 1).toNat := ⟨_, rfl⟩
  obtain ⟨B, hB⟩ : ∃ B, B = (1 - (T : Int) - u).toNat := ⟨_, rfl⟩
  obtain ⟨k, hk⟩ : ∃ k, k = g + 1 + A - B - f.fractionBits := ⟨_, rfl⟩
  obtain ⟨sh, hsh⟩ : ∃ sh, sh + 2 + A = k + B := ⟨k + B - 2 - A, by omega⟩
  have bw := log2_bounds (Nat.pos_of_ne_zero hw0)
  rw [hg] at bw
  obtain ⟨c1, c2⟩ := cut_bounds w sh k g f.fractionBits bw (by omega) (by omega)
  refine ⟨k, sh, g, hQ', hnb, hw0, hg, hg1, hg2, c1, c2, by omega, by omega, ?_⟩
  rw [← rnd_sticky f w A B sh k st hw0 (by rw [hg]; exact hk) hsh]
  have hdm := Nat.div_add_mod P' Q'
  have hml := Nat.mod_lt P' hQ'
  have g1 : w * w * Q' ≤ P' := Nat.le_trans (Nat.mul_le_mul_right _ h1) (Nat.div_mul_le_self _ _)
  have g2 : P' < (w + 1) * (w + 1) * Q' := (Nat.div_lt_iff_lt_mul hQ').1 h2
  refine root_rung f hf _ _ P' Q' w A B st (Nat.mul_pos hQ (Nat.two_pow_pos _)) hQ' g1 g2 ?_ (Nat.le_trans (Nat.pow_le_pow_right (by omega) (by omega)) hlo) ?_
  · rw [h3, ne_eq]
    refine not_congr ?_
    constructor
    · rintro ⟨a1, a2⟩
      rw [a2, Nat.add_zero] at hdm
      rw [a1, Nat.mul_comm]; exact hdm
    · intro h
      have e1 : P' / Q' = w * w := by rw [← h]; exact Nat.mul_div_cancel _ hQ'
      have e2 : P' % Q' = 0 := by rw [← h]; exact Nat.mul_mod_left _ _
      exact ⟨e1.symm, e2⟩
  · rcases hPQ with ⟨q1, q2, q3⟩ | ⟨q1, q2, q3⟩
    · rw [q2, q3]
      rw [show P * 2 ^ (e + 2 * (T : Int)).toNat * (Q * 2 ^ (2 * B)) = P * Q * (2 ^ (e + 2 * (T : Int)).toNat * 2 ^ (2 * B)) by simp only [Nat.mul_assoc, Nat.mul_left_comm, Nat.mul_comm],
        show 4 * (P * 2 ^ s.toNat * (Q * 2 ^ (-(2 * (T : Int)) - e).toNat * 2 ^ (2 * A))) = P * Q * (2 ^ 2 * 2 ^ s.toNat * 2 ^ (-(2 * (T : Int)) - e).toNat * 2 ^ (2 * A)) by rw [show (4 : Nat) = 2 ^ 2 from rfl]; simp only [Nat.mul_assoc, Nat.mul_left_comm, Nat.mul_comm]]
      rw [← Nat.pow_add, ← Nat.pow_add, ← Nat.pow_add, ← Nat.pow_add]
      congr 2; omega
    · rw [q2, q3]
      rw [show P * 2 ^ (e + 2 * (T : Int)).toNat * (Q * 2 ^ (-s).toNat * 2 ^ (2 * B)) = P * Q * (2 ^ (e + 2 * (T : Int)).toNat * 2 ^ (-s).toNat * 2 ^ (2 * B)) by simp only [Nat.mul_assoc, Nat.mul_left_comm, Nat.mul_comm],
        show 4 * (P * (Q * 2 ^ (-(2 * (T : Int)) - e).toNat * 2 ^ (2 * A))) = P * Q * (2 ^ 2 * 2 ^ (-(2 * (T : Int)) - e).toNat * 2 ^ (2 * A)) by rw [show (4 : Nat) = 2 ^ 2 from rfl]; simp only [Nat.mul_assoc, Nat.mul_left_comm, Nat.mul_comm]]
      rw [← Nat.pow_add, ← Nat.pow_add, ← Nat.pow_add, ← Nat.pow_add]
      congr 2; omega
end Flt
end Go.Proofs.Ytdiinhccfifiaab
