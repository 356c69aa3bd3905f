/- The document's way to the nearest float, in numbers. -/
import Derived.Test.YtmkploknoohliaaGreatRA
namespace Go.Proofs.YtmkploknoohliaaGreat
namespace Flt
set_option linter.unusedVariables false
set_option linter.unusedSimpArgs false
open Ieee

/-- How many digits a quotient has. -/
theorem quot_len (P Q a b d : Nat) (hP : 2 ^ a ≤ P ∧ P < 2 ^ (a + 1)) (hQ : 2 ^ b ≤ Q ∧ Q < 2 ^ (b + 1)) (h : a = d + b + 1) : 2 ^ d ≤ P / Q ∧ P / Q < 2 ^ (d + 2) := by
  have hQp : 0 < Q := Nat.lt_of_lt_of_le (Nat.two_pow_pos b) hQ.1
  constructor
  · rw [Nat.le_div_iff_mul_le hQp]
    refine Nat.le_trans (Nat.mul_le_mul_left _ (Nat.le_of_lt hQ.2)) ?_
    rw [← Nat.pow_add, show d + (b + 1) = a by omega]; exact hP.1
  · rw [Nat.div_lt_iff_lt_mul hQp]
    refine Nat.lt_of_lt_of_le hP.2 (Nat.le_trans ?_ (Nat.mul_le_mul_left _ hQ.1))
    rw [← Nat.pow_add]; exact Nat.pow_le_pow_right (by omega) (by omega)

theorem log2_bounds {P : Nat} (h : 0 < P) : 2 ^ P.log2 ≤ P ∧ P < 2 ^ (P.log2 + 1) := ⟨Nat.log2_self_le (by omega), Nat.lt_log2_self⟩

theorem shift_bounds {P a : Nat} (s : Nat) (h : 2 ^ a ≤ P ∧ P < 2 ^ (a + 1)) : 2 ^ (a + s) ≤ P * 2 ^ s ∧ P * 2 ^ s < 2 ^ (a + s + 1) := by
  constructor
  · rw [Nat.pow_add]; exact Nat.mul_le_mul_right _ h.1
  · rw [show a + s + 1 = a + 1 + s by omega, Nat.pow_add 2 (a + 1)]; exact Nat.mul_lt_mul_of_pos_right h.2 (Nat.two_pow_pos s)

/-- What is cut off, by how many digits there are. -/
theorem cut_bounds (n sh k g fb : Nat) (hn : 2 ^ g ≤ n ∧ n < 2 ^ (g + 1)) (h1 : g ≤ sh + fb + 1) (h2 : k ≠ 0 → g = sh + fb + 1) : n / 2 ^ sh < 2 ^ (fb + 2) ∧ (n / 2 ^ sh / 2 < 2 ^ fb → k = 0) := by
  constructor
  · rw [Nat.div_lt_iff_lt_mul (Nat.two_pow_pos sh), ← Nat.pow_add]
    exact Nat.lt_of_lt_of_le hn.2 (Nat.pow_le_pow_right (by omega) (by omega))
  · intro h
    refine Classical.byContradiction fun hk => ?_
    have hg := h2 hk
    have : 2 ^ (fb + 1) ≤ n / 2 ^ sh := by
      rw [Nat.le_div_iff_mul_le (Nat.two_pow_pos sh), ← Nat.pow_add, show fb + 1 + sh = g by omega]; exact hn.1
    rw [Nat.pow_succ] at this
    omega

theorem nearest_math (f : Format) (T P Q : Nat) (e s u : Int) (P' Q' : Nat) (hP : 0 < P) (hQ : 0 < Q) (hs : s = (f.fractionBits : Int) + 4 + (Q.log2 + 1 : Nat) - (P.log2 + 1 : Nat)) (hu : u = e - s)
    (hPQ : (0 ≤ s ∧ P' = P * 2 ^ s.toNat ∧ Q' = Q) ∨ (s < 0 ∧ P' = P ∧ Q' = Q * 2 ^ (-s).toNat)) :
    ∃ k sh g : Nat, 0 < Q' ∧ P' / Q' ≠ 0 ∧ (P' / Q').log2 = g ∧ f.fractionBits + 3 ≤ g ∧ g ≤ f.fractionBits + 4 ∧ P' / Q' / 2 ^ sh < 2 ^ (f.fractionBits + 2) ∧ (P' / Q' / 2 ^ sh / 2 < f.binade → k = 0) ∧
      (((g : Int) + 1 + u - ((f.fractionBits : Int) + 1) < -(T : Int) ∧ k = 0) ∨ (-(T : Int) ≤ (g : Int) + 1 + u - ((f.fractionBits : Int) + 1) ∧ (g : Int) + 1 + u - ((f.fractionBits : Int) + 1) = (k : Int) - (T : Int))) ∧
      (k : Int) - (T : Int) - u - 1 = (sh : Int) ∧
      rnd f (P * 2 ^ (e + T).toNat) (Q * 2 ^ (-(T : Int) - e).toNat) = k * f.binade + cutN (P' / Q') sh (decide (P' % Q' ≠ 0)) := by
  have bP := log2_bounds hP
  have bQ := log2_bounds hQ
  have hQ' : 0 < Q' := by
    rcases hPQ with ⟨_, _, h⟩ | ⟨_, _, h⟩
    · rw [h]; exact hQ
    · rw [h]; exact Nat.mul_pos hQ (Nat.two_pow_pos _)
  have hn : 2 ^ (f.fractionBits + 3) ≤ P' / Q' ∧ P' / Q' < 2 ^ (f.fractionBits + 5) := by
    rcases hPQ with ⟨h1, h2, h3⟩ | ⟨h1, h2, h3⟩
    · rw [h2, h3]
      exact quot_len _ _ _ _ _ (shift_bounds _ bP) bQ (by omega)
    · rw [h2, h3]
      exact quot_len _ _ _ _ _ bP (shift_bounds _ bQ) (by omega)
  have hn0 : P' / Q' ≠ 0 := by have := Nat.two_pow_pos (f.fractionBits + 3); omega
  obtain ⟨g, hg⟩ : ∃ g, (P' / Q').log2 = g := ⟨_, rfl⟩
  have hg1 : f.fractionBits + 3 ≤ g := by rw [← hg]; exact (Nat.le_log2 hn0).2 hn.1
  have hg2 : g ≤ f.fractionBits + 4 := by
    have : g < f.fractionBits + 5 := by rw [← hg]; exact (Nat.log2_lt hn0).2 hn.2
    omega
  obtain ⟨A, hA⟩ : ∃ A, A = (u + T).toNat := ⟨_, rfl⟩
  obtain ⟨B, hB⟩ : ∃ B, B = (-(T : Int) - u).toNat := ⟨_, rfl⟩
  obtain ⟨k, hk⟩ : ∃ k, k = g + A - B - f.fractionBits := ⟨_, rfl⟩
  obtain ⟨sh, hsh⟩ : ∃ sh, sh + 1 + A = k + B := ⟨k + B - 1 - A, by omega⟩
  have bn := log2_bounds (Nat.pos_of_ne_zero hn0)
  rw [hg] at bn
  obtain ⟨c1, c2⟩ := cut_bounds (P' / Q') sh k g f.fractionBits bn (by omega) (by omega)
  refine ⟨k, sh, g, hQ', hn0, hg, hg1, hg2, c1, c2, by omega, by omega, ?_⟩
  refine rnd_quot f _ _ P' Q' A B sh k (Nat.mul_pos hQ (Nat.two_pow_pos _)) hQ' hn0 ?_ (by rw [hg]; exact hk) hsh
  rcases hPQ with ⟨h1, h2, h3⟩ | ⟨h1, h2, h3⟩
  · rw [h2, h3]
    rw [show P * 2 ^ (e + (T : Int)).toNat * (Q * 2 ^ B) = P * Q * (2 ^ (e + (T : Int)).toNat * 2 ^ B) by simp only [Nat.mul_assoc, Nat.mul_left_comm, Nat.mul_comm],
      show P * 2 ^ s.toNat * (Q * 2 ^ (-(T : Int) - e).toNat * 2 ^ A) = P * Q * (2 ^ s.toNat * 2 ^ (-(T : Int) - e).toNat * 2 ^ A) by simp only [Nat.mul_assoc, Nat.mul_left_comm, Nat.mul_comm]]
    rw [← Nat.pow_add, ← Nat.pow_add, ← Nat.pow_add]
    congr 2; omega
  · rw [h2, h3]
    rw [show P * 2 ^ (e + (T : Int)).toNat * (Q * 2 ^ (-s).toNat * 2 ^ B) = P * Q * (2 ^ (e + (T : Int)).toNat * 2 ^ (-s).toNat * 2 ^ B) by simp only [Nat.mul_assoc, Nat.mul_left_comm, Nat.mul_comm],
      show P * (Q * 2 ^ (-(T : Int) - e).toNat * 2 ^ A) = P * Q * (2 ^ (-(T : Int) - e).toNat * 2 ^ A) by simp only [Nat.mul_assoc, Nat.mul_left_comm, Nat.mul_comm]]
    rw [← Nat.pow_add, ← Nat.pow_add, ← Nat.pow_add]
    congr 2; omega
end Flt
end Go.Proofs.YtmkploknoohliaaGreat
