/- The greatest number: the mathematics of LimbGreat. -/
import Derived.Test.YtfbkdjghbgdgpabBG
import Derived.Test.YtfbkdjghbgdgpabAD
import Derived.Test.YtfbkdjghbgdgpabAQ
namespace Go.Proofs.Ytfbkdjghbgdgpab
open Go.RowKit
open M
set_option linter.unusedVariables false
set_option linter.unusedSimpArgs false

theorem full_dg {k j : Nat} (h : j < k) : dg (4294967296 ^ k - 1) j = 4294967295 := by
  obtain ⟨d, rfl⟩ : ∃ d, k = j + (d + 1) := ⟨k - j - 1, by omega⟩
  unfold dg
  have hp := pw_pos j
  have hd := pw_pos d
  have e : 4294967296 ^ (j + (d + 1)) - 1 = (4294967296 ^ j - 1) + 4294967296 ^ j * (4294967296 * (4294967296 ^ d - 1) + 4294967295) := by
    rw [Nat.pow_add, pw_succ]
    generalize 4294967296 ^ j = P at *
    generalize 4294967296 ^ d = Q at *
    obtain ⟨q, rfl⟩ : ∃ q, Q = q + 1 := ⟨Q - 1, by omega⟩
    rw [Nat.add_sub_cancel]
    have h1 : P * ((q + 1) * 4294967296) = P * (4294967296 * q + 4294967295) + P := by rw [← Nat.mul_succ]; congr 1; omega
    omega
  rw [e, Nat.add_mul_div_left _ _ hp, Nat.div_eq_of_lt (by omega), Nat.zero_add]
  omega

theorem full_mod {k m : Nat} (h : m ≤ k) : (4294967296 ^ k - 1) % 4294967296 ^ m = 4294967296 ^ m - 1 := by
  have hp := pw_pos m
  have h1 : (4294967296 ^ m - 1) % 4294967296 ^ m = 4294967296 ^ m - 1 := Nat.mod_eq_of_lt (by omega)
  rw [← h1]
  exact ext_mod fun j hj => by rw [full_dg (by omega), full_dg hj]

theorem full_nrm {k : Nat} (h : 0 < k) : Nrm k (4294967296 ^ k - 1) := by
  have hp := pw_pos k
  refine ⟨by omega, .inr ?_⟩
  obtain ⟨d, rfl⟩ : ∃ d, k = d + 1 := ⟨k - 1, by omega⟩
  have hd := pw_pos d
  rw [Nat.add_sub_cancel, pw_succ]
  omega

theorem full_bits {k : Nat} (h : 0 < k) : bitLen (4294967296 ^ k - 1) = 32 * k := by
  have hp := pw_pos k
  have hs := bitLen_spec (4294967296 ^ k - 1)
  have hle : bitLen (4294967296 ^ k - 1) ≤ 32 * k := bitLen_row (full_nrm h)
  rcases Nat.lt_or_ge (bitLen (4294967296 ^ k - 1)) (32 * k) with h1 | h1
  · exfalso
    have h2 : 2 ^ bitLen (4294967296 ^ k - 1) ≤ 2 ^ (32 * k - 1) := Nat.pow_le_pow_right (by omega) (by omega)
    have h3 := hs.1
    have h4 : 4294967296 ^ k = 2 ^ (32 * k - 1) * 2 := by rw [pw_two, ← Nat.pow_succ]; congr 1; omega
    have h5 : 0 < 2 ^ (32 * k - 1) := Nat.two_pow_pos _
    omega
  · omega

/-- The numbers of LimbGreat, and what is wanted of them. -/
structure Great (n1 n2 n3 k8 T H M F D : Nat) : Prop where
  top : 1 * 2 ^ n1 = T
  top2 : 2 ^ n1 = T
  topF : Fits T
  topN : Nrm k8 T
  over : ¬ Fits (1 * 2 ^ n2)
  over2 : ¬ Fits (2 ^ n2)
  half : 1 * 2 ^ n3 = H
  halfF : Fits H
  halfL : ¬ Fits (H * H)
  half1 : 1 ≤ H
  lessF : Fits ((H - 1) * (H - 1))
  twoF : Fits ((H - 1) * 2)
  one2 : 1 ≤ (H - 1) * 2
  sumF : Fits ((H - 1) * (H - 1) + ((H - 1) * 2 - 1))
  same : (H - 1) * (H - 1) + ((H - 1) * 2 - 1) = M - 1
  all1 : 1 ≤ M
  allF : Fits M
  allN : Nrm k8 M
  allL : ¬ Fits (M + 1)
  allB : bitLen M = n2
  allD : ∀ j, j < k8 → dg M j = 4294967295
  few : M % 4294967296 ^ (min k8 200) = F
  mid : M % 4294967296 ^ (min k8 100) = D
  midF : Fits (D + 2)
  root : Sq D F
  rootX : decide (D * D = F) = false
  mid1 : 0 < D
  quo : F / D = D + 2
  rem : F % D = 0
  ten : ¬ Fits (M * 10)
  pos : 0 < M

theorem great : ∃ n1 n2 n3 k8 T H M F D : Nat, n1 = 262143 ∧ n2 = 262144 ∧ n3 = 131072 ∧ k8 = 8192 ∧ Great n1 n2 n3 k8 T H M F D := by
  obtain ⟨n1, hn1⟩ : ∃ n, n = 262143 := ⟨_, rfl⟩
  obtain ⟨n2, hn2⟩ : ∃ n, n = 262144 := ⟨_, rfl⟩
  obtain ⟨n3, hn3⟩ : ∃ n, n = 131072 := ⟨_, rfl⟩
  obtain ⟨k8, hk8⟩ : ∃ n, n = 8192 := ⟨_, rfl⟩
  obtain ⟨k4, hk4⟩ : ∃ n, n = 4096 := ⟨_, rfl⟩
  have hb1 : bitLen 1 = 1 := by decide
  have f1 : ∀ n, Fits (1 * 2 ^ n) ↔ 1 + n ≤ 262144 := fun n => by have := fits_shift (A := 1) (n := n) (by omega); rwa [hb1] at this
  have eH : 2 ^ n3 = 4294967296 ^ k4 := by rw [pw_two]; congr 1; omega
  have eHH : 4294967296 ^ k4 * 4294967296 ^ k4 = 4294967296 ^ k8 := by rw [← Nat.pow_add]; congr 1; omega
  have nM := full_nrm (k := k8) (by omega)
  have hp8 := pw_pos k8
  have hp4 : 4294967296 ≤ 4294967296 ^ k4 := by
    have := Nat.pow_le_pow_right (n := 4294967296) (by omega) (show 1 ≤ k4 by omega)
    rwa [Nat.pow_one] at this
  have fM : Fits (4294967296 ^ k8 - 1) := nM.fits.1 (by omega)
  have nfM : ¬ Fits (4294967296 ^ k8) := fun ⟨k, hk, hlt⟩ => by
    have := Nat.pow_le_pow_right (n := 4294967296) (by omega) (show k ≤ k8 by omega)
    omega
  have eS : (4294967296 ^ k4 - 1) * (4294967296 ^ k4 - 1) + ((4294967296 ^ k4 - 1) * 2 - 1) = 4294967296 ^ k8 - 1 - 1 := by
    rw [← eHH]
    generalize 4294967296 ^ k4 = P at *
    obtain ⟨p, rfl⟩ : ∃ p, P = p + 1 := ⟨P - 1, by omega⟩
    rw [Nat.add_sub_cancel]
    have h1 : (p + 1) * (p + 1) = p * p + p * 2 + 1 := by rw [Nat.add_mul, Nat.mul_add]; omega
    omega
  have le2 : (4294967296 ^ k4 - 1) * (4294967296 ^ k4 - 1) ≤ 4294967296 ^ k8 - 1 := by omega
  have hK : 4294967296 ≤ 4294967296 ^ 100 := by
    have := Nat.pow_le_pow_right (n := 4294967296) (by omega) (show 1 ≤ 100 by omega)
    rwa [Nat.pow_one] at this
  have hKK : 4294967296 ^ 200 = 4294967296 ^ 100 * 4294967296 ^ 100 := by rw [← Nat.pow_add]
  have hKf : Fits (4294967296 ^ 100 - 1 + 2) := ⟨101, by omega, by rw [pw_succ]; omega⟩
  have e1 : (4294967296 ^ k8 - 1) % 4294967296 ^ (min k8 200) = 4294967296 ^ 200 - 1 := by rw [show min k8 200 = 200 by omega]; exact full_mod (by omega)
  have e2 : (4294967296 ^ k8 - 1) % 4294967296 ^ (min k8 100) = 4294967296 ^ 100 - 1 := by rw [show min k8 100 = 100 by omega]; exact full_mod (by omega)
  rw [hKK] at e1
  have key : ∀ K : Nat, 4294967296 ≤ K → Sq (K - 1) (K * K - 1) ∧ decide ((K - 1) * (K - 1) = K * K - 1) = false ∧ 0 < K - 1 ∧ (K * K - 1) / (K - 1) = K - 1 + 2 ∧ (K * K - 1) % (K - 1) = 0 := fun K hK => by
    obtain ⟨p, rfl⟩ : ∃ p, K = p + 1 := ⟨K - 1, by omega⟩
    have h1 : (p + 1) * (p + 1) = p * p + p * 2 + 1 := by rw [Nat.add_mul, Nat.mul_add]; omega
    have h2 : (p + 1) * (p + 1) - 1 = p * (p + 2) := by rw [h1, Nat.mul_add]; omega
    rw [Nat.add_sub_cancel]
    refine ⟨⟨by omega, by omega⟩, by simp; omega, by omega, ?_, ?_⟩
    · rw [h2, Nat.mul_div_cancel_left _ (by omega)]
    · rw [h2, Nat.mul_mod_right]
  obtain ⟨q1, q2, q3, q4, q5⟩ := key _ hK
  refine ⟨n1, n2, n3, k8, 1 * 2 ^ n1, 4294967296 ^ k4, 4294967296 ^ k8 - 1, 4294967296 ^ 100 * 4294967296 ^ 100 - 1, 4294967296 ^ 100 - 1, hn1, hn2, hn3, hk8, ?_⟩
  exact {
    top := rfl
    top2 := (Nat.one_mul _).symm
    topF := (f1 n1).2 (by omega)
    topN := by
      rw [Nat.one_mul]
      refine ⟨?_, .inr ?_⟩
      · rw [pw_two]; exact (Nat.pow_lt_pow_iff_right (by omega)).2 (by omega)
      · rw [pw_two]; exact Nat.pow_le_pow_right (by omega) (by omega)
    over := fun h => by have := (f1 n2).1 h; omega
    over2 := fun h => by rw [← Nat.one_mul (2 ^ n2)] at h; have := (f1 n2).1 h; omega
    half := by rw [Nat.one_mul, eH]
    halfF := fM.le (by have : 4294967296 ^ k4 * 2 ≤ 4294967296 ^ k4 * 4294967296 ^ k4 := Nat.mul_le_mul_left _ (by omega)
                       omega)
    halfL := by rw [eHH]; exact nfM
    half1 := by omega
    lessF := fM.le le2
    twoF := fM.le (by omega)
    one2 := by omega
    sumF := by rw [eS]; exact fM.le (by omega)
    same := eS
    all1 := by omega
    allF := fM
    allN := nM
    allL := by rw [show 4294967296 ^ k8 - 1 + 1 = 4294967296 ^ k8 by omega]; exact nfM
    allB := by rw [full_bits (by omega)]; omega
    allD := fun j hj => full_dg hj
    few := e1
    mid := e2
    midF := hKf
    root := q1
    rootX := q2
    mid1 := q3
    quo := q4
    rem := q5
    ten := fun h => nfM (h.le (by omega))
    pos := by omega }

end Go.Proofs.Ytfbkdjghbgdgpab
