/- Numbers made whole, by modes. -/
import Derived.Test.YtmkploknoohliaaGreatFP
import Derived.Test.YtmkploknoohliaaGreatNF
import Derived.Test.YtmkploknoohliaaGreatRC
import Derived.Test.YtmkploknoohliaaGreatRB
namespace Go.Proofs.YtmkploknoohliaaGreat
namespace Flt
set_option linter.unusedVariables false
set_option linter.unusedSimpArgs false
open Ieee

/-- N / D made whole, by a mode: to even, away from nought, toward nought, down, up. -/
def whl (mode : Nat) (s : Bool) (N D : Nat) : Nat := match mode with
  | 0 => cutE N D
  | 1 => N / D + (decide (D ≤ 2 * (N % D))).toNat
  | 2 => N / D
  | 3 => N / D + (s && decide (N % D ≠ 0)).toNat
  | _ => N / D + (!s && decide (N % D ≠ 0)).toNat

theorem frac_eq {n u n' u' : Nat} (hu : 0 < u) (hu' : 0 < u') (h : n * u' = n' * u) : n / u = n' / u' ∧ (n % u = 0 ↔ n' % u' = 0) ∧ (u ≤ 2 * (n % u) ↔ u' ≤ 2 * (n' % u')) := by
  have e1 : n / u = n' / u' := by
    rw [← Nat.mul_div_mul_right n u hu', ← Nat.mul_div_mul_right n' u' hu, h, Nat.mul_comm u u']
  have e2 : n % u * u' = n' % u' * u := by
    rw [← Nat.mul_mod_mul_right, ← Nat.mul_mod_mul_right, h, Nat.mul_comm u u']
  refine ⟨e1, ?_, ?_⟩
  · constructor
    · intro h0; rw [h0, Nat.zero_mul] at e2
      rcases Nat.mul_eq_zero.1 e2.symm with h | h
      · exact h
      · omega
    · intro h0; rw [h0, Nat.zero_mul] at e2
      rcases Nat.mul_eq_zero.1 e2 with h | h
      · exact h
      · omega
  · constructor
    · intro h0
      have := Nat.mul_le_mul_right u' h0
      rw [Nat.mul_assoc, e2, ← Nat.mul_assoc, Nat.mul_comm u u'] at this
      exact Nat.le_of_mul_le_mul_right this hu
    · intro h0
      have := Nat.mul_le_mul_right u h0
      rw [Nat.mul_assoc, ← e2, ← Nat.mul_assoc, Nat.mul_comm u' u] at this
      exact Nat.le_of_mul_le_mul_right this hu'

theorem whl_eq {mode : Nat} {s : Bool} {n u n' u' : Nat} (hu : 0 < u) (hu' : 0 < u') (h : n * u' = n' * u) : whl mode s n u = whl mode s n' u' := by
  obtain ⟨e1, e2, e3⟩ := frac_eq hu hu' h
  unfold whl
  split
  · exact cutE_eq hu hu' h
  · rw [e1]; congr 2; exact decide_eq_decide.2 e3
  · exact e1
  · rw [e1]; congr 3; exact decide_eq_decide.2 (not_congr e2)
  · rw [e1]; congr 3; exact decide_eq_decide.2 (not_congr e2)

/-- The model's ways. -/
def wayOf : Nat → Toward
  | 0 => .even
  | 2 => .zero
  | 3 => .down
  | _ => .up

theorem cut_ways (neg : Bool) (n drop : Nat) (mode : Nat) (hm : mode = 0 ∨ mode = 2 ∨ mode = 3 ∨ mode = 4) : (wayOf mode).cut neg n drop = whl mode neg n (2 ^ drop) := by
  have small : ∀ d, n.log2 + 2 ≤ d → n < 2 ^ d := by
    intro d hd
    exact Nat.lt_of_lt_of_le Nat.lt_log2_self (Nat.pow_le_pow_right (by omega) (by omega))
  have key : n / 2 ^ (min drop (n.log2 + 2)) = n / 2 ^ drop ∧ (n % 2 ^ (min drop (n.log2 + 2)) = 0 ↔ n % 2 ^ drop = 0) := by
    rcases Nat.le_total drop (n.log2 + 2) with h | h
    · rw [Nat.min_eq_left h]; exact ⟨rfl, Iff.rfl⟩
    · rw [Nat.min_eq_right h]
      have h1 := small _ (Nat.le_refl (n.log2 + 2))
      have h2 := small _ h
      rw [Nat.div_eq_of_lt h1, Nat.div_eq_of_lt h2, Nat.mod_eq_of_lt h1, Nat.mod_eq_of_lt h2]
      exact ⟨rfl, Iff.rfl⟩
  rcases hm with rfl | rfl | rfl | rfl
  · exact cut_even neg n drop
  · show n / (1 <<< min drop (n.log2 + 2)) + 0 = n / 2 ^ drop
    rw [Nat.one_shiftLeft, key.1, Nat.add_zero]
  · show n / (1 <<< min drop (n.log2 + 2)) + (neg && n % (1 <<< min drop (n.log2 + 2)) != 0).toNat = n / 2 ^ drop + (neg && decide (n % 2 ^ drop ≠ 0)).toNat
    rw [Nat.one_shiftLeft, key.1]
    congr 3
    have : (n % 2 ^ min drop (n.log2 + 2) != 0) = decide (n % 2 ^ min drop (n.log2 + 2) ≠ 0) := by by_cases h : n % 2 ^ min drop (n.log2 + 2) = 0 <;> simp [h]
    rw [this]; exact decide_eq_decide.2 (not_congr key.2)
  · show n / (1 <<< min drop (n.log2 + 2)) + (!neg && n % (1 <<< min drop (n.log2 + 2)) != 0).toNat = n / 2 ^ drop + (!neg && decide (n % 2 ^ drop ≠ 0)).toNat
    rw [Nat.one_shiftLeft, key.1]
    congr 3
    have : (n % 2 ^ min drop (n.log2 + 2) != 0) = decide (n % 2 ^ min drop (n.log2 + 2) ≠ 0) := by by_cases h : n % 2 ^ min drop (n.log2 + 2) = 0 <;> simp [h]
    rw [this]; exact decide_eq_decide.2 (not_congr key.2)

/-- A whole number's float. -/
def ent (T : Nat) (s : Bool) (K : Nat) : Nat := double.word s (min (rnd double (K * 2 ^ T) 1) double.infRung)

theorem nearest_ent (T : Nat) (hT : T = 1074) (s : Bool) (K : Nat) : double.nearest s K 0 = ent T s K := by
  have hl : double.leastPlace = -1074 := by decide
  unfold ent
  rw [nearest_rnd, hl, show (0 - (-1074) : Int).toNat = T by omega, show (-1074 - 0 : Int).toNat = 0 by omega, Nat.pow_zero]

theorem integral_fin (T : Nat) (hT : T = 1074) (mode a : Nat) (hm : mode = 0 ∨ mode = 2 ∨ mode = 3 ∨ mode = 4) (ha : rg double a < double.infRung) : double.write ((double.read a).integral (wayOf mode)) = ent T (sg double a) (whl mode (sg double a) (V double (rg double a)) (2 ^ T)) := by
  obtain ⟨m, k, e1, e2, _⟩ := read_fin double a ha
  have hl : double.leastPlace = -1074 := by decide
  rw [e1]
  show double.nearest (sg double a) ((wayOf mode).cut (sg double a) (m <<< (double.leastPlace + (k : Int)).toNat) (-(double.leastPlace + (k : Int))).toNat) 0 = _
  rw [nearest_ent T hT, cut_ways _ _ _ _ hm, Nat.shiftLeft_eq, hl]
  refine congrArg _ ?_
  refine whl_eq (Nat.two_pow_pos _) (Nat.two_pow_pos _) ?_
  rw [← e2, Nat.mul_assoc, Nat.mul_assoc, ← Nat.pow_add, ← Nat.pow_add]
  congr 2; omega

/-- A float made whole is a float. -/
theorem whl_repr (T mode : Nat) (s : Bool) (r : Nat) (hm : mode ≤ 4) (hT : 1 ≤ T) : ∃ R, V double R = whl mode s (V double r) (2 ^ T) * 2 ^ T ∧ whl mode s (V double r) (2 ^ T) ≤ V double r / 2 ^ T + 1 := by
  have hb : 2 * double.binade = 2 ^ 53 := by decide
  have hle : V double r / 2 ^ T ≤ whl mode s (V double r) (2 ^ T) ∧ whl mode s (V double r) (2 ^ T) ≤ V double r / 2 ^ T + 1 := by
    have ht : ∀ b : Bool, b.toNat ≤ 1 := fun b => Bool.toNat_le b
    unfold whl
    split
    · unfold cutE; split <;> omega
    · have := ht (decide (2 ^ T ≤ 2 * (V double r % 2 ^ T))); omega
    · omega
    · have := ht (s && decide (V double r % 2 ^ T ≠ 0)); omega
    · have := ht (!s && decide (V double r % 2 ^ T ≠ 0)); omega
  obtain ⟨c, v1, _, v3⟩ := V_form double r
  generalize r / double.binade - 1 = kk at *
  by_cases hk : T ≤ kk
  · -- it is whole
    have hz : V double r % 2 ^ T = 0 := by
      rw [v1, show kk = (kk - T) + T by omega, Nat.pow_add, ← Nat.mul_assoc]; exact Nat.mul_mod_left _ _
    have hw : whl mode s (V double r) (2 ^ T) = V double r / 2 ^ T := by
      have hp := Nat.two_pow_pos T
      unfold whl
      split
      · unfold cutE; rw [hz, if_neg (by omega), Nat.add_zero]
      · rw [hz, decide_eq_false (by omega)]; rfl
      · rfl
      · rw [hz]; simp
      · rw [hz]; simp
    refine ⟨r, ?_, hle.2⟩
    rw [hw]
    have := Nat.div_add_mod (V double r) (2 ^ T)
    rw [hz, Nat.add_zero, Nat.mul_comm] at this
    exact this.symm
  · have hlt : V double r / 2 ^ T + 1 ≤ 2 ^ 53 := by
      have h1 : V double r < 2 ^ 53 * 2 ^ kk := by
        rw [v1]; exact Nat.mul_lt_mul_of_pos_right (by omega) (Nat.two_pow_pos _)
      have h2 : V double r / 2 ^ T < 2 ^ 53 := by
        rw [Nat.div_lt_iff_lt_mul (Nat.two_pow_pos _)]
        exact Nat.lt_of_lt_of_le h1 (Nat.mul_le_mul_left _ (Nat.pow_le_pow_right (by omega) (by omega)))
      omega
    rcases Nat.lt_or_ge (whl mode s (V double r) (2 ^ T)) (2 ^ 53) with h | h
    · obtain ⟨R, hR⟩ := repr double (whl mode s (V double r) (2 ^ T)) T (by omega)
      exact ⟨R, hR, hle.2⟩
    · have e : whl mode s (V double r) (2 ^ T) = 2 ^ 53 := by omega
      obtain ⟨R, hR⟩ := repr double 1 (53 + T) (by decide)
      refine ⟨R, ?_, hle.2⟩
      rw [hR, e, Nat.one_mul, Nat.pow_add]

theorem ent_exact (T : Nat) (s : Bool) (K R : Nat) (h : V double R = K * 2 ^ T) : ent T s K = double.word s (min R double.infRung) := by
  unfold ent
  rw [← h, rnd_V]

/-! The bits of math.Round. -/
theorem V_one (T : Nat) (hT : T = 1074) : V double 4607182418800017408 = 2 ^ T := by
  obtain ⟨q, hq⟩ : ∃ q : Nat, q = 1022 := ⟨_, rfl⟩
  have h := (V_at double q double.binade (by decide) (.inr (Nat.le_refl _))).1
  rw [show q * double.binade + double.binade = 4607182418800017408 by rw [hq]; decide +kernel] at h
  rw [h, show double.binade = 2 ^ 52 by decide, ← Nat.pow_add, show 52 + q = T by omega]
theorem V_half (T : Nat) (hT : T = 1073) : V double 4602678819172646912 = 2 ^ T := by
  obtain ⟨q, hq⟩ : ∃ q : Nat, q = 1021 := ⟨_, rfl⟩
  have h := (V_at double q double.binade (by decide) (.inr (Nat.le_refl _))).1
  rw [show q * double.binade + double.binade = 4602678819172646912 by rw [hq]; decide +kernel] at h
  rw [h, show double.binade = 2 ^ 52 by decide, ← Nat.pow_add, show 52 + q = T by omega]

/-- Below one. -/
theorem away_low (T r : Nat) (s : Bool) (hT : T = 1074) (h : r < 4607182418800017408) : ent T s (whl 1 s (V double r) (2 ^ T)) = double.word s (if 4602678819172646912 ≤ r then 4607182418800017408 else 0) := by
  have h1 := V_one T hT
  have hv : V double r < 2 ^ T := by rw [← h1]; exact V_lt h
  obtain ⟨U, hU⟩ : ∃ U, U = 1073 := ⟨_, rfl⟩
  have h2 := V_half U hU
  have hp : 2 ^ T = 2 * 2 ^ U := by rw [show T = U + 1 by omega, Nat.pow_succ, Nat.mul_comm]
  have hk : whl 1 s (V double r) (2 ^ T) = if 4602678819172646912 ≤ r then 1 else 0 := by
    show V double r / 2 ^ T + (decide (2 ^ T ≤ 2 * (V double r % 2 ^ T))).toNat = _
    rw [Nat.div_eq_of_lt hv, Nat.mod_eq_of_lt hv, hp]
    by_cases h3 : 4602678819172646912 ≤ r
    · have := V_le (f := double) h3
      rw [h2] at this
      rw [if_pos h3, decide_eq_true (by omega)]; rfl
    · have := V_lt (f := double) (show r < 4602678819172646912 by omega)
      rw [h2] at this
      rw [if_neg h3, decide_eq_false (by omega)]; rfl
  rw [hk]
  by_cases h3 : 4602678819172646912 ≤ r
  · rw [if_pos h3, if_pos h3, ent_exact T s 1 4607182418800017408 (by rw [h1, Nat.one_mul]), show double.infRung = 9218868437227405312 by decide +kernel, Nat.min_eq_left (by omega)]
  · rw [if_neg h3, if_neg h3, ent_exact T s 0 0 (by rw [V_zero, Nat.zero_mul]), Nat.zero_min]

/-- From one on, below 2 ^ 52. -/
theorem away_mid (T e f g : Nat) (s : Bool) (hT : T = 1074) (hf : f < 4503599627370496) (he : 1023 ≤ e) (hg : e + g = 1075) (hg1 : 1 ≤ g) :
    ent T s (whl 1 s (V double (e * 4503599627370496 + f)) (2 ^ T)) = double.word s (e * 4503599627370496 + (f + 2 ^ (g - 1)) / 2 ^ g * 2 ^ g) ∧ e * 4503599627370496 + (f + 2 ^ (g - 1)) / 2 ^ g * 2 ^ g ≤ (e + 1) * 4503599627370496 := by
  have hB : double.binade = 4503599627370496 := by decide
  have hg52 : g ≤ 52 := by omega
  have hV : ∀ x, x ≤ 4503599627370496 → V double (e * 4503599627370496 + x) = (4503599627370496 + x) * 2 ^ (e - 1) := by
    intro x hx
    rcases Nat.lt_or_ge x 4503599627370496 with h | h
    · have := (V_at double (e - 1) (4503599627370496 + x) (by rw [hB]; omega) (.inr (by rw [hB]; omega))).1
      rw [hB] at this
      rw [show (e - 1) * 4503599627370496 + (4503599627370496 + x) = e * 4503599627370496 + x by omega] at this
      exact this
    · have hx2 : x = 4503599627370496 := by omega
      have := (V_at double (e - 1) (4503599627370496 + 4503599627370495) (by rw [hB]; omega) (.inr (by rw [hB]; omega))).2
      rw [hB] at this
      rw [show (e - 1) * 4503599627370496 + (4503599627370496 + 4503599627370495) + 1 = e * 4503599627370496 + x by omega] at this
      rw [this, hx2]
  have hsplit : 4503599627370496 = 2 ^ (52 - g) * 2 ^ g := by rw [← Nat.pow_add, show 52 - g + g = 52 by omega]
  have hp := Nat.two_pow_pos g
  have hph : 2 ^ g = 2 * 2 ^ (g - 1) := by
    obtain ⟨x, rfl⟩ : ∃ x, g = x + 1 := ⟨g - 1, by omega⟩
    rw [Nat.add_sub_cancel, Nat.pow_succ, Nat.mul_comm]
  -- the fraction, rounded
  have hfl : (f + 2 ^ (g - 1)) / 2 ^ g ≤ 2 ^ (52 - g) := by
    have h1 : f + 2 ^ (g - 1) < (2 ^ (52 - g) + 1) * 2 ^ g := by rw [Nat.add_mul, ← hsplit]; omega
    have := (Nat.div_lt_iff_lt_mul hp).2 h1
    omega
  have hq : (f + 2 ^ (g - 1)) / 2 ^ g * 2 ^ g ≤ 4503599627370496 := by rw [hsplit]; exact Nat.mul_le_mul_right _ hfl
  refine ⟨?_, by omega⟩
  have hK : whl 1 s (V double (e * 4503599627370496 + f)) (2 ^ T) = 2 ^ (52 - g) + (f + 2 ^ (g - 1)) / 2 ^ g := by
    have e1 : whl 1 s (V double (e * 4503599627370496 + f)) (2 ^ T) = whl 1 s (4503599627370496 + f) (2 ^ g) := by
      refine whl_eq (Nat.two_pow_pos _) hp ?_
      rw [hV f (by omega), Nat.mul_assoc, ← Nat.pow_add, show e - 1 + g = T by omega]
    rw [e1]
    show (4503599627370496 + f) / 2 ^ g + (decide (2 ^ g ≤ 2 * ((4503599627370496 + f) % 2 ^ g))).toNat = _
    have d1 : (4503599627370496 + f) / 2 ^ g = 2 ^ (52 - g) + f / 2 ^ g := by rw [hsplit, Nat.add_comm, Nat.add_mul_div_right _ _ hp, Nat.add_comm]
    have d2 : (4503599627370496 + f) % 2 ^ g = f % 2 ^ g := by rw [hsplit, Nat.add_comm, Nat.add_mul_mod_self_right]
    rw [d1, d2, Nat.add_assoc]
    refine congrArg _ ?_
    have hd := Nat.div_add_mod f (2 ^ g)
    have hm := Nat.mod_lt f hp
    by_cases hc : 2 ^ g ≤ 2 * (f % 2 ^ g)
    · rw [decide_eq_true hc]
      have : (f + 2 ^ (g - 1)) / 2 ^ g = f / 2 ^ g + 1 := by
        rw [Nat.div_eq_iff hp, Nat.add_mul, Nat.one_mul, Nat.mul_comm (f / 2 ^ g)]
        generalize 2 ^ g * (f / 2 ^ g) = y at *
        omega
      rw [this]; rfl
    · rw [decide_eq_false hc]
      have : (f + 2 ^ (g - 1)) / 2 ^ g = f / 2 ^ g := by
        rw [Nat.div_eq_iff hp, Nat.mul_comm (f / 2 ^ g)]
        generalize 2 ^ g * (f / 2 ^ g) = y at *
        omega
      rw [this]; rfl
  rw [hK, ent_exact T s _ (e * 4503599627370496 + (f + 2 ^ (g - 1)) / 2 ^ g * 2 ^ g), show double.infRung = 9218868437227405312 by decide +kernel, Nat.min_eq_left (by omega)]
  rw [hV _ hq]
  have e2 : 4503599627370496 + (f + 2 ^ (g - 1)) / 2 ^ g * 2 ^ g = (2 ^ (52 - g) + (f + 2 ^ (g - 1)) / 2 ^ g) * 2 ^ g := by rw [Nat.add_mul, ← hsplit]
  rw [e2, Nat.mul_assoc, ← Nat.pow_add, show g + (e - 1) = T by omega]

/-- From 2 ^ 52 on it is whole. -/
theorem away_high (T r : Nat) (s : Bool) (hT : T = 1074) (h : 4841369599423283200 ≤ r) (hr : r ≤ double.infRung) : ent T s (whl 1 s (V double r) (2 ^ T)) = double.word s r := by
  have hB : double.binade = 4503599627370496 := by decide
  obtain ⟨c, v1, _, v3⟩ := V_form double r
  rw [hB] at v1
  have hz : V double r % 2 ^ T = 0 := by
    rw [v1, show r / 4503599627370496 - 1 = (r / 4503599627370496 - 1 - T) + T by omega, Nat.pow_add, ← Nat.mul_assoc]; exact Nat.mul_mod_left _ _
  have hp := Nat.two_pow_pos T
  have hw : whl 1 s (V double r) (2 ^ T) = V double r / 2 ^ T := by
    show V double r / 2 ^ T + (decide (2 ^ T ≤ 2 * (V double r % 2 ^ T))).toNat = _
    rw [hz, decide_eq_false (by omega)]; rfl
  rw [hw, ent_exact T s _ r, Nat.min_eq_left hr]
  have := Nat.div_add_mod (V double r) (2 ^ T)
  rw [hz, Nat.add_zero, Nat.mul_comm] at this
  exact this.symm
end Flt
end Go.Proofs.YtmkploknoohliaaGreat
