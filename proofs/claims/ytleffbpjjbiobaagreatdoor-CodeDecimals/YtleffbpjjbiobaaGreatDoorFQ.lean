/- Fma, finite, Widen, Narrow of NaNs. -/
import Derived.Test.YtleffbpjjbiobaaGreatDoorFP
import Derived.Test.YtleffbpjjbiobaaGreatDoorNF
import Derived.Test.YtleffbpjjbiobaaGreatDoorRC
/- Numbers made whole, by modes. -/
namespace Go.Proofs.YtleffbpjjbiobaaGreatDoor
namespace Flt
set_option linter.unusedVariables false
set_option linter.unusedSimpArgs false
open Ieee

/-- N / D made whole, by a mode: to even, away from nought, toward nought, down, up. -/
def whl (mode : Nat) (s : Bool) (N D : Nat) : Nat := match mode with
  | 0 => cutE N D
  | 1 => N / D + (decide (D ≤ 2 * (N % D))).toNat
  | 2 => N / D
  | 3 => N / D + (s && decide (N % D ≠ 0)).toNat
  | _ => N / D + (!s && decide (N % D ≠ 0)).toNat

theorem frac_eq {n u n' u' : Nat} (hu : 0 < u) (hu' : 0 < u') (h : n * u' = n' * u) : n / u = n' / u' ∧ (n % u = 0 ↔ n' % u' = 0) ∧ (u ≤ 2 * (n % u) ↔ u' ≤ 2 * (n' % u')) := by
  have e1 : n / u = n' / u' := by
    rw [← Nat.mul_div_mul_right n u hu', ← Nat.mul_div_mul_right n' u' hu, h, Nat.mul_comm u u']
  have e2 : n % u * u' = n' % u' * u := by
    rw [← Nat.mul_mod_mul_right, ← Nat.mul_mod_mul_right, h, Nat.mul_comm u u']
  refine ⟨e1, ?_, ?_⟩
  · constructor
    · intro h0; rw [h0, Nat.zero_mul] at e2
      rcases Nat.mul_eq_zero.1 e2.symm with h | h
      · exact h
      · omega
    · intro h0; rw [h0, Nat.zero_mul] at e2
      rcases Nat.mul_eq_zero.1 e2 with h | h
      · exact h
      · omega
  · constructor
    · intro h0
      have := Nat.mul_le_mul_right u' h0
      rw [Nat.mul_assoc, e2, ← Nat.mul_assoc, Nat.mul_comm u u'] at this
      exact Nat.le_of_mul_le_mul_right this hu
    · intro h0
      have := Nat.mul_le_mul_right u h0
      rw [Nat.mul_assoc, ← e2, ← Nat.mul_assoc, Nat.mul_comm u' u] at this
      exact Nat.le_of_mul_le_mul_right this hu'

theorem whl_eq {mode : Nat} {s : Bool} {n u n' u' : Nat} (hu : 0 < u) (hu' : 0 < u') (h : n * u' = n' * u) : whl mode s n u = whl mode s n' u' := by
  obtain ⟨e1, e2, e3⟩ := frac_eq hu hu' h
  unfold whl
  split
  · exact cutE_eq hu hu' h
  · rw [e1]; congr 2; exact decide_eq_decide.2 e3
  · exact e1
  · rw [e1]; congr 3; exact decide_eq_decide.2 (not_congr e2)
  · rw [e1]; congr 3; exact decide_eq_decide.2 (not_congr e2)

/-- The model's ways. -/
def wayOf : Nat → Toward
  | 0 => .even
  | 2 => .zero
  | 3 => .down
  | _ => .up

theorem cut_ways (neg : Bool) (n drop : Nat) (mode : Nat) (hm : mode = 0 ∨ mode = 2 ∨ mode = 3 ∨ mode = 4) : (wayOf mode).cut neg n drop = whl mode neg n (2 ^ drop) := by
  have small : ∀ d, n.log2 + 2 ≤ d → n < 2 ^ d := by
    intro d hd
    exact Nat.lt_of_lt_of_le Nat.lt_log2_self (Nat.pow_le_pow_right (by omega) (by omega))
  have key : n / 2 ^ (min drop (n.log2 + 2)) = n / 2 ^ drop ∧ (n % 2 ^ (min drop (n.log2 + 2)) = 0 ↔ n % 2 ^ drop = 0) := by
    rcases Nat.le_total drop (n.log2 + 2) with h | h
    · rw [Nat.min_eq_left h]; exact ⟨rfl, Iff.rfl⟩
    · rw [Nat.min_eq_right h]
      have h1 := small _ (Nat.le_refl (n.log2 + 2))
      have h2 := small _ h
      rw [Nat.div_eq_of_lt h1, Nat.div_eq_of_lt h2, Nat.mod_eq_of_lt h1, Nat.mod_eq_of_lt h2]
      exact ⟨rfl, Iff.rfl⟩
  rcases hm with rfl | rfl | rfl | rfl
  · exact cut_even neg n drop
  · show n / (1 <<< min drop (n.log2 + 2)) + 0 = n / 2 ^ drop
    rw [Nat.one_shiftLeft, key.1, Nat.add_zero]
  · show n / (1 <<< min drop (n.log2 + 2)) + (neg && n % (1 <<< min drop (n.log2 + 2)) != 0).toNat = n / 2 ^ drop + (neg && decide (n % 2 ^ drop ≠ 0)).toNat
    rw [Nat.one_shiftLeft, key.1]
    congr 3
    have : (n % 2 ^ min drop (n.log2 + 2) != 0) = decide (n % 2 ^ min drop (n.log2 + 2) ≠ 0) := by by_cases h : n % 2 ^ min drop (n.log2 + 2) = 0 <;> simp [h]
    rw [this]; exact decide_eq_decide.2 (not_congr key.2)
  · show n / (1 <<< min drop (n.log2 + 2)) + (!neg && n % (1 <<< min drop (n.log2 + 2)) != 0).toNat = n / 2 ^ drop + (!neg && decide (n % 2 ^ drop ≠ 0)).toNat
    rw [Nat.one_shiftLeft, key.1]
    congr 3
    have : (n % 2 ^ min drop (n.log2 + 2) != 0) = decide (n % 2 ^ min drop (n.log2 + 2) ≠ 0) := by by_cases h : n % 2 ^ min drop (n.log2 + 2) = 0 <;> simp [h]
    rw [this]; exact decide_eq_decide.2 (not_congr key.2)

/-- A whole number's float. -/
def ent (T : Nat) (s : Bool) (K : Nat) : Nat := double.word s (min (rnd double (K * 2 ^ T) 1) double.infRung)

theorem nearest_ent (T : Nat) (hT : T = 1074) (s : Bool) (K : Nat) : double.nearest s K 0 = ent T s K := by
  have hl : double.leastPlace = -1074 := by decide
  unfold ent
  rw [nearest_rnd, hl, show (0 - (-1074) : Int).toNat = T by omega, show (-1074 - 0 : Int).toNat = 0 by omega, Nat.pow_zero]

theorem integral_fin (T : Nat) (hT : T = 1074) (mode a : Nat) (hm : mode = 0 ∨ mode = 2 ∨ mode = 3 ∨ mode = 4) (ha : rg double a < double.infRung) : double.write ((double.read a).integral (wayOf mode)) = ent T (sg double a) (whl mode (sg double a) (V double (rg double a)) (2 ^ T)) := by
  obtain ⟨m, k, e1, e2, _⟩ := read_fin double a ha
  have hl : double.leastPlace = -1074 := by decide
  rw [e1]
  show double.nearest (sg double a) ((wayOf mode).cut (sg double a) (m <<< (double.leastPlace + (k : Int)).toNat) (-(double.leastPlace + (k : Int))).toNat) 0 = _
  rw [nearest_ent T hT, cut_ways _ _ _ _ hm, Nat.shiftLeft_eq, hl]
  refine congrArg _ ?_
  refine whl_eq (Nat.two_pow_pos _) (Nat.two_pow_pos _) ?_
  rw [← e2, Nat.mul_assoc, Nat.mul_assoc, ← Nat.pow_add, ← Nat.pow_add]
  congr 2; omega

/-- A float made whole is a float. -/
theorem whl_repr (T mode : Nat) (s : Bool) (r : Nat) (hm : mode ≤ 4) (hT : 1 ≤ T) : ∃ R, V double R = whl mode s (V double r) (2 ^ T) * 2 ^ T ∧ whl mode s (V double r) (2 ^ T) ≤ V double r / 2 ^ T + 1 := by
  have hb : 2 * double.binade = 2 ^ 53 := by decide
  have hle : V double r / 2 ^ T ≤ whl mode s (V double r) (2 ^ T) ∧ whl mode s (V double r) (2 ^ T) ≤ V double r / 2 ^ T + 1 := by
    have ht : ∀ b : Bool, b.toNat ≤ 1 := fun b => Bool.toNat_le b
    unfold whl
    split
    · unfold cutE; split <;> omega
    · have := ht (decide (2 ^ T ≤ 2 * (V double r % 2 ^ T))); omega
    · omega
    · have := ht (s && decide (V double r % 2 ^ T ≠ 0)); omega
    · have := ht (!s && decide (V double r % 2 ^ T ≠ 0)); omega
  obtain ⟨c, v1, _, v3⟩ := V_form double r
  generalize r / double.binade - 1 = kk at *
  by_cases hk : T ≤ kk
  · -- it is whole
    have hz : V double r % 2 ^ T = 0 := by
      rw [v1, show kk = (kk - T) + T by omega, Nat.pow_add, ← Nat.mul_assoc]; exact Nat.mul_mod_left _ _
    have hw : whl mode s (V double r) (2 ^ T) = V double r / 2 ^ T := by
      have hp := Nat.two_pow_pos T
      unfold whl
      split
      · unfold cutE; rw [hz, if_neg (by omega), Nat.add_zero]
      · rw [hz, decide_eq_false (by omega)]; rfl
      · rfl
      · rw [hz]; simp
      · rw [hz]; simp
    refine ⟨r, ?_, hle.2⟩
    rw [hw]
    have := Nat.div_add_mod (V double r) (2 ^ T)
    rw [hz, Nat.add_zero, Nat.mul_comm] at this
    exact this.symm
  · have hlt : V double r / 2 ^ T + 1 ≤ 2 ^ 53 := by
      have h1 : V double r < 2 ^ 53 * 2 ^ kk := by
        rw [v1]; exact Nat.mul_lt_mul_of_pos_right (by omega) (Nat.two_pow_pos _)
      have h2 : V double r / 2 ^ T < 2 ^ 53 := by
        rw [Nat.div_lt_iff_lt_mul (Nat.two_pow_pos _)]
        exact Nat.lt_of_lt_of_le h1 (Nat.mul_le_mul_left _ (Nat.pow_le_pow_right (by omega) (by omega)))
      omega
    rcases Nat.lt_or_ge (whl mode s (V double r) (2 ^ T)) (2 ^ 53) with h | h
    · obtain ⟨R, hR⟩ := repr double (whl mode s (V double r) (2 ^ T)) T (by omega)
      exact ⟨R, hR, hle.2⟩
    · have e : whl mode s (V double r) (2 ^ T) = 2 ^ 53 := by omega
      obtain ⟨R, hR⟩ := repr double 1 (53 + T) (by decide)
      refine ⟨R, ?_, hle.2⟩
      rw [hR, e, Nat.one_mul, Nat.pow_add]

theorem ent_exact (T : Nat) (s : Bool) (K R : Nat) (h : V double R = K * 2 ^ T) : ent T s K = double.word s (min R double.infRung) := by
  unfold ent
  rw [← h, rnd_V]

/-! The bits of math.Round. -/
theorem V_one (T : Nat) (hT : T = 1074) : V double 4607182418800017408 = 2 ^ T := by
  obtain ⟨q, hq⟩ : ∃ q : Nat, q = 1022 := ⟨_, rfl⟩
  have h := (V_at double q double.binade (by decide) (.inr (Nat.le_refl _))).1
  rw [show q * double.binade + double.binade = 4607182418800017408 by rw [hq]; decide +kernel] at h
  rw [h, show double.binade = 2 ^ 52 by decide, ← Nat.pow_add, show 52 + q = T by omega]
theorem V_half (T : Nat) (hT : T = 1073) : V double 4602678819172646912 = 2 ^ T := by
  obtain ⟨q, hq⟩ : ∃ q : Nat, q = 1021 := ⟨_, rfl⟩
  have h := (V_at double q double.binade (by decide) (.inr (Nat.le_refl _))).1
  rw [show q * double.binade + double.binade = 4602678819172646912 by rw [hq]; decide +kernel] at h
  rw [h, show double.binade = 2 ^ 52 by decide, ← Nat.pow_add, show 52 + q = T by omega]

/-- Below one. -/
theorem away_low (T r : Nat) (s : Bool) (hT : T = 1074) (h : r < 4607182418800017408) : ent T s (whl 1 s (V double r) (2 ^ T)) = double.word s (if 4602678819172646912 ≤ r then 4607182418800017408 else 0) := by
  have h1 := V_one T hT
  have hv : V double r < 2 ^ T := by rw [← h1]; exact V_lt h
  obtain ⟨U, hU⟩ : ∃ U, U = 1073 := ⟨_, rfl⟩
  have h2 := V_half U hU
  have hp : 2 ^ T = 2 * 2 ^ U := by rw [show T = U + 1 by omega, Nat.pow_succ, Nat.mul_comm]
  have hk : whl 1 s (V double r) (2 ^ T) = if 4602678819172646912 ≤ r then 1 else 0 := by
    show V double r / 2 ^ T + (decide (2 ^ T ≤ 2 * (V double r % 2 ^ T))).toNat = _
    rw [Nat.div_eq_of_lt hv, Nat.mod_eq_of_lt hv, hp]
    by_cases h3 : 4602678819172646912 ≤ r
    · have := V_le (f := double) h3
      rw [h2] at this
      rw [if_pos h3, decide_eq_true (by omega)]; rfl
    · have := V_lt (f := double) (show r < 4602678819172646912 by omega)
      rw [h2] at this
      rw [if_neg h3, decide_eq_false (by omega)]; rfl
  rw [hk]
  by_cases h3 : 4602678819172646912 ≤ r
  · rw [if_pos h3, if_pos h3, ent_exact T s 1 4607182418800017408 (by rw [h1, Nat.one_mul]), show double.infRung = 9218868437227405312 by decide +kernel, Nat.min_eq_left (by omega)]
  · rw [if_neg h3, if_neg h3, ent_exact T s 0 0 (by rw [V_zero, Nat.zero_mul]), Nat.zero_min]

/-- From one on, below 2 ^ 52. -/
theorem away_mid (T e f g : Nat) (s : Bool) (hT : T = 1074) (hf : f < 4503599627370496) (he : 1023 ≤ e) (hg : e + g = 1075) (hg1 : 1 ≤ g) :
    ent T s (whl 1 s (V double (e * 4503599627370496 + f)) (2 ^ T)) = double.word s (e * 4503599627370496 + (f + 2 ^ (g - 1)) / 2 ^ g * 2 ^ g) ∧ e * 4503599627370496 + (f + 2 ^ (g - 1)) / 2 ^ g * 2 ^ g ≤ (e + 1) * 4503599627370496 := by
  have hB : double.binade = 4503599627370496 := by decide
  have hg52 : g ≤ 52 := by omega
  have hV : ∀ x, x ≤ 4503599627370496 → V double (e * 4503599627370496 + x) = (4503599627370496 + x) * 2 ^ (e - 1) := by
    intro x hx
    rcases Nat.lt_or_ge x 4503599627370496 with h | h
    · have := (V_at double (e - 1) (4503599627370496 + x) (by rw [hB]; omega) (.inr (by rw [hB]; omega))).1
      rw [hB] at this
      rw [show (e - 1) * 4503599627370496 + (4503599627370496 + x) = e * 4503599627370496 + x by omega] at this
      exact this
    · have hx2 : x = 4503599627370496 := by omega
      have := (V_at double (e - 1) (4503599627370496 + 4503599627370495) (by rw [hB]; omega) (.inr (by rw [hB]; omega))).2
      rw [hB] at this
      rw [show (e - 1) * 4503599627370496 + (4503599627370496 + 4503599627370495) + 1 = e * 4503599627370496 + x by omega] at this
      rw [this, hx2]
  have hsplit : 4503599627370496 = 2 ^ (52 - g) * 2 ^ g := by rw [← Nat.pow_add, show 52 - g + g = 52 by omega]
  have hp := Nat.two_pow_pos g
  have hph : 2 ^ g = 2 * 2 ^ (g - 1) := by
    obtain ⟨x, rfl⟩ : ∃ x, g = x + 1 := ⟨g - 1, by omega⟩
    rw [Nat.add_sub_cancel, Nat.pow_succ, Nat.mul_comm]
  -- the fraction, rounded
  have hfl : (f + 2 ^ (g - 1)) / 2 ^ g ≤ 2 ^ (52 - g) := by
    have h1 : f + 2 ^ (g - 1) < (2 ^ (52 - g) + 1) * 2 ^ g := by rw [Nat.add_mul, ← hsplit]; omega
    have := (Nat.div_lt_iff_lt_mul hp).2 h1
    omega
  have hq : (f + 2 ^ (g - 1)) / 2 ^ g * 2 ^ g ≤ 4503599627370496 := by rw [hsplit]; exact Nat.mul_le_mul_right _ hfl
  refine ⟨?_, by omega⟩
  have hK : whl 1 s (V double (e * 4503599627370496 + f)) (2 ^ T) = 2 ^ (52 - g) + (f + 2 ^ (g - 1)) / 2 ^ g := by
    have e1 : whl 1 s (V double (e * 4503599627370496 + f)) (2 ^ T) = whl 1 s (4503599627370496 + f) (2 ^ g) := by
      refine whl_eq (Nat.two_pow_pos _) hp ?_
      rw [hV f (by omega), Nat.mul_assoc, ← Nat.pow_add, show e - 1 + g = T by omega]
    rw [e1]
    show (4503599627370496 + f) / 2 ^ g + (decide (2 ^ g ≤ 2 * ((4503599627370496 + f) % 2 ^ g))).toNat = _
    have d1 : (4503599627370496 + f) / 2 ^ g = 2 ^ (52 - g) + f / 2 ^ g := by rw [hsplit, Nat.add_comm, Nat.add_mul_div_right _ _ hp, Nat.add_comm]
    have d2 : (4503599627370496 + f) % 2 ^ g = f % 2 ^ g := by rw [hsplit, Nat.add_comm, Nat.add_mul_mod_self_right]
    rw [d1, d2, Nat.add_assoc]
    refine congrArg _ ?_
    have hd := Nat.div_add_mod f (2 ^ g)
    have hm := Nat.mod_lt f hp
    by_cases hc : 2 ^ g ≤ 2 * (f % 2 ^ g)
    · rw [decide_eq_true hc]
      have : (f + 2 ^ (g - 1)) / 2 ^ g = f / 2 ^ g + 1 := by
        rw [Nat.div_eq_iff hp, Nat.add_mul, Nat.one_mul, Nat.mul_comm (f / 2 ^ g)]
        generalize 2 ^ g * (f / 2 ^ g) = y at *
        omega
      rw [this]; rfl
    · rw [decide_eq_false hc]
      have : (f + 2 ^ (g - 1)) / 2 ^ g = f / 2 ^ g := by
        rw [Nat.div_eq_iff hp, Nat.mul_comm (f / 2 ^ g)]
        generalize 2 ^ g * (f / 2 ^ g) = y at *
        omega
      rw [this]; rfl
  rw [hK, ent_exact T s _ (e * 4503599627370496 + (f + 2 ^ (g - 1)) / 2 ^ g * 2 ^ g), show double.infRung = 9218868437227405312 by decide +kernel, Nat.min_eq_left (by omega)]
  rw [hV _ hq]
  have e2 : 4503599627370496 + (f + 2 ^ (g - 1)) / 2 ^ g * 2 ^ g = (2 ^ (52 - g) + (f + 2 ^ (g - 1)) / 2 ^ g) * 2 ^ g := by rw [Nat.add_mul, ← hsplit]
  rw [e2, Nat.mul_assoc, ← Nat.pow_add, show g + (e - 1) = T by omega]

/-- From 2 ^ 52 on it is whole. -/
theorem away_high (T r : Nat) (s : Bool) (hT : T = 1074) (h : 4841369599423283200 ≤ r) (hr : r ≤ double.infRung) : ent T s (whl 1 s (V double r) (2 ^ T)) = double.word s r := by
  have hB : double.binade = 4503599627370496 := by decide
  obtain ⟨c, v1, _, v3⟩ := V_form double r
  rw [hB] at v1
  have hz : V double r % 2 ^ T = 0 := by
    rw [v1, show r / 4503599627370496 - 1 = (r / 4503599627370496 - 1 - T) + T by omega, Nat.pow_add, ← Nat.mul_assoc]; exact Nat.mul_mod_left _ _
  have hp := Nat.two_pow_pos T
  have hw : whl 1 s (V double r) (2 ^ T) = V double r / 2 ^ T := by
    show V double r / 2 ^ T + (decide (2 ^ T ≤ 2 * (V double r % 2 ^ T))).toNat = _
    rw [hz, decide_eq_false (by omega)]; rfl
  rw [hw, ent_exact T s _ r, Nat.min_eq_left hr]
  have := Nat.div_add_mod (V double r) (2 ^ T)
  rw [hz, Nat.add_zero, Nat.mul_comm] at this
  exact this.symm
end Flt
end Go.Proofs.YtleffbpjjbiobaaGreatDoor

/- What wakes asks. -/
namespace Go.Proofs.YtleffbpjjbiobaaGreatDoor
open Go.RowKit
open Flt
set_option linter.unusedVariables false
set_option linter.unusedSimpArgs false

set_option maxRecDepth 100000 in
theorem Abs_any (x : Nat) (w : World) (hx : x < 18446744073709551616) : Calls Tryz.prog 189 #[.float .f64 x] w fun e w' => e = .returned (.float .f64 (x % 9223372036854775808)) ∧ w' = w := by
  have ht := tobits64 x
  have hab := b64_abs x hx
  have hf := frombits64 (x % 9223372036854775808)
  generalize x % 9223372036854775808 = r at *
  clear hx
  go_enter Tryz.func189, Tryz.ntmps189
  go_wp2_with (simp only [ht, hab, hf])
  go_ret
  exact ⟨rfl, rfl⟩

theorem and_top64 (x : Nat) (hx : x < 18446744073709551616) : bits BinOp.and IntKind.u64 (x : Int) 9223372036854775808 = ((x / 9223372036854775808 * 9223372036854775808 : Nat) : Int) := by
  by_cases h : x < 9223372036854775808
  · rw [b64_and_lo x h]; have : x / 9223372036854775808 = 0 := by omega
    rw [this]; rfl
  · rw [b64_and_hi x (by omega) hx]; have : x / 9223372036854775808 = 1 := by omega
    rw [this]; rfl
theorem or_top64 (q y : Nat) (hq : q < 2) (hy : y < 9223372036854775808) : bits BinOp.or IntKind.u64 (y : Int) ((q * 9223372036854775808 : Nat) : Int) = ((q * 9223372036854775808 + y : Nat) : Int) := by
  have h : q = 0 ∨ q = 1 := by omega
  rcases h with rfl | rfl
  · have := u64_or_nat y 0 (by omega) (by omega)
    rw [Nat.or_zero] at this
    rw [Nat.zero_mul, Nat.zero_add]; exact this
  · have := b64_or_lo y hy
    rw [Nat.one_mul]; exact this
theorem and_top32' (f : Nat) (hf : f < 4294967296) : bits BinOp.and IntKind.u32 (f : Int) 2147483648 = ((f / 2147483648 * 2147483648 : Nat) : Int) := by
  by_cases h : f < 2147483648
  · rw [b32_and_lo f h]; have : f / 2147483648 = 0 := by omega
    rw [this]; rfl
  · rw [b32_and_hi f (by omega) hf]; have : f / 2147483648 = 1 := by omega
    rw [this]; rfl

set_option maxRecDepth 100000 in
theorem Copysign_any (y x : Nat) (w : World) (hy : y < 9223372036854775808) (hx : x < 18446744073709551616) : Calls Tryz.prog 190 #[.float .f64 y, .float .f64 x] w fun e w' => e = .returned (.float .f64 (x / 9223372036854775808 * 9223372036854775808 + y)) ∧ w' = w := by
  have ht := tobits64 x
  have ht2 := tobits64 y
  have hab := b64_abs y (by omega)
  rw [Nat.mod_eq_of_lt hy] at hab
  have h1 := and_top64 x hx
  have h2 := or_top64 (x / 9223372036854775808) y (by omega) hy
  have hf := frombits64 (x / 9223372036854775808 * 9223372036854775808 + y)
  generalize x / 9223372036854775808 * 9223372036854775808 + y = r at *
  generalize x / 9223372036854775808 * 9223372036854775808 = t at *
  clear hx hy
  go_enter Tryz.func190, Tryz.ntmps190
  go_wp2_with (simp only [ht, ht2, hab, h1, h2, hf])
  go_ret
  exact ⟨rfl, rfl⟩

/-- How two numbers without a sign stand to each other. -/
theorem order_pos (a b : Nat) (ha : a ≤ 9218868437227405312) (hb : b ≤ 9218868437227405312) : Ieee.double.order a b = some (if a < b then .lt else if b < a then .gt else .eq) := by
  have ra : rg Ieee.double a = a := by rw [rg64]; omega
  have rb : rg Ieee.double b = b := by rw [rg64]; omega
  have sa : ∀ x, x ≤ 9218868437227405312 → sg Ieee.double x = false := by
    intro x hx
    show (x / 9223372036854775808 % 2 == 1) = false
    rw [show x / 9223372036854775808 = 0 by omega]; rfl
  rw [order_all _ (by decide) _ _ (by rw [ra, inf64]; exact ha) (by rw [rb, inf64]; exact hb)]
  unfold sv
  rw [sa a ha, sa b hb, ra, rb]
  simp only [Bool.false_eq_true, if_false]
  rcases Nat.lt_trichotomy a b with h | h | h
  · rw [if_pos h, cmp_lt (by have := V_lt (f := Ieee.double) h; omega)]
  · subst h; rw [if_neg (by omega), if_neg (by omega), cmp_eq]
  · rw [if_neg (by omega), if_pos h, cmp_gt (by have := V_lt (f := Ieee.double) h; omega)]

/-- The nearest binary32, of a number. -/
def nar32 (x : Nat) : Nat := x / 9223372036854775808 * 2147483648 + min (rnd Ieee.single (V Ieee.double (x % 9223372036854775808)) (2 ^ gapE)) 2139095040

theorem rnd_max : rnd Ieee.single (V Ieee.double 5183643170566569984) (2 ^ gapE) = 2139095039 := by decide +kernel
theorem rnd_last : rnd Ieee.single (V Ieee.double 5183643170835005439) (2 ^ gapE) = 2139095039 := by decide +kernel
theorem rnd_beyond : rnd Ieee.single (V Ieee.double 5183643170835005440) (2 ^ gapE) = 2139095040 := by decide +kernel
theorem rnd32_mono {r s : Nat} (h : r ≤ s) : rnd Ieee.single (V Ieee.double r) (2 ^ gapE) ≤ rnd Ieee.single (V Ieee.double s) (2 ^ gapE) :=
  rnd_mono _ (by decide) _ _ _ _ (Nat.two_pow_pos _) (Nat.two_pow_pos _) (Nat.mul_le_mul_right _ (V_le h))

theorem word32 (s : Bool) (R : Nat) (h : R < 2147483648) : Ieee.single.word s R = s.toNat * 2147483648 + R := by
  cases s
  · show R = 0 * 2147483648 + R; omega
  · show 2147483648 + R = 1 * 2147483648 + R; omega

theorem f2f_narrow (x : Nat) (hx : x < 18446744073709551616) (h : x % 9223372036854775808 ≤ 5183643170566569984) : floatToFloatBits .f64 x .f32 = some (nar32 x) := by
  have hu : ∀ (s d : FloatKind) (b : Nat), s ≠ d → floatToFloatBits s b d = match s.decode b with
      | .nan _ _ => none
      | .infinity s => some (d.encode (.infinity s))
      | .number s m e => if (d.decode (d.encode (.number s m e))).isInfinity then none else some (d.encode (.number s m e)) := by
    intro s d b hne
    unfold floatToFloatBits
    rw [if_neg hne]
    cases s.decode b <;> rfl
  have hr : rg Ieee.double x < Ieee.double.infRung := by rw [rg64, inf64]; omega
  obtain ⟨m, k, e1, e2, _⟩ := read_fin Ieee.double x hr
  have e3 := narrow_rnd x hr _ _ _ e1
  rw [rg64, inf32] at e3
  have hle : rnd Ieee.single (V Ieee.double (x % 9223372036854775808)) (2 ^ gapE) ≤ 2139095039 := by rw [← rnd_max]; exact rnd32_mono h
  unfold nar32
  generalize rnd Ieee.single (V Ieee.double (x % 9223372036854775808)) (2 ^ gapE) = R at *
  obtain ⟨R', hR', hRl⟩ : ∃ R', min R 2139095040 = R' ∧ R' < 2139095040 := ⟨_, rfl, by omega⟩
  rw [hR'] at e3 ⊢
  have hw := word32 (sg Ieee.double x) R' (by omega)
  have hs : (sg Ieee.double x).toNat = x / 9223372036854775808 := by
    show (x / 9223372036854775808 % 2 == 1).toNat = _
    have h : x / 9223372036854775808 = 0 ∨ x / 9223372036854775808 = 1 := by omega
    rcases h with h | h <;> rw [h] <;> rfl
  rw [hs] at hw
  have hr2 : rg Ieee.single (Ieee.single.word (sg Ieee.double x) R') < Ieee.single.infRung := by
    have hsw : R' < Ieee.single.signWeight := by show R' < 2147483648; omega
    rw [rg_word _ _ _ hsw, inf32]; exact hRl
  obtain ⟨m', k', g1, _⟩ := read_fin Ieee.single _ hr2
  have hd : FloatKind.f64.decode x = .number (sg Ieee.double x) m (Ieee.double.leastPlace + (k : Int)) := e1
  have he : FloatKind.f32.encode (.number (sg Ieee.double x) m (Ieee.double.leastPlace + (k : Int))) = Ieee.single.word (sg Ieee.double x) R' := e3
  have hf : FloatKind.f32.decode (Ieee.single.word (sg Ieee.double x) R') = _ := g1
  rw [hu _ _ _ (by decide), hd]
  simp only [he, hf, Ieee.Datum.isInfinity]
  rw [hw]
  rfl

theorem run_min64 (w : World) (a b : Nat) (ts : Array TypeId) (t : TypeId) (ha : a ≤ 9218868437227405312) (hb : b ≤ 9218868437227405312) : (Builtin.min_ ts t #[.float .f64 a, .float .f64 b]).run Tryz.prog w = .ok (.float .f64 (min a b)) w := by
  have h : FloatKind.f64.format.order a b = _ := order_pos a b ha hb
  have hd : (FloatKind.f64.decode a).neg = sg Ieee.double a ∨ a = b := by
    by_cases e : a = b
    · exact .inr e
    · left
      rcases Nat.lt_or_ge a 9218868437227405312 with h1 | h1
      · obtain ⟨m, k, e1, _⟩ := read_fin Ieee.double a (by rw [rg64, inf64]; omega)
        rw [show FloatKind.f64.decode a = _ from e1]; rfl
      · rw [show FloatKind.f64.decode a = _ from read_inf Ieee.double a (by decide) (by rw [rg64, inf64]; omega)]; rfl
  unfold Builtin.min_
  simp only [List.foldlM, Builtin.min2, h]
  rcases Nat.lt_trichotomy a b with h1 | h1 | h1
  · simp [h1, Nat.min_eq_left (Nat.le_of_lt h1)]
  · subst h1; simp
  · simp [Nat.lt_asymm h1, h1, Nat.min_eq_right (Nat.le_of_lt h1)]

set_option maxRecDepth 100000 in
set_option maxHeartbeats 1000000 in
theorem narrowed_any (x : Nat) (w : World) (hx : x < 18446744073709551616) (hn : x % 9223372036854775808 ≤ 9218868437227405312) : Calls Tryz.prog 175 #[.float .f64 x] w fun e w' => e = .returned (.int .u32 (nar32 x : Nat)) ∧ w' = w := by
  obtain ⟨r, hr, hrl⟩ : ∃ r, x % 9223372036854775808 = r ∧ r ≤ 9218868437227405312 := ⟨_, rfl, hn⟩
  have ho : FloatKind.f64.format.order r 5183643170835005440 = _ := order_pos r 5183643170835005440 hrl (by omega)
  have HA := fhide (fun w : World => Abs_any x w hx)
  rw [hr] at HA
  by_cases h : 5183643170835005440 ≤ r
  · have ho' : FloatKind.f64.format.order r 5183643170835005440 = some .gt ∨ FloatKind.f64.format.order r 5183643170835005440 = some .eq := by
      rw [ho, if_neg (by omega)]
      by_cases e : 5183643170835005440 < r
      · left; rw [if_pos e]
      · right; rw [if_neg e]
    have ht := tobits64 x
    have e0 : nar32 x = x / 9223372036854775808 * 2147483648 + 2139095040 := by
      unfold nar32
      have := rnd32_mono h
      rw [rnd_beyond] at this
      rw [hr, Nat.min_eq_right this]
    have h1 : bits BinOp.and IntKind.u32 ((x : Int) / 4294967296) 2147483648 = ((x / 9223372036854775808 * 2147483648 : Nat) : Int) := by
      rw [show (x : Int) / 4294967296 = ((x / 4294967296 : Nat) : Int) by simp, and_top32' _ (by omega), show x / 4294967296 / 2147483648 = x / 9223372036854775808 by omega]
    have h2 : bits BinOp.or IntKind.u32 ((x / 9223372036854775808 * 2147483648 : Nat) : Int) 2139095040 = ((nar32 x : Nat) : Int) := by
      rw [e0]
      have h : x / 9223372036854775808 = 0 ∨ x / 9223372036854775808 = 1 := by omega
      rcases h with h | h <;> rw [h] <;> decide +kernel
    have hxl : (x : Int) / 4294967296 < 4294967296 := by omega
    have hx0 : (0 : Int) ≤ (x : Int) / 4294967296 := by omega
    generalize nar32 x = y at *
    generalize x / 9223372036854775808 * 2147483648 = t at *
    clear ho hrl hn hr h e0
    rcases ho' with ho | ho
    all_goals
      go_enter Tryz.func175, Tryz.ntmps175
      go_wp2_with fail
      refine (HA.out _).mono ?_
      rintro e w1 ⟨rfl, rfl⟩
      go_wp2_with (simp only [ho, ht, h1, h2])
      go_ret
      exact ⟨rfl, rfl⟩
  · have ho' : FloatKind.f64.format.order r 5183643170835005440 = some .lt := by rw [ho, if_pos (by omega)]
    have hm := fun w : World => run_min64 w r 5183643170566569984 #[51, 51] 51 hrl (by omega)
    obtain ⟨y, hy, hyl⟩ : ∃ y, min r 5183643170566569984 = y ∧ y ≤ 5183643170566569984 := ⟨_, rfl, by omega⟩
    rw [hy] at hm
    have HC := fhide (fun w : World => Copysign_any y x w (by omega) hx)
    obtain ⟨z, hz⟩ : ∃ z, x / 9223372036854775808 * 9223372036854775808 + y = z := ⟨_, rfl⟩
    rw [hz] at HC
    have hzr : z % 9223372036854775808 = y := by omega
    have hzs : z / 9223372036854775808 = x / 9223372036854775808 := by omega
    have hcb := f2f_narrow z (by omega) (by omega)
    have e0 : nar32 z = nar32 x := by
      unfold nar32
      rw [hzr, hzs, hr]
      have h5 : rnd Ieee.single (V Ieee.double y) (2 ^ gapE) = rnd Ieee.single (V Ieee.double r) (2 ^ gapE) := by
        rcases Nat.le_total r 5183643170566569984 with h6 | h6
        · rw [← hy, Nat.min_eq_left h6]
        · rw [← hy, Nat.min_eq_right h6]
          have a1 := rnd32_mono h6
          have a2 := rnd32_mono (show r ≤ 5183643170835005439 by omega)
          rw [rnd_max] at a1 ⊢
          rw [rnd_last] at a2
          omega
      rw [h5]
    rw [e0] at hcb
    have ht := tobits32 (nar32 x)
    have hcv := fun w : World => run_convert_float_float (P := Tryz.prog) w 51 52 .f64 .f32 z (nar32 x) (by kernel_rfl) (by kernel_rfl) hcb
    generalize nar32 x = q at *
    clear ho hrl hn hr h hy hyl hz hzr hzs e0 hcb
    go_enter Tryz.func175, Tryz.ntmps175
    go_wp2_with fail
    refine (HA.out _).mono ?_
    rintro e w1 ⟨rfl, rfl⟩
    go_wp2_with (simp only [ho', hm])
    refine (HC.out _).mono ?_
    rintro e w1 ⟨rfl, rfl⟩
    go_wp2_with (simp only [ht, hcv])
    go_ret
    exact ⟨rfl, rfl⟩

/-- What is told of a float64 as a binary32. -/
def pat32 (x : Nat) : Nat := if 9218868437227405312 < x % 9223372036854775808 then 2143289344 else nar32 x
theorem pat32_num (x : Nat) (hx : x % 9223372036854775808 ≤ 9218868437227405312) : pat32 x = nar32 x := if_neg (by omega)
theorem pat32_nan (x : Nat) (hx : 9218868437227405312 < x % 9223372036854775808) : pat32 x = 2143289344 := if_pos hx

set_option maxRecDepth 100000 in
theorem pattern32_any (x : Nat) (w : World) (hx : x < 18446744073709551616) : Calls Tryz.prog 158 #[.float .f64 x] w fun e w' => e = .returned (.int .u32 (pat32 x : Nat)) ∧ Below w.heap.size w w' := by
  by_cases h : 9218868437227405312 < x % 9223372036854775808
  · rw [pat32_nan x h]
    go_enter Tryz.func158, Tryz.ntmps158
    go_wp2_with fail
    refine (IsNaN_any x _).mono ?_
    rintro e w1 ⟨rfl, rfl⟩
    rw [decide_eq_true h]
    go_wp2_with fail
    refine (layoutOf32_any _).mono ?_
    rintro e w2 ⟨rfl, hb2⟩
    go_wp2_with fail
    refine (theNaN32_any _).mono ?_
    rintro e w3 ⟨rfl, hb3⟩
    go_wp2_with fail
    go_ret
    exact ⟨rfl, hb2.trans (hb3.mono hb2.size)⟩
  · rw [pat32_num x (by omega)]
    have HN := fhide (fun w : World => narrowed_any x w hx (by omega))
    go_enter Tryz.func158, Tryz.ntmps158
    go_wp2_with fail
    refine (IsNaN_any x _).mono ?_
    rintro e w1 ⟨rfl, rfl⟩
    rw [decide_eq_false h]
    go_wp2_with fail
    refine (wide32_any _).mono ?_
    rintro e w2 ⟨rfl, rfl⟩
    go_wp2_with fail
    refine (HN.out _).mono ?_
    rintro e w2 ⟨rfl, rfl⟩
    go_wp2_with fail
    go_ret
    exact ⟨rfl, Below.refl _ _⟩


set_option maxRecDepth 100000 in
theorem Round_wake (w : World) : Calls Tryz.prog 194 #[.float .f64 4612811918334230528] w fun e w' => e = .returned (.float .f64 4613937818241073152) ∧ w' = w := by
  have h1 := tobits64 4612811918334230528
  have h2 : ∀ w : World, (callFunc 176 #[.int .u64 4613937818241073152]).run Tryz.prog w = .ok (.value (.float .f64 4613937818241073152)) w := frombits64 4613937818241073152
  have h3 : bits BinOp.and IntKind.u64 1024 2047 = 1024 := by decide +kernel
  have h4 : bits BinOp.andNot IntKind.u64 4613937818241073152 2251799813685247 = 4613937818241073152 := by decide +kernel
  go_enter Tryz.func194, Tryz.ntmps194
  go_wp2_with (simp only [h1, h2, h3, h4])
  go_ret
  exact ⟨rfl, rfl⟩

set_option maxRecDepth 100000 in
theorem whole_wake (w : World) : Calls Tryz.prog 192 #[.float .f64 4612811918334230528, .int .i64 1] w fun e w' => e = .returned (.tuple #[.float .f64 4613937818241073152, .bool true]) ∧ w' = w := by
  go_enter Tryz.func192, Tryz.ntmps192
  go_wp2_with fail
  refine (Round_wake _).mono ?_
  rintro e w1 ⟨rfl, rfl⟩
  go_wp2_with fail
  go_ret2
  exact ⟨rfl, rfl⟩

set_option maxRecDepth 100000 in
theorem ToInt_wake (w : World) : Calls Tryz.prog 187 #[.int .u64 4612811918334230528, .int .i64 1] w fun e w' => e = .returned (.tuple #[.int .i64 3, .int .i64 0]) ∧ w' = w := by
  have hv : ∀ w : World, Calls Tryz.prog 151 #[.int .u64 4612811918334230528] w fun e w' => e = .returned (.float .f64 4612811918334230528) ∧ w' = w := fun w => value64_any 4612811918334230528 w
  have h1 : FloatKind.f64.format.order 4613937818241073152 14114281232179134464 = some .gt := by decide +kernel
  have h2 : FloatKind.f64.format.order 4613937818241073152 4890909195324358656 = some .lt := by decide +kernel
  have h3 : floatToIntVal .f64 4613937818241073152 .i64 = some 3 := by decide +kernel
  have hcv := fun w : World => run_convert_float_int (P := Tryz.prog) w 51 2 .f64 .i64 4613937818241073152 3 (by kernel_rfl) (by kernel_rfl) h3
  go_enter Tryz.func187, Tryz.ntmps187
  go_wp2_with fail
  refine (hv _).mono ?_
  rintro e w1 ⟨rfl, rfl⟩
  go_wp2_with fail
  refine (whole_wake _).mono ?_
  rintro e w2 ⟨rfl, rfl⟩
  go_wp2_with (simp only [h1, h2, hcv])
  go_ret2
  exact ⟨rfl, rfl⟩


end Go.Proofs.YtleffbpjjbiobaaGreatDoor

namespace Go.Proofs.YtleffbpjjbiobaaGreatDoor
open Go.RowKit
open Flt
set_option linter.unusedVariables false
set_option linter.unusedSimpArgs false


theorem cut_nan (x y t : Nat) : IsNan64 (Question.cut (.nanBits .f64 x y) t) := by
  show 9218868437227405312 < (t % 2 * 2 ^ 63 + 0x7ff0000000000000 + 1 + t / 2 % (2 ^ 52 - 1)) % 9223372036854775808 ∧ (t % 2 * 2 ^ 63 + 0x7ff0000000000000 + 1 + t / 2 % (2 ^ 52 - 1)) < 18446744073709551616
  have h1 : t / 2 % (2 ^ 52 - 1) < 2 ^ 52 - 1 := Nat.mod_lt _ (by omega)
  have h2 : t % 2 < 2 := Nat.mod_lt _ (by omega)
  generalize t / 2 % (2 ^ 52 - 1) = a at *
  generalize t % 2 = b at *
  omega


theorem frombits32 (b : Nat) (w : World) : (callFunc 177 #[.int .u32 b]).run Tryz.prog w = .ok (.value (.float .f32 b)) w := by
  rw [run_callFunc_extern Tryz.func177 (by kernel_rfl) (by kernel_rfl) (by kernel_rfl) (e := Extern.MathFloatBits.float32frombits) (by kernel_rfl)]
  rfl

set_option maxRecDepth 100000 in
theorem value32_num (b x : Nat) (w : World) (h : floatToFloatBits .f32 b .f64 = some x) : Calls Tryz.prog 159 #[.int .u32 b] w fun e w' => e = .returned (.float .f64 x) ∧ w' = w := by
  have hf := frombits32 b
  have hcv := fun w : World => run_convert_float_float (P := Tryz.prog) w 52 51 .f32 .f64 b x (by kernel_rfl) (by kernel_rfl) h
  go_enter Tryz.func159, Tryz.ntmps159
  go_wp2_with fail
  refine (wide32_any _).mono ?_
  rintro e w1 ⟨rfl, rfl⟩
  go_wp2_with (simp only [hf, hcv])
  go_ret
  exact ⟨rfl, rfl⟩

theorem word64 (s : Bool) (R : Nat) (h : R < 9223372036854775808) : Ieee.double.word s R < 18446744073709551616 ∧ Ieee.double.word s R % 9223372036854775808 = R ∧ Ieee.double.word s R / 9223372036854775808 = s.toNat := by
  cases s
  · show R < _ ∧ R % _ = R ∧ R / _ = 0
    omega
  · show 9223372036854775808 + R < _ ∧ (9223372036854775808 + R) % _ = R ∧ (9223372036854775808 + R) / _ = 1
    omega
theorem sg32 (f : Nat) (hf : f < 4294967296) : (sg Ieee.single f).toNat = f / 2147483648 := by
  show (f / 2147483648 % 2 == 1).toNat = _
  have h : f / 2147483648 = 0 ∨ f / 2147483648 = 1 := by omega
  rcases h with h | h <;> rw [h] <;> rfl

/-- A binary32's number as a binary64, and back. -/
theorem f2f_wide (f : Nat) (hf : f < 4294967296) (h : f % 2147483648 ≤ 2139095040) : ∃ x, floatToFloatBits .f32 f .f64 = some x ∧ x < 18446744073709551616 ∧ x % 9223372036854775808 ≤ 9218868437227405312 ∧ floatToFloatBits .f64 x .f32 = some f ∧
    x / 9223372036854775808 = f / 2147483648 ∧ (x % 9223372036854775808 = 9218868437227405312 ↔ f % 2147483648 = 2139095040) ∧ (f % 2147483648 < 2139095040 → V Ieee.double (x % 9223372036854775808) = V Ieee.single (f % 2147483648) * 2 ^ gapE) := by
  have hws := word_self Ieee.single f (show f < 4294967296 from hf)
  have hu : ∀ (s d : FloatKind) (b : Nat), s ≠ d → floatToFloatBits s b d = match s.decode b with
      | .nan _ _ => none
      | .infinity s => some (d.encode (.infinity s))
      | .number s m e => if (d.decode (d.encode (.number s m e))).isInfinity then none else some (d.encode (.number s m e)) := by
    intro s d b hne
    unfold floatToFloatBits
    rw [if_neg hne]
    cases s.decode b <;> rfl
  rcases Nat.lt_or_ge (f % 2147483648) 2139095040 with h1 | h1
  · have hr : rg Ieee.single f < Ieee.single.infRung := by rw [rg32, inf32]; exact h1
    obtain ⟨R, m', k', ⟨hR, hV⟩, ⟨m, k, e1, e2⟩, e3, e4⟩ := widened f hr
    rw [inf64] at hR
    obtain ⟨w1, w2, w3⟩ := word64 (sg Ieee.single f) R (by omega)
    refine ⟨Ieee.double.word (sg Ieee.single f) R, ?_, w1, by omega, ?_, by rw [w3, sg32 f hf], by rw [w2]; omega, fun _ => by rw [w2]; exact hV⟩
    · rw [hu _ _ _ (by decide), show FloatKind.f32.decode f = _ from e1]
      show (if (Ieee.double.read (Ieee.double.nearest _ _ _)).isInfinity = true then none else some (Ieee.double.nearest _ _ _)) = _
      rw [e2, e3]
      rfl
    · rw [hu _ _ _ (by decide), show FloatKind.f64.decode _ = _ from e3]
      show (if (Ieee.single.read (Ieee.single.nearest _ _ _)).isInfinity = true then none else some (Ieee.single.nearest _ _ _)) = _
      rw [e4, hws, e1]
      rfl
  · have h2 : f % 2147483648 = 2139095040 := by omega
    have e1 : Ieee.single.read f = .infinity (sg Ieee.single f) := read_inf _ _ (by decide) (by rw [rg32, inf32]; exact h2)
    obtain ⟨w1, w2, w3⟩ := word64 (sg Ieee.single f) 9218868437227405312 (by omega)
    have e2 : Ieee.double.read (Ieee.double.word (sg Ieee.single f) 9218868437227405312) = .infinity (sg Ieee.single f) := by
      rw [read_inf _ _ (by decide) (by rw [rg64, inf64]; exact w2)]
      rw [sg_word _ _ _ (show 9218868437227405312 < 9223372036854775808 by omega)]
    refine ⟨Ieee.double.word (sg Ieee.single f) 9218868437227405312, ?_, w1, by omega, ?_, by rw [w3, sg32 f hf], by rw [w2]; omega, fun h => by omega⟩
    · rw [hu _ _ _ (by decide), show FloatKind.f32.decode f = _ from e1]
      show some (Ieee.double.word _ Ieee.double.infRung) = _
      rw [inf64]
    · rw [hu _ _ _ (by decide), show FloatKind.f64.decode _ = _ from e2]
      show some (Ieee.single.word _ Ieee.single.infRung) = _
      rw [rg32, h2] at hws
      rw [inf32, hws]

theorem nar_wide (f x : Nat) (hf : f < 4294967296) (h : f % 2147483648 ≤ 2139095040) (e : x / 9223372036854775808 = f / 2147483648) (hi : x % 9223372036854775808 = 9218868437227405312 ↔ f % 2147483648 = 2139095040)
    (hv : f % 2147483648 < 2139095040 → V Ieee.double (x % 9223372036854775808) = V Ieee.single (f % 2147483648) * 2 ^ gapE) : nar32 x = f := by
  unfold nar32
  rw [e]
  rcases Nat.lt_or_ge (f % 2147483648) 2139095040 with h1 | h1
  · have h2 := rnd_scale Ieee.single (V Ieee.single (f % 2147483648)) 1 (2 ^ gapE) (Nat.two_pow_pos _)
    rw [Nat.one_mul, rnd_V] at h2
    rw [hv h1, h2]
    omega
  · have h2 := rnd32_mono (show 5183643170835005440 ≤ x % 9223372036854775808 by rw [hi.2 (by omega)]; omega)
    rw [rnd_beyond] at h2
    rw [Nat.min_eq_right h2]
    omega

/-- What Widen tells of a NaN, and Narrow. -/
def widNan (f : Nat) : Nat := f / 2147483648 * 9223372036854775808 + 9218868437227405312 + f % 8388608 * 536870912
def narNan (b : Nat) : Nat := b / 9223372036854775808 * 2147483648 + 2143289344 + b / 536870912 % 4194304

theorem and_top32 (f : Nat) (hf : f < 4294967296) : bits BinOp.and IntKind.u32 (f : Int) 2147483648 = ((f / 2147483648 * 2147483648 : Nat) : Int) := by
  by_cases h : f < 2147483648
  · rw [b32_and_lo f h]; have : f / 2147483648 = 0 := by omega
    rw [this]; rfl
  · rw [b32_and_hi f (by omega) hf]; have : f / 2147483648 = 1 := by omega
    rw [this]; rfl
theorem and_low32 (f n : Nat) (hf : f < 4294967296) (hn : n < 32) : bits BinOp.and IntKind.u32 (f : Int) ((2 ^ n - 1 : Nat) : Int) = ((f % 2 ^ n : Nat) : Int) := by
  have h2 : 2 ^ n ≤ 2 ^ 32 := Nat.pow_le_pow_right (by omega) (by omega)
  have := u32_and_nat f (2 ^ n - 1) hf (by omega)
  rw [Nat.and_two_pow_sub_one_eq_mod] at this; exact this
theorem or_split64 (q y n : Nat) (hy : y < 2 ^ n) (h : 2 ^ n * q + y < 18446744073709551616) : bits BinOp.or IntKind.u64 ((2 ^ n * q : Nat) : Int) (y : Int) = ((2 ^ n * q + y : Nat) : Int) := by
  rw [u64_or_nat _ _ (by omega) (by omega), ← Nat.two_pow_add_eq_or_of_lt hy]
theorem or_split32 (q y n : Nat) (hy : y < 2 ^ n) (h : 2 ^ n * q + y < 4294967296) : bits BinOp.or IntKind.u32 ((2 ^ n * q : Nat) : Int) (y : Int) = ((2 ^ n * q + y : Nat) : Int) := by
  rw [u32_or_nat _ _ (by omega) (by omega), ← Nat.two_pow_add_eq_or_of_lt hy]

theorem wid_expr (f : Nat) (hf : f < 4294967296) : bits BinOp.or IntKind.u64 (bits BinOp.or IntKind.u64 (IntKind.u64.wrap (IntKind.u64.wrap (bits BinOp.and IntKind.u32 (f : Int) 2147483648) * 4294967296)) 9218868437227405312)
      (IntKind.u64.wrap (IntKind.u64.wrap (bits BinOp.and IntKind.u32 (f : Int) 8388607) * 536870912)) = ((widNan f : Nat) : Int) := by
  rw [and_top32 f hf, show bits BinOp.and IntKind.u32 (f : Int) 8388607 = ((f % 8388608 : Nat) : Int) from and_low32 f 23 hf (by omega)]
  unfold widNan
  have hq : f / 2147483648 < 2 := by omega
  have hy : f % 8388608 < 8388608 := by omega
  generalize f / 2147483648 = q at *
  generalize f % 8388608 = y at *
  simp only [IntKind.wrap_u64]
  rw [show ((q * 2147483648 : Nat) : Int) % 18446744073709551616 * 4294967296 % 18446744073709551616 = ((q * 9223372036854775808 : Nat) : Int) by omega, show ((y : Nat) : Int) % 18446744073709551616 * 536870912 % 18446744073709551616 = ((y * 536870912 : Nat) : Int) by omega]
  have e1 : bits BinOp.or IntKind.u64 ((q * 9223372036854775808 : Nat) : Int) 9218868437227405312 = ((2 ^ 52 * (q * 2048 + 2047) : Nat) : Int) := by
    have h : q = 0 ∨ q = 1 := by omega
    rcases h with rfl | rfl <;> decide +kernel
  rw [e1, or_split64 _ _ _ (by omega) (by omega)]
  omega

set_option maxRecDepth 100000 in
theorem Widen_nan (f : Nat) (w : World) (hf : f < 4294967296) (h : 2139095040 < f % 2147483648) : Calls Tryz.prog 186 #[.int .u32 f] w fun e w' => e = .returned (.int .u64 (widNan f : Nat)) ∧ Below w.heap.size w w' := by
  go_enter Tryz.func186, Tryz.ntmps186
  go_wp2_with fail
  refine (layoutOf32_any _).mono ?_
  rintro e w1 ⟨rfl, hb1⟩
  go_wp2_with fail
  refine (isNaN32_any f _ hf).mono ?_
  rintro e w2 ⟨rfl, hb2⟩
  rw [decide_eq_true h]
  have H2 := fhide (hb1.trans (hb2.mono hb1.size))
  clear hb1 hb2
  go_wp2_with fail
  go_ret
  refine ⟨?_, H2.out⟩
  rw [← wid_expr f hf]
  rfl

set_option maxRecDepth 100000 in
theorem Widen_num (f x : Nat) (w : World) (hf : f < 4294967296) (h : ¬ 2139095040 < f % 2147483648) (hx : floatToFloatBits .f32 f .f64 = some x) (hx1 : x < 18446744073709551616) (hx2 : x % 9223372036854775808 ≤ 9218868437227405312) : Calls Tryz.prog 186 #[.int .u32 f] w fun e w' => e = .returned (.int .u64 x) ∧ Below w.heap.size w w' := by
  go_enter Tryz.func186, Tryz.ntmps186
  go_wp2_with fail
  refine (layoutOf32_any _).mono ?_
  rintro e w1 ⟨rfl, hb1⟩
  go_wp2_with fail
  refine (isNaN32_any f _ hf).mono ?_
  rintro e w2 ⟨rfl, hb2⟩
  rw [decide_eq_false h]
  have H2 := fhide (hb1.trans (hb2.mono hb1.size))
  clear hb1 hb2
  go_wp2_with fail
  refine (value32_num f x _ hx).mono ?_
  rintro e w3 ⟨rfl, rfl⟩
  go_wp2_with fail
  refine (pattern64_any x _ hx1).mono ?_
  rintro e w4 ⟨rfl, hb4⟩
  rw [pat64_num x hx2]
  go_wp2_with fail
  go_ret
  exact ⟨rfl, H2.out.trans (hb4.mono H2.out.size)⟩

theorem nar_expr (b : Nat) (hb : b < 18446744073709551616) : bits BinOp.or IntKind.u32 (bits BinOp.or IntKind.u32 (bits BinOp.and IntKind.u32 ((b : Int) / 4294967296) 2147483648) 2143289344)
      (bits BinOp.and IntKind.u32 ((b : Int) / 536870912 % 4294967296) 4194303) = ((narNan b : Nat) : Int) := by
  rw [show (b : Int) / 4294967296 = ((b / 4294967296 : Nat) : Int) by simp, show (b : Int) / 536870912 % 4294967296 = ((b / 536870912 % 4294967296 : Nat) : Int) by simp, and_top32 _ (by omega),
    show bits BinOp.and IntKind.u32 ((b / 536870912 % 4294967296 : Nat) : Int) 4194303 = ((b / 536870912 % 4294967296 % 4194304 : Nat) : Int) from and_low32 _ 22 (by omega) (by omega)]
  unfold narNan
  have e0 : b / 4294967296 / 2147483648 = b / 9223372036854775808 := by omega
  have e1 : b / 536870912 % 4294967296 % 4194304 = b / 536870912 % 4194304 := by omega
  rw [e0, e1]
  have hq : b / 9223372036854775808 < 2 := by omega
  have hy : b / 536870912 % 4194304 < 4194304 := by omega
  generalize b / 9223372036854775808 = q at *
  generalize b / 536870912 % 4194304 = y at *
  have e2 : bits BinOp.or IntKind.u32 ((q * 2147483648 : Nat) : Int) 2143289344 = ((2 ^ 22 * (q * 512 + 511) : Nat) : Int) := by
    have h : q = 0 ∨ q = 1 := by omega
    rcases h with rfl | rfl <;> decide +kernel
  rw [e2, or_split32 _ _ _ (by omega) (by omega)]
  omega

theorem widNan_nan (f : Nat) (hf : f < 4294967296) (h : 2139095040 < f % 2147483648) : widNan f < 18446744073709551616 ∧ 9218868437227405312 < widNan f % 9223372036854775808 := by
  unfold widNan; omega
theorem nar_wid (f : Nat) (hf : f < 4294967296) (h : 2143289344 ≤ f % 2147483648) : narNan (widNan f) = f := by
  unfold narNan widNan; omega
end Go.Proofs.YtleffbpjjbiobaaGreatDoor
