/- Operations of binary32s by way of binary64s. -/
import Derived.Test.YtdiinhccfifiaabRH
import Derived.Test.YtdiinhccfifiaabNW
import Derived.Test.YtdiinhccfifiaabPF
namespace Go.Proofs.Ytdiinhccfifiaab
open Flt
open Ieee (signed)
set_option linter.unusedVariables false
set_option linter.unusedSimpArgs false

theorem wid_fin (f : Nat) (hf : f < 4294967296) (h : f % 2147483648 < 2139095040) : wid f < 18446744073709551616 ∧ rg Ieee.double (wid f) < Ieee.double.infRung ∧ sg Ieee.double (wid f) = sg Ieee.single f ∧ V Ieee.double (rg Ieee.double (wid f)) = V Ieee.single (rg Ieee.single f) * 2 ^ gapE := by
  obtain ⟨x, x1, x2, x3, x4, x5, x6, x7⟩ := f2f_wide f hf (by omega)
  rw [wid_of f x hf (by omega) x5 x6 x7]
  refine ⟨x2, by rw [rg64, inf64]; omega, ?_, by rw [rg64, rgW32]; exact x7 h⟩
  show (x / 9223372036854775808 % 2 == 1) = (f / 2147483648 % 2 == 1)
  rw [x5]
theorem wid_inf (f : Nat) (hf : f < 4294967296) (h : f % 2147483648 = 2139095040) : wid f < 18446744073709551616 ∧ rg Ieee.double (wid f) = Ieee.double.infRung ∧ sg Ieee.double (wid f) = sg Ieee.single f := by
  obtain ⟨x, x1, x2, x3, x4, x5, x6, x7⟩ := f2f_wide f hf (by omega)
  rw [wid_of f x hf (by omega) x5 x6 x7]
  refine ⟨x2, by rw [rg64, inf64]; exact x6.2 h, ?_⟩
  show (x / 9223372036854775808 % 2 == 1) = (f / 2147483648 % 2 == 1)
  rw [x5]
theorem wid_zero (f : Nat) (hf : f < 4294967296) (h : f % 2147483648 < 2139095040) : rg Ieee.double (wid f) = 0 ↔ rg Ieee.single f = 0 := by
  have hv := (wid_fin f hf h).2.2.2
  constructor
  · intro h0
    rw [h0, V_zero] at hv
    rcases Nat.mul_eq_zero.1 hv.symm with h1 | h1
    · exact V_inj (f := Ieee.single) (by rw [h1, V_zero])
    · have := Nat.two_pow_pos gapE; omega
  · intro h0
    rw [h0, V_zero, Nat.zero_mul] at hv
    exact V_inj (f := Ieee.double) (by rw [hv, V_zero])

theorem nar_word (s : Bool) (R : Nat) (h : R < 9223372036854775808) : nar32 (Ieee.double.word s R) = Ieee.single.word s (min (rnd Ieee.single (V Ieee.double R) (2 ^ gapE)) 2139095040) := by
  obtain ⟨w1, w2, w3⟩ := word64 s R h
  rw [word32 s _ (by omega)]
  unfold nar32
  rw [w2, w3]
theorem nar_inf (s : Bool) : nar32 (Ieee.double.word s Ieee.double.infRung) = Ieee.single.word s Ieee.single.infRung := by
  rw [inf64, nar_word s _ (by omega), inf32]
  have := rnd32_mono (show 5183643170835005440 ≤ 9218868437227405312 by omega)
  rw [rnd_beyond] at this
  rw [Nat.min_eq_right this]
theorem nar_zero (s : Bool) : nar32 (Ieee.double.word s 0) = Ieee.single.word s 0 := by
  rw [nar_word s _ (by omega), V_zero, rnd_zero, Nat.zero_min]

theorem thin_core (s : Bool) (N D E : Nat) (hD : 0 < D) (hE : E = gapE) (htw : rnd Ieee.single (V Ieee.double (rnd Ieee.double N D)) (2 ^ E) = rnd Ieee.single N (D * 2 ^ E)) :
    nar32 (Ieee.double.word s (min (rnd Ieee.double N D) Ieee.double.infRung)) = Ieee.single.word s (min (rnd Ieee.single N (D * 2 ^ E)) Ieee.single.infRung) := by
  rw [inf64, inf32]
  by_cases h : rnd Ieee.double N D < 9218868437227405312
  · rw [Nat.min_eq_left (by omega), nar_word s _ (by omega), ← hE, htw]
  · rw [Nat.min_eq_right (by omega)]
    have h1 := nar_inf s
    rw [inf64, inf32] at h1
    rw [h1]
    have hN : V Ieee.double 9218868437227405311 * D < N := by
      rcases Nat.lt_or_ge (V Ieee.double 9218868437227405311 * D) N with h2 | h2
      · exact h2
      · have := rnd_le Ieee.double (by decide) N D _ hD h2; omega
    have h3 : 2139095040 ≤ rnd Ieee.single N (D * 2 ^ E) := by
      refine le_rnd Ieee.single (by decide) N (D * 2 ^ E) _ (Nat.mul_pos hD (Nat.two_pow_pos _)) ?_
      rw [Nat.mul_comm D, ← Nat.mul_assoc]
      refine Nat.le_trans (Nat.mul_le_mul_right D ?_) (Nat.le_of_lt hN)
      rw [hE]
      decide +kernel
    rw [Nat.min_eq_right h3]

/-- What is told of a binary64's operation, as a binary32. -/
def thin : Option Nat → Nat
  | some r => nar32 r
  | none => 2143289344

theorem sv_wid (f : Nat) (hf : f < 4294967296) (h : f % 2147483648 < 2139095040) : sv Ieee.double (wid f) = sv Ieee.single f * ((2 ^ gapE : Nat) : Int) := by
  obtain ⟨_, _, h3, h4⟩ := wid_fin f hf h
  rw [sv_signed, sv_signed, h3, h4, signed_scale, Nat.zero_add]

theorem fin32 {f : Nat} (h : f % 2147483648 < 2139095040) : rg Ieee.single f < Ieee.single.infRung := by rw [rgW32, infW32]; exact h
theorem inf32' {f : Nat} (h : f % 2147483648 = 2139095040) : rg Ieee.single f = Ieee.single.infRung := by rw [rgW32, infW32]; exact h

theorem thin_add (a b : Nat) (ha : a < 4294967296) (hb : b < 4294967296) (na : a % 2147483648 ≤ 2139095040) (nb : b % 2147483648 ≤ 2139095040) : thin (Ieee.double.add (wid a) (wid b)) = tldW32 (Ieee.single.add a b) := by
  by_cases ia : a % 2147483648 = 2139095040
  · obtain ⟨_, ra, sa⟩ := wid_inf a ha ia
    by_cases ib : b % 2147483648 = 2139095040
    · obtain ⟨_, rb, sb⟩ := wid_inf b hb ib
      rw [add_inf_inf _ (by decide) _ _ ra rb, add_inf_inf _ (by decide) _ _ (inf32' ia) (inf32' ib), sa, sb]
      split
      · exact nar_inf _
      · rfl
    · obtain ⟨_, rb, sb, _⟩ := wid_fin b hb (by omega)
      rw [add_inf_fin _ (by decide) _ _ ra rb, add_inf_fin _ (by decide) _ _ (inf32' ia) (fin32 (by omega)), sa]
      exact nar_inf _
  · by_cases ib : b % 2147483648 = 2139095040
    · obtain ⟨_, rb, sb⟩ := wid_inf b hb ib
      obtain ⟨_, ra, sa, _⟩ := wid_fin a ha (by omega)
      rw [add_fin_inf _ (by decide) _ _ ra rb, add_fin_inf _ (by decide) _ _ (fin32 (by omega)) (inf32' ib), sb]
      exact nar_inf _
    · obtain ⟨_, ra, sa, _⟩ := wid_fin a ha (by omega)
      obtain ⟨_, rb, sb, _⟩ := wid_fin b hb (by omega)
      rw [add_rnd _ _ _ ra rb, add_rnd _ _ _ (fin32 (by omega)) (fin32 (by omega)), sv_wid a ha (by omega), sv_wid b hb (by omega), sa, sb, ← Int.add_mul]
      have hp : (0 : Int) < ((2 ^ gapE : Nat) : Int) := by exact_mod_cast Nat.two_pow_pos gapE
      rw [sgn2_scale _ _ _ _ hp, natAbs_scale]
      have htw := twice_sum (rg Ieee.single a) (rg Ieee.single b) _ gapE rfl (sg Ieee.single a) (sg Ieee.single b) rfl
      rw [← sv_signed, ← sv_signed] at htw
      have := thin_core (sgn2 (sg Ieee.single a) (sg Ieee.single b) (sv Ieee.single a + sv Ieee.single b)) _ 1 gapE (by omega) rfl htw
      rw [rnd_scale _ _ _ _ (Nat.two_pow_pos _)] at this
      exact this

theorem wid_flp (a b : Nat) (hb : b < 4294967296) (nb : b % 2147483648 ≤ 2139095040) : Ieee.double.sub a (wid b) = Ieee.double.add a (wid (flpW32 b)) := by
  have hl := flp_lt32 b hb
  have hm : flpW32 b % 2147483648 = b % 2147483648 := by unfold flpW32; split <;> omega
  have hs : sg Ieee.single (flpW32 b) = !sg Ieee.single b := by
    rw [sgW32 _ hl, sgW32 b hb]
    unfold flpW32
    by_cases h : b < 2147483648
    · rw [if_pos h, decide_eq_true (by omega), decide_eq_false (by omega)]; rfl
    · rw [if_neg h, decide_eq_false (by omega), decide_eq_true (by omega)]; rfl
  by_cases ib : b % 2147483648 = 2139095040
  · obtain ⟨_, rb, sb⟩ := wid_inf b hb ib
    obtain ⟨_, rc, sc⟩ := wid_inf (flpW32 b) hl (by omega)
    exact sub_add _ a _ _ (by rw [rb, rc]) (by rw [sb, sc, hs])
  · obtain ⟨_, rb, sb, vb⟩ := wid_fin b hb (by omega)
    obtain ⟨_, rc, sc, vc⟩ := wid_fin (flpW32 b) hl (by omega)
    refine sub_add _ a _ _ (V_inj (f := Ieee.double) ?_) (by rw [sb, sc, hs])
    rw [vb, vc, rgW32, rgW32, hm]

theorem thin_sub (a b : Nat) (ha : a < 4294967296) (hb : b < 4294967296) (na : a % 2147483648 ≤ 2139095040) (nb : b % 2147483648 ≤ 2139095040) : thin (Ieee.double.sub (wid a) (wid b)) = tldW32 (Ieee.single.sub a b) := by
  rw [wid_flp _ b hb nb, sub_flp32 a b hb]
  exact thin_add a _ ha (flp_lt32 b hb) na (by unfold flpW32; split <;> omega)

theorem thin_mul (a b : Nat) (ha : a < 4294967296) (hb : b < 4294967296) (na : a % 2147483648 ≤ 2139095040) (nb : b % 2147483648 ≤ 2139095040) : thin (Ieee.double.mul (wid a) (wid b)) = tldW32 (Ieee.single.mul a b) := by
  by_cases ia : a % 2147483648 = 2139095040
  · obtain ⟨_, ra, sa⟩ := wid_inf a ha ia
    by_cases ib : b % 2147483648 = 2139095040
    · obtain ⟨_, rb, sb⟩ := wid_inf b hb ib
      rw [mul_inf_inf _ (by decide) _ _ ra rb, mul_inf_inf _ (by decide) _ _ (inf32' ia) (inf32' ib), sa, sb]
      exact nar_inf _
    · obtain ⟨_, rb, sb, _⟩ := wid_fin b hb (by omega)
      rw [mul_inf_fin _ (by decide) _ _ ra rb, mul_inf_fin _ (by decide) _ _ (inf32' ia) (fin32 (by omega)), sa, sb]
      simp only [wid_zero b hb (by omega)]
      split
      · rfl
      · exact nar_inf _
  · by_cases ib : b % 2147483648 = 2139095040
    · obtain ⟨_, rb, sb⟩ := wid_inf b hb ib
      obtain ⟨_, ra, sa, _⟩ := wid_fin a ha (by omega)
      rw [mul_fin_inf _ (by decide) _ _ ra rb, mul_fin_inf _ (by decide) _ _ (fin32 (by omega)) (inf32' ib), sa, sb]
      simp only [wid_zero a ha (by omega)]
      split
      · rfl
      · exact nar_inf _
    · obtain ⟨_, ra, sa, va⟩ := wid_fin a ha (by omega)
      obtain ⟨_, rb, sb, vb⟩ := wid_fin b hb (by omega)
      obtain ⟨T, hT⟩ : ∃ T : Nat, T = 1074 := ⟨_, rfl⟩
      obtain ⟨U, hU⟩ : ∃ U : Nat, U = 149 := ⟨_, rfl⟩
      obtain ⟨E, hE, hE2⟩ : ∃ E : Nat, E = gapE ∧ E = 925 := ⟨_, rfl, rfl⟩
      rw [mul_rnd _ T _ _ (by rw [hT]; decide) ra rb, mul_rnd _ U _ _ (by rw [hU]; decide) (fin32 (by omega)) (fin32 (by omega)), va, vb, sa, sb, ← hE]
      obtain ⟨ca, ea, _, ga⟩ := V_form Ieee.single (rg Ieee.single a)
      obtain ⟨cb, eb, _, gb⟩ := V_form Ieee.single (rg Ieee.single b)
      have hbn : 2 * Ieee.single.binade = 2 ^ 24 := by decide
      generalize rg Ieee.single a / Ieee.single.binade - 1 = ka at *
      generalize rg Ieee.single b / Ieee.single.binade - 1 = kb at *
      have hN : V Ieee.single (rg Ieee.single a) * 2 ^ E * (V Ieee.single (rg Ieee.single b) * 2 ^ E) = ca * cb * 2 ^ (ka + kb + E + E) := by
        rw [ea, eb, Nat.pow_add, Nat.pow_add, Nat.pow_add]; simp only [Nat.mul_assoc, Nat.mul_left_comm, Nat.mul_comm]
      have htw := twice_few (ca * cb) 1 (ka + kb + E + E) T E (Nat.lt_of_lt_of_le (Nat.mul_lt_mul_of_lt_of_lt (show ca < 2 ^ 24 by omega) (show cb < 2 ^ 24 by omega)) (by decide)) (by omega) (by omega) hE2
      rw [Nat.one_mul, ← hN] at htw
      have := thin_core (sg Ieee.single a ^^ sg Ieee.single b) _ (2 ^ T) E (Nat.two_pow_pos _) hE htw
      rw [rnd_eq Ieee.single (n' := V Ieee.single (rg Ieee.single a) * V Ieee.single (rg Ieee.single b)) (d' := 2 ^ U) (Nat.mul_pos (Nat.two_pow_pos _) (Nat.two_pow_pos _)) (Nat.two_pow_pos _) (by
        rw [show V Ieee.single (rg Ieee.single a) * 2 ^ E * (V Ieee.single (rg Ieee.single b) * 2 ^ E) * 2 ^ U = V Ieee.single (rg Ieee.single a) * V Ieee.single (rg Ieee.single b) * (2 ^ E * 2 ^ E * 2 ^ U) by simp only [Nat.mul_assoc, Nat.mul_left_comm, Nat.mul_comm], ← Nat.pow_add, ← Nat.pow_add, ← Nat.pow_add]
        congr 2; omega)] at this
      exact this

theorem thin_div (a b : Nat) (ha : a < 4294967296) (hb : b < 4294967296) (na : a % 2147483648 ≤ 2139095040) (nb : b % 2147483648 ≤ 2139095040) : thin (Ieee.double.div (wid a) (wid b)) = tldW32 (Ieee.single.div a b) := by
  by_cases ia : a % 2147483648 = 2139095040
  · obtain ⟨_, ra, sa⟩ := wid_inf a ha ia
    by_cases ib : b % 2147483648 = 2139095040
    · obtain ⟨_, rb, sb⟩ := wid_inf b hb ib
      rw [div_inf_inf _ (by decide) _ _ ra rb, div_inf_inf _ (by decide) _ _ (inf32' ia) (inf32' ib)]
      rfl
    · obtain ⟨_, rb, sb, _⟩ := wid_fin b hb (by omega)
      rw [div_inf_fin _ (by decide) _ _ ra rb, div_inf_fin _ (by decide) _ _ (inf32' ia) (fin32 (by omega)), sa, sb]
      exact nar_inf _
  · obtain ⟨_, ra, sa, va⟩ := wid_fin a ha (by omega)
    by_cases ib : b % 2147483648 = 2139095040
    · obtain ⟨_, rb, sb⟩ := wid_inf b hb ib
      rw [div_fin_inf _ (by decide) _ _ ra rb, div_fin_inf _ (by decide) _ _ (fin32 (by omega)) (inf32' ib), sa, sb]
      exact nar_zero _
    · obtain ⟨_, rb, sb, vb⟩ := wid_fin b hb (by omega)
      by_cases zb : rg Ieee.single b = 0
      · rw [div_fin_zero _ _ _ ra rb ((wid_zero b hb (by omega)).2 zb), div_fin_zero _ _ _ (fin32 (by omega)) (fin32 (by omega)) zb, sa, sb]
        simp only [wid_zero a ha (by omega)]
        split
        · rfl
        · exact nar_inf _
      · obtain ⟨T, hT⟩ : ∃ T : Nat, T = 1074 := ⟨_, rfl⟩
        obtain ⟨U, hU⟩ : ∃ U : Nat, U = 149 := ⟨_, rfl⟩
        obtain ⟨E, hE, hE2⟩ : ∃ E : Nat, E = gapE ∧ E = 925 := ⟨_, rfl, rfl⟩
        have hvb : V Ieee.single (rg Ieee.single b) ≠ 0 := fun e => zb (V_inj (f := Ieee.single) (by rw [e, V_zero]))
        rw [div_rnd _ T _ _ (by rw [hT]; decide) ra rb (fun e => zb ((wid_zero b hb (by omega)).1 e)), div_rnd _ U _ _ (by rw [hU]; decide) (fin32 (by omega)) (fin32 (by omega)) zb, va, vb, sa, sb, ← hE]
        obtain ⟨ca, ea, _, ga⟩ := V_form Ieee.single (rg Ieee.single a)
        obtain ⟨cb, eb, _, gb⟩ := V_form Ieee.single (rg Ieee.single b)
        have hbn : 2 * Ieee.single.binade = 2 ^ 24 := by decide
        have hcb : 0 < cb := by
          rcases Nat.eq_zero_or_pos cb with h | h
          · rw [h, Nat.zero_mul] at eb; exact absurd eb hvb
          · exact h
        generalize rg Ieee.single a / Ieee.single.binade - 1 = ka at *
        generalize rg Ieee.single b / Ieee.single.binade - 1 = kb at *
        have hN : V Ieee.single (rg Ieee.single a) * 2 ^ E * 2 ^ T = ca * 2 ^ (ka + E + T) := by
          rw [ea, Nat.pow_add, Nat.pow_add]; simp only [Nat.mul_assoc]
        have hDD : V Ieee.single (rg Ieee.single b) * 2 ^ E = cb * 2 ^ (kb + E) := by
          rw [eb, Nat.pow_add]; simp only [Nat.mul_assoc]
        have htw := twice_few ca cb (ka + E + T) (kb + E) E (Nat.lt_of_lt_of_le (show ca < 2 ^ 24 by omega) (by decide)) (by omega) hcb hE2
        rw [← hN, ← hDD] at htw
        have := thin_core (sg Ieee.single a ^^ sg Ieee.single b) _ _ E (by rw [hDD]; exact Nat.mul_pos hcb (Nat.two_pow_pos _)) hE htw
        rw [rnd_eq Ieee.single (n' := V Ieee.single (rg Ieee.single a) * 2 ^ U) (d' := V Ieee.single (rg Ieee.single b)) (Nat.mul_pos (by rw [hDD]; exact Nat.mul_pos hcb (Nat.two_pow_pos _)) (Nat.two_pow_pos _)) (Nat.pos_of_ne_zero hvb) (by
          rw [show V Ieee.single (rg Ieee.single a) * 2 ^ E * 2 ^ T * V Ieee.single (rg Ieee.single b) = V Ieee.single (rg Ieee.single a) * V Ieee.single (rg Ieee.single b) * (2 ^ E * 2 ^ T) by simp only [Nat.mul_assoc, Nat.mul_left_comm, Nat.mul_comm],
            show V Ieee.single (rg Ieee.single a) * 2 ^ U * (V Ieee.single (rg Ieee.single b) * 2 ^ E * 2 ^ E) = V Ieee.single (rg Ieee.single a) * V Ieee.single (rg Ieee.single b) * (2 ^ U * 2 ^ E * 2 ^ E) by simp only [Nat.mul_assoc, Nat.mul_left_comm, Nat.mul_comm], ← Nat.pow_add, ← Nat.pow_add, ← Nat.pow_add]
          congr 2; omega)] at this
        exact this

theorem RtR_scale {f : Ieee.Format} {N D N' D' R : Nat} (hD : 0 < D) (hD' : 0 < D') (h : RtR f N D R) (he : N * D' = N' * D) : RtR f N' D' R := by
  obtain ⟨r, a1, a2, a3⟩ := h
  have lt : ∀ x c : Nat, (x * D < c * N ↔ x * D' < c * N') := by
    intro x c
    rw [← Nat.mul_lt_mul_right hD', ← Nat.mul_lt_mul_right (a := D) (b := x * D') hD, Nat.mul_assoc c N, he, Nat.mul_assoc c N', Nat.mul_right_comm]
  have eq : ∀ x c : Nat, (x * D = c * N ↔ x * D' = c * N') := fun x c =>
    ⟨fun h => Nat.eq_of_mul_eq_mul_right hD (by rw [Nat.mul_right_comm x D' D, h, Nat.mul_assoc c N D', he, Nat.mul_assoc c N' D]), fun h => Nat.eq_of_mul_eq_mul_right hD' (by rw [Nat.mul_right_comm x D D', h, Nat.mul_assoc c N' D, Nat.mul_assoc c N D', he])⟩
  refine ⟨r, ?_, ?_, ?_⟩
  · rcases Nat.lt_or_ge (V f r * V f r * D) N with h | h
    · have := (lt (V f r * V f r) 1).1 (by rw [Nat.one_mul]; exact h); rw [Nat.one_mul] at this; exact Nat.le_of_lt this
    · have := (eq (V f r * V f r) 1).1 (by rw [Nat.one_mul]; omega); rw [Nat.one_mul] at this; omega
  · rcases Nat.lt_trichotomy N' (V f (r + 1) * V f (r + 1) * D') with h | h | h
    · exact h
    · have := (eq (V f (r + 1) * V f (r + 1)) 1).2 (by omega); omega
    · have := (lt (V f (r + 1) * V f (r + 1)) 1).2 (by omega); omega
  · rw [a3]; simp only [lt, eq]

theorem thin_sqrt (a : Nat) (ha : a < 4294967296) (na : a % 2147483648 ≤ 2139095040) : thin (Ieee.double.sqrt (wid a)) = tldW32 (Ieee.single.sqrt a) := by
  by_cases ia : a % 2147483648 = 2139095040
  · obtain ⟨_, ra, sa⟩ := wid_inf a ha ia
    rw [sqrt_inf _ (by decide) _ ra, sqrt_inf _ (by decide) _ (inf32' ia), sa]
    cases sg Ieee.single a
    · exact nar_inf _
    · rfl
  · obtain ⟨_, ra, sa, va⟩ := wid_fin a ha (by omega)
    by_cases za : rg Ieee.single a = 0
    · rw [sqrt_zero _ _ ((wid_zero a ha (by omega)).2 za) (by decide), sqrt_zero _ _ za (by decide), sa]
      exact nar_zero _
    · have za' : rg Ieee.double (wid a) ≠ 0 := fun e => za ((wid_zero a ha (by omega)).1 e)
      by_cases hs : sg Ieee.single a = true
      · rw [sqrt_neg _ _ ra za' (by rw [sa]; exact hs), sqrt_neg _ _ (fin32 (by omega)) za hs]
        rfl
      · have hs' : sg Ieee.single a = false := by simpa using hs
        obtain ⟨T, hT⟩ : ∃ T : Nat, T = 1074 := ⟨_, rfl⟩
        obtain ⟨U, hU⟩ : ∃ U : Nat, U = 149 := ⟨_, rfl⟩
        obtain ⟨E, hE, hE2⟩ : ∃ E : Nat, E = gapE ∧ E = 925 := ⟨_, rfl, rfl⟩
        obtain ⟨R, hR, e1⟩ := sqrt_rung Ieee.double (by decide) T (wid a) (by rw [hT]; decide) ra za' (by rw [sa]; exact hs')
        obtain ⟨R', hR', e2⟩ := sqrt_rung Ieee.single (by decide) U a (by rw [hU]; decide) (fin32 (by omega)) za hs'
        rw [e1, e2]
        rw [va, ← hE] at hR
        obtain ⟨ca, ea, _, ga⟩ := V_form Ieee.single (rg Ieee.single a)
        have hbn : 2 * Ieee.single.binade = 2 ^ 24 := by decide
        generalize rg Ieee.single a / Ieee.single.binade - 1 = ka at *
        have hN : V Ieee.single (rg Ieee.single a) * 2 ^ E * 2 ^ T = ca * 2 ^ (ka + E + T) := by
          rw [ea, Nat.pow_add, Nat.pow_add]; simp only [Nat.mul_assoc]
        have hR2 : RtR Ieee.single (ca * 2 ^ (ka + E + T)) (2 ^ E * 2 ^ E) R' := by
          refine RtR_scale (by omega) (Nat.mul_pos (Nat.two_pow_pos _) (Nat.two_pow_pos _)) hR' ?_
          rw [← hN, Nat.mul_one, Nat.mul_assoc, Nat.mul_assoc, ← Nat.pow_add, ← Nat.pow_add, ← Nat.pow_add]
          congr 2; omega
        rw [hN] at hR
        have htw := twice_root ca (ka + E + T) E R R' (by omega) hE2 hR hR2
        show nar32 (min R Ieee.double.infRung) = min R' Ieee.single.infRung
        rw [inf64, inf32]
        have hw : ∀ x, Ieee.double.word false x = x := fun _ => rfl
        have hw2 : ∀ x, Ieee.single.word false x = x := fun _ => rfl
        by_cases h : R < 9218868437227405312
        · rw [Nat.min_eq_left (by omega), ← hw R, nar_word false _ (by omega), ← hE, htw, hw2]
        · rw [Nat.min_eq_right (by omega)]
          have h1 := nar_inf false
          rw [inf64, inf32, hw, hw2] at h1
          rw [h1]
          have hv := rnd32_mono (show 5183643170835005440 ≤ R by omega)
          rw [rnd_beyond, ← hE, htw] at hv
          rw [Nat.min_eq_right hv]
end Go.Proofs.Ytdiinhccfifiaab
