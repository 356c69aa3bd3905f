/- A root lies between the middles. -/
import Derived.Test.YtmkploknoohliaaGreatNF
namespace Go.Proofs.YtmkploknoohliaaGreat
namespace Flt
set_option linter.unusedVariables false
set_option linter.unusedSimpArgs false
open Ieee

theorem rootFrom_spec (n : Nat) : ∀ (todo root : Nat), root * root ≤ n → n < (root + 2 ^ todo) * (root + 2 ^ todo) → Datum.rootFrom n todo root * Datum.rootFrom n todo root ≤ n ∧ n < (Datum.rootFrom n todo root + 1) * (Datum.rootFrom n todo root + 1) := by
  intro todo
  induction todo with
  | zero => intro root h1 h2; exact ⟨h1, h2⟩
  | succ t ih =>
    intro root h1 h2
    have e : Datum.rootFrom n (t + 1) root = Datum.rootFrom n t (if (root + 1 <<< t) * (root + 1 <<< t) ≤ n then root + 1 <<< t else root) := rfl
    rw [e, Nat.one_shiftLeft]
    by_cases h : (root + 2 ^ t) * (root + 2 ^ t) ≤ n
    · rw [if_pos h]
      refine ih _ h ?_
      rw [show root + 2 ^ t + 2 ^ t = root + 2 ^ (t + 1) by rw [Nat.pow_succ]; omega]
      exact h2
    · rw [if_neg h]
      exact ih _ h1 (by omega)

theorem isqrt (n : Nat) : Datum.rootFrom n (n.log2 / 2 + 1) 0 * Datum.rootFrom n (n.log2 / 2 + 1) 0 ≤ n ∧ n < (Datum.rootFrom n (n.log2 / 2 + 1) 0 + 1) * (Datum.rootFrom n (n.log2 / 2 + 1) 0 + 1) := by
  refine rootFrom_spec n _ 0 (by omega) ?_
  rw [Nat.zero_add, ← Nat.pow_add]
  exact Nat.lt_of_lt_of_le Nat.lt_log2_self (Nat.pow_le_pow_right (by omega) (by omega))

theorem sq_le {a b : Nat} (h : a ≤ b) : a * a ≤ b * b := Nat.mul_le_mul h h

theorem root_mid (m k T ep em more R w : Nat) (hm0 : m ≠ 0) (hw1 : w * w ≤ m * 2 ^ more) (hw2 : m * 2 ^ more < (w + 1) * (w + 1)) (hbig : 2 ^ 108 ≤ m * 2 ^ more) (hrel : 2 * ep + more + 4 = k + T + 2 * em)
    (hR : R = rnd double ((2 * w + (w * w != m * 2 ^ more).toNat) * 2 ^ ep) (2 ^ em)) :
    (R ≠ 0 → (V double R + V double (R - 1)) * (V double R + V double (R - 1)) ≤ m * 2 ^ k * 2 ^ T) ∧ m * 2 ^ k * 2 ^ T ≤ (V double R + V double (R + 1)) * (V double R + V double (R + 1)) := by
  generalize hd : m * 2 ^ more = d at *
  have hwb : 2 ^ 54 ≤ w := by
    rcases Nat.lt_or_ge w (2 ^ 54) with h | h
    · exfalso
      have := sq_le (show w + 1 ≤ 2 ^ 54 from h)
      rw [← Nat.pow_add] at this
      omega
    · exact h
  have hQ : 2 ^ 54 ≤ 2 * w + (w * w != d).toNat := by omega
  have sle : ∀ y, 2 * y ≤ 2 * w + (w * w != d).toNat → y * y ≤ d := by
    intro y h
    have : (w * w != d).toNat ≤ 1 := Bool.toNat_le _
    exact Nat.le_trans (sq_le (show y ≤ w by omega)) hw1
  have sge : ∀ y, 2 * w + (w * w != d).toNat ≤ 2 * y → d ≤ y * y := by
    intro y h
    by_cases h0 : w * w = d
    · rw [← h0]; exact sq_le (by omega)
    · have e : (w * w != d).toNat = 1 := by
        have : (w * w != d) = true := by simp [h0]
        rw [this]; rfl
      rw [e] at h
      exact Nat.le_of_lt (Nat.lt_of_lt_of_le hw2 (sq_le (by omega)))
  generalize 2 * w + (w * w != d).toNat = Q at *
  obtain ⟨r, s1, s2, s3⟩ := rnd_spec double (by decide) (Q * 2 ^ ep) (2 ^ em) (Nat.two_pow_pos _)
  rw [← hR] at s3
  obtain ⟨c, v1, v2, v3⟩ := V_form double r
  generalize r / double.binade - 1 = kk at *
  have hc1 : c + 1 ≤ 2 ^ 53 := by
    have : 2 * double.binade = 2 ^ 53 := by decide
    omega
  have hkk : ep + 2 ≤ kk + em := by
    have h1 : 2 ^ (54 + ep) < 2 ^ (53 + kk + em) := by
      rw [Nat.pow_add 2 54, Nat.pow_add 2 (53 + kk), Nat.pow_add 2 53]
      rw [v2] at s2
      refine Nat.lt_of_le_of_lt (Nat.mul_le_mul_right (2 ^ ep) hQ) (Nat.lt_of_lt_of_le s2 ?_)
      exact Nat.mul_le_mul_right _ (Nat.mul_le_mul_right _ hc1)
    have := (Nat.pow_lt_pow_iff_right (by omega : 1 < 2)).1 h1
    omega
  obtain ⟨s, hs⟩ : ∃ s, kk + em = ep + 2 + s := ⟨kk + em - (ep + 2), by omega⟩
  have hsp : ∀ u : Nat, u * 2 ^ kk * 2 ^ em = u * 4 * 2 ^ s * 2 ^ ep := by
    intro u
    rw [Nat.mul_assoc u, ← Nat.pow_add, hs, Nat.pow_add, Nat.pow_add, show (2 : Nat) ^ 2 = 4 from rfl, Nat.mul_assoc u 4, Nat.mul_assoc u, Nat.mul_assoc (2 ^ ep), Nat.mul_comm (2 ^ ep)]
  have cancel : ∀ x y : Nat, x * 2 ^ ep ≤ y * 2 ^ ep → x ≤ y := fun x y h => Nat.le_of_mul_le_mul_right h (Nat.two_pow_pos _)
  have cancelt : ∀ x y : Nat, x * 2 ^ ep < y * 2 ^ ep → x < y := fun x y h => Nat.lt_of_mul_lt_mul_right h
  have e1 : m * 2 ^ k * 2 ^ T * 2 ^ (2 * em) = d * 2 ^ (2 * ep + 4) := by
    rw [← hd, Nat.mul_assoc, Nat.mul_assoc, Nat.mul_assoc, ← Nat.pow_add, ← Nat.pow_add, ← Nat.pow_add]
    exact congrArg _ (pow_split (by omega))
  have e2 : ∀ u : Nat, u * 2 ^ kk * (u * 2 ^ kk) * 2 ^ (2 * em) = u * 2 ^ s * (u * 2 ^ s) * 2 ^ (2 * ep + 4) := by
    intro u
    have e3 : 2 ^ kk * 2 ^ kk * 2 ^ (2 * em) = 2 ^ s * 2 ^ s * 2 ^ (2 * ep + 4) := by rw [← Nat.pow_add, ← Nat.pow_add, ← Nat.pow_add, ← Nat.pow_add]; exact pow_split (by omega)
    have g : ∀ P E : Nat, u * P * (u * P) * E = u * u * (P * P * E) := by
      intro P E
      simp only [Nat.mul_assoc, Nat.mul_left_comm]
    rw [g, g, e3]
  have up : ∀ u, d ≤ u * 2 ^ s * (u * 2 ^ s) → m * 2 ^ k * 2 ^ T ≤ u * 2 ^ kk * (u * 2 ^ kk) := by
    intro u hu
    refine Nat.le_of_mul_le_mul_right (c := 2 ^ (2 * em)) ?_ (Nat.two_pow_pos _)
    rw [e1, e2]; exact Nat.mul_le_mul_right _ hu
  have dn : ∀ u, u * 2 ^ s * (u * 2 ^ s) ≤ d → u * 2 ^ kk * (u * 2 ^ kk) ≤ m * 2 ^ k * 2 ^ T := by
    intro u hu
    refine Nat.le_of_mul_le_mul_right (c := 2 ^ (2 * em)) ?_ (Nat.two_pow_pos _)
    rw [e1, e2]; exact Nat.mul_le_mul_right _ hu
  have hlo : c * 4 * 2 ^ s ≤ Q := cancel _ _ (by rw [← hsp, ← v1]; exact s1)
  have hhi : Q < (c + 1) * 4 * 2 ^ s := cancelt _ _ (by rw [← hsp, ← v2]; exact s2)
  have hmid : (V double r + V double (r + 1)) * 2 ^ em = (2 * c + 1) * 4 * 2 ^ s * 2 ^ ep := by
    rw [v1, v2, ← Nat.add_mul, ← hsp, show c + (c + 1) = 2 * c + 1 by omega]
  have hmv : V double r + V double (r + 1) = (2 * c + 1) * 2 ^ kk := by rw [v1, v2, ← Nat.add_mul, show c + (c + 1) = 2 * c + 1 by omega]
  rw [hmid] at s3
  by_cases hbit : (2 * c + 1) * 4 * 2 ^ s * 2 ^ ep < 2 * (Q * 2 ^ ep) ∨ ((2 * c + 1) * 4 * 2 ^ s * 2 ^ ep = 2 * (Q * 2 ^ ep) ∧ r % 2 = 1)
  · rw [if_pos hbit] at s3
    subst s3
    have hle : (2 * c + 1) * 4 * 2 ^ s * 2 ^ ep ≤ 2 * Q * 2 ^ ep := by
      rw [Nat.mul_assoc 2]
      rcases hbit with h | h
      · exact Nat.le_of_lt h
      · exact Nat.le_of_eq h.1
    have h2 := cancel _ _ hle
    have h3 : 2 * ((2 * c + 1) * 2 ^ s) ≤ Q := by
      have e : (2 * c + 1) * 4 * 2 ^ s = 2 * (2 * ((2 * c + 1) * 2 ^ s)) := by rw [Nat.mul_right_comm]; omega
      rw [e] at h2
      exact Nat.le_of_mul_le_mul_left h2 (by omega)
    refine ⟨fun _ => ?_, ?_⟩
    · rw [Nat.add_sub_cancel, Nat.add_comm (V double (r + 1)), hmv]
      exact dn _ (sle _ h3)
    · have h4 : Q ≤ 2 * ((2 * (c + 1)) * 2 ^ s) := by
        have e : (c + 1) * 4 * 2 ^ s = 2 * ((2 * (c + 1)) * 2 ^ s) := by rw [Nat.mul_right_comm, Nat.mul_assoc 2]; omega
        rw [e] at hhi
        exact Nat.le_of_lt hhi
      refine Nat.le_trans (up _ (sge _ h4)) (sq_le ?_)
      have := V_lt (f := double) (Nat.lt_succ_self (r + 1))
      rw [Nat.mul_assoc 2, ← v2]
      show 2 * V double (r + 1) ≤ V double (r + 1) + V double (r + 1 + 1)
      generalize V double (r + 1) = p at *
      generalize V double (r + 1 + 1) = q at *
      omega
  · rw [if_neg hbit, Nat.add_zero] at s3
    subst s3
    have hge : 2 * Q * 2 ^ ep ≤ (2 * c + 1) * 4 * 2 ^ s * 2 ^ ep := by
      rw [Nat.mul_assoc 2]
      exact Nat.le_of_not_lt fun h => hbit (.inl h)
    have h2 := cancel _ _ hge
    refine ⟨fun h0 => ?_, ?_⟩
    · have h4 : 2 * ((2 * c) * 2 ^ s) ≤ Q := by
        have e : c * 4 * 2 ^ s = 2 * ((2 * c) * 2 ^ s) := by rw [Nat.mul_right_comm, Nat.mul_assoc 2]; omega
        rw [e] at hlo
        exact hlo
      refine Nat.le_trans (sq_le ?_) (dn _ (sle _ h4))
      have hv := V_le (f := double) (show R - 1 ≤ R by omega)
      rw [Nat.mul_assoc 2, ← v1]
      generalize V double R = p at *
      generalize V double (R - 1) = q at *
      omega
    · rw [hmv]
      refine up _ (sge _ ?_)
      have e : (2 * c + 1) * 4 * 2 ^ s = 2 * (2 * ((2 * c + 1) * 2 ^ s)) := by rw [Nat.mul_right_comm]; omega
      rw [e] at h2
      exact Nat.le_of_mul_le_mul_left h2 (by omega)

/-- The root of a number above nought. -/
theorem sqrt_mid (a T : Nat) (ha : rg double a < double.infRung) (ha0 : rg double a ≠ 0) (hsa : sg double a = false) (hT : T = 1076) :
    ∃ R, R < double.infRung ∧ R ≠ 0 ∧ double.sqrt a = some R ∧ (V double R + V double (R - 1)) * (V double R + V double (R - 1)) ≤ V double (rg double a) * 2 ^ T ∧ V double (rg double a) * 2 ^ T ≤ (V double R + V double (R + 1)) * (V double R + V double (R + 1)) := by
  obtain ⟨m, k, e1, e2, e3, _⟩ := read_fin double a ha
  rw [hsa] at e1
  have hva : V double (rg double a) ≠ 0 := by
    intro h; apply ha0; exact V_inj (f := double) (by rw [h, V_zero])
  have hm0 : m ≠ 0 := by rintro rfl; rw [Nat.zero_mul] at e2; exact hva e2.symm
  have hbin : 2 * double.binade = 2 ^ 53 := by decide
  have hml : m.log2 ≤ 52 := by have : m.log2 < 53 := (Nat.log2_lt hm0).2 (by omega); omega
  have hl1 : double.leastPlace = -1074 := by decide
  obtain ⟨m0, hm0'⟩ : ∃ m0, m0 = 108 - m.log2 := ⟨_, rfl⟩
  obtain ⟨more, hmore⟩ : ∃ more : Nat, more = m0 + ((double.leastPlace + (k : Int) - (m0 : Int)) % 2).toNat := ⟨_, rfl⟩
  obtain ⟨ep, hep⟩ : ∃ ep : Nat, ep = ((double.leastPlace + (k : Int) - (more : Int)) / 2 - 1 - double.leastPlace).toNat := ⟨_, rfl⟩
  obtain ⟨em, hem⟩ : ∃ em : Nat, em = (double.leastPlace - ((double.leastPlace + (k : Int) - (more : Int)) / 2 - 1)).toNat := ⟨_, rfl⟩
  have hev : (double.leastPlace + (k : Int) - (more : Int)) % 2 = 0 := by rw [hmore]; omega
  have hrel : 2 * ep + more + 4 = k + T + 2 * em := by rw [hl1] at hep hem hev; omega
  have hbig : 2 ^ 108 ≤ m * 2 ^ more := by
    have := Nat.mul_le_mul_right (2 ^ more) (Nat.log2_self_le hm0)
    rw [← Nat.pow_add] at this
    exact Nat.le_trans (Nat.pow_le_pow_right (by omega) (by omega)) this
  obtain ⟨w1, w2⟩ := isqrt (m * 2 ^ more)
  have hdiv : double.sqrt a = some (min (rnd double ((2 * Datum.rootFrom (m * 2 ^ more) ((m * 2 ^ more).log2 / 2 + 1) 0 + (Datum.rootFrom (m * 2 ^ more) ((m * 2 ^ more).log2 / 2 + 1) 0 * Datum.rootFrom (m * 2 ^ more) ((m * 2 ^ more).log2 / 2 + 1) 0 != m * 2 ^ more).toNat) * 2 ^ ep) (2 ^ em)) double.infRung) := by
    unfold Format.sqrt
    rw [e1]
    simp only [Datum.root, if_neg hm0, Bool.false_eq_true, if_false, Option.map_some, Format.write]
    have hmo : 2 * (double.fractionBits + 2) - m.log2 = m0 := by rw [hm0']; rfl
    rw [hmo, ← hmore, nearest_rnd, Nat.shiftLeft_eq]
    have hw : ∀ x, double.word false x = x := fun _ => rfl
    rw [← hep, ← hem, hw]
  obtain ⟨h1, h2⟩ := root_mid m k T ep em more _ _ hm0 w1 w2 hbig hrel rfl
  rw [e2] at h1 h2
  generalize rnd double ((2 * Datum.rootFrom (m * 2 ^ more) ((m * 2 ^ more).log2 / 2 + 1) 0 + (Datum.rootFrom (m * 2 ^ more) ((m * 2 ^ more).log2 / 2 + 1) 0 * Datum.rootFrom (m * 2 ^ more) ((m * 2 ^ more).log2 / 2 + 1) 0 != m * 2 ^ more).toNat) * 2 ^ ep) (2 ^ em) = R at *
  have hX : V double (rg double a) < V double double.infRung := V_lt ha
  generalize V double (rg double a) = X at *
  have hR0 : R ≠ 0 := by
    rintro rfl
    rw [V_zero, show V double (0 + 1) = 1 by decide +kernel] at h2
    have hp : 2 ^ 1 ≤ 2 ^ T := Nat.pow_le_pow_right (by omega) (by omega)
    have : 1 * 2 ^ T ≤ X * 2 ^ T := Nat.mul_le_mul_right _ (by omega)
    omega
  have hRF : R < double.infRung := by
    rcases Nat.lt_or_ge R double.infRung with h | h
    · exact h
    · exfalso
      have hv := V_le (f := double) h
      have h3 := Nat.le_trans (sq_le (Nat.le_trans hv (Nat.le_add_right _ (V double (R - 1))))) (h1 hR0)
      rw [V_inf double (by decide)] at h3 hX
      have h4 : X * 2 ^ T < 2 ^ (double.fractionBits + (2 ^ double.exponentBits - 2)) * 2 ^ T := Nat.mul_lt_mul_of_pos_right hX (Nat.two_pow_pos _)
      rw [← Nat.pow_add] at h3 h4
      have h5 := (Nat.pow_lt_pow_iff_right (by omega : 1 < 2)).1 (Nat.lt_of_le_of_lt h3 h4)
      have h6 : double.fractionBits + (2 ^ double.exponentBits - 2) = 2098 := by decide
      omega
  exact ⟨R, hRF, hR0, by rw [hdiv, Nat.min_eq_left (Nat.le_of_lt hRF)], h1 hR0, h2⟩
end Flt
end Go.Proofs.YtmkploknoohliaaGreat
