/- Operations of infinities and NaNs; what is told of finite ones, by units. -/
import Derived.Test.YtleffbpjjbiobaaGreatDoorNF
import Derived.Test.YtleffbpjjbiobaaGreatDoorRC
/- A root lies between the middles. -/
namespace Go.Proofs.YtleffbpjjbiobaaGreatDoor
namespace Flt
set_option linter.unusedVariables false
set_option linter.unusedSimpArgs false
open Ieee

theorem rootFrom_spec (n : Nat) : ∀ (todo root : Nat), root * root ≤ n → n < (root + 2 ^ todo) * (root + 2 ^ todo) → Datum.rootFrom n todo root * Datum.rootFrom n todo root ≤ n ∧ n < (Datum.rootFrom n todo root + 1) * (Datum.rootFrom n todo root + 1) := by
  intro todo
  induction todo with
  | zero => intro root h1 h2; exact ⟨h1, h2⟩
  | succ t ih =>
    intro root h1 h2
    have e : Datum.rootFrom n (t + 1) root = Datum.rootFrom n t (if (root + 1 <<< t) * (root + 1 <<< t) ≤ n then root + 1 <<< t else root) := rfl
    rw [e, Nat.one_shiftLeft]
    by_cases h : (root + 2 ^ t) * (root + 2 ^ t) ≤ n
    · rw [if_pos h]
      refine ih _ h ?_
      rw [show root + 2 ^ t + 2 ^ t = root + 2 ^ (t + 1) by rw [Nat.pow_succ]; omega]
      exact h2
    · rw [if_neg h]
      exact ih _ h1 (by omega)

theorem isqrt (n : Nat) : Datum.rootFrom n (n.log2 / 2 + 1) 0 * Datum.rootFrom n (n.log2 / 2 + 1) 0 ≤ n ∧ n < (Datum.rootFrom n (n.log2 / 2 + 1) 0 + 1) * (Datum.rootFrom n (n.log2 / 2 + 1) 0 + 1) := by
  refine rootFrom_spec n _ 0 (by omega) ?_
  rw [Nat.zero_add, ← Nat.pow_add]
  exact Nat.lt_of_lt_of_le Nat.lt_log2_self (Nat.pow_le_pow_right (by omega) (by omega))

theorem sq_le {a b : Nat} (h : a ≤ b) : a * a ≤ b * b := Nat.mul_le_mul h h

theorem root_mid (m k T ep em more R w : Nat) (hm0 : m ≠ 0) (hw1 : w * w ≤ m * 2 ^ more) (hw2 : m * 2 ^ more < (w + 1) * (w + 1)) (hbig : 2 ^ 108 ≤ m * 2 ^ more) (hrel : 2 * ep + more + 4 = k + T + 2 * em)
    (hR : R = rnd double ((2 * w + (w * w != m * 2 ^ more).toNat) * 2 ^ ep) (2 ^ em)) :
    (R ≠ 0 → (V double R + V double (R - 1)) * (V double R + V double (R - 1)) ≤ m * 2 ^ k * 2 ^ T) ∧ m * 2 ^ k * 2 ^ T ≤ (V double R + V double (R + 1)) * (V double R + V double (R + 1)) := by
  generalize hd : m * 2 ^ more = d at *
  have hwb : 2 ^ 54 ≤ w := by
    rcases Nat.lt_or_ge w (2 ^ 54) with h | h
    · exfalso
      have := sq_le (show w + 1 ≤ 2 ^ 54 from h)
      rw [← Nat.pow_add] at this
      omega
    · exact h
  have hQ : 2 ^ 54 ≤ 2 * w + (w * w != d).toNat := by omega
  have sle : ∀ y, 2 * y ≤ 2 * w + (w * w != d).toNat → y * y ≤ d := by
    intro y h
    have : (w * w != d).toNat ≤ 1 := Bool.toNat_le _
    exact Nat.le_trans (sq_le (show y ≤ w by omega)) hw1
  have sge : ∀ y, 2 * w + (w * w != d).toNat ≤ 2 * y → d ≤ y * y := by
    intro y h
    by_cases h0 : w * w = d
    · rw [← h0]; exact sq_le (by omega)
    · have e : (w * w != d).toNat = 1 := by
        have : (w * w != d) = true := by simp [h0]
        rw [this]; rfl
      rw [e] at h
      exact Nat.le_of_lt (Nat.lt_of_lt_of_le hw2 (sq_le (by omega)))
  generalize 2 * w + (w * w != d).toNat = Q at *
  obtain ⟨r, s1, s2, s3⟩ := rnd_spec double (by decide) (Q * 2 ^ ep) (2 ^ em) (Nat.two_pow_pos _)
  rw [← hR] at s3
  obtain ⟨c, v1, v2, v3⟩ := V_form double r
  generalize r / double.binade - 1 = kk at *
  have hc1 : c + 1 ≤ 2 ^ 53 := by
    have : 2 * double.binade = 2 ^ 53 := by decide
    omega
  have hkk : ep + 2 ≤ kk + em := by
    have h1 : 2 ^ (54 + ep) < 2 ^ (53 + kk + em) := by
      rw [Nat.pow_add 2 54, Nat.pow_add 2 (53 + kk), Nat.pow_add 2 53]
      rw [v2] at s2
      refine Nat.lt_of_le_of_lt (Nat.mul_le_mul_right (2 ^ ep) hQ) (Nat.lt_of_lt_of_le s2 ?_)
      exact Nat.mul_le_mul_right _ (Nat.mul_le_mul_right _ hc1)
    have := (Nat.pow_lt_pow_iff_right (by omega : 1 < 2)).1 h1
    omega
  obtain ⟨s, hs⟩ : ∃ s, kk + em = ep + 2 + s := ⟨kk + em - (ep + 2), by omega⟩
  have hsp : ∀ u : Nat, u * 2 ^ kk * 2 ^ em = u * 4 * 2 ^ s * 2 ^ ep := by
    intro u
    rw [Nat.mul_assoc u, ← Nat.pow_add, hs, Nat.pow_add, Nat.pow_add, show (2 : Nat) ^ 2 = 4 from rfl, Nat.mul_assoc u 4, Nat.mul_assoc u, Nat.mul_assoc (2 ^ ep), Nat.mul_comm (2 ^ ep)]
  have cancel : ∀ x y : Nat, x * 2 ^ ep ≤ y * 2 ^ ep → x ≤ y := fun x y h => Nat.le_of_mul_le_mul_right h (Nat.two_pow_pos _)
  have cancelt : ∀ x y : Nat, x * 2 ^ ep < y * 2 ^ ep → x < y := fun x y h => Nat.lt_of_mul_lt_mul_right h
  have e1 : m * 2 ^ k * 2 ^ T * 2 ^ (2 * em) = d * 2 ^ (2 * ep + 4) := by
    rw [← hd, Nat.mul_assoc, Nat.mul_assoc, Nat.mul_assoc, ← Nat.pow_add, ← Nat.pow_add, ← Nat.pow_add]
    exact congrArg _ (pow_split (by omega))
  have e2 : ∀ u : Nat, u * 2 ^ kk * (u * 2 ^ kk) * 2 ^ (2 * em) = u * 2 ^ s * (u * 2 ^ s) * 2 ^ (2 * ep + 4) := by
    intro u
    have e3 : 2 ^ kk * 2 ^ kk * 2 ^ (2 * em) = 2 ^ s * 2 ^ s * 2 ^ (2 * ep + 4) := by rw [← Nat.pow_add, ← Nat.pow_add, ← Nat.pow_add, ← Nat.pow_add]; exact pow_split (by omega)
    have g : ∀ P E : Nat, u * P * (u * P) * E = u * u * (P * P * E) := by
      intro P E
      simp only [Nat.mul_assoc, Nat.mul_left_comm]
    rw [g, g, e3]
  have up : ∀ u, d ≤ u * 2 ^ s * (u * 2 ^ s) → m * 2 ^ k * 2 ^ T ≤ u * 2 ^ kk * (u * 2 ^ kk) := by
    intro u hu
    refine Nat.le_of_mul_le_mul_right (c := 2 ^ (2 * em)) ?_ (Nat.two_pow_pos _)
    rw [e1, e2]; exact Nat.mul_le_mul_right _ hu
  have dn : ∀ u, u * 2 ^ s * (u * 2 ^ s) ≤ d → u * 2 ^ kk * (u * 2 ^ kk) ≤ m * 2 ^ k * 2 ^ T := by
    intro u hu
    refine Nat.le_of_mul_le_mul_right (c := 2 ^ (2 * em)) ?_ (Nat.two_pow_pos _)
    rw [e1, e2]; exact Nat.mul_le_mul_right _ hu
  have hlo : c * 4 * 2 ^ s ≤ Q := cancel _ _ (by rw [← hsp, ← v1]; exact s1)
  have hhi : Q < (c + 1) * 4 * 2 ^ s := cancelt _ _ (by rw [← hsp, ← v2]; exact s2)
  have hmid : (V double r + V double (r + 1)) * 2 ^ em = (2 * c + 1) * 4 * 2 ^ s * 2 ^ ep := by
    rw [v1, v2, ← Nat.add_mul, ← hsp, show c + (c + 1) = 2 * c + 1 by omega]
  have hmv : V double r + V double (r + 1) = (2 * c + 1) * 2 ^ kk := by rw [v1, v2, ← Nat.add_mul, show c + (c + 1) = 2 * c + 1 by omega]
  rw [hmid] at s3
  by_cases hbit : (2 * c + 1) * 4 * 2 ^ s * 2 ^ ep < 2 * (Q * 2 ^ ep) ∨ ((2 * c + 1) * 4 * 2 ^ s * 2 ^ ep = 2 * (Q * 2 ^ ep) ∧ r % 2 = 1)
  · rw [if_pos hbit] at s3
    subst s3
    have hle : (2 * c + 1) * 4 * 2 ^ s * 2 ^ ep ≤ 2 * Q * 2 ^ ep := by
      rw [Nat.mul_assoc 2]
      rcases hbit with h | h
      · exact Nat.le_of_lt h
      · exact Nat.le_of_eq h.1
    have h2 := cancel _ _ hle
    have h3 : 2 * ((2 * c + 1) * 2 ^ s) ≤ Q := by
      have e : (2 * c + 1) * 4 * 2 ^ s = 2 * (2 * ((2 * c + 1) * 2 ^ s)) := by rw [Nat.mul_right_comm]; omega
      rw [e] at h2
      exact Nat.le_of_mul_le_mul_left h2 (by omega)
    refine ⟨fun _ => ?_, ?_⟩
    · rw [Nat.add_sub_cancel, Nat.add_comm (V double (r + 1)), hmv]
      exact dn _ (sle _ h3)
    · have h4 : Q ≤ 2 * ((2 * (c + 1)) * 2 ^ s) := by
        have e : (c + 1) * 4 * 2 ^ s = 2 * ((2 * (c + 1)) * 2 ^ s) := by rw [Nat.mul_right_comm, Nat.mul_assoc 2]; omega
        rw [e] at hhi
        exact Nat.le_of_lt hhi
      refine Nat.le_trans (up _ (sge _ h4)) (sq_le ?_)
      have := V_lt (f := double) (Nat.lt_succ_self (r + 1))
      rw [Nat.mul_assoc 2, ← v2]
      show 2 * V double (r + 1) ≤ V double (r + 1) + V double (r + 1 + 1)
      generalize V double (r + 1) = p at *
      generalize V double (r + 1 + 1) = q at *
      omega
  · rw [if_neg hbit, Nat.add_zero] at s3
    subst s3
    have hge : 2 * Q * 2 ^ ep ≤ (2 * c + 1) * 4 * 2 ^ s * 2 ^ ep := by
      rw [Nat.mul_assoc 2]
      exact Nat.le_of_not_lt fun h => hbit (.inl h)
    have h2 := cancel _ _ hge
    refine ⟨fun h0 => ?_, ?_⟩
    · have h4 : 2 * ((2 * c) * 2 ^ s) ≤ Q := by
        have e : c * 4 * 2 ^ s = 2 * ((2 * c) * 2 ^ s) := by rw [Nat.mul_right_comm, Nat.mul_assoc 2]; omega
        rw [e] at hlo
        exact hlo
      refine Nat.le_trans (sq_le ?_) (dn _ (sle _ h4))
      have hv := V_le (f := double) (show R - 1 ≤ R by omega)
      rw [Nat.mul_assoc 2, ← v1]
      generalize V double R = p at *
      generalize V double (R - 1) = q at *
      omega
    · rw [hmv]
      refine up _ (sge _ ?_)
      have e : (2 * c + 1) * 4 * 2 ^ s = 2 * (2 * ((2 * c + 1) * 2 ^ s)) := by rw [Nat.mul_right_comm]; omega
      rw [e] at h2
      exact Nat.le_of_mul_le_mul_left h2 (by omega)

/-- The root of a number above nought. -/
theorem sqrt_mid (a T : Nat) (ha : rg double a < double.infRung) (ha0 : rg double a ≠ 0) (hsa : sg double a = false) (hT : T = 1076) :
    ∃ R, R < double.infRung ∧ R ≠ 0 ∧ double.sqrt a = some R ∧ (V double R + V double (R - 1)) * (V double R + V double (R - 1)) ≤ V double (rg double a) * 2 ^ T ∧ V double (rg double a) * 2 ^ T ≤ (V double R + V double (R + 1)) * (V double R + V double (R + 1)) := by
  obtain ⟨m, k, e1, e2, e3, _⟩ := read_fin double a ha
  rw [hsa] at e1
  have hva : V double (rg double a) ≠ 0 := by
    intro h; apply ha0; exact V_inj (f := double) (by rw [h, V_zero])
  have hm0 : m ≠ 0 := by rintro rfl; rw [Nat.zero_mul] at e2; exact hva e2.symm
  have hbin : 2 * double.binade = 2 ^ 53 := by decide
  have hml : m.log2 ≤ 52 := by have : m.log2 < 53 := (Nat.log2_lt hm0).2 (by omega); omega
  have hl1 : double.leastPlace = -1074 := by decide
  obtain ⟨m0, hm0'⟩ : ∃ m0, m0 = 108 - m.log2 := ⟨_, rfl⟩
  obtain ⟨more, hmore⟩ : ∃ more : Nat, more = m0 + ((double.leastPlace + (k : Int) - (m0 : Int)) % 2).toNat := ⟨_, rfl⟩
  obtain ⟨ep, hep⟩ : ∃ ep : Nat, ep = ((double.leastPlace + (k : Int) - (more : Int)) / 2 - 1 - double.leastPlace).toNat := ⟨_, rfl⟩
  obtain ⟨em, hem⟩ : ∃ em : Nat, em = (double.leastPlace - ((double.leastPlace + (k : Int) - (more : Int)) / 2 - 1)).toNat := ⟨_, rfl⟩
  have hev : (double.leastPlace + (k : Int) - (more : Int)) % 2 = 0 := by rw [hmore]; omega
  have hrel : 2 * ep + more + 4 = k + T + 2 * em := by rw [hl1] at hep hem hev; omega
  have hbig : 2 ^ 108 ≤ m * 2 ^ more := by
    have := Nat.mul_le_mul_right (2 ^ more) (Nat.log2_self_le hm0)
    rw [← Nat.pow_add] at this
    exact Nat.le_trans (Nat.pow_le_pow_right (by omega) (by omega)) this
  obtain ⟨w1, w2⟩ := isqrt (m * 2 ^ more)
  have hdiv : double.sqrt a = some (min (rnd double ((2 * Datum.rootFrom (m * 2 ^ more) ((m * 2 ^ more).log2 / 2 + 1) 0 + (Datum.rootFrom (m * 2 ^ more) ((m * 2 ^ more).log2 / 2 + 1) 0 * Datum.rootFrom (m * 2 ^ more) ((m * 2 ^ more).log2 / 2 + 1) 0 != m * 2 ^ more).toNat) * 2 ^ ep) (2 ^ em)) double.infRung) := by
    unfold Format.sqrt
    rw [e1]
    simp only [Datum.root, if_neg hm0, Bool.false_eq_true, if_false, Option.map_some, Format.write]
    have hmo : 2 * (double.fractionBits + 2) - m.log2 = m0 := by rw [hm0']; rfl
    rw [hmo, ← hmore, nearest_rnd, Nat.shiftLeft_eq]
    have hw : ∀ x, double.word false x = x := fun _ => rfl
    rw [← hep, ← hem, hw]
  obtain ⟨h1, h2⟩ := root_mid m k T ep em more _ _ hm0 w1 w2 hbig hrel rfl
  rw [e2] at h1 h2
  generalize rnd double ((2 * Datum.rootFrom (m * 2 ^ more) ((m * 2 ^ more).log2 / 2 + 1) 0 + (Datum.rootFrom (m * 2 ^ more) ((m * 2 ^ more).log2 / 2 + 1) 0 * Datum.rootFrom (m * 2 ^ more) ((m * 2 ^ more).log2 / 2 + 1) 0 != m * 2 ^ more).toNat) * 2 ^ ep) (2 ^ em) = R at *
  have hX : V double (rg double a) < V double double.infRung := V_lt ha
  generalize V double (rg double a) = X at *
  have hR0 : R ≠ 0 := by
    rintro rfl
    rw [V_zero, show V double (0 + 1) = 1 by decide +kernel] at h2
    have hp : 2 ^ 1 ≤ 2 ^ T := Nat.pow_le_pow_right (by omega) (by omega)
    have : 1 * 2 ^ T ≤ X * 2 ^ T := Nat.mul_le_mul_right _ (by omega)
    omega
  have hRF : R < double.infRung := by
    rcases Nat.lt_or_ge R double.infRung with h | h
    · exact h
    · exfalso
      have hv := V_le (f := double) h
      have h3 := Nat.le_trans (sq_le (Nat.le_trans hv (Nat.le_add_right _ (V double (R - 1))))) (h1 hR0)
      rw [V_inf double (by decide)] at h3 hX
      have h4 : X * 2 ^ T < 2 ^ (double.fractionBits + (2 ^ double.exponentBits - 2)) * 2 ^ T := Nat.mul_lt_mul_of_pos_right hX (Nat.two_pow_pos _)
      rw [← Nat.pow_add] at h3 h4
      have h5 := (Nat.pow_lt_pow_iff_right (by omega : 1 < 2)).1 (Nat.lt_of_le_of_lt h3 h4)
      have h6 : double.fractionBits + (2 ^ double.exponentBits - 2) = 2098 := by decide
      omega
  exact ⟨R, hRF, hR0, by rw [hdiv, Nat.min_eq_left (Nat.le_of_lt hRF)], h1 hR0, h2⟩
end Flt
end Go.Proofs.YtleffbpjjbiobaaGreatDoor

/- The rung nearest to a square root. -/
namespace Go.Proofs.YtleffbpjjbiobaaGreatDoor
namespace Flt
set_option linter.unusedVariables false
set_option linter.unusedSimpArgs false
open Ieee

/-- R is the rung nearest to the square root of N / D. -/
def RtR (f : Format) (N D R : Nat) : Prop :=
  ∃ r, V f r * V f r * D ≤ N ∧ N < V f (r + 1) * V f (r + 1) * D ∧
    R = r + (if (V f r + V f (r + 1)) * (V f r + V f (r + 1)) * D < 4 * N ∨ ((V f r + V f (r + 1)) * (V f r + V f (r + 1)) * D = 4 * N ∧ r % 2 = 1) then 1 else 0)

theorem sq_lt {a b : Nat} (h : a < b) : a * a < b * b := Nat.mul_lt_mul_of_lt_of_lt h h
theorem sq_lt_iff {a b : Nat} : a * a < b * b ↔ a < b := by
  refine ⟨fun h => ?_, sq_lt⟩
  rcases Nat.lt_or_ge a b with h1 | h1
  · exact h1
  · have := sq_le h1; omega

theorem RtR.mono {f : Format} {N D R N' D' R' : Nat} (hD : 0 < D) (hD' : 0 < D') (h : RtR f N D R) (h' : RtR f N' D' R') (hle : N * D' ≤ N' * D) : R ≤ R' := by
  obtain ⟨r, a1, a2, a3⟩ := h
  obtain ⟨s, b1, b2, b3⟩ := h'
  rw [a3, b3]
  have hrs : r < s + 1 := by
    rw [← V_lt_iff (f := f), ← sq_lt_iff]
    refine Nat.lt_of_mul_lt_mul_right (a := D * D') ?_
    calc V f r * V f r * (D * D') = V f r * V f r * D * D' := by rw [Nat.mul_assoc (V f r * V f r)]
      _ ≤ N * D' := Nat.mul_le_mul_right _ a1
      _ ≤ N' * D := hle
      _ < V f (s + 1) * V f (s + 1) * D' * D := Nat.mul_lt_mul_of_pos_right b2 hD
      _ = V f (s + 1) * V f (s + 1) * (D * D') := by rw [Nat.mul_assoc (V f (s + 1) * V f (s + 1)), Nat.mul_comm D' D]
  rcases Nat.lt_or_ge r s with h1 | h1
  · split <;> split <;> omega
  · have : r = s := by omega
    subst this
    generalize (V f r + V f (r + 1)) * (V f r + V f (r + 1)) = M at *
    have key : (M * D < 4 * N ∨ (M * D = 4 * N ∧ r % 2 = 1)) → (M * D' < 4 * N' ∨ (M * D' = 4 * N' ∧ r % 2 = 1)) := by
      rintro (h2 | ⟨h2, h3⟩)
      · left
        refine Nat.lt_of_mul_lt_mul_right (a := D) ?_
        have := Nat.mul_lt_mul_of_pos_right h2 hD'
        calc M * D' * D = M * D * D' := Nat.mul_right_comm ..
          _ < 4 * N * D' := this
          _ = 4 * (N * D') := Nat.mul_assoc ..
          _ ≤ 4 * (N' * D) := Nat.mul_le_mul_left _ hle
          _ = 4 * N' * D := (Nat.mul_assoc ..).symm
      · have h4 : M * D' * D ≤ 4 * N' * D := by
          calc M * D' * D = M * D * D' := Nat.mul_right_comm ..
            _ = 4 * N * D' := by rw [h2]
            _ = 4 * (N * D') := Nat.mul_assoc ..
            _ ≤ 4 * (N' * D) := Nat.mul_le_mul_left _ hle
            _ = 4 * N' * D := (Nat.mul_assoc ..).symm
        have h5 := Nat.le_of_mul_le_mul_right h4 hD
        rcases Nat.lt_or_ge (M * D') (4 * N') with h6 | h6
        · exact .inl h6
        · exact .inr ⟨by omega, h3⟩
    by_cases h2 : M * D < 4 * N ∨ (M * D = 4 * N ∧ r % 2 = 1)
    · rw [if_pos h2, if_pos (key h2)]; exact Nat.le_refl _
    · rw [if_neg h2]; split <;> omega

theorem RtR.uniq {f : Format} {N D R N' D' R' : Nat} (hD : 0 < D) (hD' : 0 < D') (h : RtR f N D R) (h' : RtR f N' D' R') (he : N * D' = N' * D) : R = R' :=
  Nat.le_antisymm (h.mono hD hD' h' (Nat.le_of_eq he)) (h'.mono hD' hD h (Nat.le_of_eq he.symm))

theorem root_rung (f : Format) (hf : 1 ≤ f.fractionBits) (N D P Q w A B : Nat) (st : Bool) (hD : 0 < D) (hQ : 0 < Q) (h1 : w * w * Q ≤ P) (h2 : P < (w + 1) * (w + 1) * Q) (h3 : st = true ↔ w * w * Q ≠ P)
    (hw : 2 ^ (f.fractionBits + 1) ≤ w) (hrel : N * (Q * 2 ^ (2 * B)) = 4 * (P * (D * 2 ^ (2 * A)))) : RtR f N D (rnd f ((2 * w + st.toNat) * 2 ^ A) (2 ^ B)) := by
  -- what the digits say of any number
  have lt1 : ∀ y, 2 * y < 2 * w + st.toNat ↔ y * y * Q < P := by
    intro y
    cases st with
    | false =>
      have e : w * w * Q = P := Classical.byContradiction fun h => by simpa using h3.2 h
      rw [← e, show (false.toNat) = 0 from rfl]
      constructor
      · intro h; exact Nat.mul_lt_mul_of_pos_right (sq_lt (by omega)) hQ
      · intro h; have := sq_lt_iff.1 (Nat.lt_of_mul_lt_mul_right h); omega
    | true =>
      have e : w * w * Q ≠ P := h3.1 rfl
      rw [show (true.toNat) = 1 from rfl]
      constructor
      · intro h; have := Nat.mul_le_mul_right Q (sq_le (show y ≤ w by omega)); omega
      · intro h; have := sq_lt_iff.1 (Nat.lt_of_mul_lt_mul_right (Nat.lt_trans h h2)); omega
  have eq1 : ∀ y, 2 * y = 2 * w + st.toNat ↔ y * y * Q = P := by
    intro y
    cases st with
    | false =>
      have e : w * w * Q = P := Classical.byContradiction fun h => by simpa using h3.2 h
      rw [← e, show (false.toNat) = 0 from rfl]
      constructor
      · intro h; have : y = w := by omega
        rw [this]
      · intro h
        have h5 := Nat.eq_of_mul_eq_mul_right hQ h
        rcases Nat.lt_trichotomy y w with h6 | h6 | h6
        · have := sq_lt h6; omega
        · omega
        · have := sq_lt h6; omega
    | true =>
      have e : w * w * Q ≠ P := h3.1 rfl
      rw [show (true.toNat) = 1 from rfl]
      constructor
      · intro h; omega
      · intro h
        exfalso
        have h6 : y < w + 1 := sq_lt_iff.1 (Nat.lt_of_mul_lt_mul_right (Nat.lt_of_le_of_lt (Nat.le_of_eq h) h2))
        have h7 : ¬ y < w := fun h8 => by have := Nat.mul_lt_mul_of_pos_right (sq_lt h8) hQ; omega
        have : y = w := by omega
        rw [this] at h; exact e h
  have hq : 2 ^ (f.fractionBits + 2) ≤ 2 * w + st.toNat := by rw [Nat.pow_succ]; omega
  generalize 2 * w + st.toNat = q at *
  obtain ⟨r, s1, s2, s3⟩ := rnd_spec f hf (q * 2 ^ A) (2 ^ B) (Nat.two_pow_pos _)
  obtain ⟨c, v1, v2, v3⟩ := V_form f r
  generalize r / f.binade - 1 = kk at *
  have hkk : A + 2 ≤ kk + B := by
    have h4 : 2 ^ (f.fractionBits + 2 + A) < 2 ^ (f.fractionBits + 1 + kk + B) := by
      rw [Nat.pow_add 2 (f.fractionBits + 2), Nat.pow_add 2 (f.fractionBits + 1 + kk), Nat.pow_add 2 (f.fractionBits + 1)]
      rw [v2] at s2
      refine Nat.lt_of_le_of_lt (Nat.mul_le_mul_right (2 ^ A) hq) (Nat.lt_of_lt_of_le s2 ?_)
      refine Nat.mul_le_mul_right _ (Nat.mul_le_mul_right _ ?_)
      rw [Nat.pow_succ, Nat.mul_comm]; exact v3
    have := (Nat.pow_lt_pow_iff_right (by omega : 1 < 2)).1 h4
    omega
  obtain ⟨s, hs⟩ : ∃ s, kk + B = A + 2 + s := ⟨kk + B - (A + 2), by omega⟩
  have hsp : ∀ u : Nat, u * 2 ^ kk * 2 ^ B = 2 * (2 * u * 2 ^ s) * 2 ^ A := by
    intro u
    rw [Nat.mul_assoc u, ← Nat.pow_add, hs, Nat.pow_add, Nat.pow_add, show (2 : Nat) ^ 2 = 2 * 2 from rfl]
    simp only [Nat.mul_assoc, Nat.mul_left_comm, Nat.mul_comm]
  have canl : ∀ x y : Nat, x * 2 ^ A < y * 2 ^ A ↔ x < y := fun x y => Nat.mul_lt_mul_right (Nat.two_pow_pos A)
  have cane : ∀ x y : Nat, x * 2 ^ A = y * 2 ^ A ↔ x = y := fun x y => Nat.mul_right_cancel_iff (Nat.two_pow_pos A)
  -- a threshold, in units
  have tr : ∀ u y : Nat, u * 2 ^ B = 2 * y * 2 ^ A → u * u * D * (Q * 2 ^ (2 * B)) = 4 * (y * y * Q * (D * 2 ^ (2 * A))) := by
    intro u y h
    have e := congrArg (fun t => t * t) h
    rw [Nat.mul_comm 2 B, Nat.mul_comm 2 A, Nat.pow_mul, Nat.pow_mul]
    generalize 2 ^ B = b at *
    generalize 2 ^ A = a at *
    rw [show b ^ 2 = b * b from Nat.pow_two b, show a ^ 2 = a * a from Nat.pow_two a]
    calc u * u * D * (Q * (b * b)) = (u * b * (u * b)) * (D * Q) := by simp only [Nat.mul_assoc, Nat.mul_left_comm, Nat.mul_comm]
      _ = (2 * y * a * (2 * y * a)) * (D * Q) := by rw [e]
      _ = 4 * (y * y * Q * (D * (a * a))) := by
        rw [show (4 : Nat) = 2 * 2 from rfl]; simp only [Nat.mul_assoc, Nat.mul_left_comm, Nat.mul_comm]
  have hQB : 0 < Q * 2 ^ (2 * B) := Nat.mul_pos hQ (Nat.two_pow_pos _)
  have hDA : 0 < D * 2 ^ (2 * A) := Nat.mul_pos hD (Nat.two_pow_pos _)
  have ltN : ∀ u y : Nat, u * 2 ^ B = 2 * y * 2 ^ A → (u * u * D < N ↔ 2 * y < q) := by
    intro u y h
    rw [lt1, ← Nat.mul_lt_mul_right hQB, tr u y h, hrel, Nat.mul_lt_mul_left (by omega : 0 < 4), Nat.mul_lt_mul_right hDA]
  have eqN : ∀ u y : Nat, u * 2 ^ B = 2 * y * 2 ^ A → (u * u * D = N ↔ 2 * y = q) := by
    intro u y h
    rw [eq1, ← Nat.mul_right_cancel_iff hQB, tr u y h, hrel, Nat.mul_left_cancel_iff (by omega : 0 < 4), Nat.mul_right_cancel_iff hDA]
  have t1 : V f r * 2 ^ B = 2 * (2 * c * 2 ^ s) * 2 ^ A := by rw [v1, hsp]
  have t2 : V f (r + 1) * 2 ^ B = 2 * (2 * (c + 1) * 2 ^ s) * 2 ^ A := by rw [v2, hsp]
  have t3 : (V f r + V f (r + 1)) * 2 ^ B = 2 * (2 * ((2 * c + 1) * 2 ^ s)) * 2 ^ A := by
    rw [v1, v2, ← Nat.add_mul, show c + (c + 1) = 2 * c + 1 by omega, hsp, Nat.mul_assoc 2 (2 * c + 1)]
  refine ⟨r, ?_, ?_, ?_⟩
  · rw [t1, ] at s1
    have a1 := Nat.le_of_mul_le_mul_right s1 (Nat.two_pow_pos A)
    rcases Nat.lt_or_ge (2 * (2 * c * 2 ^ s)) q with h | h
    · exact Nat.le_of_lt ((ltN _ _ t1).2 h)
    · exact Nat.le_of_eq ((eqN _ _ t1).2 (Nat.le_antisymm a1 h))
  · rw [t2] at s2
    have a2 := (canl _ _).1 s2
    rcases Nat.lt_trichotomy N (V f (r + 1) * V f (r + 1) * D) with h | h | h
    · exact h
    · have := (eqN _ _ t2).1 h.symm; omega
    · have := (ltN _ _ t2).1 h; omega
  · rw [s3]
    refine congrArg _ ?_
    have e1 : (V f r + V f (r + 1)) * 2 ^ B < 2 * (q * 2 ^ A) ↔ 2 * ((2 * c + 1) * 2 ^ s) < q := by
      rw [t3, ← Nat.mul_assoc 2 q, canl]; omega
    have e2 : (V f r + V f (r + 1)) * 2 ^ B = 2 * (q * 2 ^ A) ↔ 2 * ((2 * c + 1) * 2 ^ s) = q := by
      rw [t3, ← Nat.mul_assoc 2 q, cane]; omega
    -- half of the sum
    have g1 : (V f r + V f (r + 1)) * (V f r + V f (r + 1)) * D < 4 * N ↔ 2 * ((2 * c + 1) * 2 ^ s) < q := by
      rw [lt1]
      rw [← Nat.mul_lt_mul_right hQB, tr _ _ t3, Nat.mul_assoc 4 N, hrel, Nat.mul_lt_mul_left (by omega : 0 < 4)]
      rw [show 2 * ((2 * c + 1) * 2 ^ s) * (2 * ((2 * c + 1) * 2 ^ s)) * Q * (D * 2 ^ (2 * A)) = 4 * ((2 * c + 1) * 2 ^ s * ((2 * c + 1) * 2 ^ s) * Q * (D * 2 ^ (2 * A))) by
        rw [show (4 : Nat) = 2 * 2 from rfl]; simp only [Nat.mul_assoc, Nat.mul_left_comm, Nat.mul_comm]]
      rw [Nat.mul_lt_mul_left (by omega : 0 < 4), Nat.mul_lt_mul_right hDA]
    have g2 : (V f r + V f (r + 1)) * (V f r + V f (r + 1)) * D = 4 * N ↔ 2 * ((2 * c + 1) * 2 ^ s) = q := by
      rw [eq1]
      rw [← Nat.mul_right_cancel_iff hQB, tr _ _ t3, Nat.mul_assoc 4 N, hrel, Nat.mul_left_cancel_iff (by omega : 0 < 4)]
      rw [show 2 * ((2 * c + 1) * 2 ^ s) * (2 * ((2 * c + 1) * 2 ^ s)) * Q * (D * 2 ^ (2 * A)) = 4 * ((2 * c + 1) * 2 ^ s * ((2 * c + 1) * 2 ^ s) * Q * (D * 2 ^ (2 * A))) by
        rw [show (4 : Nat) = 2 * 2 from rfl]; simp only [Nat.mul_assoc, Nat.mul_left_comm, Nat.mul_comm]]
      rw [Nat.mul_left_cancel_iff (by omega : 0 < 4), Nat.mul_right_cancel_iff hDA]
    simp only [e1, e2, g1, g2]

/-- The model's root. -/
theorem sqrt_rung (f : Format) (hf : 1 ≤ f.fractionBits) (T a : Nat) (hT : f.leastPlace = -(T : Int)) (ha : rg f a < f.infRung) (ha0 : rg f a ≠ 0) (hs : sg f a = false) :
    ∃ R, RtR f (V f (rg f a) * 2 ^ T) 1 R ∧ f.sqrt a = some (min R f.infRung) := by
  obtain ⟨m, k, e1, e2, e3, _⟩ := read_fin f a ha
  rw [hs] at e1
  have hva : V f (rg f a) ≠ 0 := by
    intro h; apply ha0; exact V_inj (f := f) (by rw [h, V_zero])
  have hm0 : m ≠ 0 := by rintro rfl; rw [Nat.zero_mul] at e2; exact hva e2.symm
  have hml : m.log2 ≤ f.fractionBits := by
    have : m.log2 < f.fractionBits + 1 := (Nat.log2_lt hm0).2 (by rw [Nat.pow_succ, Nat.mul_comm]; exact e3)
    omega
  unfold Format.sqrt
  rw [e1]
  simp only [Datum.root, if_neg hm0, Bool.false_eq_true, if_false, Option.map_some, Format.write]
  rw [nearest_rnd]
  generalize hmo : 2 * (f.fractionBits + 2) - m.log2 = m1
  generalize hmore : m1 + ((f.leastPlace + (k : Int) - (m1 : Int)) % 2).toNat = more
  have hpar : ∃ z : Int, f.leastPlace + (k : Int) - (more : Int) = 2 * z := by
    have h2 : (f.leastPlace + (k : Int) - (m1 : Int)) % 2 = 0 ∨ (f.leastPlace + (k : Int) - (m1 : Int)) % 2 = 1 := by omega
    refine ⟨(f.leastPlace + (k : Int) - (more : Int)) / 2, ?_⟩
    omega
  obtain ⟨z, hz⟩ := hpar
  rw [Nat.shiftLeft_eq]
  obtain ⟨w1, w2⟩ := isqrt (m * 2 ^ more)
  generalize Datum.rootFrom (m * 2 ^ more) ((m * 2 ^ more).log2 / 2 + 1) 0 = w at *
  have hbig : 2 ^ (2 * (f.fractionBits + 2)) ≤ m * 2 ^ more := by
    have := Nat.mul_le_mul_right (2 ^ more) (Nat.log2_self_le hm0)
    rw [← Nat.pow_add] at this
    exact Nat.le_trans (Nat.pow_le_pow_right (by omega) (by omega)) this
  have hwb : 2 ^ (f.fractionBits + 1) ≤ w := by
    rcases Nat.lt_or_ge w (2 ^ (f.fractionBits + 1)) with h | h
    · exfalso
      have h5 : w + 1 ≤ 2 ^ (f.fractionBits + 2) := by rw [Nat.pow_succ 2 (f.fractionBits + 1)]; omega
      have := sq_le h5
      rw [← Nat.pow_add, show f.fractionBits + 2 + (f.fractionBits + 2) = 2 * (f.fractionBits + 2) by omega] at this
      omega
    · exact h
  rw [hz, show (2 * z / 2 : Int) = z by omega]
  generalize hA : (z - 1 - f.leastPlace).toNat = A
  generalize hB : (f.leastPlace - (z - 1)).toNat = B
  refine ⟨rnd f ((2 * w + (w * w != m * 2 ^ more).toNat) * 2 ^ A) (2 ^ B), ?_, rfl⟩
  refine root_rung f hf _ _ (m * 2 ^ more) 1 w A B _ (by omega) (by omega) (by rw [Nat.mul_one]; exact w1) (by rw [Nat.mul_one]; exact w2) (by rw [Nat.mul_one]; simp) hwb ?_
  rw [← e2, Nat.one_mul, Nat.one_mul, show (4 : Nat) = 2 ^ 2 from rfl]
  rw [show 2 ^ 2 * (m * 2 ^ more * 2 ^ (2 * A)) = m * (2 ^ 2 * 2 ^ more * 2 ^ (2 * A)) by simp only [Nat.mul_assoc, Nat.mul_left_comm, Nat.mul_comm]]
  simp only [Nat.mul_assoc, ← Nat.pow_add]
  congr 2; omega
end Flt
end Go.Proofs.YtleffbpjjbiobaaGreatDoor

namespace Go.Proofs.YtleffbpjjbiobaaGreatDoor
namespace Flt
set_option linter.unusedVariables false
set_option linter.unusedSimpArgs false
open Ieee

section
variable (f : Format) (he : 1 ≤ f.exponentBits) (a b c : Nat)
include he

theorem add_nan2 (h : f.infRung < rg f a ∨ f.infRung < rg f b) : f.add a b = none := by
  have hi := infRung_ge f he
  unfold Format.add
  rcases h with h | h
  · rw [read_nan f a hi h]; rfl
  · rw [read_nan f b hi h]; cases f.read a <;> rfl
theorem add_inf_inf (ha : rg f a = f.infRung) (hb : rg f b = f.infRung) : f.add a b = if sg f a = sg f b then some (f.word (sg f a) f.infRung) else none := by
  have hi := infRung_ge f he
  unfold Format.add
  rw [read_inf f a hi ha, read_inf f b hi hb]
  simp only [Datum.sum]
  split <;> rfl
theorem add_inf_fin (ha : rg f a = f.infRung) (hb : rg f b < f.infRung) : f.add a b = some (f.word (sg f a) f.infRung) := by
  have hi := infRung_ge f he
  obtain ⟨n, l, e3, _⟩ := read_fin f b hb
  unfold Format.add
  rw [read_inf f a hi ha, e3]; rfl
theorem add_fin_inf (ha : rg f a < f.infRung) (hb : rg f b = f.infRung) : f.add a b = some (f.word (sg f b) f.infRung) := by
  rw [add_comm]; exact add_inf_fin f he b a hb ha

theorem mul_nan2 (h : f.infRung < rg f a ∨ f.infRung < rg f b) : f.mul a b = none := by
  have hi := infRung_ge f he
  unfold Format.mul
  rcases h with h | h
  · rw [read_nan f a hi h]; rfl
  · rw [read_nan f b hi h]; cases f.read a <;> rfl
omit he in
theorem fin_zero (ha : rg f a < f.infRung) : ∃ m k : Nat, f.read a = .number (sg f a) m (f.leastPlace + k) ∧ (m = 0 ↔ rg f a = 0) := by
  obtain ⟨m, k, e1, e2, _⟩ := read_fin f a ha
  refine ⟨m, k, e1, fun h => ?_, fun h => ?_⟩
  · rw [h, Nat.zero_mul] at e2
    exact V_inj (f := f) (by rw [← e2, V_zero])
  · rw [h, V_zero] at e2
    rcases Nat.mul_eq_zero.1 e2 with h | h
    · exact h
    · have := Nat.two_pow_pos k; omega
theorem mul_inf_fin (ha : rg f a = f.infRung) (hb : rg f b < f.infRung) : f.mul a b = if rg f b = 0 then none else some (f.word (sg f a ^^ sg f b) f.infRung) := by
  have hi := infRung_ge f he
  obtain ⟨n, l, e3, e4⟩ := fin_zero f b hb
  unfold Format.mul
  rw [read_inf f a hi ha, e3]
  simp only [Datum.product, e4]
  split <;> rfl
theorem mul_fin_inf (ha : rg f a < f.infRung) (hb : rg f b = f.infRung) : f.mul a b = if rg f a = 0 then none else some (f.word (sg f a ^^ sg f b) f.infRung) := by
  rw [mul_comm, Bool.xor_comm]; exact mul_inf_fin f he b a hb ha
theorem mul_inf_inf (ha : rg f a = f.infRung) (hb : rg f b = f.infRung) : f.mul a b = some (f.word (sg f a ^^ sg f b) f.infRung) := by
  have hi := infRung_ge f he
  unfold Format.mul
  rw [read_inf f a hi ha, read_inf f b hi hb]; rfl

theorem div_nan2 (h : f.infRung < rg f a ∨ f.infRung < rg f b) : f.div a b = none := by
  have hi := infRung_ge f he
  unfold Format.div
  rcases h with h | h
  · rw [read_nan f a hi h]; rfl
  · rw [read_nan f b hi h]; cases f.read a <;> rfl
theorem div_inf_inf (ha : rg f a = f.infRung) (hb : rg f b = f.infRung) : f.div a b = none := by
  have hi := infRung_ge f he
  unfold Format.div
  rw [read_inf f a hi ha, read_inf f b hi hb]; rfl
theorem div_inf_fin (ha : rg f a = f.infRung) (hb : rg f b < f.infRung) : f.div a b = some (f.word (sg f a ^^ sg f b) f.infRung) := by
  have hi := infRung_ge f he
  obtain ⟨n, l, e3, e4⟩ := fin_zero f b hb
  unfold Format.div
  rw [read_inf f a hi ha, e3]; rfl
theorem div_fin_inf (ha : rg f a < f.infRung) (hb : rg f b = f.infRung) : f.div a b = some (f.word (sg f a ^^ sg f b) 0) := by
  have hi := infRung_ge f he
  obtain ⟨n, l, e3, e4⟩ := fin_zero f a ha
  unfold Format.div
  rw [read_inf f b hi hb, e3]
  simp only [Datum.quotient, Option.map_some, Format.write]
  unfold Format.nearest
  rw [if_pos rfl]
omit he in
theorem div_fin_zero (ha : rg f a < f.infRung) (hb : rg f b < f.infRung) (hb0 : rg f b = 0) : f.div a b = if rg f a = 0 then none else some (f.word (sg f a ^^ sg f b) f.infRung) := by
  obtain ⟨m, k, e1, e2⟩ := fin_zero f a ha
  obtain ⟨n, l, e3, e4⟩ := fin_zero f b hb
  unfold Format.div
  rw [e1, e3]
  simp only [Datum.quotient, if_pos (e4.2 hb0), e2]
  split <;> rfl

theorem fma_nan2 (h : f.infRung < rg f a ∨ f.infRung < rg f b ∨ f.infRung < rg f c) : f.fma a b c = none := by
  have hi := infRung_ge f he
  unfold Format.fma
  rcases h with h | h | h
  · rw [read_nan f a hi h]; rfl
  · rw [read_nan f b hi h]; cases f.read a <;> rfl
  · rw [read_nan f c hi h]
    cases (f.read a).product (f.read b) with
    | none => rfl
    | some d => cases d <;> rfl
omit he in
theorem fma_none (h : f.mul a b = none) : f.fma a b c = none := by
  unfold Format.fma
  unfold Format.mul at h
  cases hp : (f.read a).product (f.read b) with
  | none => rfl
  | some d => rw [hp] at h; cases h
/-- Where the product is an infinity. -/
theorem fma_inf (hm : ∃ s, (f.read a).product (f.read b) = some (.infinity s) ∧ s = (sg f a ^^ sg f b)) : f.fma a b c = f.add (f.word (sg f a ^^ sg f b) f.infRung) c := by
  have hi := infRung_ge f he
  obtain ⟨s, h1, h2⟩ := hm
  have hr : f.read (f.word s f.infRung) = .infinity s := by
    rw [read_inf f _ hi (rg_word f _ _ f.infRung_lt), sg_word f _ _ f.infRung_lt]
  unfold Format.fma Format.add
  rw [h1, ← h2, hr]; rfl
theorem prod_inf (h : (rg f a = f.infRung ∧ rg f b < f.infRung ∧ rg f b ≠ 0) ∨ (rg f b = f.infRung ∧ rg f a < f.infRung ∧ rg f a ≠ 0) ∨ (rg f a = f.infRung ∧ rg f b = f.infRung)) : ∃ s, (f.read a).product (f.read b) = some (.infinity s) ∧ s = (sg f a ^^ sg f b) := by
  have hi := infRung_ge f he
  rcases h with ⟨h1, h2, h3⟩ | ⟨h1, h2, h3⟩ | ⟨h1, h2⟩
  · obtain ⟨n, l, e3, e4⟩ := fin_zero f b h2
    rw [read_inf f a hi h1, e3]
    simp only [Datum.product, if_neg (fun e => h3 (e4.1 e))]
    exact ⟨_, rfl, rfl⟩
  · obtain ⟨n, l, e3, e4⟩ := fin_zero f a h2
    rw [read_inf f b hi h1, e3]
    simp only [Datum.product, if_neg (fun e => h3 (e4.1 e))]
    exact ⟨_, rfl, Bool.xor_comm ..⟩
  · rw [read_inf f a hi h1, read_inf f b hi h2]
    exact ⟨_, rfl, rfl⟩
theorem fma_fin_inf (ha : rg f a < f.infRung) (hb : rg f b < f.infRung) (hc : rg f c = f.infRung) : f.fma a b c = some (f.word (sg f c) f.infRung) := by
  have hi := infRung_ge f he
  obtain ⟨m, k, e1, e2⟩ := fin_zero f a ha
  obtain ⟨n, l, e3, e4⟩ := fin_zero f b hb
  unfold Format.fma
  rw [e1, e3, read_inf f c hi hc]; rfl

theorem sqrt_nan2 (h : f.infRung < rg f a) : f.sqrt a = none := by
  have hi := infRung_ge f he
  unfold Format.sqrt
  rw [read_nan f a hi h]; rfl
theorem sqrt_inf (h : rg f a = f.infRung) : f.sqrt a = if sg f a then none else some (f.word false f.infRung) := by
  have hi := infRung_ge f he
  unfold Format.sqrt
  rw [read_inf f a hi h]
  simp only [Datum.root]
  cases sg f a <;> rfl
omit he in
theorem sqrt_zero (h : rg f a = 0) (hf : 0 < f.infRung) : f.sqrt a = some (f.word (sg f a) 0) := by
  obtain ⟨m, k, e1, e2⟩ := fin_zero f a (by omega)
  unfold Format.sqrt
  rw [e1]
  simp only [Datum.root, if_pos (e2.2 h), Option.map_some, Format.write]
  unfold Format.nearest
  rw [if_pos (e2.2 h)]
omit he in
theorem sqrt_neg (h : rg f a < f.infRung) (h0 : rg f a ≠ 0) (hs : sg f a = true) : f.sqrt a = none := by
  obtain ⟨m, k, e1, e2⟩ := fin_zero f a h
  unfold Format.sqrt
  rw [e1]
  simp only [Datum.root, if_neg (fun e => h0 (e2.1 e)), hs, if_true]
  rfl
end
end Flt
end Go.Proofs.YtleffbpjjbiobaaGreatDoor
