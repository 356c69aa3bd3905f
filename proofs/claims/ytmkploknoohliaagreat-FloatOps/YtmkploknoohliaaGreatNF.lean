/- A quotient lies between the middles. -/
import Derived.Test.YtmkploknoohliaaGreatFP
namespace Go.Proofs.YtmkploknoohliaaGreat
namespace Flt
set_option linter.unusedVariables false
set_option linter.unusedSimpArgs false
open Ieee

theorem V_form (f : Format) (r : Nat) : ∃ c, V f r = c * 2 ^ (r / f.binade - 1) ∧ V f (r + 1) = (c + 1) * 2 ^ (r / f.binade - 1) ∧ c < 2 * f.binade := by
  have hb := binade_pos f
  have hs := V_step f r
  by_cases h : r < f.binade
  · refine ⟨r, ?_, ?_, by omega⟩
    · rw [Nat.div_eq_of_lt h]; unfold V; rw [if_pos h]; simp
    · rw [hs, Nat.div_eq_of_lt h]; unfold V; rw [if_pos h]; simp
  · have hm := Nat.mod_lt r hb
    have e : V f r = (f.binade + r % f.binade) * 2 ^ (r / f.binade - 1) := by unfold V; rw [if_neg h]
    exact ⟨f.binade + r % f.binade, e, by rw [hs, e, Nat.add_mul _ 1, Nat.one_mul], by omega⟩

/-- The digit that says that something is left. -/
theorem sticky_le (d n y : Nat) (h : 2 * y ≤ 2 * (d / n) + (d % n != 0).toNat) : y * n ≤ d := by
  have hy : y ≤ d / n := by
    have : (d % n != 0).toNat ≤ 1 := Bool.toNat_le _
    omega
  exact Nat.le_trans (Nat.mul_le_mul_right n hy) (Nat.div_mul_le_self d n)
theorem sticky_ge (d n y : Nat) (hn : 0 < n) (h : 2 * (d / n) + (d % n != 0).toNat ≤ 2 * y) : d ≤ y * n := by
  have hd := Nat.div_add_mod d n
  by_cases h0 : d % n = 0
  · have hy : d / n ≤ y := by omega
    have := Nat.mul_le_mul_right n hy
    rw [Nat.mul_comm (d / n)] at this
    omega
  · have e : (d % n != 0).toNat = 1 := by
      have : (d % n != 0) = true := by simp [h0]
      rw [this]; rfl
    rw [e] at h
    have hy : d / n + 1 ≤ y := by omega
    have h1 := Nat.mul_le_mul_right n hy
    have h2 := Nat.mod_lt d hn
    rw [Nat.add_mul, Nat.one_mul, Nat.mul_comm (d / n)] at h1
    omega

theorem pow_split {a b : Nat} (h : a = b) : 2 ^ a = 2 ^ b := by rw [h]

theorem quot_mid (m n k l T ep em more R : Nat) (hm0 : m ≠ 0) (hn0 : n ≠ 0) (hm : m < 2 ^ 53) (hmore : more = 54 + n.log2 - m.log2) (hT : T = 1075) (hrel : ep + more + l + 2 = k + T + em)
    (hR : R = rnd double ((2 * (m * 2 ^ more / n) + (m * 2 ^ more % n != 0).toNat) * 2 ^ ep) (2 ^ em)) :
    (R ≠ 0 → (V double R + V double (R - 1)) * (n * 2 ^ l) ≤ m * 2 ^ k * 2 ^ T) ∧ m * 2 ^ k * 2 ^ T ≤ (V double R + V double (R + 1)) * (n * 2 ^ l) := by
  have hnp : 0 < n := Nat.pos_of_ne_zero hn0
  have hml : m.log2 ≤ 52 := by have : m.log2 < 53 := (Nat.log2_lt hm0).2 hm; omega
  have hdv : 2 ^ (54 + n.log2) ≤ m * 2 ^ more := by
    have := Nat.mul_le_mul_right (2 ^ more) (Nat.log2_self_le hm0)
    rw [← Nat.pow_add, show m.log2 + more = 54 + n.log2 by omega] at this
    exact this
  generalize hd : m * 2 ^ more = d at *
  have ht : 2 ^ 53 ≤ d / n := by
    rw [Nat.le_div_iff_mul_le hnp]
    refine Nat.le_trans (Nat.le_of_lt (Nat.mul_lt_mul_of_pos_left (Nat.lt_log2_self (n := n)) (Nat.two_pow_pos 53))) ?_
    rw [← Nat.pow_add, show 53 + (n.log2 + 1) = 54 + n.log2 by omega]; exact hdv
  have hQ : 2 ^ 54 ≤ 2 * (d / n) + (d % n != 0).toNat := by omega
  have sle := fun y => sticky_le d n y
  have sge := fun y => sticky_ge d n y hnp
  generalize 2 * (d / n) + (d % n != 0).toNat = Q at *
  obtain ⟨r, s1, s2, s3⟩ := rnd_spec double (by decide) (Q * 2 ^ ep) (2 ^ em) (Nat.two_pow_pos _)
  rw [← hR] at s3
  obtain ⟨c, v1, v2, v3⟩ := V_form double r
  generalize r / double.binade - 1 = kk at *
  have hc1 : c + 1 ≤ 2 ^ 53 := by
    have : 2 * double.binade = 2 ^ 53 := by decide
    omega
  -- the digits that are left are enough
  have hkk : ep + 2 ≤ kk + em := by
    have h1 : 2 ^ (54 + ep) < 2 ^ (53 + kk + em) := by
      rw [Nat.pow_add 2 54, Nat.pow_add 2 (53 + kk), Nat.pow_add 2 53]
      rw [v2] at s2
      refine Nat.lt_of_le_of_lt (Nat.mul_le_mul_right (2 ^ ep) hQ) (Nat.lt_of_lt_of_le s2 ?_)
      exact Nat.mul_le_mul_right _ (Nat.mul_le_mul_right _ hc1)
    have := (Nat.pow_lt_pow_iff_right (by omega : 1 < 2)).1 h1
    omega
  obtain ⟨s, hs⟩ : ∃ s, kk + em = ep + 2 + s := ⟨kk + em - (ep + 2), by omega⟩
  have hsp : ∀ u : Nat, u * 2 ^ kk * 2 ^ em = u * 4 * 2 ^ s * 2 ^ ep := by
    intro u
    rw [Nat.mul_assoc u, ← Nat.pow_add, hs, Nat.pow_add, Nat.pow_add, show (2 : Nat) ^ 2 = 4 from rfl, Nat.mul_assoc u 4, Nat.mul_assoc u, Nat.mul_assoc (2 ^ ep), Nat.mul_comm (2 ^ ep)]
  have cancel : ∀ x y : Nat, x * 2 ^ ep ≤ y * 2 ^ ep → x ≤ y := fun x y h => Nat.le_of_mul_le_mul_right h (Nat.two_pow_pos _)
  have cancelt : ∀ x y : Nat, x * 2 ^ ep < y * 2 ^ ep → x < y := fun x y h => Nat.lt_of_mul_lt_mul_right h
  -- how the two sides stand to d
  have up : ∀ u, d ≤ u * 2 ^ s * n → m * 2 ^ k * 2 ^ T ≤ u * 2 ^ kk * (n * 2 ^ l) := by
    intro u hu
    have h1 := Nat.mul_le_mul_right (2 ^ (l + ep + 2)) hu
    refine Nat.le_of_mul_le_mul_right (c := 2 ^ em) ?_ (Nat.two_pow_pos _)
    have e1 : m * 2 ^ k * 2 ^ T * 2 ^ em = d * 2 ^ (l + ep + 2) := by
      rw [← hd, Nat.mul_assoc, Nat.mul_assoc, Nat.mul_assoc, ← Nat.pow_add, ← Nat.pow_add, ← Nat.pow_add]
      exact congrArg _ (pow_split (by omega))
    have e2 : u * 2 ^ kk * (n * 2 ^ l) * 2 ^ em = u * 2 ^ s * n * 2 ^ (l + ep + 2) := by
      have : 2 ^ kk * 2 ^ l * 2 ^ em = 2 ^ s * 2 ^ (l + ep + 2) := by rw [← Nat.pow_add, ← Nat.pow_add, ← Nat.pow_add]; exact pow_split (by omega)
      calc u * 2 ^ kk * (n * 2 ^ l) * 2 ^ em = u * n * (2 ^ kk * 2 ^ l * 2 ^ em) := by simp only [Nat.mul_assoc, Nat.mul_left_comm]
        _ = u * n * (2 ^ s * 2 ^ (l + ep + 2)) := by rw [this]
        _ = u * 2 ^ s * n * 2 ^ (l + ep + 2) := by simp only [Nat.mul_assoc, Nat.mul_left_comm]
    rw [e1, e2]; exact h1
  have dn : ∀ u, u * 2 ^ s * n ≤ d → u * 2 ^ kk * (n * 2 ^ l) ≤ m * 2 ^ k * 2 ^ T := by
    intro u hu
    have h1 := Nat.mul_le_mul_right (2 ^ (l + ep + 2)) hu
    refine Nat.le_of_mul_le_mul_right (c := 2 ^ em) ?_ (Nat.two_pow_pos _)
    have e1 : m * 2 ^ k * 2 ^ T * 2 ^ em = d * 2 ^ (l + ep + 2) := by
      rw [← hd, Nat.mul_assoc, Nat.mul_assoc, Nat.mul_assoc, ← Nat.pow_add, ← Nat.pow_add, ← Nat.pow_add]
      exact congrArg _ (pow_split (by omega))
    have e2 : u * 2 ^ kk * (n * 2 ^ l) * 2 ^ em = u * 2 ^ s * n * 2 ^ (l + ep + 2) := by
      have : 2 ^ kk * 2 ^ l * 2 ^ em = 2 ^ s * 2 ^ (l + ep + 2) := by rw [← Nat.pow_add, ← Nat.pow_add, ← Nat.pow_add]; exact pow_split (by omega)
      calc u * 2 ^ kk * (n * 2 ^ l) * 2 ^ em = u * n * (2 ^ kk * 2 ^ l * 2 ^ em) := by simp only [Nat.mul_assoc, Nat.mul_left_comm]
        _ = u * n * (2 ^ s * 2 ^ (l + ep + 2)) := by rw [this]
        _ = u * 2 ^ s * n * 2 ^ (l + ep + 2) := by simp only [Nat.mul_assoc, Nat.mul_left_comm]
    rw [e1, e2]; exact h1
  have hlo : c * 4 * 2 ^ s ≤ Q := cancel _ _ (by rw [← hsp, ← v1]; exact s1)
  have hhi : Q < (c + 1) * 4 * 2 ^ s := cancelt _ _ (by rw [← hsp, ← v2]; exact s2)
  have hmid : (V double r + V double (r + 1)) * 2 ^ em = (2 * c + 1) * 4 * 2 ^ s * 2 ^ ep := by
    rw [v1, v2, ← Nat.add_mul, ← hsp, show c + (c + 1) = 2 * c + 1 by omega]
  have hmv : V double r + V double (r + 1) = (2 * c + 1) * 2 ^ kk := by rw [v1, v2, ← Nat.add_mul, show c + (c + 1) = 2 * c + 1 by omega]
  rw [hmid] at s3
  by_cases hbit : (2 * c + 1) * 4 * 2 ^ s * 2 ^ ep < 2 * (Q * 2 ^ ep) ∨ ((2 * c + 1) * 4 * 2 ^ s * 2 ^ ep = 2 * (Q * 2 ^ ep) ∧ r % 2 = 1)
  · rw [if_pos hbit] at s3
    subst s3
    have hle : (2 * c + 1) * 4 * 2 ^ s * 2 ^ ep ≤ 2 * Q * 2 ^ ep := by
      rw [Nat.mul_assoc 2]
      rcases hbit with h | h
      · exact Nat.le_of_lt h
      · exact Nat.le_of_eq h.1
    have h2 := cancel _ _ hle
    have h3 : 2 * ((2 * c + 1) * 2 ^ s) ≤ Q := by
      have e : (2 * c + 1) * 4 * 2 ^ s = 2 * (2 * ((2 * c + 1) * 2 ^ s)) := by rw [Nat.mul_right_comm]; omega
      rw [e] at h2
      exact Nat.le_of_mul_le_mul_left h2 (by omega)
    refine ⟨fun _ => ?_, ?_⟩
    · rw [Nat.add_sub_cancel, Nat.add_comm (V double (r + 1)), hmv]
      exact dn _ (sle _ h3)
    · have h4 : Q ≤ 2 * ((2 * (c + 1)) * 2 ^ s) := by
        have e : (c + 1) * 4 * 2 ^ s = 2 * ((2 * (c + 1)) * 2 ^ s) := by rw [Nat.mul_right_comm, Nat.mul_assoc 2]; omega
        rw [e] at hhi
        exact Nat.le_of_lt hhi
      refine Nat.le_trans (up _ (sge _ h4)) (Nat.mul_le_mul_right _ ?_)
      have := V_lt (f := double) (Nat.lt_succ_self (r + 1))
      rw [Nat.mul_assoc 2, ← v2]
      show 2 * V double (r + 1) ≤ V double (r + 1) + V double (r + 1 + 1)
      generalize V double (r + 1) = p at *
      generalize V double (r + 1 + 1) = q at *
      omega
  · rw [if_neg hbit, Nat.add_zero] at s3
    subst s3
    have hge : 2 * Q * 2 ^ ep ≤ (2 * c + 1) * 4 * 2 ^ s * 2 ^ ep := by
      rw [Nat.mul_assoc 2]
      exact Nat.le_of_not_lt fun h => hbit (.inl h)
    have h2 := cancel _ _ hge
    refine ⟨fun h0 => ?_, ?_⟩
    · have h4 : 2 * ((2 * c) * 2 ^ s) ≤ Q := by
        have e : c * 4 * 2 ^ s = 2 * ((2 * c) * 2 ^ s) := by rw [Nat.mul_right_comm, Nat.mul_assoc 2]; omega
        rw [e] at hlo
        exact hlo
      refine Nat.le_trans (Nat.mul_le_mul_right _ ?_) (dn _ (sle _ h4))
      have hv := V_le (f := double) (show R - 1 ≤ R by omega)
      rw [Nat.mul_assoc 2, ← v1]
      generalize V double R = p at *
      generalize V double (R - 1) = q at *
      omega
    · rw [hmv]
      refine up _ (sge _ ?_)
      have e : (2 * c + 1) * 4 * 2 ^ s = 2 * (2 * ((2 * c + 1) * 2 ^ s)) := by rw [Nat.mul_right_comm]; omega
      rw [e] at h2
      exact Nat.le_of_mul_le_mul_left h2 (by omega)

/-- The quotient of two numbers above nought. -/
theorem div_mid (a b T : Nat) (ha : rg double a < double.infRung) (hb : rg double b < double.infRung) (ha0 : rg double a ≠ 0) (hb0 : rg double b ≠ 0) (hsa : sg double a = false) (hsb : sg double b = false) (hT : T = 1075) :
    ∃ R, R ≤ double.infRung ∧ double.div a b = some R ∧ (R ≠ 0 → (V double R + V double (R - 1)) * V double (rg double b) ≤ V double (rg double a) * 2 ^ T) ∧ (R ≠ double.infRung → V double (rg double a) * 2 ^ T ≤ (V double R + V double (R + 1)) * V double (rg double b)) := by
  obtain ⟨m, k, e1, e2, e3, _⟩ := read_fin double a ha
  obtain ⟨n, l, e4, e5, e6, _⟩ := read_fin double b hb
  rw [hsa] at e1
  rw [hsb] at e4
  have hva : V double (rg double a) ≠ 0 := by
    intro h; apply ha0; exact V_inj (f := double) (by rw [h, V_zero])
  have hvb : V double (rg double b) ≠ 0 := by
    intro h; apply hb0; exact V_inj (f := double) (by rw [h, V_zero])
  have hm0 : m ≠ 0 := by rintro rfl; rw [Nat.zero_mul] at e2; exact hva e2.symm
  have hn0 : n ≠ 0 := by rintro rfl; rw [Nat.zero_mul] at e5; exact hvb e5.symm
  have hbin : 2 * double.binade = 2 ^ 53 := by decide
  have hl1 : double.leastPlace = -1074 := by decide
  obtain ⟨more, hmore⟩ : ∃ more, more = 54 + n.log2 - m.log2 := ⟨_, rfl⟩
  obtain ⟨ep, hep⟩ : ∃ ep : Nat, ep = ((double.leastPlace + (k : Int)) - (double.leastPlace + (l : Int)) - (more : Int) - 1 - double.leastPlace).toNat := ⟨_, rfl⟩
  obtain ⟨em, hem⟩ : ∃ em : Nat, em = (double.leastPlace - ((double.leastPlace + (k : Int)) - (double.leastPlace + (l : Int)) - (more : Int) - 1)).toNat := ⟨_, rfl⟩
  have hrel : ep + more + l + 2 = k + T + em := by rw [hl1] at hep hem; omega
  obtain ⟨h1, h2⟩ := quot_mid m n k l T ep em more _ hm0 hn0 (by omega) hmore hT hrel rfl
  rw [e2, e5] at h1 h2
  have hdiv : double.div a b = some (min (rnd double ((2 * (m * 2 ^ more / n) + (m * 2 ^ more % n != 0).toNat) * 2 ^ ep) (2 ^ em)) double.infRung) := by
    unfold Format.div
    rw [e1, e4]
    simp only [Datum.quotient, if_neg hn0, Option.map_some, Format.write, Bool.xor_false]
    rw [nearest_rnd, Nat.shiftLeft_eq]
    have hw : ∀ x, double.word false x = x := fun _ => rfl
    have hmo : double.fractionBits + 2 + n.log2 - m.log2 = more := by rw [hmore]; rfl
    rw [hmo, ← hep, ← hem, hw]
  generalize rnd double ((2 * (m * 2 ^ more / n) + (m * 2 ^ more % n != 0).toNat) * 2 ^ ep) (2 ^ em) = R at *
  refine ⟨min R double.infRung, Nat.min_le_right .., hdiv, fun h0 => ?_, fun hne => ?_⟩
  · have hR0 : R ≠ 0 := by rintro rfl; apply h0; simp
    refine Nat.le_trans (Nat.mul_le_mul_right _ (Nat.add_le_add (V_le (Nat.min_le_left ..)) (V_le ?_))) (h1 hR0)
    have := Nat.min_le_left R double.infRung
    omega
  · have : min R double.infRung = R := by omega
    rw [this]; exact h2
end Flt
end Go.Proofs.YtmkploknoohliaaGreat
