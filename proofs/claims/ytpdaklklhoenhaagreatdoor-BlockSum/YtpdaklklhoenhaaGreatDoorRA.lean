/- Rounding a quotient by its whole part and what is left. -/
import Derived.Test.YtpdaklklhoenhaaGreatDoorFJ
import Derived.Test.YtpdaklklhoenhaaGreatDoorFF
/- Sums and products either way; exact numbers; the wider format. -/
namespace Go.Proofs.YtpdaklklhoenhaaGreatDoor
namespace Flt
set_option linter.unusedVariables false
set_option linter.unusedSimpArgs false
open Ieee

theorem sum_comm (x y : Datum) : x.sum y = y.sum x := by
  cases x <;> cases y <;> try rfl
  · rename_i s m i t n j
    simp only [Datum.sum]
    rw [Int.min_comm i j, Int.add_comm (signed s m _), Bool.and_comm s t]
  · rename_i s t
    simp only [Datum.sum]
    by_cases h : s = t
    · subst h; rfl
    · rw [if_neg h, if_neg (fun e => h e.symm)]
theorem product_comm (x y : Datum) : x.product y = y.product x := by
  cases x <;> cases y <;> try rfl
  · simp only [Datum.product]
    rw [Bool.xor_comm, Nat.mul_comm, Int.add_comm]
  · simp only [Datum.product]
    rw [Bool.xor_comm]

theorem add_comm (f : Format) (a b : Nat) : f.add a b = f.add b a := by unfold Format.add; rw [sum_comm]
theorem mul_comm (f : Format) (a b : Nat) : f.mul a b = f.mul b a := by unfold Format.mul; rw [product_comm]
theorem fma_comm (f : Format) (a b c : Nat) : f.fma a b c = f.fma b a c := by unfold Format.fma; rw [product_comm]

theorem read_by (f : Format) (a b : Nat) (h1 : rg f a = rg f b) (h2 : sg f a = !sg f b) : f.read a = (f.read b).opposite := by
  unfold Format.read
  dsimp only
  rw [show a % f.signWeight = rg f a from rfl, show (a / f.signWeight % 2 == 1) = sg f a from rfl, show b % f.signWeight = rg f b from rfl, show (b / f.signWeight % 2 == 1) = sg f b from rfl, h1, h2]
  split
  · rfl
  · split
    · rfl
    · split <;> rfl

theorem sub_add (f : Format) (a b c : Nat) (h1 : rg f c = rg f b) (h2 : sg f c = !sg f b) : f.sub a b = f.add a c := by
  unfold Format.sub Format.add
  rw [read_by f c b h1 h2]

theorem signed_opp (s : Bool) (m i : Nat) : signed s m i + signed (!s) m i = 0 := by
  unfold signed; cases s <;> simp <;> omega

theorem sub_self (f : Format) (a : Nat) (h : rg f a < f.infRung) : f.sub a a = some 0 := by
  obtain ⟨m, k, e1, _⟩ := read_fin f a h
  unfold Format.sub
  rw [e1]
  simp only [Datum.opposite, Datum.sum, signed_opp]
  simp only [if_true, Int.natAbs_zero, Option.map_some, Format.write]
  unfold Format.nearest Format.word
  cases sg f a <;> rfl

theorem nearest_shift (f : Format) (neg : Bool) (m j : Nat) (p : Int) : f.nearest neg (m * 2 ^ j) (p - j) = f.nearest neg m p := by
  rw [nearest_rnd, nearest_rnd]
  refine congrArg _ (congrArg (min · _) ?_)
  refine rnd_eq f (Nat.two_pow_pos _) (Nat.two_pow_pos _) ?_
  rw [Nat.mul_assoc, Nat.mul_assoc, Nat.mul_assoc, ← Nat.pow_add, ← Nat.pow_add, ← Nat.pow_add]
  congr 2
  omega

/-- An exact number is told as it is. -/
theorem nearest_exact (f : Format) (neg : Bool) (m R : Nat) (p : Int) (hR : R ≤ f.infRung) (h : m * 2 ^ (p - f.leastPlace).toNat = V f R * 2 ^ (f.leastPlace - p).toNat) : f.nearest neg m p = f.word neg R := by
  rw [nearest_rnd]
  refine congrArg _ ?_
  rw [rnd_eq f (d' := 1) (n' := V f R) (Nat.two_pow_pos _) (by omega) (by rw [Nat.mul_one]; exact h), rnd_V]
  exact Nat.min_eq_left hR

theorem repr (f : Format) (c k : Nat) (h : c < 2 * f.binade) : ∃ R, V f R = c * 2 ^ k := by
  by_cases h0 : c = 0
  · exact ⟨0, by rw [h0, V_zero, Nat.zero_mul]⟩
  · have hl : c.log2 ≤ f.fractionBits := by
      have : c.log2 < f.fractionBits + 1 := (Nat.log2_lt h0).2 (by rw [Nat.pow_succ, Nat.mul_comm]; exact h)
      omega
    refine ⟨(k - min k (f.fractionBits - c.log2)) * f.binade + c * 2 ^ (min k (f.fractionBits - c.log2)), ?_⟩
    have h1 : c * 2 ^ (min k (f.fractionBits - c.log2)) < 2 * f.binade := by
      have a1 := Nat.mul_lt_mul_of_pos_right (Nat.lt_log2_self (n := c)) (Nat.two_pow_pos (min k (f.fractionBits - c.log2)))
      rw [← Nat.pow_add] at a1
      have a2 : 2 ^ (c.log2 + 1 + min k (f.fractionBits - c.log2)) ≤ 2 ^ (f.fractionBits + 1) := Nat.pow_le_pow_right (by omega) (by omega)
      have a3 : 2 ^ (f.fractionBits + 1) = 2 * f.binade := by rw [Nat.pow_succ, Nat.mul_comm]; rfl
      omega
    have h2 : k - min k (f.fractionBits - c.log2) = 0 ∨ f.binade ≤ c * 2 ^ (min k (f.fractionBits - c.log2)) := by
      rcases Nat.le_total k (f.fractionBits - c.log2) with h3 | h3
      · left; omega
      · right
        rw [Nat.min_eq_right h3]
        have := Nat.mul_le_mul_right (2 ^ (f.fractionBits - c.log2)) (Nat.log2_self_le h0)
        rw [← Nat.pow_add, Nat.add_sub_cancel' hl] at this
        exact this
    rw [(V_at f _ _ h1 h2).1, Nat.mul_assoc, ← Nat.pow_add]
    congr 2
    omega

theorem word_self (f : Format) (w : Nat) (h : w < 2 * f.signWeight) : f.word (sg f w) (rg f w) = w := by
  have hs := signWeight_pos f
  have hd := Nat.div_add_mod w f.signWeight
  have hq : w / f.signWeight < 2 := by rw [Nat.div_lt_iff_lt_mul hs]; exact h
  unfold Format.word sg rg
  by_cases h1 : w / f.signWeight = 1
  · rw [h1, Nat.mul_one] at hd
    rw [h1]
    simp only [show (1 % 2 == 1) = true from rfl, if_true]
    exact hd
  · have h2 : w / f.signWeight = 0 := by generalize w / f.signWeight = q at *; omega
    rw [h2, Nat.mul_zero, Nat.zero_add] at hd
    rw [h2]
    simp only [show (0 % 2 == 1) = false from rfl, Bool.false_eq_true, if_false]
    exact hd

theorem V_inf (f : Format) (h : 1 ≤ f.exponentBits) : V f f.infRung = 2 ^ (f.fractionBits + (2 ^ f.exponentBits - 2)) := by
  have hp : 2 ^ 1 ≤ 2 ^ f.exponentBits := Nat.pow_le_pow_right (by omega) h
  have e : f.infRung = (2 ^ f.exponentBits - 2) * f.binade + f.binade := by
    unfold Format.infRung
    rw [← Nat.succ_mul]
    exact congrArg (· * f.binade) (by omega)
  rw [e, (V_at f _ f.binade (by have := binade_pos f; omega) (.inr (Nat.le_refl _))).1, Nat.pow_add]
  rfl

/-- How much finer the wider format's least place is. -/
def gapE : Nat := 925

/-- A binary32's number, as a binary64, and back. -/
theorem widened (f : Nat) (h : rg single f < single.infRung) : ∃ R m' k' : Nat, (R < double.infRung ∧ V double R = V single (rg single f) * 2 ^ gapE) ∧ (∃ m k : Nat, single.read f = .number (sg single f) m (single.leastPlace + k) ∧ double.nearest (sg single f) m (single.leastPlace + k) = double.word (sg single f) R) ∧
    double.read (double.word (sg single f) R) = .number (sg single f) m' (double.leastPlace + k') ∧ single.nearest (sg single f) m' (double.leastPlace + k') = single.word (sg single f) (rg single f) := by
  obtain ⟨m, k, e1, e2, e3, e4⟩ := read_fin single f h
  have hm : m < 2 * double.binade := Nat.lt_trans e3 (by decide)
  have hE : gapE = 925 := rfl
  obtain ⟨R, hR⟩ := repr double m (k + gapE) hm
  have hRi : R < double.infRung := by
    rw [← V_lt_iff (f := double), hR, V_inf double (by decide), Nat.pow_add, ← Nat.mul_assoc, e2]
    have := V_lt (f := single) h
    rw [V_inf single (by decide)] at this
    refine Nat.lt_trans (Nat.mul_lt_mul_of_pos_right this (Nat.two_pow_pos _)) ?_
    rw [← Nat.pow_add]
    refine Nat.pow_lt_pow_right (by omega) ?_
    rw [hE]; decide
  have hl1 : double.leastPlace = -1074 := by decide
  have hl2 : single.leastPlace = -149 := by decide
  have hRs : R < double.signWeight := Nat.lt_trans hRi double.infRung_lt
  obtain ⟨m', k', g1, g2, _⟩ := read_fin double (double.word (sg single f) R) (by rw [rg_word _ _ _ hRs]; exact hRi)
  rw [sg_word _ _ _ hRs] at g1
  rw [rg_word _ _ _ hRs] at g2
  refine ⟨R, m', k', ⟨hRi, by rw [hR, Nat.pow_add, ← Nat.mul_assoc, e2]⟩, ⟨m, k, e1, ?_⟩, g1, ?_⟩
  · refine nearest_exact double _ m R _ (Nat.le_of_lt hRi) ?_
    rw [hl1, hl2, hR, show (-149 + (k : Int) - -1074).toNat = k + gapE by omega, show (-1074 - (-149 + (k : Int))).toNat = 0 by omega, Nat.pow_zero, Nat.mul_one]
  · refine nearest_exact single _ m' _ _ (Nat.le_of_lt h) ?_
    rw [hl1, hl2, ← e2]
    rw [hR] at g2
    rcases Nat.le_total gapE k' with h1 | h1
    · rw [show (-1074 + (k' : Int) - -149).toNat = k' - gapE by omega, show (-149 - (-1074 + (k' : Int))).toNat = 0 by omega, Nat.pow_zero, Nat.mul_one]
      refine Nat.eq_of_mul_eq_mul_right (Nat.two_pow_pos gapE) ?_
      rw [Nat.mul_assoc, Nat.mul_assoc, ← Nat.pow_add, ← Nat.pow_add, Nat.sub_add_cancel h1]
      exact g2
    · rw [show (-1074 + (k' : Int) - -149).toNat = 0 by omega, show (-149 - (-1074 + (k' : Int))).toNat = gapE - k' by omega, Nat.pow_zero, Nat.mul_one]
      refine Nat.eq_of_mul_eq_mul_right (Nat.two_pow_pos k') ?_
      rw [Nat.mul_assoc, Nat.mul_assoc, ← Nat.pow_add, ← Nat.pow_add, show k + (gapE - k' + k') = k + gapE by omega]
      exact g2
end Flt
end Go.Proofs.YtpdaklklhoenhaaGreatDoor

/- A quotient lies between the middles. -/
namespace Go.Proofs.YtpdaklklhoenhaaGreatDoor
namespace Flt
set_option linter.unusedVariables false
set_option linter.unusedSimpArgs false
open Ieee

theorem V_form (f : Format) (r : Nat) : ∃ c, V f r = c * 2 ^ (r / f.binade - 1) ∧ V f (r + 1) = (c + 1) * 2 ^ (r / f.binade - 1) ∧ c < 2 * f.binade := by
  have hb := binade_pos f
  have hs := V_step f r
  by_cases h : r < f.binade
  · refine ⟨r, ?_, ?_, by omega⟩
    · rw [Nat.div_eq_of_lt h]; unfold V; rw [if_pos h]; simp
    · rw [hs, Nat.div_eq_of_lt h]; unfold V; rw [if_pos h]; simp
  · have hm := Nat.mod_lt r hb
    have e : V f r = (f.binade + r % f.binade) * 2 ^ (r / f.binade - 1) := by unfold V; rw [if_neg h]
    exact ⟨f.binade + r % f.binade, e, by rw [hs, e, Nat.add_mul _ 1, Nat.one_mul], by omega⟩

/-- The digit that says that something is left. -/
theorem sticky_le (d n y : Nat) (h : 2 * y ≤ 2 * (d / n) + (d % n != 0).toNat) : y * n ≤ d := by
  have hy : y ≤ d / n := by
    have : (d % n != 0).toNat ≤ 1 := Bool.toNat_le _
    omega
  exact Nat.le_trans (Nat.mul_le_mul_right n hy) (Nat.div_mul_le_self d n)
theorem sticky_ge (d n y : Nat) (hn : 0 < n) (h : 2 * (d / n) + (d % n != 0).toNat ≤ 2 * y) : d ≤ y * n := by
  have hd := Nat.div_add_mod d n
  by_cases h0 : d % n = 0
  · have hy : d / n ≤ y := by omega
    have := Nat.mul_le_mul_right n hy
    rw [Nat.mul_comm (d / n)] at this
    omega
  · have e : (d % n != 0).toNat = 1 := by
      have : (d % n != 0) = true := by simp [h0]
      rw [this]; rfl
    rw [e] at h
    have hy : d / n + 1 ≤ y := by omega
    have h1 := Nat.mul_le_mul_right n hy
    have h2 := Nat.mod_lt d hn
    rw [Nat.add_mul, Nat.one_mul, Nat.mul_comm (d / n)] at h1
    omega

theorem pow_split {a b : Nat} (h : a = b) : 2 ^ a = 2 ^ b := by rw [h]

theorem quot_mid (m n k l T ep em more R : Nat) (hm0 : m ≠ 0) (hn0 : n ≠ 0) (hm : m < 2 ^ 53) (hmore : more = 54 + n.log2 - m.log2) (hT : T = 1075) (hrel : ep + more + l + 2 = k + T + em)
    (hR : R = rnd double ((2 * (m * 2 ^ more / n) + (m * 2 ^ more % n != 0).toNat) * 2 ^ ep) (2 ^ em)) :
    (R ≠ 0 → (V double R + V double (R - 1)) * (n * 2 ^ l) ≤ m * 2 ^ k * 2 ^ T) ∧ m * 2 ^ k * 2 ^ T ≤ (V double R + V double (R + 1)) * (n * 2 ^ l) := by
  have hnp : 0 < n := Nat.pos_of_ne_zero hn0
  have hml : m.log2 ≤ 52 := by have : m.log2 < 53 := (Nat.log2_lt hm0).2 hm; omega
  have hdv : 2 ^ (54 + n.log2) ≤ m * 2 ^ more := by
    have := Nat.mul_le_mul_right (2 ^ more) (Nat.log2_self_le hm0)
    rw [← Nat.pow_add, show m.log2 + more = 54 + n.log2 by omega] at this
    exact this
  generalize hd : m * 2 ^ more = d at *
  have ht : 2 ^ 53 ≤ d / n := by
    rw [Nat.le_div_iff_mul_le hnp]
    refine Nat.le_trans (Nat.le_of_lt (Nat.mul_lt_mul_of_pos_left (Nat.lt_log2_self (n := n)) (Nat.two_pow_pos 53))) ?_
    rw [← Nat.pow_add, show 53 + (n.log2 + 1) = 54 + n.log2 by omega]; exact hdv
  have hQ : 2 ^ 54 ≤ 2 * (d / n) + (d % n != 0).toNat := by omega
  have sle := fun y => sticky_le d n y
  have sge := fun y => sticky_ge d n y hnp
  generalize 2 * (d / n) + (d % n != 0).toNat = Q at *
  obtain ⟨r, s1, s2, s3⟩ := rnd_spec double (by decide) (Q * 2 ^ ep) (2 ^ em) (Nat.two_pow_pos _)
  rw [← hR] at s3
  obtain ⟨c, v1, v2, v3⟩ := V_form double r
  generalize r / double.binade - 1 = kk at *
  have hc1 : c + 1 ≤ 2 ^ 53 := by
    have : 2 * double.binade = 2 ^ 53 := by decide
    omega
  -- the digits that are left are enough
  have hkk : ep + 2 ≤ kk + em := by
    have h1 : 2 ^ (54 + ep) < 2 ^ (53 + kk + em) := by
      rw [Nat.pow_add 2 54, Nat.pow_add 2 (53 + kk), Nat.pow_add 2 53]
      rw [v2] at s2
      refine Nat.lt_of_le_of_lt (Nat.mul_le_mul_right (2 ^ ep) hQ) (Nat.lt_of_lt_of_le s2 ?_)
      exact Nat.mul_le_mul_right _ (Nat.mul_le_mul_right _ hc1)
    have := (Nat.pow_lt_pow_iff_right (by omega : 1 < 2)).1 h1
    omega
  obtain ⟨s, hs⟩ : ∃ s, kk + em = ep + 2 + s := ⟨kk + em - (ep + 2), by omega⟩
  have hsp : ∀ u : Nat, u * 2 ^ kk * 2 ^ em = u * 4 * 2 ^ s * 2 ^ ep := by
    intro u
    rw [Nat.mul_assoc u, ← Nat.pow_add, hs, Nat.pow_add, Nat.pow_add, show (2 : Nat) ^ 2 = 4 from rfl, Nat.mul_assoc u 4, Nat.mul_assoc u, Nat.mul_assoc (2 ^ ep), Nat.mul_comm (2 ^ ep)]
  have cancel : ∀ x y : Nat, x * 2 ^ ep ≤ y * 2 ^ ep → x ≤ y := fun x y h => Nat.le_of_mul_le_mul_right h (Nat.two_pow_pos _)
  have cancelt : ∀ x y : Nat, x * 2 ^ ep < y * 2 ^ ep → x < y := fun x y h => Nat.lt_of_mul_lt_mul_right h
  -- how the two sides stand to d
  have up : ∀ u, d ≤ u * 2 ^ s * n → m * 2 ^ k * 2 ^ T ≤ u * 2 ^ kk * (n * 2 ^ l) := by
    intro u hu
    have h1 := Nat.mul_le_mul_right (2 ^ (l + ep + 2)) hu
    refine Nat.le_of_mul_le_mul_right (c := 2 ^ em) ?_ (Nat.two_pow_pos _)
    have e1 : m * 2 ^ k * 2 ^ T * 2 ^ em = d * 2 ^ (l + ep + 2) := by
      rw [← hd, Nat.mul_assoc, Nat.mul_assoc, Nat.mul_assoc, ← Nat.pow_add, ← Nat.pow_add, ← Nat.pow_add]
      exact congrArg _ (pow_split (by omega))
    have e2 : u * 2 ^ kk * (n * 2 ^ l) * 2 ^ em = u * 2 ^ s * n * 2 ^ (l + ep + 2) := by
      have : 2 ^ kk * 2 ^ l * 2 ^ em = 2 ^ s * 2 ^ (l + ep + 2) := by rw [← Nat.pow_add, ← Nat.pow_add, ← Nat.pow_add]; exact pow_split (by omega)
      calc u * 2 ^ kk * (n * 2 ^ l) * 2 ^ em = u * n * (2 ^ kk * 2 ^ l * 2 ^ em) := by simp only [Nat.mul_assoc, Nat.mul_left_comm]
        _ = u * n * (2 ^ s * 2 ^ (l + ep + 2)) := by rw [this]
        _ = u * 2 ^ s * n * 2 ^ (l + ep + 2) := by simp only [Nat.mul_assoc, Nat.mul_left_comm]
    rw [e1, e2]; exact h1
  have dn : ∀ u, u * 2 ^ s * n ≤ d → u * 2 ^ kk * (n * 2 ^ l) ≤ m * 2 ^ k * 2 ^ T := by
    intro u hu
    have h1 := Nat.mul_le_mul_right (2 ^ (l + ep + 2)) hu
    refine Nat.le_of_mul_le_mul_right (c := 2 ^ em) ?_ (Nat.two_pow_pos _)
    have e1 : m * 2 ^ k * 2 ^ T * 2 ^ em = d * 2 ^ (l + ep + 2) := by
      rw [← hd, Nat.mul_assoc, Nat.mul_assoc, Nat.mul_assoc, ← Nat.pow_add, ← Nat.pow_add, ← Nat.pow_add]
      exact congrArg _ (pow_split (by omega))
    have e2 : u * 2 ^ kk * (n * 2 ^ l) * 2 ^ em = u * 2 ^ s * n * 2 ^ (l + ep + 2) := by
      have : 2 ^ kk * 2 ^ l * 2 ^ em = 2 ^ s * 2 ^ (l + ep + 2) := by rw [← Nat.pow_add, ← Nat.pow_add, ← Nat.pow_add]; exact pow_split (by omega)
      calc u * 2 ^ kk * (n * 2 ^ l) * 2 ^ em = u * n * (2 ^ kk * 2 ^ l * 2 ^ em) := by simp only [Nat.mul_assoc, Nat.mul_left_comm]
        _ = u * n * (2 ^ s * 2 ^ (l + ep + 2)) := by rw [this]
        _ = u * 2 ^ s * n * 2 ^ (l + ep + 2) := by simp only [Nat.mul_assoc, Nat.mul_left_comm]
    rw [e1, e2]; exact h1
  have hlo : c * 4 * 2 ^ s ≤ Q := cancel _ _ (by rw [← hsp, ← v1]; exact s1)
  have hhi : Q < (c + 1) * 4 * 2 ^ s := cancelt _ _ (by rw [← hsp, ← v2]; exact s2)
  have hmid : (V double r + V double (r + 1)) * 2 ^ em = (2 * c + 1) * 4 * 2 ^ s * 2 ^ ep := by
    rw [v1, v2, ← Nat.add_mul, ← hsp, show c + (c + 1) = 2 * c + 1 by omega]
  have hmv : V double r + V double (r + 1) = (2 * c + 1) * 2 ^ kk := by rw [v1, v2, ← Nat.add_mul, show c + (c + 1) = 2 * c + 1 by omega]
  rw [hmid] at s3
  by_cases hbit : (2 * c + 1) * 4 * 2 ^ s * 2 ^ ep < 2 * (Q * 2 ^ ep) ∨ ((2 * c + 1) * 4 * 2 ^ s * 2 ^ ep = 2 * (Q * 2 ^ ep) ∧ r % 2 = 1)
  · rw [if_pos hbit] at s3
    subst s3
    have hle : (2 * c + 1) * 4 * 2 ^ s * 2 ^ ep ≤ 2 * Q * 2 ^ ep := by
      rw [Nat.mul_assoc 2]
      rcases hbit with h | h
      · exact Nat.le_of_lt h
      · exact Nat.le_of_eq h.1
    have h2 := cancel _ _ hle
    have h3 : 2 * ((2 * c + 1) * 2 ^ s) ≤ Q := by
      have e : (2 * c + 1) * 4 * 2 ^ s = 2 * (2 * ((2 * c + 1) * 2 ^ s)) := by rw [Nat.mul_right_comm]; omega
      rw [e] at h2
      exact Nat.le_of_mul_le_mul_left h2 (by omega)
    refine ⟨fun _ => ?_, ?_⟩
    · rw [Nat.add_sub_cancel, Nat.add_comm (V double (r + 1)), hmv]
      exact dn _ (sle _ h3)
    · have h4 : Q ≤ 2 * ((2 * (c + 1)) * 2 ^ s) := by
        have e : (c + 1) * 4 * 2 ^ s = 2 * ((2 * (c + 1)) * 2 ^ s) := by rw [Nat.mul_right_comm, Nat.mul_assoc 2]; omega
        rw [e] at hhi
        exact Nat.le_of_lt hhi
      refine Nat.le_trans (up _ (sge _ h4)) (Nat.mul_le_mul_right _ ?_)
      have := V_lt (f := double) (Nat.lt_succ_self (r + 1))
      rw [Nat.mul_assoc 2, ← v2]
      show 2 * V double (r + 1) ≤ V double (r + 1) + V double (r + 1 + 1)
      generalize V double (r + 1) = p at *
      generalize V double (r + 1 + 1) = q at *
      omega
  · rw [if_neg hbit, Nat.add_zero] at s3
    subst s3
    have hge : 2 * Q * 2 ^ ep ≤ (2 * c + 1) * 4 * 2 ^ s * 2 ^ ep := by
      rw [Nat.mul_assoc 2]
      exact Nat.le_of_not_lt fun h => hbit (.inl h)
    have h2 := cancel _ _ hge
    refine ⟨fun h0 => ?_, ?_⟩
    · have h4 : 2 * ((2 * c) * 2 ^ s) ≤ Q := by
        have e : c * 4 * 2 ^ s = 2 * ((2 * c) * 2 ^ s) := by rw [Nat.mul_right_comm, Nat.mul_assoc 2]; omega
        rw [e] at hlo
        exact hlo
      refine Nat.le_trans (Nat.mul_le_mul_right _ ?_) (dn _ (sle _ h4))
      have hv := V_le (f := double) (show R - 1 ≤ R by omega)
      rw [Nat.mul_assoc 2, ← v1]
      generalize V double R = p at *
      generalize V double (R - 1) = q at *
      omega
    · rw [hmv]
      refine up _ (sge _ ?_)
      have e : (2 * c + 1) * 4 * 2 ^ s = 2 * (2 * ((2 * c + 1) * 2 ^ s)) := by rw [Nat.mul_right_comm]; omega
      rw [e] at h2
      exact Nat.le_of_mul_le_mul_left h2 (by omega)

/-- The quotient of two numbers above nought. -/
theorem div_mid (a b T : Nat) (ha : rg double a < double.infRung) (hb : rg double b < double.infRung) (ha0 : rg double a ≠ 0) (hb0 : rg double b ≠ 0) (hsa : sg double a = false) (hsb : sg double b = false) (hT : T = 1075) :
    ∃ R, R ≤ double.infRung ∧ double.div a b = some R ∧ (R ≠ 0 → (V double R + V double (R - 1)) * V double (rg double b) ≤ V double (rg double a) * 2 ^ T) ∧ (R ≠ double.infRung → V double (rg double a) * 2 ^ T ≤ (V double R + V double (R + 1)) * V double (rg double b)) := by
  obtain ⟨m, k, e1, e2, e3, _⟩ := read_fin double a ha
  obtain ⟨n, l, e4, e5, e6, _⟩ := read_fin double b hb
  rw [hsa] at e1
  rw [hsb] at e4
  have hva : V double (rg double a) ≠ 0 := by
    intro h; apply ha0; exact V_inj (f := double) (by rw [h, V_zero])
  have hvb : V double (rg double b) ≠ 0 := by
    intro h; apply hb0; exact V_inj (f := double) (by rw [h, V_zero])
  have hm0 : m ≠ 0 := by rintro rfl; rw [Nat.zero_mul] at e2; exact hva e2.symm
  have hn0 : n ≠ 0 := by rintro rfl; rw [Nat.zero_mul] at e5; exact hvb e5.symm
  have hbin : 2 * double.binade = 2 ^ 53 := by decide
  have hl1 : double.leastPlace = -1074 := by decide
  obtain ⟨more, hmore⟩ : ∃ more, more = 54 + n.log2 - m.log2 := ⟨_, rfl⟩
  obtain ⟨ep, hep⟩ : ∃ ep : Nat, ep = ((double.leastPlace + (k : Int)) - (double.leastPlace + (l : Int)) - (more : Int) - 1 - double.leastPlace).toNat := ⟨_, rfl⟩
  obtain ⟨em, hem⟩ : ∃ em : Nat, em = (double.leastPlace - ((double.leastPlace + (k : Int)) - (double.leastPlace + (l : Int)) - (more : Int) - 1)).toNat := ⟨_, rfl⟩
  have hrel : ep + more + l + 2 = k + T + em := by rw [hl1] at hep hem; omega
  obtain ⟨h1, h2⟩ := quot_mid m n k l T ep em more _ hm0 hn0 (by omega) hmore hT hrel rfl
  rw [e2, e5] at h1 h2
  have hdiv : double.div a b = some (min (rnd double ((2 * (m * 2 ^ more / n) + (m * 2 ^ more % n != 0).toNat) * 2 ^ ep) (2 ^ em)) double.infRung) := by
    unfold Format.div
    rw [e1, e4]
    simp only [Datum.quotient, if_neg hn0, Option.map_some, Format.write, Bool.xor_false]
    rw [nearest_rnd, Nat.shiftLeft_eq]
    have hw : ∀ x, double.word false x = x := fun _ => rfl
    have hmo : double.fractionBits + 2 + n.log2 - m.log2 = more := by rw [hmore]; rfl
    rw [hmo, ← hep, ← hem, hw]
  generalize rnd double ((2 * (m * 2 ^ more / n) + (m * 2 ^ more % n != 0).toNat) * 2 ^ ep) (2 ^ em) = R at *
  refine ⟨min R double.infRung, Nat.min_le_right .., hdiv, fun h0 => ?_, fun hne => ?_⟩
  · have hR0 : R ≠ 0 := by rintro rfl; apply h0; simp
    refine Nat.le_trans (Nat.mul_le_mul_right _ (Nat.add_le_add (V_le (Nat.min_le_left ..)) (V_le ?_))) (h1 hR0)
    have := Nat.min_le_left R double.infRung
    omega
  · have : min R double.infRung = R := by omega
    rw [this]; exact h2
end Flt
end Go.Proofs.YtpdaklklhoenhaaGreatDoor

namespace Go.Proofs.YtpdaklklhoenhaaGreatDoor
namespace Flt
set_option linter.unusedVariables false
set_option linter.unusedSimpArgs false
open Ieee

theorem cutE_eq {n u n' u' : Nat} (hu : 0 < u) (hu' : 0 < u') (h : n * u' = n' * u) : cutE n u = cutE n' u' := by
  rw [← cutE_scale n u u' hu', ← cutE_scale n' u' u hu, h, Nat.mul_comm u u']

/-- To the nearest, by the whole part n, whether something is left, and how many digits fall. -/
def cutN (n sh : Nat) (more : Bool) : Nat := n / 2 ^ sh / 2 + if n / 2 ^ sh % 2 = 1 ∧ ((more || decide (n % 2 ^ sh ≠ 0)) = true ∨ n / 2 ^ sh / 2 % 2 = 1) then 1 else 0

theorem cutE_quot (P Q sh : Nat) (hQ : 0 < Q) : cutE P (Q * 2 ^ (sh + 1)) = cutN (P / Q) sh (decide (P % Q ≠ 0)) := by
  unfold cutE cutN
  have hp := Nat.two_pow_pos sh
  have e1 : P / (Q * 2 ^ (sh + 1)) = P / Q / 2 ^ sh / 2 := by
    rw [← Nat.div_div_eq_div_mul, Nat.pow_succ, ← Nat.div_div_eq_div_mul]
  have e2 : P % (Q * 2 ^ (sh + 1)) = P % Q + Q * (P / Q % 2 ^ (sh + 1)) := Nat.mod_mul
  have hr : P % Q < Q := Nat.mod_lt _ hQ
  rw [e1, e2]
  generalize P / Q = n at *
  generalize P % Q = r at *
  have e3 : n % 2 ^ (sh + 1) = n % 2 ^ sh + 2 ^ sh * (n / 2 ^ sh % 2) := by rw [Nat.pow_succ]; exact Nat.mod_mul
  have hx : n % 2 ^ sh < 2 ^ sh := Nat.mod_lt _ hp
  rw [e3, Nat.pow_succ]
  generalize n / 2 ^ sh = c at *
  generalize n % 2 ^ sh = x at *
  generalize 2 ^ sh = H at *
  refine congrArg _ ?_
  have key : (Q * (H * 2) < 2 * (r + Q * (x + H * (c % 2))) ∨ (Q * (H * 2) = 2 * (r + Q * (x + H * (c % 2))) ∧ c / 2 % 2 = 1)) ↔ (c % 2 = 1 ∧ ((decide (r ≠ 0) || decide (x ≠ 0)) = true ∨ c / 2 % 2 = 1)) := by
    have e4 : Q * (H * 2) = 2 * (Q * H) := by rw [← Nat.mul_assoc, Nat.mul_comm]
    rw [e4]
    have hc : c % 2 = 0 ∨ c % 2 = 1 := by omega
    rcases hc with hc | hc
    · rw [hc, Nat.mul_zero, Nat.add_zero]
      have h1 : Q * (x + 1) ≤ Q * H := Nat.mul_le_mul_left _ hx
      rw [Nat.mul_add, Nat.mul_one] at h1
      constructor
      · rintro (h | h) <;> omega
      · rintro ⟨h, _⟩; omega
    · rw [hc, Nat.mul_one, Nat.mul_add Q]
      have h2 : Q * x = 0 ↔ x = 0 := by
        constructor
        · intro h; rcases Nat.mul_eq_zero.1 h with h | h <;> omega
        · intro h; rw [h, Nat.mul_zero]
      generalize hqx : Q * x = y at *
      simp only [Bool.or_eq_true, decide_eq_true_eq]
      constructor
      · rintro (h | h)
        · refine ⟨trivial, .inl ?_⟩
          by_cases hx0 : x = 0
          · left; have := h2.2 hx0; omega
          · exact .inr hx0
        · exact ⟨trivial, .inr h.2⟩
      · rintro ⟨_, h | h⟩
        · left
          rcases h with h | h
          · omega
          · have : y ≠ 0 := fun e => h (h2.1 e)
            omega
        · by_cases hz : r + y = 0
          · exact .inr ⟨by omega, h⟩
          · left; omega
  by_cases h : Q * (H * 2) < 2 * (r + Q * (x + H * (c % 2))) ∨ (Q * (H * 2) = 2 * (r + Q * (x + H * (c % 2))) ∧ c / 2 % 2 = 1)
  · rw [if_pos h, if_pos (key.1 h)]
  · rw [if_neg h, if_neg (fun e => h (key.2 e))]

theorem log2_quot (N D P Q A B : Nat) (hD : 0 < D) (hQ : 0 < Q) (hn : P / Q ≠ 0) (h : N * (Q * 2 ^ B) = P * (D * 2 ^ A)) : (N / D).log2 = (P / Q).log2 + A - B := by
  have l1 := Nat.log2_self_le hn
  have l2 := Nat.lt_log2_self (n := P / Q)
  generalize (P / Q).log2 = g at *
  rw [Nat.le_div_iff_mul_le hQ] at l1
  rw [Nat.div_lt_iff_lt_mul hQ] at l2
  have g1 : 2 ^ (g + A) * D ≤ N * 2 ^ B := by
    refine Nat.le_of_mul_le_mul_right (c := Q) ?_ hQ
    rw [Nat.mul_assoc N, Nat.mul_comm (2 ^ B), h, Nat.pow_add]
    have := Nat.mul_le_mul_right (D * 2 ^ A) l1
    refine Nat.le_trans (Nat.le_of_eq ?_) this
    simp only [Nat.mul_assoc, Nat.mul_left_comm, Nat.mul_comm]
  have g2 : N * 2 ^ B < 2 ^ (g + 1 + A) * D := by
    refine Nat.lt_of_mul_lt_mul_right (a := Q) ?_
    rw [Nat.mul_assoc N, Nat.mul_comm (2 ^ B), h, Nat.pow_add 2 (g + 1)]
    have := Nat.mul_lt_mul_of_pos_right l2 (Nat.mul_pos hD (Nat.two_pow_pos A))
    refine Nat.lt_of_lt_of_le this (Nat.le_of_eq ?_)
    simp only [Nat.mul_assoc, Nat.mul_left_comm, Nat.mul_comm]
  by_cases hB : B ≤ g + A
  · obtain ⟨j, hj⟩ : ∃ j, g + A = j + B := ⟨g + A - B, by omega⟩
    rw [hj, Nat.pow_add, Nat.mul_right_comm] at g1
    rw [show g + 1 + A = j + 1 + B by omega, Nat.pow_add, Nat.mul_right_comm] at g2
    have g3 := Nat.le_of_mul_le_mul_right g1 (Nat.two_pow_pos B)
    have g4 := Nat.lt_of_mul_lt_mul_right g2
    have h5 : 2 ^ j ≤ N / D := (Nat.le_div_iff_mul_le hD).2 g3
    have h6 : N / D < 2 ^ (j + 1) := (Nat.div_lt_iff_lt_mul hD).2 g4
    rw [hj, Nat.add_sub_cancel]
    have h0 : N / D ≠ 0 := by have := Nat.two_pow_pos j; omega
    exact (Nat.log2_eq_iff h0).2 ⟨h5, h6⟩
  · have h7 : N < D := by
      refine Nat.lt_of_mul_lt_mul_right (a := 2 ^ B) ?_
      refine Nat.lt_of_lt_of_le g2 ?_
      rw [Nat.mul_comm D]
      exact Nat.mul_le_mul_right _ (Nat.pow_le_pow_right (by omega) (by omega))
    rw [Nat.div_eq_of_lt h7, show g + A - B = 0 by omega]
    simp

/-- The nearest rung of N / D = P / Q * 2 ^ (A - B), by the quotient's whole part. -/
theorem rnd_quot (f : Format) (N D P Q A B sh k : Nat) (hD : 0 < D) (hQ : 0 < Q) (hn : P / Q ≠ 0) (h : N * (Q * 2 ^ B) = P * (D * 2 ^ A))
    (hk : k = (P / Q).log2 + A - B - f.fractionBits) (hsh : sh + 1 + A = k + B) : rnd f N D = k * f.binade + cutN (P / Q) sh (decide (P % Q ≠ 0)) := by
  unfold rnd
  rw [log2_quot N D P Q A B hD hQ hn h, ← hk]
  refine congrArg _ ?_
  rw [← cutE_quot P Q sh hQ]
  refine cutE_eq (Nat.mul_pos hD (Nat.two_pow_pos k)) (Nat.mul_pos hQ (Nat.two_pow_pos _)) ?_
  refine Nat.eq_of_mul_eq_mul_right (Nat.two_pow_pos A) ?_
  have e : 2 ^ (sh + 1) * 2 ^ A = 2 ^ k * 2 ^ B := by rw [← Nat.pow_add, ← Nat.pow_add, hsh]
  calc N * (Q * 2 ^ (sh + 1)) * 2 ^ A = N * (Q * (2 ^ (sh + 1) * 2 ^ A)) := by simp only [Nat.mul_assoc]
    _ = N * (Q * 2 ^ B) * 2 ^ k := by rw [e]; simp only [Nat.mul_assoc, Nat.mul_left_comm, Nat.mul_comm]
    _ = P * (D * 2 ^ A) * 2 ^ k := by rw [h]
    _ = P * (D * 2 ^ k) * 2 ^ A := by simp only [Nat.mul_assoc, Nat.mul_left_comm, Nat.mul_comm]

theorem cutN_lt (n sh t : Nat) (more : Bool) (h : n < 2 ^ (sh + 1 + t)) : cutN n sh more ≤ 2 ^ t := by
  unfold cutN
  have : n / 2 ^ sh / 2 < 2 ^ t := by
    rw [Nat.div_div_eq_div_mul, ← Nat.pow_succ, Nat.div_lt_iff_lt_mul (Nat.two_pow_pos _), ← Nat.pow_add, Nat.add_comm t]; exact h
  split <;> omega
end Flt
end Go.Proofs.YtpdaklklhoenhaaGreatDoor
