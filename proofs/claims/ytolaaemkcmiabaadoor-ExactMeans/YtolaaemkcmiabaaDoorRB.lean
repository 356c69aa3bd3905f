/- Ieee's operations: the nearest rungs of exact numbers. -/
import Derived.Test.YtolaaemkcmiabaaDoorFJ
import Derived.Test.YtolaaemkcmiabaaDoorFD
/- Sums and products either way; exact numbers; the wider format. -/
namespace Go.Proofs.YtolaaemkcmiabaaDoor
namespace Flt
set_option linter.unusedVariables false
set_option linter.unusedSimpArgs false
open Ieee

theorem sum_comm (x y : Datum) : x.sum y = y.sum x := by
  cases x <;> cases y <;> try rfl
  · rename_i s m i t n j
    simp only [Datum.sum]
    rw [Int.min_comm i j, Int.add_comm (signed s m _), Bool.and_comm s t]
  · rename_i s t
    simp only [Datum.sum]
    by_cases h : s = t
    · subst h; rfl
    · rw [if_neg h, if_neg (fun e => h e.symm)]
theorem product_comm (x y : Datum) : x.product y = y.product x := by
  cases x <;> cases y <;> try rfl
  · simp only [Datum.product]
    rw [Bool.xor_comm, Nat.mul_comm, Int.add_comm]
  · simp only [Datum.product]
    rw [Bool.xor_comm]

theorem add_comm (f : Format) (a b : Nat) : f.add a b = f.add b a := by unfold Format.add; rw [sum_comm]
theorem mul_comm (f : Format) (a b : Nat) : f.mul a b = f.mul b a := by unfold Format.mul; rw [product_comm]
theorem fma_comm (f : Format) (a b c : Nat) : f.fma a b c = f.fma b a c := by unfold Format.fma; rw [product_comm]

theorem read_by (f : Format) (a b : Nat) (h1 : rg f a = rg f b) (h2 : sg f a = !sg f b) : f.read a = (f.read b).opposite := by
  unfold Format.read
  dsimp only
  rw [show a % f.signWeight = rg f a from rfl, show (a / f.signWeight % 2 == 1) = sg f a from rfl, show b % f.signWeight = rg f b from rfl, show (b / f.signWeight % 2 == 1) = sg f b from rfl, h1, h2]
  split
  · rfl
  · split
    · rfl
    · split <;> rfl

theorem sub_add (f : Format) (a b c : Nat) (h1 : rg f c = rg f b) (h2 : sg f c = !sg f b) : f.sub a b = f.add a c := by
  unfold Format.sub Format.add
  rw [read_by f c b h1 h2]

theorem signed_opp (s : Bool) (m i : Nat) : signed s m i + signed (!s) m i = 0 := by
  unfold signed; cases s <;> simp <;> omega

theorem sub_self (f : Format) (a : Nat) (h : rg f a < f.infRung) : f.sub a a = some 0 := by
  obtain ⟨m, k, e1, _⟩ := read_fin f a h
  unfold Format.sub
  rw [e1]
  simp only [Datum.opposite, Datum.sum, signed_opp]
  simp only [if_true, Int.natAbs_zero, Option.map_some, Format.write]
  unfold Format.nearest Format.word
  cases sg f a <;> rfl

theorem nearest_shift (f : Format) (neg : Bool) (m j : Nat) (p : Int) : f.nearest neg (m * 2 ^ j) (p - j) = f.nearest neg m p := by
  rw [nearest_rnd, nearest_rnd]
  refine congrArg _ (congrArg (min · _) ?_)
  refine rnd_eq f (Nat.two_pow_pos _) (Nat.two_pow_pos _) ?_
  rw [Nat.mul_assoc, Nat.mul_assoc, Nat.mul_assoc, ← Nat.pow_add, ← Nat.pow_add, ← Nat.pow_add]
  congr 2
  omega

/-- An exact number is told as it is. -/
theorem nearest_exact (f : Format) (neg : Bool) (m R : Nat) (p : Int) (hR : R ≤ f.infRung) (h : m * 2 ^ (p - f.leastPlace).toNat = V f R * 2 ^ (f.leastPlace - p).toNat) : f.nearest neg m p = f.word neg R := by
  rw [nearest_rnd]
  refine congrArg _ ?_
  rw [rnd_eq f (d' := 1) (n' := V f R) (Nat.two_pow_pos _) (by omega) (by rw [Nat.mul_one]; exact h), rnd_V]
  exact Nat.min_eq_left hR

theorem repr (f : Format) (c k : Nat) (h : c < 2 * f.binade) : ∃ R, V f R = c * 2 ^ k := by
  by_cases h0 : c = 0
  · exact ⟨0, by rw [h0, V_zero, Nat.zero_mul]⟩
  · have hl : c.log2 ≤ f.fractionBits := by
      have : c.log2 < f.fractionBits + 1 := (Nat.log2_lt h0).2 (by rw [Nat.pow_succ, Nat.mul_comm]; exact h)
      omega
    refine ⟨(k - min k (f.fractionBits - c.log2)) * f.binade + c * 2 ^ (min k (f.fractionBits - c.log2)), ?_⟩
    have h1 : c * 2 ^ (min k (f.fractionBits - c.log2)) < 2 * f.binade := by
      have a1 := Nat.mul_lt_mul_of_pos_right (Nat.lt_log2_self (n := c)) (Nat.two_pow_pos (min k (f.fractionBits - c.log2)))
      rw [← Nat.pow_add] at a1
      have a2 : 2 ^ (c.log2 + 1 + min k (f.fractionBits - c.log2)) ≤ 2 ^ (f.fractionBits + 1) := Nat.pow_le_pow_right (by omega) (by omega)
      have a3 : 2 ^ (f.fractionBits + 1) = 2 * f.binade := by rw [Nat.pow_succ, Nat.mul_comm]; rfl
      omega
    have h2 : k - min k (f.fractionBits - c.log2) = 0 ∨ f.binade ≤ c * 2 ^ (min k (f.fractionBits - c.log2)) := by
      rcases Nat.le_total k (f.fractionBits - c.log2) with h3 | h3
      · left; omega
      · right
        rw [Nat.min_eq_right h3]
        have := Nat.mul_le_mul_right (2 ^ (f.fractionBits - c.log2)) (Nat.log2_self_le h0)
        rw [← Nat.pow_add, Nat.add_sub_cancel' hl] at this
        exact this
    rw [(V_at f _ _ h1 h2).1, Nat.mul_assoc, ← Nat.pow_add]
    congr 2
    omega

theorem word_self (f : Format) (w : Nat) (h : w < 2 * f.signWeight) : f.word (sg f w) (rg f w) = w := by
  have hs := signWeight_pos f
  have hd := Nat.div_add_mod w f.signWeight
  have hq : w / f.signWeight < 2 := by rw [Nat.div_lt_iff_lt_mul hs]; exact h
  unfold Format.word sg rg
  by_cases h1 : w / f.signWeight = 1
  · rw [h1, Nat.mul_one] at hd
    rw [h1]
    simp only [show (1 % 2 == 1) = true from rfl, if_true]
    exact hd
  · have h2 : w / f.signWeight = 0 := by generalize w / f.signWeight = q at *; omega
    rw [h2, Nat.mul_zero, Nat.zero_add] at hd
    rw [h2]
    simp only [show (0 % 2 == 1) = false from rfl, Bool.false_eq_true, if_false]
    exact hd

theorem V_inf (f : Format) (h : 1 ≤ f.exponentBits) : V f f.infRung = 2 ^ (f.fractionBits + (2 ^ f.exponentBits - 2)) := by
  have hp : 2 ^ 1 ≤ 2 ^ f.exponentBits := Nat.pow_le_pow_right (by omega) h
  have e : f.infRung = (2 ^ f.exponentBits - 2) * f.binade + f.binade := by
    unfold Format.infRung
    rw [← Nat.succ_mul]
    exact congrArg (· * f.binade) (by omega)
  rw [e, (V_at f _ f.binade (by have := binade_pos f; omega) (.inr (Nat.le_refl _))).1, Nat.pow_add]
  rfl

/-- How much finer the wider format's least place is. -/
def gapE : Nat := 925

/-- A binary32's number, as a binary64, and back. -/
theorem widened (f : Nat) (h : rg single f < single.infRung) : ∃ R m' k' : Nat, (R < double.infRung ∧ V double R = V single (rg single f) * 2 ^ gapE) ∧ (∃ m k : Nat, single.read f = .number (sg single f) m (single.leastPlace + k) ∧ double.nearest (sg single f) m (single.leastPlace + k) = double.word (sg single f) R) ∧
    double.read (double.word (sg single f) R) = .number (sg single f) m' (double.leastPlace + k') ∧ single.nearest (sg single f) m' (double.leastPlace + k') = single.word (sg single f) (rg single f) := by
  obtain ⟨m, k, e1, e2, e3, e4⟩ := read_fin single f h
  have hm : m < 2 * double.binade := Nat.lt_trans e3 (by decide)
  have hE : gapE = 925 := rfl
  obtain ⟨R, hR⟩ := repr double m (k + gapE) hm
  have hRi : R < double.infRung := by
    rw [← V_lt_iff (f := double), hR, V_inf double (by decide), Nat.pow_add, ← Nat.mul_assoc, e2]
    have := V_lt (f := single) h
    rw [V_inf single (by decide)] at this
    refine Nat.lt_trans (Nat.mul_lt_mul_of_pos_right this (Nat.two_pow_pos _)) ?_
    rw [← Nat.pow_add]
    refine Nat.pow_lt_pow_right (by omega) ?_
    rw [hE]; decide
  have hl1 : double.leastPlace = -1074 := by decide
  have hl2 : single.leastPlace = -149 := by decide
  have hRs : R < double.signWeight := Nat.lt_trans hRi double.infRung_lt
  obtain ⟨m', k', g1, g2, _⟩ := read_fin double (double.word (sg single f) R) (by rw [rg_word _ _ _ hRs]; exact hRi)
  rw [sg_word _ _ _ hRs] at g1
  rw [rg_word _ _ _ hRs] at g2
  refine ⟨R, m', k', ⟨hRi, by rw [hR, Nat.pow_add, ← Nat.mul_assoc, e2]⟩, ⟨m, k, e1, ?_⟩, g1, ?_⟩
  · refine nearest_exact double _ m R _ (Nat.le_of_lt hRi) ?_
    rw [hl1, hl2, hR, show (-149 + (k : Int) - -1074).toNat = k + gapE by omega, show (-1074 - (-149 + (k : Int))).toNat = 0 by omega, Nat.pow_zero, Nat.mul_one]
  · refine nearest_exact single _ m' _ _ (Nat.le_of_lt h) ?_
    rw [hl1, hl2, ← e2]
    rw [hR] at g2
    rcases Nat.le_total gapE k' with h1 | h1
    · rw [show (-1074 + (k' : Int) - -149).toNat = k' - gapE by omega, show (-149 - (-1074 + (k' : Int))).toNat = 0 by omega, Nat.pow_zero, Nat.mul_one]
      refine Nat.eq_of_mul_eq_mul_right (Nat.two_pow_pos gapE) ?_
      rw [Nat.mul_assoc, Nat.mul_assoc, ← Nat.pow_add, ← Nat.pow_add, Nat.sub_add_cancel h1]
      exact g2
    · rw [show (-1074 + (k' : Int) - -149).toNat = 0 by omega, show (-149 - (-1074 + (k' : Int))).toNat = gapE - k' by omega, Nat.pow_zero, Nat.mul_one]
      refine Nat.eq_of_mul_eq_mul_right (Nat.two_pow_pos k') ?_
      rw [Nat.mul_assoc, Nat.mul_assoc, ← Nat.pow_add, ← Nat.pow_add, show k + (gapE - k' + k') = k + gapE by omega]
      exact g2
end Flt
end Go.Proofs.YtolaaemkcmiabaaDoor

/- Rounding a quotient by its whole part and what is left. -/
namespace Go.Proofs.YtolaaemkcmiabaaDoor
namespace Flt
set_option linter.unusedVariables false
set_option linter.unusedSimpArgs false
open Ieee

theorem cutE_eq {n u n' u' : Nat} (hu : 0 < u) (hu' : 0 < u') (h : n * u' = n' * u) : cutE n u = cutE n' u' := by
  rw [← cutE_scale n u u' hu', ← cutE_scale n' u' u hu, h, Nat.mul_comm u u']

/-- To the nearest, by the whole part n, whether something is left, and how many digits fall. -/
def cutN (n sh : Nat) (more : Bool) : Nat := n / 2 ^ sh / 2 + if n / 2 ^ sh % 2 = 1 ∧ ((more || decide (n % 2 ^ sh ≠ 0)) = true ∨ n / 2 ^ sh / 2 % 2 = 1) then 1 else 0

theorem cutE_quot (P Q sh : Nat) (hQ : 0 < Q) : cutE P (Q * 2 ^ (sh + 1)) = cutN (P / Q) sh (decide (P % Q ≠ 0)) := by
  unfold cutE cutN
  have hp := Nat.two_pow_pos sh
  have e1 : P / (Q * 2 ^ (sh + 1)) = P / Q / 2 ^ sh / 2 := by
    rw [← Nat.div_div_eq_div_mul, Nat.pow_succ, ← Nat.div_div_eq_div_mul]
  have e2 : P % (Q * 2 ^ (sh + 1)) = P % Q + Q * (P / Q % 2 ^ (sh + 1)) := Nat.mod_mul
  have hr : P % Q < Q := Nat.mod_lt _ hQ
  rw [e1, e2]
  generalize P / Q = n at *
  generalize P % Q = r at *
  have e3 : n % 2 ^ (sh + 1) = n % 2 ^ sh + 2 ^ sh * (n / 2 ^ sh % 2) := by rw [Nat.pow_succ]; exact Nat.mod_mul
  have hx : n % 2 ^ sh < 2 ^ sh := Nat.mod_lt _ hp
  rw [e3, Nat.pow_succ]
  generalize n / 2 ^ sh = c at *
  generalize n % 2 ^ sh = x at *
  generalize 2 ^ sh = H at *
  refine congrArg _ ?_
  have key : (Q * (H * 2) < 2 * (r + Q * (x + H * (c % 2))) ∨ (Q * (H * 2) = 2 * (r + Q * (x + H * (c % 2))) ∧ c / 2 % 2 = 1)) ↔ (c % 2 = 1 ∧ ((decide (r ≠ 0) || decide (x ≠ 0)) = true ∨ c / 2 % 2 = 1)) := by
    have e4 : Q * (H * 2) = 2 * (Q * H) := by rw [← Nat.mul_assoc, Nat.mul_comm]
    rw [e4]
    have hc : c % 2 = 0 ∨ c % 2 = 1 := by omega
    rcases hc with hc | hc
    · rw [hc, Nat.mul_zero, Nat.add_zero]
      have h1 : Q * (x + 1) ≤ Q * H := Nat.mul_le_mul_left _ hx
      rw [Nat.mul_add, Nat.mul_one] at h1
      constructor
      · rintro (h | h) <;> omega
      · rintro ⟨h, _⟩; omega
    · rw [hc, Nat.mul_one, Nat.mul_add Q]
      have h2 : Q * x = 0 ↔ x = 0 := by
        constructor
        · intro h; rcases Nat.mul_eq_zero.1 h with h | h <;> omega
        · intro h; rw [h, Nat.mul_zero]
      generalize hqx : Q * x = y at *
      simp only [Bool.or_eq_true, decide_eq_true_eq]
      constructor
      · rintro (h | h)
        · refine ⟨trivial, .inl ?_⟩
          by_cases hx0 : x = 0
          · left; have := h2.2 hx0; omega
          · exact .inr hx0
        · exact ⟨trivial, .inr h.2⟩
      · rintro ⟨_, h | h⟩
        · left
          rcases h with h | h
          · omega
          · have : y ≠ 0 := fun e => h (h2.1 e)
            omega
        · by_cases hz : r + y = 0
          · exact .inr ⟨by omega, h⟩
          · left; omega
  by_cases h : Q * (H * 2) < 2 * (r + Q * (x + H * (c % 2))) ∨ (Q * (H * 2) = 2 * (r + Q * (x + H * (c % 2))) ∧ c / 2 % 2 = 1)
  · rw [if_pos h, if_pos (key.1 h)]
  · rw [if_neg h, if_neg (fun e => h (key.2 e))]

theorem log2_quot (N D P Q A B : Nat) (hD : 0 < D) (hQ : 0 < Q) (hn : P / Q ≠ 0) (h : N * (Q * 2 ^ B) = P * (D * 2 ^ A)) : (N / D).log2 = (P / Q).log2 + A - B := by
  have l1 := Nat.log2_self_le hn
  have l2 := Nat.lt_log2_self (n := P / Q)
  generalize (P / Q).log2 = g at *
  rw [Nat.le_div_iff_mul_le hQ] at l1
  rw [Nat.div_lt_iff_lt_mul hQ] at l2
  have g1 : 2 ^ (g + A) * D ≤ N * 2 ^ B := by
    refine Nat.le_of_mul_le_mul_right (c := Q) ?_ hQ
    rw [Nat.mul_assoc N, Nat.mul_comm (2 ^ B), h, Nat.pow_add]
    have := Nat.mul_le_mul_right (D * 2 ^ A) l1
    refine Nat.le_trans (Nat.le_of_eq ?_) this
    simp only [Nat.mul_assoc, Nat.mul_left_comm, Nat.mul_comm]
  have g2 : N * 2 ^ B < 2 ^ (g + 1 + A) * D := by
    refine Nat.lt_of_mul_lt_mul_right (a := Q) ?_
    rw [Nat.mul_assoc N, Nat.mul_comm (2 ^ B), h, Nat.pow_add 2 (g + 1)]
    have := Nat.mul_lt_mul_of_pos_right l2 (Nat.mul_pos hD (Nat.two_pow_pos A))
    refine Nat.lt_of_lt_of_le this (Nat.le_of_eq ?_)
    simp only [Nat.mul_assoc, Nat.mul_left_comm, Nat.mul_comm]
  by_cases hB : B ≤ g + A
  · obtain ⟨j, hj⟩ : ∃ j, g + A = j + B := ⟨g + A - B, by omega⟩
    rw [hj, Nat.pow_add, Nat.mul_right_comm] at g1
    rw [show g + 1 + A = j + 1 + B by omega, Nat.pow_add, Nat.mul_right_comm] at g2
    have g3 := Nat.le_of_mul_le_mul_right g1 (Nat.two_pow_pos B)
    have g4 := Nat.lt_of_mul_lt_mul_right g2
    have h5 : 2 ^ j ≤ N / D := (Nat.le_div_iff_mul_le hD).2 g3
    have h6 : N / D < 2 ^ (j + 1) := (Nat.div_lt_iff_lt_mul hD).2 g4
    rw [hj, Nat.add_sub_cancel]
    have h0 : N / D ≠ 0 := by have := Nat.two_pow_pos j; omega
    exact (Nat.log2_eq_iff h0).2 ⟨h5, h6⟩
  · have h7 : N < D := by
      refine Nat.lt_of_mul_lt_mul_right (a := 2 ^ B) ?_
      refine Nat.lt_of_lt_of_le g2 ?_
      rw [Nat.mul_comm D]
      exact Nat.mul_le_mul_right _ (Nat.pow_le_pow_right (by omega) (by omega))
    rw [Nat.div_eq_of_lt h7, show g + A - B = 0 by omega]
    simp

/-- The nearest rung of N / D = P / Q * 2 ^ (A - B), by the quotient's whole part. -/
theorem rnd_quot (f : Format) (N D P Q A B sh k : Nat) (hD : 0 < D) (hQ : 0 < Q) (hn : P / Q ≠ 0) (h : N * (Q * 2 ^ B) = P * (D * 2 ^ A))
    (hk : k = (P / Q).log2 + A - B - f.fractionBits) (hsh : sh + 1 + A = k + B) : rnd f N D = k * f.binade + cutN (P / Q) sh (decide (P % Q ≠ 0)) := by
  unfold rnd
  rw [log2_quot N D P Q A B hD hQ hn h, ← hk]
  refine congrArg _ ?_
  rw [← cutE_quot P Q sh hQ]
  refine cutE_eq (Nat.mul_pos hD (Nat.two_pow_pos k)) (Nat.mul_pos hQ (Nat.two_pow_pos _)) ?_
  refine Nat.eq_of_mul_eq_mul_right (Nat.two_pow_pos A) ?_
  have e : 2 ^ (sh + 1) * 2 ^ A = 2 ^ k * 2 ^ B := by rw [← Nat.pow_add, ← Nat.pow_add, hsh]
  calc N * (Q * 2 ^ (sh + 1)) * 2 ^ A = N * (Q * (2 ^ (sh + 1) * 2 ^ A)) := by simp only [Nat.mul_assoc]
    _ = N * (Q * 2 ^ B) * 2 ^ k := by rw [e]; simp only [Nat.mul_assoc, Nat.mul_left_comm, Nat.mul_comm]
    _ = P * (D * 2 ^ A) * 2 ^ k := by rw [h]
    _ = P * (D * 2 ^ k) * 2 ^ A := by simp only [Nat.mul_assoc, Nat.mul_left_comm, Nat.mul_comm]

theorem cutN_lt (n sh t : Nat) (more : Bool) (h : n < 2 ^ (sh + 1 + t)) : cutN n sh more ≤ 2 ^ t := by
  unfold cutN
  have : n / 2 ^ sh / 2 < 2 ^ t := by
    rw [Nat.div_div_eq_div_mul, ← Nat.pow_succ, Nat.div_lt_iff_lt_mul (Nat.two_pow_pos _), ← Nat.pow_add, Nat.add_comm t]; exact h
  split <;> omega
end Flt
end Go.Proofs.YtolaaemkcmiabaaDoor

namespace Go.Proofs.YtolaaemkcmiabaaDoor
namespace Flt
set_option linter.unusedVariables false
set_option linter.unusedSimpArgs false
open Ieee

theorem cutN_sticky (q sh : Nat) (b : Bool) : cutN (2 * q + b.toNat) (sh + 1) false = cutN q sh b := by
  have hb : b.toNat ≤ 1 := Bool.toNat_le _
  have e1 : (2 * q + b.toNat) / 2 ^ (sh + 1) = q / 2 ^ sh := by
    rw [Nat.pow_succ, Nat.mul_comm (2 ^ sh), ← Nat.div_div_eq_div_mul]
    congr 1; omega
  have e2 : (2 * q + b.toNat) % 2 ^ (sh + 1) = b.toNat + 2 * (q % 2 ^ sh) := by
    rw [Nat.pow_succ, Nat.mul_comm (2 ^ sh), Nat.mod_mul]
    have : (2 * q + b.toNat) % 2 = b.toNat := by omega
    have h2 : (2 * q + b.toNat) / 2 = q := by omega
    rw [this, h2]
  unfold cutN
  rw [e1, e2]
  have e3 : (false || decide (b.toNat + 2 * (q % 2 ^ sh) ≠ 0)) = (b || decide (q % 2 ^ sh ≠ 0)) := by
    generalize q % 2 ^ sh = x
    cases b
    · have h : (false.toNat + 2 * x ≠ 0) ↔ (x ≠ 0) := by show (0 + 2 * x ≠ 0) ↔ _; omega
      simp only [h]
    · simp
  rw [e3]

theorem rnd_zero (f : Format) (d : Nat) : rnd f 0 d = 0 := by
  unfold rnd cutE; simp

/-- A number of which one digit more says whether something is left. -/
theorem rnd_sticky (f : Format) (q A B sh k : Nat) (b : Bool) (hq : q ≠ 0) (hk : k = q.log2 + 1 + A - B - f.fractionBits) (hsh : sh + 2 + A = k + B) :
    rnd f ((2 * q + b.toNat) * 2 ^ A) (2 ^ B) = k * f.binade + cutN q sh b := by
  have hb : b.toNat ≤ 1 := Bool.toNat_le _
  have hl : (2 * q + b.toNat).log2 = q.log2 + 1 := by
    rw [Nat.log2_eq_iff (by omega)]
    have l1 := Nat.log2_self_le hq
    have l2 := Nat.lt_log2_self (n := q)
    rw [Nat.pow_succ 2 (q.log2 + 1), Nat.pow_succ 2 q.log2] at *
    omega
  have h := rnd_quot f ((2 * q + b.toNat) * 2 ^ A) (2 ^ B) (2 * q + b.toNat) 1 A B (sh + 1) k (Nat.two_pow_pos _) (by omega) (by rw [Nat.div_one]; omega)
    (by rw [Nat.one_mul, Nat.mul_assoc, Nat.mul_comm (2 ^ A)]) (by rw [Nat.div_one, hl]; exact hk) (by omega)
  rw [h, Nat.div_one, Nat.mod_one]
  simp only [ne_eq, not_true_eq_false, decide_false]
  rw [cutN_sticky]

theorem mul_rnd (f : Format) (T a b : Nat) (hT : f.leastPlace = -(T : Int)) (ha : rg f a < f.infRung) (hb : rg f b < f.infRung) :
    f.mul a b = some (f.word (sg f a ^^ sg f b) (min (rnd f (V f (rg f a) * V f (rg f b)) (2 ^ T)) f.infRung)) := by
  obtain ⟨m, k, e1, e2, _⟩ := read_fin f a ha
  obtain ⟨n, l, e3, e4, _⟩ := read_fin f b hb
  unfold Format.mul
  rw [e1, e3]
  simp only [Datum.product, Option.map_some, Format.write]
  rw [nearest_rnd]
  refine congrArg _ (congrArg _ (congrArg (min · _) ?_))
  refine rnd_eq f (Nat.two_pow_pos _) (Nat.two_pow_pos _) ?_
  rw [← e2, ← e4]
  have e : 2 ^ (f.leastPlace + (k : Int) + (f.leastPlace + (l : Int)) - f.leastPlace).toNat * 2 ^ T = 2 ^ k * 2 ^ l * 2 ^ (f.leastPlace - (f.leastPlace + (k : Int) + (f.leastPlace + (l : Int)))).toNat := by
    rw [← Nat.pow_add, ← Nat.pow_add, ← Nat.pow_add]; congr 1; omega
  generalize 2 ^ (f.leastPlace + (k : Int) + (f.leastPlace + (l : Int)) - f.leastPlace).toNat = X at *
  generalize 2 ^ (f.leastPlace - (f.leastPlace + (k : Int) + (f.leastPlace + (l : Int)))).toNat = Y at *
  rw [Nat.mul_assoc, e]
  simp only [Nat.mul_assoc, Nat.mul_left_comm, Nat.mul_comm]

theorem natAbs_scale (z : Int) (c : Nat) : (z * (c : Int)).natAbs = z.natAbs * c := by rw [Int.natAbs_mul]; rfl

/-- The sum of two signed numbers of units: its sign. -/
def sgn2 (s t : Bool) (z : Int) : Bool := if z = 0 then s && t else decide (z < 0)
theorem sgn2_scale (s t : Bool) (z c : Int) (h : 0 < c) : sgn2 s t (z * c) = sgn2 s t z := by
  unfold sgn2
  rcases Int.lt_trichotomy z 0 with h1 | h1 | h1
  · have h2 : z * c < 0 := by
      have := Int.mul_lt_mul_of_pos_right h1 h
      rwa [Int.zero_mul] at this
    rw [if_neg (by omega), if_neg (by omega), decide_eq_true h1, decide_eq_true h2]
  · subst h1; rw [Int.zero_mul]
  · have h2 : 0 < z * c := Int.mul_pos h1 h
    rw [if_neg (by omega), if_neg (by omega), decide_eq_false (by omega), decide_eq_false (by omega)]

theorem sum_rnd (f : Format) (s t : Bool) (m n : Nat) (i j : Int) (X Y D : Nat) (hX : m * 2 ^ (i - min i j).toNat * 2 ^ (min i j - f.leastPlace).toNat * D = X * 2 ^ (f.leastPlace - min i j).toNat) (hY : n * 2 ^ (j - min i j).toNat * 2 ^ (min i j - f.leastPlace).toNat * D = Y * 2 ^ (f.leastPlace - min i j).toNat) (hD : 0 < D) :
    ((Datum.number s m i).sum (.number t n j)).map f.write = some (f.word (sgn2 s t (signed s X 0 + signed t Y 0)) (min (rnd f (signed s X 0 + signed t Y 0).natAbs D) f.infRung)) := by
  simp only [Datum.sum, Option.map_some, Format.write]
  rw [nearest_rnd]
  generalize (i - min i j).toNat = p at *
  generalize (j - min i j).toNat = q at *
  generalize (min i j - f.leastPlace).toNat = A at *
  generalize (f.leastPlace - min i j).toNat = B at *
  have key : (signed s m p + signed t n q) * ((2 ^ A * D : Nat) : Int) = (signed s X 0 + signed t Y 0) * ((2 ^ B : Nat) : Int) := by
    have one : ∀ (s : Bool) (m p X : Nat), m * 2 ^ p * 2 ^ A * D = X * 2 ^ B → signed s m p * ((2 ^ A * D : Nat) : Int) = signed s X 0 * ((2 ^ B : Nat) : Int) := by
      intro s m p X h
      unfold signed
      simp only [Nat.shiftLeft_eq, Nat.pow_zero, Nat.mul_one]
      cases s
      · simp only [Bool.false_eq_true, if_false]
        rw [← Int.natCast_mul, ← Int.natCast_mul, ← h]; congr 1; simp only [Nat.mul_assoc]
      · simp only [if_true]
        rw [Int.neg_mul, Int.neg_mul, ← Int.natCast_mul, ← Int.natCast_mul, ← h]; congr 2; simp only [Nat.mul_assoc]
    rw [Int.add_mul, Int.add_mul, one s m p X hX, one t n q Y hY]
  have hA : (0 : Int) < ((2 ^ A * D : Nat) : Int) := by exact_mod_cast Nat.mul_pos (Nat.two_pow_pos A) hD
  have hB : (0 : Int) < ((2 ^ B : Nat) : Int) := by exact_mod_cast Nat.two_pow_pos B
  generalize signed s m p + signed t n q = z at *
  generalize signed s X 0 + signed t Y 0 = y at *
  have e1 : sgn2 s t z = sgn2 s t y := by rw [← sgn2_scale s t z _ hA, ← sgn2_scale s t y _ hB, key]
  have e2 : z.natAbs * (2 ^ A * D) = y.natAbs * 2 ^ B := by rw [← natAbs_scale, ← natAbs_scale, key]
  show some (f.word (sgn2 s t z) _) = _
  rw [e1]
  refine congrArg _ (congrArg _ (congrArg (min · _) ?_))
  refine rnd_eq f (Nat.two_pow_pos _) hD ?_
  rw [Nat.mul_assoc]; exact e2

theorem add_rnd (f : Format) (a b : Nat) (ha : rg f a < f.infRung) (hb : rg f b < f.infRung) :
    f.add a b = some (f.word (sgn2 (sg f a) (sg f b) (sv f a + sv f b)) (min (rnd f (sv f a + sv f b).natAbs 1) f.infRung)) := by
  obtain ⟨m, k, e1, e2, _⟩ := read_fin f a ha
  obtain ⟨n, l, e3, e4, _⟩ := read_fin f b hb
  unfold Format.add
  rw [e1, e3, sv_signed, sv_signed]
  refine sum_rnd f _ _ m n _ _ _ _ 1 ?_ ?_ (by omega)
  · rw [← e2, Nat.mul_one, Nat.mul_assoc, Nat.mul_assoc, ← Nat.pow_add, ← Nat.pow_add]
    congr 2; omega
  · rw [← e4, Nat.mul_one, Nat.mul_assoc, Nat.mul_assoc, ← Nat.pow_add, ← Nat.pow_add]
    congr 2; omega

theorem fma_rnd (f : Format) (T a b c : Nat) (hT : f.leastPlace = -(T : Int)) (ha : rg f a < f.infRung) (hb : rg f b < f.infRung) (hc : rg f c < f.infRung) :
    f.fma a b c = some (f.word (sgn2 (sg f a ^^ sg f b) (sg f c) (signed (sg f a ^^ sg f b) (V f (rg f a) * V f (rg f b)) 0 + signed (sg f c) (V f (rg f c) * 2 ^ T) 0))
      (min (rnd f (signed (sg f a ^^ sg f b) (V f (rg f a) * V f (rg f b)) 0 + signed (sg f c) (V f (rg f c) * 2 ^ T) 0).natAbs (2 ^ T)) f.infRung)) := by
  obtain ⟨m, k, e1, e2, _⟩ := read_fin f a ha
  obtain ⟨n, l, e3, e4, _⟩ := read_fin f b hb
  obtain ⟨o, j, e5, e6, _⟩ := read_fin f c hc
  unfold Format.fma
  rw [e1, e3, e5]
  simp only [Datum.product, Option.bind_some]
  refine sum_rnd f _ _ (m * n) o _ _ _ _ (2 ^ T) ?_ ?_ (Nat.two_pow_pos _)
  · rw [← e2, ← e4]
    rw [show m * 2 ^ k * (n * 2 ^ l) = m * n * (2 ^ k * 2 ^ l) by simp only [Nat.mul_assoc, Nat.mul_left_comm, Nat.mul_comm]]
    simp only [Nat.mul_assoc, ← Nat.pow_add]
    congr 3; omega
  · rw [← e6]
    simp only [Nat.mul_assoc, ← Nat.pow_add]
    congr 2; omega

theorem div_rnd (f : Format) (T a b : Nat) (hT : f.leastPlace = -(T : Int)) (ha : rg f a < f.infRung) (hb : rg f b < f.infRung) (hb0 : rg f b ≠ 0) :
    f.div a b = some (f.word (sg f a ^^ sg f b) (min (rnd f (V f (rg f a) * 2 ^ T) (V f (rg f b))) f.infRung)) := by
  obtain ⟨m, k, e1, e2, e7, _⟩ := read_fin f a ha
  obtain ⟨n, l, e3, e4, _⟩ := read_fin f b hb
  have hvb : V f (rg f b) ≠ 0 := by
    intro h; apply hb0; exact V_inj (f := f) (by rw [h, V_zero])
  have hn0 : n ≠ 0 := by rintro rfl; rw [Nat.zero_mul] at e4; exact hvb e4.symm
  have hnp : 0 < n := Nat.pos_of_ne_zero hn0
  unfold Format.div
  rw [e1, e3]
  simp only [Datum.quotient, if_neg hn0, Option.map_some, Format.write]
  rw [nearest_rnd]
  refine congrArg _ (congrArg _ (congrArg (min · _) ?_))
  generalize hmore : f.fractionBits + 2 + n.log2 - m.log2 = more
  rw [Nat.shiftLeft_eq]
  by_cases hm0 : m = 0
  · subst hm0
    rw [Nat.zero_mul] at e2
    rw [← e2]
    simp [rnd_zero]
  · have hml : m.log2 ≤ f.fractionBits := by
      have : m.log2 < f.fractionBits + 1 := (Nat.log2_lt hm0).2 (by rw [Nat.pow_succ, Nat.mul_comm]; exact e7)
      omega
    -- the quotient's digits
    have hq1 : 2 ^ (f.fractionBits + 1) ≤ m * 2 ^ more / n := by
      rw [Nat.le_div_iff_mul_le hnp]
      refine Nat.le_trans (Nat.le_of_lt (Nat.mul_lt_mul_of_pos_left (Nat.lt_log2_self (n := n)) (Nat.two_pow_pos _))) ?_
      have := Nat.mul_le_mul_right (2 ^ more) (Nat.log2_self_le hm0)
      rw [← Nat.pow_add] at this ⊢
      rw [show m.log2 + more = f.fractionBits + 1 + (n.log2 + 1) by omega] at this
      exact this
    have hq0 : m * 2 ^ more / n ≠ 0 := by have := Nat.two_pow_pos (f.fractionBits + 1); omega
    have hql : f.fractionBits + 1 ≤ (m * 2 ^ more / n).log2 := (Nat.le_log2 hq0).2 hq1
    generalize hA : (f.leastPlace + (k : Int) - (f.leastPlace + (l : Int)) - (more : Int) - 1 - f.leastPlace).toNat = A
    generalize hB : (f.leastPlace - (f.leastPlace + (k : Int) - (f.leastPlace + (l : Int)) - (more : Int) - 1)).toNat = B
    obtain ⟨kk, hkk⟩ : ∃ kk, kk = (m * 2 ^ more / n).log2 + 1 + A - B - f.fractionBits := ⟨_, rfl⟩
    obtain ⟨sh, hsh⟩ : ∃ sh, sh + 2 + A = kk + B := ⟨kk + B - 2 - A, by omega⟩
    rw [show (m * 2 ^ more % n != 0) = decide (m * 2 ^ more % n ≠ 0) by by_cases h : m * 2 ^ more % n = 0 <;> simp [h]]
    rw [rnd_sticky f _ A B sh kk _ hq0 hkk hsh, ← e2, ← e4]
    -- the same of the whole numbers
    have hrel : A + l + more + 1 = k + T + B := by omega
    refine (rnd_quot f (m * 2 ^ k * 2 ^ T) (n * 2 ^ l) (m * 2 ^ more) n (k + T) (l + more) sh kk (Nat.mul_pos hnp (Nat.two_pow_pos _)) hnp hq0 ?_ (by omega) (by omega)).symm
    simp only [Nat.pow_add]
    simp only [Nat.mul_assoc, Nat.mul_left_comm, Nat.mul_comm]

/-- A number of the wider format in the narrower one. -/
theorem narrow_rnd (a : Nat) (ha : rg double a < double.infRung) (neg : Bool) (m : Nat) (p : Int) (h : double.read a = .number neg m p) :
    single.nearest neg m p = single.word neg (min (rnd single (V double (rg double a)) (2 ^ gapE)) single.infRung) := by
  obtain ⟨m', k, e1, e2, _⟩ := read_fin double a ha
  rw [h] at e1
  injection e1 with h1 h2 h3
  subst h2 h3
  rw [nearest_rnd]
  refine congrArg _ (congrArg (min · _) ?_)
  have hl1 : double.leastPlace = -1074 := by decide
  have hl2 : single.leastPlace = -149 := by decide
  have hE : gapE = 925 := rfl
  refine rnd_eq single (Nat.two_pow_pos _) (Nat.two_pow_pos _) ?_
  rw [← e2, hl1, hl2]
  simp only [Nat.mul_assoc, ← Nat.pow_add]
  congr 2; omega
end Flt
end Go.Proofs.YtolaaemkcmiabaaDoor
