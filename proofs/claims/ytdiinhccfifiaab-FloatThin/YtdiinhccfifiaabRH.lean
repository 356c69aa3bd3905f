/- Operations of binary32s by way of binary64s: rounded twice, as if once. -/
import Derived.Test.YtdiinhccfifiaabRC
import Derived.Test.YtdiinhccfifiaabRD
import Derived.Test.YtdiinhccfifiaabPB
namespace Go.Proofs.Ytdiinhccfifiaab
namespace Flt
set_option linter.unusedVariables false
set_option linter.unusedSimpArgs false
open Ieee

theorem rnd_of (f : Format) (hf : 1 ≤ f.fractionBits) (n d r : Nat) (hd : 0 < d) (h1 : V f r * d ≤ n) (h2 : n < V f (r + 1) * d) :
    rnd f n d = r + (if (V f r + V f (r + 1)) * d < 2 * n ∨ ((V f r + V f (r + 1)) * d = 2 * n ∧ r % 2 = 1) then 1 else 0) := by
  obtain ⟨s, a1, a2, a3⟩ := rnd_spec f hf n d hd
  have l1 : r < s + 1 := by
    rw [← V_lt_iff (f := f)]; exact Nat.lt_of_mul_lt_mul_right (Nat.lt_of_le_of_lt h1 a2)
  have l2 : s < r + 1 := by
    rw [← V_lt_iff (f := f)]; exact Nat.lt_of_mul_lt_mul_right (Nat.lt_of_le_of_lt a1 h2)
  have : s = r := by omega
  subst this
  exact a3

/-- Close, relatively. -/
def Near (N Y : Nat) : Prop := N * 2 ^ 51 ≤ Y * (2 ^ 51 + 1) ∧ Y * (2 ^ 51 - 1) ≤ N * 2 ^ 51

theorem near_eq (a b i j : Nat) (ha : a < 2 ^ 50) (hb : b < 2 ^ 51) (h : Near (a * 2 ^ i) (b * 2 ^ j)) : a * 2 ^ i = b * 2 ^ j := by
  obtain ⟨h1, h2⟩ := h
  rcases Nat.le_total j i with hij | hij
  · obtain ⟨s, rfl⟩ : ∃ s, i = j + s := ⟨i - j, by omega⟩
    have e : a * 2 ^ (j + s) = a * 2 ^ s * 2 ^ j := by rw [Nat.pow_add, Nat.mul_comm (2 ^ j), Nat.mul_assoc]
    rw [e] at h1 h2 ⊢
    rw [Nat.mul_right_comm, Nat.mul_right_comm b] at h1
    rw [Nat.mul_right_comm, Nat.mul_right_comm (a * 2 ^ s)] at h2
    have g1 := Nat.le_of_mul_le_mul_right h1 (Nat.two_pow_pos j)
    have g2 := Nat.le_of_mul_le_mul_right h2 (Nat.two_pow_pos j)
    generalize a * 2 ^ s = x at *
    have : x = b := by omega
    rw [this]
  · obtain ⟨s, rfl⟩ : ∃ s, j = i + s := ⟨j - i, by omega⟩
    have e : b * 2 ^ (i + s) = b * 2 ^ s * 2 ^ i := by rw [Nat.pow_add, Nat.mul_comm (2 ^ i), Nat.mul_assoc]
    rw [e] at h1 h2 ⊢
    rw [Nat.mul_right_comm, Nat.mul_right_comm (b * 2 ^ s)] at h1
    rw [Nat.mul_right_comm, Nat.mul_right_comm a] at h2
    have g1 := Nat.le_of_mul_le_mul_right h1 (Nat.two_pow_pos i)
    have g2 := Nat.le_of_mul_le_mul_right h2 (Nat.two_pow_pos i)
    generalize b * 2 ^ s = x at *
    have : a = x := by omega
    rw [this]

/-- The middle between two neighbours is one of the wider format. -/
theorem mid_rung (r E c kk : Nat) (hE : 1 ≤ E) (v1 : V single r = c * 2 ^ kk) (v2 : V single (r + 1) = (c + 1) * 2 ^ kk) (v3 : c < 2 * single.binade) :
    ∃ RM, V double RM = (2 * c + 1) * 2 ^ (kk + (E - 1)) ∧ 2 * V double RM = (V single r + V single (r + 1)) * 2 ^ E := by
  have hb : 2 * single.binade = 2 ^ 24 := by decide
  have hb2 : 2 * double.binade = 2 ^ 53 := by decide
  obtain ⟨RM, h⟩ := repr double (2 * c + 1) (kk + (E - 1)) (by omega)
  refine ⟨RM, h, ?_⟩
  rw [h, v1, v2, ← Nat.add_mul, show c + (c + 1) = 2 * c + 1 by omega]
  obtain ⟨e, rfl⟩ : ∃ e, E = e + 1 := ⟨E - 1, by omega⟩
  rw [Nat.add_sub_cancel, Nat.pow_add, Nat.pow_succ]
  simp only [Nat.mul_assoc, Nat.mul_left_comm, Nat.mul_comm]

theorem V_steps (f : Format) (r : Nat) (h : r ≠ 0) : V f r ≤ V f (r - 1) + 2 ^ (r / f.binade - 1) := by
  obtain ⟨s, rfl⟩ : ∃ s, r = s + 1 := ⟨r - 1, by omega⟩
  rw [Nat.add_sub_cancel, V_step]
  refine Nat.add_le_add_left (Nat.pow_le_pow_right (by omega) ?_) _
  have := Nat.div_le_div_right (c := f.binade) (show s ≤ s + 1 by omega)
  omega

/-- A step is small against a great number. -/
theorem step_small (r : Nat) (h : 2 ^ 53 ≤ V double r) : 2 ^ (r / double.binade - 1) * 2 ^ 52 ≤ V double r := by
  have hB : double.binade = 2 ^ 52 := by decide
  unfold V at *
  by_cases h1 : r < double.binade
  · rw [if_pos h1] at h; rw [hB] at h1; omega
  · rw [if_neg h1, Nat.mul_comm]
    refine Nat.mul_le_mul_right _ ?_
    rw [hB]; omega

theorem near_of_mid (N D RM : Nat) (hD : 0 < D) (hbig : 2 ^ 53 ≤ V double RM) (h : rnd double N D = RM) : Near N (V double RM * D) := by
  obtain ⟨m1, m2⟩ := rnd_mid double (by decide) N D hD
  rw [h] at m1 m2
  have h0 : RM ≠ 0 := by rintro rfl; rw [V_zero] at hbig; omega
  have s1 := V_steps double RM h0
  have s2 := V_step double RM
  have s3 := step_small RM hbig
  have m1 := m1 h0
  generalize 2 ^ (RM / double.binade - 1) = u at *
  generalize V double RM = W at *
  rw [s2] at m2
  have m1' : (W + (W - u)) * D ≤ 2 * N := Nat.le_trans (Nat.mul_le_mul_right _ (by omega)) m1
  have g1 : 2 ^ 52 * (u * D) ≤ W * D := by
    have := Nat.mul_le_mul_right D s3
    rwa [Nat.mul_right_comm, Nat.mul_comm (u * D)] at this
  have e1 : (W + (W + u)) * D = 2 * (W * D) + u * D := by rw [Nat.add_mul, Nat.add_mul]; omega
  have e2 : (W + (W - u)) * D = 2 * (W * D) - u * D := by rw [Nat.add_mul, Nat.sub_mul]; have := Nat.mul_le_mul_right D (show u ≤ W by omega); omega
  rw [e1] at m2
  rw [e2] at m1'
  unfold Near
  rw [Nat.mul_add, Nat.mul_one, Nat.mul_sub, Nat.mul_one]
  generalize W * D = Y at *
  generalize u * D = x at *
  omega

/-- Rounding twice is rounding once, where a middle is told of itself alone. -/
theorem twice (N D E : Nat) (hD : 0 < D) (hE : E = 925) (hno : ∀ r c kk RM, V single r = c * 2 ^ kk → V single (r + 1) = (c + 1) * 2 ^ kk → c < 2 ^ 24 → V double RM = (2 * c + 1) * 2 ^ (kk + (E - 1)) → Near N (V double RM * D) → N = V double RM * D) :
    rnd single (V double (rnd double N D)) (2 ^ E) = rnd single N (D * 2 ^ E) := by
  have hE1 : 1 ≤ E := by omega
  have hb : 2 * single.binade = 2 ^ 24 := by decide
  have hb2 : 2 * double.binade = 2 ^ 53 := by decide
  have hp := Nat.two_pow_pos E
  obtain ⟨r, a1, a2, a3⟩ := rnd_spec single (by decide) N (D * 2 ^ E) (Nat.mul_pos hD hp)
  rw [a3]
  obtain ⟨c, v1, v2, v3⟩ := V_form single r
  generalize hkk : r / single.binade - 1 = kk at *
  obtain ⟨RM, w1, w2⟩ := mid_rung r E c kk hE1 v1 v2 v3
  obtain ⟨Rl, l1⟩ := repr double c (kk + E) (by omega)
  obtain ⟨Rh, g1⟩ := repr double (c + 1) (kk + E) (by omega)
  have l2 : V double Rl = V single r * 2 ^ E := by rw [l1, v1, Nat.pow_add, Nat.mul_assoc]
  have g2 : V double Rh = V single (r + 1) * 2 ^ E := by rw [g1, v2, Nat.pow_add, Nat.mul_assoc]
  have hbig : 2 ^ 53 ≤ V double RM := by
    rw [w1]
    refine Nat.le_trans (Nat.pow_le_pow_right (by omega) (show 53 ≤ kk + (E - 1) by omega)) (Nat.le_mul_of_pos_left _ (by omega))
  have hno := hno r c kk RM v1 v2 (by omega) w1
  have hnear : rnd double N D = RM → N = V double RM * D := fun h => hno (near_of_mid N D RM hD hbig h)
  have dlo : Rl ≤ rnd double N D := le_rnd double (by decide) N D Rl hD (by rw [l2, Nat.mul_assoc, Nat.mul_comm (2 ^ E)]; exact a1)
  have dhi : rnd double N D ≤ Rh := rnd_le double (by decide) N D Rh hD (by rw [g2, Nat.mul_assoc, Nat.mul_comm (2 ^ E)]; exact Nat.le_of_lt a2)
  have hM : (V single r + V single (r + 1)) * (D * 2 ^ E) = 2 * (V double RM * D) := by
    rw [← Nat.mul_assoc 2, w2]; simp only [Nat.mul_assoc, Nat.mul_left_comm, Nat.mul_comm]
  rw [hM]
  have dmid1 : N ≤ V double RM * D → rnd double N D ≤ RM := fun h => rnd_le double (by decide) N D RM hD h
  have dmid2 : V double RM * D ≤ N → RM ≤ rnd double N D := fun h => le_rnd double (by decide) N D RM hD h
  generalize rnd double N D = d at *
  have vlo := V_le (f := double) dlo
  have vhi := V_le (f := double) dhi
  rw [l2] at vlo
  rw [g2] at vhi
  have hmid : V double RM < V single (r + 1) * 2 ^ E := by
    have := Nat.mul_lt_mul_of_pos_right (V_lt (f := single) (show r < r + 1 by omega)) hp
    rw [Nat.add_mul] at w2
    omega
  rcases Nat.lt_trichotomy N (V double RM * D) with h | h | h
  · have hd := dmid1 (Nat.le_of_lt h)
    have hne : d ≠ RM := fun e => by have := hnear e; omega
    have hv : V double d < V double RM := V_lt (by omega)
    rw [rnd_of single (by decide) _ _ r hp vlo (by omega), ← w2, if_neg (by omega), if_neg (by omega)]
  · have hd : d = RM := Nat.le_antisymm (dmid1 (Nat.le_of_eq h)) (dmid2 (Nat.le_of_eq h.symm))
    have hlt : V double d < V single (r + 1) * 2 ^ E := by rw [hd]; exact hmid
    rw [rnd_of single (by decide) _ _ r hp vlo hlt, ← w2, hd, ← h]
    simp
  · have hd := dmid2 (Nat.le_of_lt h)
    have hne : d ≠ RM := fun e => by have := hnear e; omega
    have hv : V double RM < V double d := V_lt (by omega)
    rw [if_pos (by omega)]
    rcases Nat.lt_or_ge (V double d) (V single (r + 1) * 2 ^ E) with h5 | h5
    · rw [rnd_of single (by decide) _ _ r hp vlo h5, ← w2, if_pos (by omega)]
    · have e : V double d = V single (r + 1) * 2 ^ E := Nat.le_antisymm vhi h5
      rw [e]
      have := rnd_scale single (V single (r + 1)) 1 (2 ^ E) hp
      rw [Nat.one_mul, rnd_V] at this
      exact this

/-- Of numbers of few digits. -/
theorem twice_few (a b i j E : Nat) (ha : a < 2 ^ 48) (hb : b < 2 ^ 24) (hb0 : 0 < b) (hE : E = 925) :
    rnd single (V double (rnd double (a * 2 ^ i) (b * 2 ^ j))) (2 ^ E) = rnd single (a * 2 ^ i) (b * 2 ^ j * 2 ^ E) := by
  refine twice _ _ E (Nat.mul_pos hb0 (Nat.two_pow_pos _)) hE ?_
  intro r c kk RM v1 v2 v3 w1 hn
  have e : V double RM * (b * 2 ^ j) = (2 * c + 1) * b * 2 ^ (kk + (E - 1) + j) := by
    rw [w1, Nat.pow_add 2 (kk + (E - 1))]; simp only [Nat.mul_assoc, Nat.mul_left_comm, Nat.mul_comm]
  rw [e] at hn ⊢
  refine near_eq _ _ _ _ (by omega) ?_ hn
  have : (2 * c + 1) * b < 2 ^ 25 * 2 ^ 24 := Nat.mul_lt_mul_of_lt_of_lt (by omega) hb
  omega

theorem lt_pow_mul {a b i j : Nat} (h : a * 2 ^ i < 2 ^ j) (ha : 0 < a) : i < j := by
  have : 2 ^ i < 2 ^ j := Nat.lt_of_le_of_lt (Nat.le_mul_of_pos_left _ ha) h
  exact (Nat.pow_lt_pow_iff_right (by omega : 1 < 2)).1 this

theorem dvd_gap {x y p : Nat} (h1 : 2 ^ p ∣ x) (h2 : 2 ^ p ∣ y) (hne : x ≠ y) : x + 2 ^ p ≤ y ∨ y + 2 ^ p ≤ x := by
  obtain ⟨a, rfl⟩ := h1
  obtain ⟨b, rfl⟩ := h2
  rcases Nat.lt_trichotomy a b with h | h | h
  · left
    have := Nat.mul_le_mul_left (2 ^ p) (show a + 1 ≤ b from h)
    rw [Nat.mul_add, Nat.mul_one] at this; exact this
  · subst h; exact absurd rfl hne
  · right
    have := Nat.mul_le_mul_left (2 ^ p) (show b + 1 ≤ a from h)
    rw [Nat.mul_add, Nat.mul_one] at this; exact this

theorem sum_no (E ra N y : Nat) (cb kb r c kk RM : Nat) (hE : 1 ≤ E) (hy : y = cb * 2 ^ (kb + E)) (hcb : cb < 2 ^ 24) (hdN : 2 ^ (kb + E) ∣ N) (hN1 : N ≤ V single ra * 2 ^ E + y) (hN2 : V single ra * 2 ^ E ≤ N + y)
    (v1 : V single r = c * 2 ^ kk) (v2 : V single (r + 1) = (c + 1) * 2 ^ kk) (hc : c < 2 ^ 24) (w1 : V double RM = (2 * c + 1) * 2 ^ (kk + (E - 1))) (hn : Near N (V double RM)) : N = V double RM := by
  refine Classical.byContradiction fun hne => ?_
  obtain ⟨K, hK⟩ : ∃ K, K = 2 ^ 51 := ⟨_, rfl⟩
  unfold Near at hn
  rw [← hK] at hn
  obtain ⟨n1, n2⟩ := hn
  obtain ⟨e, rfl⟩ : ∃ e, E = e + 1 := ⟨E - 1, by omega⟩
  rw [Nat.add_sub_cancel] at w1
  -- how far off: below 2 ^ (kk + e - 26)
  have hW : V double RM < 2 ^ (25 + (kk + e)) := by
    rw [w1, Nat.pow_add 2 25]; exact Nat.mul_lt_mul_of_pos_right (show 2 * c + 1 < 2 ^ 25 by omega) (Nat.two_pow_pos _)
  have hdW : 2 ^ (kk + e) ∣ V double RM := ⟨2 * c + 1, by rw [w1, Nat.mul_comm]⟩
  generalize hWd : V double RM = W at *
  have far1 : N * K ≤ W * K + W := by rw [Nat.mul_add, Nat.mul_one] at n1; exact n1
  have far2 : W * K ≤ N * K + W := by rw [Nat.mul_sub, Nat.mul_one] at n2; omega
  -- the gap is no more than W / 2 ^ 51
  have gap : ∀ p, (N + 2 ^ p ≤ W ∨ W + 2 ^ p ≤ N) → p + 51 < 25 + (kk + e) := by
    intro p h
    have : 2 ^ p * K ≤ W := by
      rcases h with h | h
      · have := Nat.mul_le_mul_right K h
        rw [Nat.add_mul] at this; omega
      · have := Nat.mul_le_mul_right K h
        rw [Nat.add_mul] at this; omega
    have h6 : 2 ^ (p + 51) < 2 ^ (25 + (kk + e)) := by rw [Nat.pow_add, ← hK]; exact Nat.lt_of_le_of_lt this hW
    exact (Nat.pow_lt_pow_iff_right (by omega : 1 < 2)).1 h6
  have hkb : kb + 26 < kk := by
    rcases Nat.le_total kk kb with h | h
    · exfalso
      have hd : 2 ^ (kk + e) ∣ N := Nat.dvd_trans (Nat.pow_dvd_pow 2 (by omega)) hdN
      have := gap _ (dvd_gap hd hdW hne)
      omega
    · rcases Nat.lt_or_ge kb kk with h7 | h7
      · have hd : 2 ^ (kb + (e + 1)) ∣ W := Nat.dvd_trans (Nat.pow_dvd_pow 2 (by omega)) hdW
        have := gap _ (dvd_gap hdN hd hne)
        omega
      · exfalso
        have : kk = kb := by omega
        subst this
        have hd : 2 ^ (kk + e) ∣ N := Nat.dvd_trans (Nat.pow_dvd_pow 2 (by omega)) hdN
        have := gap _ (dvd_gap hd hdW hne)
        omega
  have hyl : y * 4 ≤ 2 ^ (kk + e) := by
    have h8 : cb * 2 ^ (kb + (e + 1)) ≤ 2 ^ 24 * 2 ^ (kb + (e + 1)) := Nat.mul_le_mul_right _ (by omega)
    rw [← Nat.pow_add] at h8
    have h9 : 2 ^ (24 + (kb + (e + 1))) * 2 ^ 2 ≤ 2 ^ (kk + e) := by rw [← Nat.pow_add]; exact Nat.pow_le_pow_right (by omega) (by omega)
    rw [hy]; omega
  have hgl : W * 4 ≤ 2 ^ (kk + e) * K := by
    rw [hK]
    have h9 : 2 ^ (25 + (kk + e)) = 2 ^ 25 * 2 ^ (kk + e) := Nat.pow_add ..
    generalize 2 ^ (kk + e) = X at *
    omega
  -- the neighbours stand half a step off
  have eW1 : W = V single r * 2 ^ (e + 1) + 2 ^ (kk + e) := by
    rw [w1, v1, Nat.pow_add, Nat.pow_succ, Nat.add_mul, Nat.one_mul]
    simp only [Nat.mul_assoc, Nat.mul_left_comm, Nat.mul_comm]
  have eW2 : W + 2 ^ (kk + e) = V single (r + 1) * 2 ^ (e + 1) := by
    rw [w1, v2, show (2 * c + 1) * 2 ^ (kk + e) + 2 ^ (kk + e) = (2 * (c + 1)) * 2 ^ (kk + e) by rw [← Nat.succ_mul]; congr 1, Nat.pow_add, Nat.pow_succ]
    simp only [Nat.mul_assoc, Nat.mul_left_comm, Nat.mul_comm]
  rcases Nat.lt_or_ge r ra with h | h
  · have h10 := Nat.mul_le_mul_right (2 ^ (e + 1)) (V_le (f := single) (show r + 1 ≤ ra from h))
    rw [← eW2] at h10
    have hKW : (N + 2 ^ (kk + e) ≤ W ∨ W + 2 ^ (kk + e) ≤ N) → False := fun h => by have := gap _ h; omega
    have q1 : W * 4 ≤ 2 ^ (kk + e) * K := hgl
    have near1 : (N ≤ W → (W - N) * K ≤ W) ∧ (W ≤ N → (N - W) * K ≤ W) := ⟨fun _ => by rw [Nat.sub_mul]; omega, fun _ => by rw [Nat.sub_mul]; omega⟩
    have near2 : (N ≤ W → (W - N) * 4 ≤ 2 ^ (kk + e)) ∧ (W ≤ N → (N - W) * 4 ≤ 2 ^ (kk + e)) := by
      have hKp : 0 < K := by rw [hK]; exact Nat.two_pow_pos _
      refine ⟨fun h11 => Nat.le_of_mul_le_mul_right (c := K) ?_ hKp, fun h11 => Nat.le_of_mul_le_mul_right (c := K) ?_ hKp⟩
      · have := near1.1 h11; rw [Nat.mul_right_comm]; omega
      · have := near1.2 h11; rw [Nat.mul_right_comm]; omega
    clear near1 q1 hgl far1 far2 hKW gap n1 n2 hK
    generalize 2 ^ (kk + e) = X at *
    generalize V single ra * 2 ^ (e + 1) = A at *
    omega
  · have h10 := Nat.mul_le_mul_right (2 ^ (e + 1)) (V_le (f := single) h)
    have near1 : (N ≤ W → (W - N) * K ≤ W) ∧ (W ≤ N → (N - W) * K ≤ W) := ⟨fun _ => by rw [Nat.sub_mul]; omega, fun _ => by rw [Nat.sub_mul]; omega⟩
    have near2 : (N ≤ W → (W - N) * 4 ≤ 2 ^ (kk + e)) ∧ (W ≤ N → (N - W) * 4 ≤ 2 ^ (kk + e)) := by
      have hKp : 0 < K := by rw [hK]; exact Nat.two_pow_pos _
      refine ⟨fun h11 => Nat.le_of_mul_le_mul_right (c := K) ?_ hKp, fun h11 => Nat.le_of_mul_le_mul_right (c := K) ?_ hKp⟩
      · have := near1.1 h11; rw [Nat.mul_right_comm]; omega
      · have := near1.2 h11; rw [Nat.mul_right_comm]; omega
    clear near1 hgl far1 far2 gap n1 n2 hK
    generalize hX : 2 ^ (kk + e) = X at *
    generalize V single ra * 2 ^ (e + 1) = A at *
    generalize V single r * 2 ^ (e + 1) = C at *
    omega

theorem RtR_exact (f : Format) (R : Nat) : RtR f (V f R * V f R) 1 R := by
  have h := V_lt (f := f) (show R < R + 1 by omega)
  refine ⟨R, by omega, by rw [Nat.mul_one]; exact sq_lt h, ?_⟩
  have h2 : 4 * (V f R * V f R) < (V f R + V f (R + 1)) * (V f R + V f (R + 1)) := by
    have := sq_lt (show 2 * V f R < V f R + V f (R + 1) by omega)
    calc 4 * (V f R * V f R) = 2 * V f R * (2 * V f R) := by rw [show (4 : Nat) = 2 * 2 from rfl]; simp only [Nat.mul_assoc, Nat.mul_left_comm]
      _ < _ := this
  rw [if_neg (by rw [Nat.mul_one]; omega), Nat.add_zero]

theorem RtR_mid (f : Format) (N D R : Nat) (hR : R ≠ 0) (h : RtR f N D R) : (V f R + V f (R - 1)) * (V f R + V f (R - 1)) * D ≤ 4 * N ∧ 4 * N ≤ (V f R + V f (R + 1)) * (V f R + V f (R + 1)) * D := by
  obtain ⟨r, a1, a2, a3⟩ := h
  by_cases hb : (V f r + V f (r + 1)) * (V f r + V f (r + 1)) * D < 4 * N ∨ ((V f r + V f (r + 1)) * (V f r + V f (r + 1)) * D = 4 * N ∧ r % 2 = 1)
  · rw [if_pos hb] at a3
    subst a3
    rw [Nat.add_sub_cancel, Nat.add_comm (V f (r + 1)) (V f r)]
    refine ⟨by rcases hb with h | h <;> omega, ?_⟩
    have h2 := V_le (f := f) (show r + 1 ≤ r + 1 + 1 by omega)
    have h3 : 4 * (V f (r + 1) * V f (r + 1)) ≤ (V f (r + 1) + V f (r + 1 + 1)) * (V f (r + 1) + V f (r + 1 + 1)) := by
      have := sq_le (show 2 * V f (r + 1) ≤ V f (r + 1) + V f (r + 1 + 1) by omega)
      calc 4 * (V f (r + 1) * V f (r + 1)) = 2 * V f (r + 1) * (2 * V f (r + 1)) := by rw [show (4 : Nat) = 2 * 2 from rfl]; simp only [Nat.mul_assoc, Nat.mul_left_comm]
        _ ≤ _ := this
    have h4 := Nat.mul_le_mul_right D h3
    rw [Nat.mul_assoc 4] at h4
    omega
  · rw [if_neg hb, Nat.add_zero] at a3
    subst a3
    refine ⟨?_, Nat.le_of_not_lt fun e => hb (.inl e)⟩
    have h2 := V_le (f := f) (show R - 1 ≤ R by omega)
    have h3 : (V f R + V f (R - 1)) * (V f R + V f (R - 1)) ≤ 4 * (V f R * V f R) := by
      have := sq_le (show V f R + V f (R - 1) ≤ 2 * V f R by omega)
      calc _ ≤ 2 * V f R * (2 * V f R) := this
        _ = 4 * (V f R * V f R) := by rw [show (4 : Nat) = 2 * 2 from rfl]; simp only [Nat.mul_assoc, Nat.mul_left_comm]
    have h4 := Nat.mul_le_mul_right D h3
    rw [Nat.mul_assoc 4] at h4
    omega

theorem near_of_root (Z RM : Nat) (hbig : 2 ^ 53 ≤ V double RM) (h : RtR double Z 1 RM) : Near Z (V double RM * V double RM) := by
  have h0 : RM ≠ 0 := by rintro rfl; rw [V_zero] at hbig; omega
  obtain ⟨m1, m2⟩ := RtR_mid double Z 1 RM h0 h
  have s1 := V_steps double RM h0
  have s2 := V_step double RM
  have s3 := step_small RM hbig
  generalize 2 ^ (RM / double.binade - 1) = u at *
  rw [s2] at m2
  generalize V double RM = W at *
  rw [Nat.mul_one] at m1 m2
  have m1' : (2 * W - u) * (2 * W - u) ≤ 4 * Z := Nat.le_trans (sq_le (by omega)) m1
  have m2' : 4 * Z ≤ (2 * W + u) * (2 * W + u) := by rw [show 2 * W + u = W + (W + u) by omega]; exact m2
  have e1 : (2 * W + u) * (2 * W + u) = 4 * (W * W) + 4 * (W * u) + u * u := by
    rw [Nat.add_mul, Nat.mul_add, Nat.mul_add]
    have a1 : 2 * W * (2 * W) = 4 * (W * W) := by rw [show (4 : Nat) = 2 * 2 from rfl]; simp only [Nat.mul_assoc, Nat.mul_left_comm]
    have a2 : 2 * W * u = 2 * (W * u) := Nat.mul_assoc ..
    have a3 : u * (2 * W) = 2 * (W * u) := by rw [Nat.mul_left_comm, Nat.mul_comm u W]
    omega
  have e2 : (2 * W - u) * (2 * W - u) + 4 * (W * u) = 4 * (W * W) + u * u := by
    obtain ⟨d, hd⟩ : ∃ d, 2 * W = d + u := ⟨2 * W - u, by omega⟩
    rw [show 2 * W - u = d by omega]
    have a1 : 4 * (W * W) = (d + u) * (d + u) := by rw [← hd, show (4 : Nat) = 2 * 2 from rfl]; simp only [Nat.mul_assoc, Nat.mul_left_comm]
    have a2 : 4 * (W * u) = 2 * ((d + u) * u) := by rw [← hd, show (4 : Nat) = 2 * 2 from rfl]; simp only [Nat.mul_assoc, Nat.mul_left_comm]
    have x1 : (d + u) * (d + u) = d * d + 2 * (d * u) + u * u := by rw [Nat.add_mul, Nat.mul_add, Nat.mul_add, Nat.mul_comm u d]; omega
    have x2 : (d + u) * u = d * u + u * u := Nat.add_mul ..
    rw [a1, a2, x1, x2]
    omega
  have p1 : 2 ^ 52 * (W * u) ≤ W * W := by
    have := Nat.mul_le_mul_left W s3
    rw [← Nat.mul_assoc, Nat.mul_comm] at this
    exact this
  have p2 : u * u ≤ W * u := Nat.mul_le_mul_right _ (by omega)
  unfold Near
  rw [Nat.mul_add, Nat.mul_one, Nat.mul_sub, Nat.mul_one]
  generalize W * W = Y at *
  generalize W * u = x at *
  generalize u * u = y at *
  generalize (2 * W - u) * (2 * W - u) = q at *
  omega

/-- Of roots. -/
theorem twice_root (c0 i E R R' : Nat) (hc0 : c0 < 2 ^ 24) (hE : E = 925) (hR : RtR double (c0 * 2 ^ i) 1 R) (hR' : RtR single (c0 * 2 ^ i) (2 ^ E * 2 ^ E) R') : rnd single (V double R) (2 ^ E) = R' := by
  have hE1 : 1 ≤ E := by omega
  have hp := Nat.two_pow_pos E
  have hb : 2 * single.binade = 2 ^ 24 := by decide
  have hb2 : 2 * double.binade = 2 ^ 53 := by decide
  obtain ⟨r, a1, a2, a3⟩ := hR'
  rw [a3]
  obtain ⟨c, v1, v2, v3⟩ := V_form single r
  generalize hkk : r / single.binade - 1 = kk at *
  obtain ⟨RM, w1, w2⟩ := mid_rung r E c kk hE1 v1 v2 v3
  obtain ⟨Rl, l1⟩ := repr double c (kk + E) (by omega)
  obtain ⟨Rh, g1⟩ := repr double (c + 1) (kk + E) (by omega)
  have l2 : V double Rl = V single r * 2 ^ E := by rw [l1, v1, Nat.pow_add, Nat.mul_assoc]
  have g2 : V double Rh = V single (r + 1) * 2 ^ E := by rw [g1, v2, Nat.pow_add, Nat.mul_assoc]
  have hbig : 2 ^ 53 ≤ V double RM := by
    rw [w1]
    refine Nat.le_trans (Nat.pow_le_pow_right (by omega) (show 53 ≤ kk + (E - 1) by omega)) (Nat.le_mul_of_pos_left _ (by omega))
  have sqE : ∀ x : Nat, x * x * (2 ^ E * 2 ^ E) = x * 2 ^ E * (x * 2 ^ E) := fun x => by simp only [Nat.mul_assoc, Nat.mul_left_comm]
  rw [sqE, ← l2] at a1
  rw [sqE, ← g2] at a2
  have hM : (V single r + V single (r + 1)) * (V single r + V single (r + 1)) * (2 ^ E * 2 ^ E) = 4 * (V double RM * V double RM) := by
    rw [sqE, ← w2, show (4 : Nat) = 2 * 2 from rfl]; simp only [Nat.mul_assoc, Nat.mul_left_comm]
  rw [hM]
  have hnear : R = RM → c0 * 2 ^ i = V double RM * V double RM := fun e => by
    have hn := near_of_root _ RM hbig (e ▸ hR)
    have e2 : V double RM * V double RM = (2 * c + 1) * (2 * c + 1) * 2 ^ (kk + (E - 1) + (kk + (E - 1))) := by
      rw [w1, Nat.pow_add 2 (kk + (E - 1))]; simp only [Nat.mul_assoc, Nat.mul_left_comm, Nat.mul_comm]
    rw [e2] at hn ⊢
    refine near_eq _ _ _ _ (by omega) ?_ hn
    have : (2 * c + 1) * (2 * c + 1) < 2 ^ 25 * 2 ^ 25 := Nat.mul_lt_mul_of_lt_of_lt (by omega) (by omega)
    omega
  have dlo : Rl ≤ R := RtR.mono (by omega) (by omega) (RtR_exact double Rl) hR (by rw [Nat.mul_one, Nat.mul_one]; exact a1)
  have dhi : R ≤ Rh := RtR.mono (by omega) (by omega) hR (RtR_exact double Rh) (by rw [Nat.mul_one, Nat.mul_one]; exact Nat.le_of_lt a2)
  have dmid1 : c0 * 2 ^ i ≤ V double RM * V double RM → R ≤ RM := fun h => RtR.mono (by omega) (by omega) hR (RtR_exact double RM) (by rw [Nat.mul_one, Nat.mul_one]; exact h)
  have dmid2 : V double RM * V double RM ≤ c0 * 2 ^ i → RM ≤ R := fun h => RtR.mono (by omega) (by omega) (RtR_exact double RM) hR (by rw [Nat.mul_one, Nat.mul_one]; exact h)
  have vlo := V_le (f := double) dlo
  have vhi := V_le (f := double) dhi
  rw [l2] at vlo
  rw [g2] at vhi
  have hmid : V double RM < V single (r + 1) * 2 ^ E := by
    have := Nat.mul_lt_mul_of_pos_right (V_lt (f := single) (show r < r + 1 by omega)) hp
    rw [Nat.add_mul] at w2
    omega
  clear hR a1 a2 a3
  generalize c0 * 2 ^ i = N at *
  generalize hWW : V double RM * V double RM = WW at *
  rcases Nat.lt_trichotomy N WW with h | h | h
  · have hd := dmid1 (Nat.le_of_lt h)
    have hne : R ≠ RM := fun e => by have := hnear e; omega
    have hv : V double R < V double RM := V_lt (by omega)
    rw [rnd_of single (by decide) _ _ r hp vlo (by omega), ← w2, if_neg (by omega), if_neg (by omega)]
  · have hd : R = RM := Nat.le_antisymm (dmid1 (Nat.le_of_eq h)) (dmid2 (Nat.le_of_eq h.symm))
    have hlt : V double R < V single (r + 1) * 2 ^ E := by rw [hd]; exact hmid
    rw [rnd_of single (by decide) _ _ r hp vlo hlt, ← w2, hd, ← h]
    simp
  · have hd := dmid2 (Nat.le_of_lt h)
    have hne : R ≠ RM := fun e => by have := hnear e; omega
    have hv : V double RM < V double R := V_lt (by omega)
    rw [if_pos (by omega)]
    rcases Nat.lt_or_ge (V double R) (V single (r + 1) * 2 ^ E) with h5 | h5
    · rw [rnd_of single (by decide) _ _ r hp vlo h5, ← w2, if_pos (by omega)]
    · have e : V double R = V single (r + 1) * 2 ^ E := Nat.le_antisymm vhi h5
      rw [e]
      have := rnd_scale single (V single (r + 1)) 1 (2 ^ E) hp
      rw [Nat.one_mul, rnd_V] at this
      exact this

/-- Of sums. -/
theorem twice_sum (ra rb N E : Nat) (hE : E = 925) (s t : Bool) (hN : N = (signed s (V single ra) 0 + signed t (V single rb) 0).natAbs * 2 ^ E) :
    rnd single (V double (rnd double N 1)) (2 ^ E) = rnd single N (1 * 2 ^ E) := by
  refine twice N 1 E (by omega) hE ?_
  intro r c kk RM v1 v2 v3 w1 hn
  rw [Nat.mul_one] at hn ⊢
  obtain ⟨ca, ea, fa, _⟩ := V_form single ra
  obtain ⟨cb, eb, fb, _⟩ := V_form single rb
  have hb : 2 * single.binade = 2 ^ 24 := by decide
  have ca' : ca < 2 ^ 24 := by omega
  have cb' : cb < 2 ^ 24 := by omega
  generalize ra / single.binade - 1 = ka at *
  generalize rb / single.binade - 1 = kb at *
  -- N against either
  have hA : V single ra * 2 ^ E = ca * 2 ^ (ka + E) := by rw [ea, Nat.pow_add, Nat.mul_assoc]
  have hB : V single rb * 2 ^ E = cb * 2 ^ (kb + E) := by rw [eb, Nat.pow_add, Nat.mul_assoc]
  have hN1 : N ≤ V single ra * 2 ^ E + V single rb * 2 ^ E ∧ V single ra * 2 ^ E ≤ N + V single rb * 2 ^ E ∧ V single rb * 2 ^ E ≤ N + V single ra * 2 ^ E := by
    rw [hN, ← Nat.add_mul, ← Nat.add_mul, ← Nat.add_mul]
    have h0 : (signed s (V single ra) 0 + signed t (V single rb) 0).natAbs ≤ V single ra + V single rb ∧ V single ra ≤ (signed s (V single ra) 0 + signed t (V single rb) 0).natAbs + V single rb ∧ V single rb ≤ (signed s (V single ra) 0 + signed t (V single rb) 0).natAbs + V single ra := by
      unfold signed
      simp only [Nat.shiftLeft_eq, Nat.pow_zero, Nat.mul_one]
      cases s <;> cases t <;> simp only [Bool.false_eq_true, if_false, if_true] <;> omega
    exact ⟨Nat.mul_le_mul_right _ h0.1, Nat.mul_le_mul_right _ h0.2.1, Nat.mul_le_mul_right _ h0.2.2⟩
  have hdv : ∀ p, p ≤ ka → p ≤ kb → 2 ^ (p + E) ∣ N := by
    intro p h1 h2
    rw [hN, Nat.pow_add]
    refine Nat.mul_dvd_mul ?_ (Nat.dvd_refl _)
    have d1 : 2 ^ p ∣ V single ra := by rw [ea]; exact Nat.dvd_mul_left_of_dvd (Nat.pow_dvd_pow 2 h1) _
    have d2 : 2 ^ p ∣ V single rb := by rw [eb]; exact Nat.dvd_mul_left_of_dvd (Nat.pow_dvd_pow 2 h2) _
    have di : ∀ (s : Bool) (x : Nat), 2 ^ p ∣ x → ((2 ^ p : Nat) : Int) ∣ signed s x 0 := by
      intro s x hx
      unfold signed
      simp only [Nat.shiftLeft_eq, Nat.pow_zero, Nat.mul_one]
      cases s
      · simp only [Bool.false_eq_true, if_false]; exact Int.natCast_dvd_natCast.2 hx
      · simp only [if_true]; exact Int.dvd_neg.2 (Int.natCast_dvd_natCast.2 hx)
    have h9 := Int.natAbs_dvd_natAbs.2 (Int.dvd_add (di s _ d1) (di t _ d2))
    rwa [Int.natAbs_natCast] at h9
  rcases Nat.le_total kb ka with hk | hk
  · exact sum_no E ra N _ cb kb r c kk RM (by omega) hB cb' (hdv kb hk (Nat.le_refl _)) hN1.1 hN1.2.1 v1 v2 v3 w1 hn
  · exact sum_no E rb N _ ca ka r c kk RM (by omega) hA ca' (hdv ka (Nat.le_refl _) hk) (by omega) hN1.2.2 v1 v2 v3 w1 hn
end Flt
end Go.Proofs.Ytdiinhccfifiaab
