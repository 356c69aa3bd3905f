/- Columns of which every value is changed by the same bits; bytes behind the first value's; plain. -/
import Derived.Test.YtleffbpjjbiobaaGreatDoorRC
import Derived.Test.YtleffbpjjbiobaaGreatDoorFP
import Derived.Test.YtleffbpjjbiobaaGreatDoorNF
import Derived.Test.YtleffbpjjbiobaaGreatDoorC9S
import Derived.Test.YtleffbpjjbiobaaGreatDoorP1T
/- Operations of binary32s by way of binary64s: rounded twice, as if once. -/
namespace Go.Proofs.YtleffbpjjbiobaaGreatDoor
namespace Flt
set_option linter.unusedVariables false
set_option linter.unusedSimpArgs false
open Ieee

theorem rnd_of (f : Format) (hf : 1 ≤ f.fractionBits) (n d r : Nat) (hd : 0 < d) (h1 : V f r * d ≤ n) (h2 : n < V f (r + 1) * d) :
    rnd f n d = r + (if (V f r + V f (r + 1)) * d < 2 * n ∨ ((V f r + V f (r + 1)) * d = 2 * n ∧ r % 2 = 1) then 1 else 0) := by
  obtain ⟨s, a1, a2, a3⟩ := rnd_spec f hf n d hd
  have l1 : r < s + 1 := by
    rw [← V_lt_iff (f := f)]; exact Nat.lt_of_mul_lt_mul_right (Nat.lt_of_le_of_lt h1 a2)
  have l2 : s < r + 1 := by
    rw [← V_lt_iff (f := f)]; exact Nat.lt_of_mul_lt_mul_right (Nat.lt_of_le_of_lt a1 h2)
  have : s = r := by omega
  subst this
  exact a3

/-- Close, relatively. -/
def Near (N Y : Nat) : Prop := N * 2 ^ 51 ≤ Y * (2 ^ 51 + 1) ∧ Y * (2 ^ 51 - 1) ≤ N * 2 ^ 51

theorem near_eq (a b i j : Nat) (ha : a < 2 ^ 50) (hb : b < 2 ^ 51) (h : Near (a * 2 ^ i) (b * 2 ^ j)) : a * 2 ^ i = b * 2 ^ j := by
  obtain ⟨h1, h2⟩ := h
  rcases Nat.le_total j i with hij | hij
  · obtain ⟨s, rfl⟩ : ∃ s, i = j + s := ⟨i - j, by omega⟩
    have e : a * 2 ^ (j + s) = a * 2 ^ s * 2 ^ j := by rw [Nat.pow_add, Nat.mul_comm (2 ^ j), Nat.mul_assoc]
    rw [e] at h1 h2 ⊢
    rw [Nat.mul_right_comm, Nat.mul_right_comm b] at h1
    rw [Nat.mul_right_comm, Nat.mul_right_comm (a * 2 ^ s)] at h2
    have g1 := Nat.le_of_mul_le_mul_right h1 (Nat.two_pow_pos j)
    have g2 := Nat.le_of_mul_le_mul_right h2 (Nat.two_pow_pos j)
    generalize a * 2 ^ s = x at *
    have : x = b := by omega
    rw [this]
  · obtain ⟨s, rfl⟩ : ∃ s, j = i + s := ⟨j - i, by omega⟩
    have e : b * 2 ^ (i + s) = b * 2 ^ s * 2 ^ i := by rw [Nat.pow_add, Nat.mul_comm (2 ^ i), Nat.mul_assoc]
    rw [e] at h1 h2 ⊢
    rw [Nat.mul_right_comm, Nat.mul_right_comm (b * 2 ^ s)] at h1
    rw [Nat.mul_right_comm, Nat.mul_right_comm a] at h2
    have g1 := Nat.le_of_mul_le_mul_right h1 (Nat.two_pow_pos i)
    have g2 := Nat.le_of_mul_le_mul_right h2 (Nat.two_pow_pos i)
    generalize b * 2 ^ s = x at *
    have : a = x := by omega
    rw [this]

/-- The middle between two neighbours is one of the wider format. -/
theorem mid_rung (r E c kk : Nat) (hE : 1 ≤ E) (v1 : V single r = c * 2 ^ kk) (v2 : V single (r + 1) = (c + 1) * 2 ^ kk) (v3 : c < 2 * single.binade) :
    ∃ RM, V double RM = (2 * c + 1) * 2 ^ (kk + (E - 1)) ∧ 2 * V double RM = (V single r + V single (r + 1)) * 2 ^ E := by
  have hb : 2 * single.binade = 2 ^ 24 := by decide
  have hb2 : 2 * double.binade = 2 ^ 53 := by decide
  obtain ⟨RM, h⟩ := repr double (2 * c + 1) (kk + (E - 1)) (by omega)
  refine ⟨RM, h, ?_⟩
  rw [h, v1, v2, ← Nat.add_mul, show c + (c + 1) = 2 * c + 1 by omega]
  obtain ⟨e, rfl⟩ : ∃ e, E = e + 1 := ⟨E - 1, by omega⟩
  rw [Nat.add_sub_cancel, Nat.pow_add, Nat.pow_succ]
  simp only [Nat.mul_assoc, Nat.mul_left_comm, Nat.mul_comm]

theorem V_steps (f : Format) (r : Nat) (h : r ≠ 0) : V f r ≤ V f (r - 1) + 2 ^ (r / f.binade - 1) := by
  obtain ⟨s, rfl⟩ : ∃ s, r = s + 1 := ⟨r - 1, by omega⟩
  rw [Nat.add_sub_cancel, V_step]
  refine Nat.add_le_add_left (Nat.pow_le_pow_right (by omega) ?_) _
  have := Nat.div_le_div_right (c := f.binade) (show s ≤ s + 1 by omega)
  omega

/-- A step is small against a great number. -/
theorem step_small (r : Nat) (h : 2 ^ 53 ≤ V double r) : 2 ^ (r / double.binade - 1) * 2 ^ 52 ≤ V double r := by
  have hB : double.binade = 2 ^ 52 := by decide
  unfold V at *
  by_cases h1 : r < double.binade
  · rw [if_pos h1] at h; rw [hB] at h1; omega
  · rw [if_neg h1, Nat.mul_comm]
    refine Nat.mul_le_mul_right _ ?_
    rw [hB]; omega

theorem near_of_mid (N D RM : Nat) (hD : 0 < D) (hbig : 2 ^ 53 ≤ V double RM) (h : rnd double N D = RM) : Near N (V double RM * D) := by
  obtain ⟨m1, m2⟩ := rnd_mid double (by decide) N D hD
  rw [h] at m1 m2
  have h0 : RM ≠ 0 := by rintro rfl; rw [V_zero] at hbig; omega
  have s1 := V_steps double RM h0
  have s2 := V_step double RM
  have s3 := step_small RM hbig
  have m1 := m1 h0
  generalize 2 ^ (RM / double.binade - 1) = u at *
  generalize V double RM = W at *
  rw [s2] at m2
  have m1' : (W + (W - u)) * D ≤ 2 * N := Nat.le_trans (Nat.mul_le_mul_right _ (by omega)) m1
  have g1 : 2 ^ 52 * (u * D) ≤ W * D := by
    have := Nat.mul_le_mul_right D s3
    rwa [Nat.mul_right_comm, Nat.mul_comm (u * D)] at this
  have e1 : (W + (W + u)) * D = 2 * (W * D) + u * D := by rw [Nat.add_mul, Nat.add_mul]; omega
  have e2 : (W + (W - u)) * D = 2 * (W * D) - u * D := by rw [Nat.add_mul, Nat.sub_mul]; have := Nat.mul_le_mul_right D (show u ≤ W by omega); omega
  rw [e1] at m2
  rw [e2] at m1'
  unfold Near
  rw [Nat.mul_add, Nat.mul_one, Nat.mul_sub, Nat.mul_one]
  generalize W * D = Y at *
  generalize u * D = x at *
  omega

/-- Rounding twice is rounding once, where a middle is told of itself alone. -/
theorem twice (N D E : Nat) (hD : 0 < D) (hE : E = 925) (hno : ∀ r c kk RM, V single r = c * 2 ^ kk → V single (r + 1) = (c + 1) * 2 ^ kk → c < 2 ^ 24 → V double RM = (2 * c + 1) * 2 ^ (kk + (E - 1)) → Near N (V double RM * D) → N = V double RM * D) :
    rnd single (V double (rnd double N D)) (2 ^ E) = rnd single N (D * 2 ^ E) := by
  have hE1 : 1 ≤ E := by omega
  have hb : 2 * single.binade = 2 ^ 24 := by decide
  have hb2 : 2 * double.binade = 2 ^ 53 := by decide
  have hp := Nat.two_pow_pos E
  obtain ⟨r, a1, a2, a3⟩ := rnd_spec single (by decide) N (D * 2 ^ E) (Nat.mul_pos hD hp)
  rw [a3]
  obtain ⟨c, v1, v2, v3⟩ := V_form single r
  generalize hkk : r / single.binade - 1 = kk at *
  obtain ⟨RM, w1, w2⟩ := mid_rung r E c kk hE1 v1 v2 v3
  obtain ⟨Rl, l1⟩ := repr double c (kk + E) (by omega)
  obtain ⟨Rh, g1⟩ := repr double (c + 1) (kk + E) (by omega)
  have l2 : V double Rl = V single r * 2 ^ E := by rw [l1, v1, Nat.pow_add, Nat.mul_assoc]
  have g2 : V double Rh = V single (r + 1) * 2 ^ E := by rw [g1, v2, Nat.pow_add, Nat.mul_assoc]
  have hbig : 2 ^ 53 ≤ V double RM := by
    rw [w1]
    refine Nat.le_trans (Nat.pow_le_pow_right (by omega) (show 53 ≤ kk + (E - 1) by omega)) (Nat.le_mul_of_pos_left _ (by omega))
  have hno := hno r c kk RM v1 v2 (by omega) w1
  have hnear : rnd double N D = RM → N = V double RM * D := fun h => hno (near_of_mid N D RM hD hbig h)
  have dlo : Rl ≤ rnd double N D := le_rnd double (by decide) N D Rl hD (by rw [l2, Nat.mul_assoc, Nat.mul_comm (2 ^ E)]; exact a1)
  have dhi : rnd double N D ≤ Rh := rnd_le double (by decide) N D Rh hD (by rw [g2, Nat.mul_assoc, Nat.mul_comm (2 ^ E)]; exact Nat.le_of_lt a2)
  have hM : (V single r + V single (r + 1)) * (D * 2 ^ E) = 2 * (V double RM * D) := by
    rw [← Nat.mul_assoc 2, w2]; simp only [Nat.mul_assoc, Nat.mul_left_comm, Nat.mul_comm]
  rw [hM]
  have dmid1 : N ≤ V double RM * D → rnd double N D ≤ RM := fun h => rnd_le double (by decide) N D RM hD h
  have dmid2 : V double RM * D ≤ N → RM ≤ rnd double N D := fun h => le_rnd double (by decide) N D RM hD h
  generalize rnd double N D = d at *
  have vlo := V_le (f := double) dlo
  have vhi := V_le (f := double) dhi
  rw [l2] at vlo
  rw [g2] at vhi
  have hmid : V double RM < V single (r + 1) * 2 ^ E := by
    have := Nat.mul_lt_mul_of_pos_right (V_lt (f := single) (show r < r + 1 by omega)) hp
    rw [Nat.add_mul] at w2
    omega
  rcases Nat.lt_trichotomy N (V double RM * D) with h | h | h
  · have hd := dmid1 (Nat.le_of_lt h)
    have hne : d ≠ RM := fun e => by have := hnear e; omega
    have hv : V double d < V double RM := V_lt (by omega)
    rw [rnd_of single (by decide) _ _ r hp vlo (by omega), ← w2, if_neg (by omega), if_neg (by omega)]
  · have hd : d = RM := Nat.le_antisymm (dmid1 (Nat.le_of_eq h)) (dmid2 (Nat.le_of_eq h.symm))
    have hlt : V double d < V single (r + 1) * 2 ^ E := by rw [hd]; exact hmid
    rw [rnd_of single (by decide) _ _ r hp vlo hlt, ← w2, hd, ← h]
    simp
  · have hd := dmid2 (Nat.le_of_lt h)
    have hne : d ≠ RM := fun e => by have := hnear e; omega
    have hv : V double RM < V double d := V_lt (by omega)
    rw [if_pos (by omega)]
    rcases Nat.lt_or_ge (V double d) (V single (r + 1) * 2 ^ E) with h5 | h5
    · rw [rnd_of single (by decide) _ _ r hp vlo h5, ← w2, if_pos (by omega)]
    · have e : V double d = V single (r + 1) * 2 ^ E := Nat.le_antisymm vhi h5
      rw [e]
      have := rnd_scale single (V single (r + 1)) 1 (2 ^ E) hp
      rw [Nat.one_mul, rnd_V] at this
      exact this

/-- Of numbers of few digits. -/
theorem twice_few (a b i j E : Nat) (ha : a < 2 ^ 48) (hb : b < 2 ^ 24) (hb0 : 0 < b) (hE : E = 925) :
    rnd single (V double (rnd double (a * 2 ^ i) (b * 2 ^ j))) (2 ^ E) = rnd single (a * 2 ^ i) (b * 2 ^ j * 2 ^ E) := by
  refine twice _ _ E (Nat.mul_pos hb0 (Nat.two_pow_pos _)) hE ?_
  intro r c kk RM v1 v2 v3 w1 hn
  have e : V double RM * (b * 2 ^ j) = (2 * c + 1) * b * 2 ^ (kk + (E - 1) + j) := by
    rw [w1, Nat.pow_add 2 (kk + (E - 1))]; simp only [Nat.mul_assoc, Nat.mul_left_comm, Nat.mul_comm]
  rw [e] at hn ⊢
  refine near_eq _ _ _ _ (by omega) ?_ hn
  have : (2 * c + 1) * b < 2 ^ 25 * 2 ^ 24 := Nat.mul_lt_mul_of_lt_of_lt (by omega) hb
  omega

end Flt
end Go.Proofs.YtleffbpjjbiobaaGreatDoor

/- CodeDecimals: binary32s divided outright, and by way of binary64s. -/
namespace Go.Proofs.YtleffbpjjbiobaaGreatDoor
open M Flt
set_option linter.unusedVariables false

theorem nar_wordC (s : Bool) (R : Nat) (h : R < 9223372036854775808) (hr : rnd Ieee.single (V Ieee.double R) (2 ^ gapE) < 2139095040) : nar32 (Ieee.double.word s R) = Ieee.single.word s (rnd Ieee.single (V Ieee.double R) (2 ^ gapE)) := by
  unfold nar32
  cases s
  · have e : Ieee.double.word false R = R := rfl
    rw [e, Nat.mod_eq_of_lt h, Nat.div_eq_of_lt h, Nat.min_eq_left (by omega)]
    show 0 * 2147483648 + _ = _
    rw [Nat.zero_mul, Nat.zero_add]; rfl
  · have e : Ieee.double.word true R = 9223372036854775808 + R := by show Ieee.double.signWeight + R = _; rw [sw64]
    rw [e, Nat.add_mod_left, Nat.mod_eq_of_lt h, Nat.add_div_left _ (by omega), Nat.div_eq_of_lt h, Nat.min_eq_left (by omega)]
    show 1 * 2147483648 + _ = Ieee.single.signWeight + _
    rw [sw32, Nat.one_mul]

/-- Ten's powers are few bits and a power of two. -/
theorem ten_bits (p : Nat) : (10 : Nat) ^ p = 5 ^ p * 2 ^ p := by rw [← Nat.mul_pow]

theorem div32_word (T t E K D b j R P : Nat) (s : Bool) (hT : T = 1074) (ht : t = 149) (hE : E = 925) (hK1 : 1 ≤ K) (hK : K < 2 ^ 20) (hD : D = b * 2 ^ j) (hb : b < 2 ^ 24) (hb0 : 0 < b) (hDs : D ≤ 10 ^ 10)
    (hR : V Ieee.single R = K * 2 ^ t) (hRi : R < 2139095040) (hP : V Ieee.single P = D * 2 ^ t) (hPi : P < 2139095040) :
    Ieee.single.div (Ieee.single.word s R) P = some (thinC (Ieee.double.div (widC (Ieee.single.word s R)) (widC P))) := by
  have hD1 : 1 ≤ D := by rw [hD]; exact Nat.mul_pos hb0 (Nat.two_pow_pos j)
  have hl : Ieee.double.leastPlace = -(T : Int) := by rw [hT]; decide
  have hl2 : Ieee.single.leastPlace = -(t : Int) := by rw [ht]; decide
  have wa := wid_whl T t K R s hT ht hRi hR
  have wb : Whl Ieee.double T D false (widC P) := wid_whl T t D P false hT ht hPi hP
  have hp : 0 < 2 ^ T := Nat.two_pow_pos T
  have hpt : 0 < 2 ^ t := Nat.two_pow_pos t
  have hb0' : rg Ieee.double (widC P) ≠ 0 := fun h => by
    have := wb.val
    rw [h, V_zero] at this
    have : 0 < D * 2 ^ T := Nat.mul_pos (by omega) hp
    omega
  have hrr : rnd Ieee.double (V Ieee.double (rg Ieee.double (widC (Ieee.single.word s R))) * 2 ^ T) (V Ieee.double (rg Ieee.double (widC P))) = rnd Ieee.double (K * 2 ^ T) D := by rw [wa.val, wb.val, rnd_scale _ _ _ _ hp]
  have hle : rnd Ieee.double (K * 2 ^ T) D ≤ rg Ieee.double (widC (Ieee.single.word s R)) := rnd_le _ frac64 _ _ _ (by omega) (by rw [wa.val]; exact Nat.le_mul_of_pos_right _ (by omega))
  have hsw := inf64_le
  have hfin := wa.fin
  have ed : Ieee.double.div (widC (Ieee.single.word s R)) (widC P) = some (Ieee.double.word s (rnd Ieee.double (K * 2 ^ T) D)) := by
    rw [div_rnd _ T _ _ hl wa.fin wb.fin hb0', hrr, wa.sgn, wb.sgn, Bool.xor_false, Nat.min_eq_left (by omega)]
  have rs : rg Ieee.single (Ieee.single.word s R) = R := rg_word _ _ _ (by rw [sw32]; omega)
  have rp : rg Ieee.single P = P := by unfold rg; rw [sw32]; omega
  have sp : sg Ieee.single P = false := by
    unfold sg; rw [sw32, Nat.div_eq_of_lt (by omega)]; rfl
  have hP0 : rg Ieee.single P ≠ 0 := by
    rw [rp]; intro h
    rw [h, V_zero] at hP
    have : 0 < D * 2 ^ t := Nat.mul_pos (by omega) hpt
    omega
  have hls : rnd Ieee.single (K * 2 ^ t) D ≤ R := rnd_le _ frac32 _ _ _ (by omega) (by rw [hR]; exact Nat.le_mul_of_pos_right _ (by omega))
  have es : Ieee.single.div (Ieee.single.word s R) P = some (Ieee.single.word s (rnd Ieee.single (K * 2 ^ t) D)) := by
    rw [div_rnd _ t _ _ hl2 (by rw [rs, infR32]; omega) (by rw [rp, infR32]; omega) hP0, rs, rp, hR, hP, rnd_scale _ _ _ _ hpt, sg_word _ _ _ (by rw [sw32]; omega), sp, Bool.xor_false, infR32, Nat.min_eq_left (by omega)]
  have htw := twice_few K b T j E (Nat.lt_of_lt_of_le hK (by decide)) hb hb0 hE
  rw [← hD] at htw
  have hg : (2 : Nat) ^ T = 2 ^ t * 2 ^ E := by rw [← Nat.pow_add]; congr 1; omega
  have hsc : rnd Ieee.single (K * 2 ^ T) (D * 2 ^ E) = rnd Ieee.single (K * 2 ^ t) D := by
    rw [hg, ← Nat.mul_assoc]; exact rnd_scale _ _ _ _ (Nat.two_pow_pos E)
  rw [hsc] at htw
  have hEg : E = gapE := by rw [hE]; rfl
  rw [hEg] at htw
  rw [es, ed]
  show _ = some (nar32 _)
  rw [nar_wordC s _ (by rw [sw64] at hsw; omega) (by rw [htw]; omega), htw]

/-- The quotient that the law reckons is the program's value. -/
theorem div32_val (p : Nat) (hp : p ≤ 10) (k : Int) (hk : k.natAbs ≤ 999999) (h1 : 1 ≤ k.natAbs) : Ieee.single.div (F32.int k) (F32.pow p) = some (F32.val p k) := by
  obtain ⟨t, ht⟩ : ∃ t : Nat, t = 149 := ⟨_, rfl⟩
  obtain ⟨T, hT⟩ : ∃ T : Nat, T = 1074 := ⟨_, rfl⟩
  obtain ⟨E, hE⟩ : ∃ E : Nat, E = 925 := ⟨_, rfl⟩
  obtain ⟨Rk, e1, v1, r1⟩ := int32_word t ht k hk
  obtain ⟨p1, p2⟩ := pow32_is t ht p hp
  have h5 : (5 : Nat) ^ p ≤ 5 ^ 10 := Nat.pow_le_pow_right (by omega) hp
  have h10 : (10 : Nat) ^ p ≤ 10 ^ 10 := Nat.pow_le_pow_right (by omega) hp
  have := div32_word T t E k.natAbs (10 ^ p) (5 ^ p) p Rk (F32.pow p) (decide (k < 0)) hT ht hE h1 (by omega) (ten_bits p) (Nat.lt_of_le_of_lt h5 (by decide)) (Nat.pos_of_ne_zero (by simp)) h10 v1 r1 p2 p1
  rw [← e1] at this
  exact this

set_option maxRecDepth 100000 in
theorem div32_zero : ∀ p : Fin 11, Ieee.single.div (F32.int 0) (F32.pow p.val) = some (F32.val p.val 0) := by decide +kernel

/-- Ten's powers as the law reckons them. -/
def pw32 : Nat → Nat
  | 0 => floatOfInt .f32 1
  | p + 1 => (Ieee.single.mul (pw32 p) (floatOfInt .f32 10)).getD 0
set_option maxRecDepth 100000 in
theorem pw32_is : ∀ p : Fin 11, pw32 p.val = F32.pow p.val := by decide +kernel

end Go.Proofs.YtleffbpjjbiobaaGreatDoor

namespace Go.Proofs.YtleffbpjjbiobaaGreatDoor.M
set_option linter.unusedVariables false

theorem xor_turn (a b c : Nat) : (a ^^^ c) ^^^ (b ^^^ c) = a ^^^ b := by
  rw [Nat.xor_assoc, ← Nat.xor_assoc c b c, Nat.xor_comm c b, Nat.xor_assoc b c c, Nat.xor_self, Nat.xor_zero]

/-- The bits behind the first value's. -/
def rst (W K : Nat) (f : Nat → Nat) : Nat → List Bool
  | 0 => []
  | n + 1 => rst W K f n ++ xbf W K f n

theorem cbn_rst (W K : Nat) (f : Nat → Nat) : ∀ n, cbn W K f (n + 1) = bitsOf (f 0) W ++ rst W K f n
  | 0 => by rw [cbn_one]; simp [rst]
  | n + 1 => by rw [cbn_step, cbn_rst W K f n, List.append_assoc]; rfl

theorem win_turn (W K c : Nat) (f g : Nat → Nat) : ∀ n, (∀ i, i ≤ n → g i = f i ^^^ c) → win W K g n = win W K f n
  | 0, _ => rfl
  | n + 1, h => by simp only [win]; rw [win_turn W K c f g n (fun i hi => h i (by omega)), h (n + 1) (by omega), h n (by omega), xor_turn]

theorem rst_turn (W K c : Nat) (f g : Nat → Nat) : ∀ n, (∀ i, i ≤ n → g i = f i ^^^ c) → rst W K g n = rst W K f n
  | 0, _ => rfl
  | n + 1, h => by
    simp only [rst]
    rw [rst_turn W K c f g n (fun i hi => h i (by omega))]
    unfold xbf
    rw [win_turn W K c f g n (fun i hi => h i (by omega)), h (n + 1) (by omega), h n (by omega), xor_turn]

theorem byteAt_drop (l r : List Bool) (k i : Nat) (h : l.length = 8 * k) : byteAt (l ++ r) (k + i) = byteAt r i := by
  unfold byteAt
  have e : (l ++ r).drop (8 * (k + i)) = r.drop (8 * i) := by
    rw [show 8 * (k + i) = l.length + 8 * i by omega, List.drop_append]
    simp
  rw [e]

theorem packed_drop (l r : List Bool) (k : Nat) (h : l.length = 8 * k) : (packed (l ++ r)).drop k = packed r := by
  apply List.ext_getElem
  · simp; omega
  · intro i h1 h2
    simp [packed, byteAt_drop l r k i h]

/-- Lengths and bytes behind the first value's are the same. -/
theorem turn_bytes (W K c k : Nat) (f g : Nat → Nat) (n : Nat) (hW : W = 8 * k) (h : ∀ i, i < n + 1 → g i = f i ^^^ c) :
    (packed (cbn W K g (n + 1))).length = (packed (cbn W K f (n + 1))).length ∧ (packed (cbn W K g (n + 1))).drop k = (packed (cbn W K f (n + 1))).drop k ∧ k ≤ (packed (cbn W K f (n + 1))).length := by
  have e := rst_turn W K c f g n (fun i hi => h i (by omega))
  rw [cbn_rst, cbn_rst, e]
  refine ⟨by simp, ?_, by simp; omega⟩
  rw [packed_drop _ _ k (by simp [hW]), packed_drop _ _ k (by simp [hW])]

end Go.Proofs.YtleffbpjjbiobaaGreatDoor.M
