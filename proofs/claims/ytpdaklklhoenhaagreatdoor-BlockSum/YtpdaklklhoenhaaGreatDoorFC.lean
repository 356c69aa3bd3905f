/- Rounding to the nearest: by rungs. -/
import Ieee.Arith
import Derived.Laws.FloatBits
/- The worth of a rung. -/
namespace Go.Proofs.YtpdaklklhoenhaaGreatDoor
namespace Flt
set_option linter.unusedVariables false
set_option linter.unusedSimpArgs false
open Ieee

/-- A rung's magnitude, in units of the least place. -/
def V (f : Format) (r : Nat) : Nat := if r < f.binade then r else (f.binade + r % f.binade) * 2 ^ (r / f.binade - 1)

theorem binade_pos (f : Format) : 0 < f.binade := Nat.two_pow_pos _

theorem V_step (f : Format) (r : Nat) : V f (r + 1) = V f r + 2 ^ (r / f.binade - 1) := by
  have hb := binade_pos f
  unfold V
  generalize f.binade = B at *
  by_cases h1 : r + 1 < B
  · have h2 : r < B := by omega
    have h3 : r / B = 0 := Nat.div_eq_of_lt h2
    simp [h1, h2, h3]
  · by_cases h2 : r < B
    · have h3 : r + 1 = B := by omega
      have h4 : r / B = 0 := Nat.div_eq_of_lt h2
      rw [if_neg h1, if_pos h2, h3, h4, Nat.mod_self, Nat.div_self hb]
      simp; omega
    · rw [if_neg h1, if_neg h2]
      have hd := Nat.div_add_mod r B
      have hm := Nat.mod_lt r hb
      have hq : 0 < r / B := Nat.div_pos (by omega) hb
      by_cases h5 : r % B + 1 = B
      · have e1 : r + 1 = B * (r / B + 1) := by rw [Nat.mul_add]; omega
        have e2 : (r + 1) % B = 0 := by rw [e1]; exact Nat.mul_mod_right ..
        have e3 : (r + 1) / B = r / B + 1 := by rw [e1]; exact Nat.mul_div_cancel_left _ hb
        rw [e2, e3]
        obtain ⟨q, hq⟩ : ∃ q, r / B = q + 1 := ⟨r / B - 1, by omega⟩
        rw [hq]
        simp only [Nat.add_sub_cancel]
        have : B + r % B = 2 * B - 1 := by omega
        rw [this, Nat.pow_succ, Nat.sub_mul, Nat.add_zero, Nat.one_mul]
        have : 2 ^ q ≤ 2 * B * 2 ^ q := Nat.le_mul_of_pos_left _ (by omega)
        rw [Nat.sub_add_cancel this, Nat.mul_comm (2 ^ q) 2, ← Nat.mul_assoc, Nat.mul_comm B 2]
      · have e2 : (r + 1) % B = r % B + 1 := by
          have : r + 1 = (r % B + 1) + B * (r / B) := by omega
          rw [this, Nat.add_mul_mod_self_left]; exact Nat.mod_eq_of_lt (by omega)
        have e3 : (r + 1) / B = r / B := by
          have : r + 1 = (r % B + 1) + B * (r / B) := by omega
          rw [this, Nat.add_mul_div_left _ _ hb, Nat.div_eq_of_lt (by omega), Nat.zero_add]
        rw [e2, e3, ← Nat.add_assoc, Nat.add_mul (B + r % B), Nat.one_mul]

theorem V_lt {f : Format} {r s : Nat} (h : r < s) : V f r < V f s := by
  induction s with
  | zero => omega
  | succ n ih =>
    have := V_step f n
    have hp : 0 < 2 ^ (n / f.binade - 1) := Nat.two_pow_pos _
    rcases Nat.lt_or_ge r n with h1 | h1
    · have := ih h1; omega
    · have : r = n := by omega
      subst this; omega

theorem V_le {f : Format} {r s : Nat} (h : r ≤ s) : V f r ≤ V f s := by
  rcases Nat.lt_or_ge r s with h1 | h1
  · exact Nat.le_of_lt (V_lt h1)
  · have : r = s := by omega
    subst this; exact Nat.le_refl _

theorem V_lt_iff {f : Format} {r s : Nat} : V f r < V f s ↔ r < s := by
  refine ⟨fun h => ?_, V_lt⟩
  rcases Nat.lt_or_ge r s with h1 | h1
  · exact h1
  · have := V_le (f := f) h1; omega

theorem V_inj {f : Format} {r s : Nat} (h : V f r = V f s) : r = s := by
  rcases Nat.lt_trichotomy r s with h1 | h1 | h1
  · have := V_lt (f := f) h1; omega
  · exact h1
  · have := V_lt (f := f) h1; omega

theorem V_zero (f : Format) : V f 0 = 0 := by
  unfold V; rw [if_pos (binade_pos f)]

end Flt
end Go.Proofs.YtpdaklklhoenhaaGreatDoor

/- What a word stands for, and how two words stand to each other. -/
namespace Go.Proofs.YtpdaklklhoenhaaGreatDoor
namespace Flt
set_option linter.unusedVariables false
set_option linter.unusedSimpArgs false
open Ieee

/-- A word's rung and its sign. -/
def rg (f : Format) (w : Nat) : Nat := w % f.signWeight
def sg (f : Format) (w : Nat) : Bool := w / f.signWeight % 2 == 1
/-- A number's worth, in units of the least place (of an infinity: that of the rung above the greatest). -/
def sv (f : Format) (w : Nat) : Int := if sg f w then -(V f (rg f w) : Nat) else (V f (rg f w) : Nat)

theorem signWeight_pos (f : Format) : 0 < f.signWeight := Nat.two_pow_pos _

theorem rg_lt (f : Format) (w : Nat) : rg f w < f.signWeight := Nat.mod_lt _ (signWeight_pos f)

theorem read_fin (f : Format) (w : Nat) (h : rg f w < f.infRung) :
    ∃ m k : Nat, f.read w = .number (sg f w) m (f.leastPlace + k) ∧ m * 2 ^ k = V f (rg f w) ∧ m < 2 * f.binade ∧ (k = 0 ∨ f.binade ≤ m) := by
  have hb := binade_pos f
  unfold Format.read
  dsimp only
  rw [show w % f.signWeight = rg f w from rfl, show (w / f.signWeight % 2 == 1) = sg f w from rfl]
  by_cases h1 : rg f w < f.binade
  · refine ⟨rg f w, 0, ?_, ?_, by omega, Or.inl rfl⟩
    · rw [if_pos h1]; simp
    · unfold V; rw [if_pos h1]; simp
  · have hm := Nat.mod_lt (rg f w) hb
    refine ⟨f.binade + rg f w % f.binade, rg f w / f.binade - 1, ?_, ?_, by omega, Or.inr (by omega)⟩
    · rw [if_neg h1, if_pos h]
    · unfold V; rw [if_neg h1]

theorem read_inf (f : Format) (w : Nat) (hi : f.binade ≤ f.infRung) (h : rg f w = f.infRung) : f.read w = .infinity (sg f w) := by
  unfold Format.read
  dsimp only
  rw [show w % f.signWeight = rg f w from rfl, show (w / f.signWeight % 2 == 1) = sg f w from rfl, if_neg (by omega), if_neg (by omega), if_pos h]

theorem read_nan (f : Format) (w : Nat) (hi : f.binade ≤ f.infRung) (h : f.infRung < rg f w) : f.read w = .nan (sg f w) (rg f w - f.infRung) := by
  unfold Format.read
  dsimp only
  rw [show w % f.signWeight = rg f w from rfl, show (w / f.signWeight % 2 == 1) = sg f w from rfl, if_neg (by omega), if_neg (by omega), if_neg (by omega)]

theorem cmp_lt {a b : Int} (h : a < b) : compare a b = .lt := by
  show compareOfLessAndEq a b = _
  unfold compareOfLessAndEq; rw [if_pos h]
theorem cmp_gt {a b : Int} (h : b < a) : compare a b = .gt := by
  show compareOfLessAndEq a b = _
  unfold compareOfLessAndEq; rw [if_neg (by omega), if_neg (by omega)]
theorem cmp_eq (a : Int) : compare a a = .eq := by
  show compareOfLessAndEq a a = _
  unfold compareOfLessAndEq; rw [if_neg (by omega), if_pos rfl]

theorem cmp_scale (a b c : Int) (h : 0 < c) : compare (a * c) (b * c) = compare a b := by
  rcases Int.lt_trichotomy a b with h1 | h1 | h1
  · rw [cmp_lt h1, cmp_lt (Int.mul_lt_mul_of_pos_right h1 h)]
  · subst h1; rw [cmp_eq, cmp_eq]
  · rw [cmp_gt h1, cmp_gt (Int.mul_lt_mul_of_pos_right h1 h)]

theorem signed_scale (s : Bool) (m i j : Nat) : signed s m i * (2 ^ j : Nat) = signed s (m * 2 ^ (i + j)) 0 := by
  unfold signed
  simp only [Nat.shiftLeft_eq, Nat.pow_zero, Nat.mul_one]
  have e : m * 2 ^ (i + j) = m * 2 ^ i * 2 ^ j := by rw [Nat.pow_add, Nat.mul_assoc]
  rw [e]
  cases s <;> simp [Int.neg_mul]

theorem infRung_ge (f : Format) (h : 1 ≤ f.exponentBits) : f.binade ≤ f.infRung := by
  unfold Format.infRung
  have : 2 ^ 1 ≤ 2 ^ f.exponentBits := Nat.pow_le_pow_right (by omega) h
  exact Nat.le_mul_of_pos_left _ (by omega)

theorem sv_signed (f : Format) (w : Nat) : sv f w = signed (sg f w) (V f (rg f w)) 0 := by
  unfold sv signed; simp

/-- How two words that are no NaNs stand to each other. -/
theorem order_all (f : Format) (he : 1 ≤ f.exponentBits) (a b : Nat) (ha : rg f a ≤ f.infRung) (hb : rg f b ≤ f.infRung) :
    f.order a b = some (compare (sv f a) (sv f b)) := by
  have hi := infRung_ge f he
  have hp := binade_pos f
  have hinf : 0 < f.infRung := by omega
  have hV : ∀ r, r < f.infRung → V f r < V f f.infRung := fun r h => V_lt h
  have h0 : 0 < V f f.infRung := by have := V_lt (f := f) hinf; omega
  unfold Format.order
  rcases Nat.lt_or_ge (rg f a) f.infRung with h1 | h1
  · obtain ⟨m, k, e1, e2, _⟩ := read_fin f a h1
    rcases Nat.lt_or_ge (rg f b) f.infRung with h2 | h2
    · obtain ⟨n, l, e3, e4, _⟩ := read_fin f b h2
      rw [e1, e3]
      simp only [Datum.order]
      have hk : (f.leastPlace + (k : Int) - min (f.leastPlace + (k : Int)) (f.leastPlace + (l : Int))).toNat = k - min k l := by omega
      have hl : (f.leastPlace + (l : Int) - min (f.leastPlace + (k : Int)) (f.leastPlace + (l : Int))).toNat = l - min k l := by omega
      rw [hk, hl, sv_signed, sv_signed, ← e2, ← e4]
      have hc : (0 : Int) < ((2 ^ (min k l) : Nat) : Int) := by exact_mod_cast Nat.two_pow_pos _
      rw [← cmp_scale _ _ _ hc, signed_scale, signed_scale, Nat.sub_add_cancel (Nat.min_le_left ..), Nat.sub_add_cancel (Nat.min_le_right ..)]
    · have h3 : rg f b = f.infRung := by omega
      rw [e1, read_inf f b hi h3]
      simp only [Datum.order]
      have := hV _ h1
      unfold sv; rw [h3]
      cases sg f b <;> cases sg f a <;> simp only [Bool.false_eq_true, if_false, if_true, reduceIte]
      · rw [cmp_lt (by omega)]
      · rw [cmp_lt (by omega)]
      · rw [cmp_gt (by omega)]
      · rw [cmp_gt (by omega)]
  · have h3 : rg f a = f.infRung := by omega
    rcases Nat.lt_or_ge (rg f b) f.infRung with h2 | h2
    · obtain ⟨n, l, e3, e4, _⟩ := read_fin f b h2
      rw [e3, read_inf f a hi h3]
      simp only [Datum.order]
      have := hV _ h2
      unfold sv; rw [h3]
      cases sg f b <;> cases sg f a <;> simp only [Bool.false_eq_true, if_false, if_true, reduceIte]
      · rw [cmp_gt (by omega)]
      · rw [cmp_lt (by omega)]
      · rw [cmp_gt (by omega)]
      · rw [cmp_lt (by omega)]
    · have h4 : rg f b = f.infRung := by omega
      rw [read_inf f a hi h3, read_inf f b hi h4]
      simp only [Datum.order]
      unfold sv; rw [h3, h4]
      cases sg f b <;> cases sg f a <;> simp only [Bool.false_eq_true, if_false, if_true, reduceIte]
      · rw [cmp_eq]; rfl
      · rw [cmp_lt (by omega)]; rfl
      · rw [cmp_gt (by omega)]; rfl
      · rw [cmp_eq]; rfl

theorem order_nan (f : Format) (he : 1 ≤ f.exponentBits) (a b : Nat) (h : f.infRung < rg f a ∨ f.infRung < rg f b) : f.order a b = none := by
  have hi := infRung_ge f he
  unfold Format.order
  rcases h with h | h
  · rw [read_nan f a hi h]; rfl
  · rw [read_nan f b hi h]
    cases f.read a <;> rfl

end Flt
end Go.Proofs.YtpdaklklhoenhaaGreatDoor

namespace Go.Proofs.YtpdaklklhoenhaaGreatDoor
namespace Flt
set_option linter.unusedVariables false
set_option linter.unusedSimpArgs false
open Ieee

/-- n / u, to the nearest, ties to even. -/
def cutE (n u : Nat) : Nat := n / u + (if u < 2 * (n % u) ∨ (u = 2 * (n % u) ∧ n / u % 2 = 1) then 1 else 0)

/-- The rung nearest to n / d units of the least place. -/
def rnd (f : Format) (n d : Nat) : Nat := ((n / d).log2 - f.fractionBits) * f.binade + cutE n (d * 2 ^ ((n / d).log2 - f.fractionBits))

theorem cutE_scale (n u c : Nat) (h : 0 < c) : cutE (n * c) (u * c) = cutE n u := by
  unfold cutE
  rw [Nat.mul_div_mul_right _ _ h, Nat.mul_mod_mul_right]
  have e1 : (u * c < 2 * (n % u * c)) = (u < 2 * (n % u)) := by
    rw [← Nat.mul_assoc]; exact propext ⟨Nat.lt_of_mul_lt_mul_right, fun h2 => Nat.mul_lt_mul_of_pos_right h2 h⟩
  have e2 : (u * c = 2 * (n % u * c)) = (u = 2 * (n % u)) := by
    rw [← Nat.mul_assoc]; exact propext ⟨Nat.eq_of_mul_eq_mul_right h, fun h2 => by rw [← h2]⟩
  simp only [e1, e2]

theorem rnd_scale (f : Format) (n d c : Nat) (h : 0 < c) : rnd f (n * c) (d * c) = rnd f n d := by
  unfold rnd
  rw [Nat.mul_div_mul_right _ _ h, Nat.mul_right_comm, cutE_scale _ _ _ h]

theorem rnd_eq (f : Format) {n d n' d' : Nat} (hd : 0 < d) (hd' : 0 < d') (h : n * d' = n' * d) : rnd f n d = rnd f n' d' := by
  rw [← rnd_scale f n d d' hd', ← rnd_scale f n' d' d hd, h, Nat.mul_comm d d']

theorem cut_even (neg : Bool) (n drop : Nat) : Toward.even.cut neg n drop = cutE n (2 ^ drop) := by
  unfold Toward.cut cutE
  simp only [Nat.shiftLeft_eq, Nat.one_mul]
  have key : ∀ d, (if 2 ^ d < 2 * (n % 2 ^ d) ∨ (2 ^ d = 2 * (n % 2 ^ d) ∧ n / 2 ^ d % 2 = 1) then 1 else 0) = (decide (2 ^ d < 2 * (n % 2 ^ d)) || (2 ^ d == 2 * (n % 2 ^ d) && n / 2 ^ d % 2 == 1)).toNat := by
    intro d
    by_cases h1 : 2 ^ d < 2 * (n % 2 ^ d)
    · simp [h1]
    · by_cases h2 : 2 ^ d = 2 * (n % 2 ^ d)
      · by_cases h3 : n / 2 ^ d % 2 = 1
        · rw [if_pos (Or.inr ⟨h2, h3⟩)]
          have : (2 ^ d == 2 * (n % 2 ^ d)) = true := by simpa using h2
          simp [this, h3]
        · rw [if_neg (by intro h; rcases h with h | h; exact h1 h; exact h3 h.2)]
          have : n / 2 ^ d % 2 = 0 := by omega
          simp [h1, this]
      · rw [if_neg (by intro h; rcases h with h | h; exact h1 h; exact h2 h.1)]
        have : (2 ^ d == 2 * (n % 2 ^ d)) = false := by simpa using h2
        simp [h1, this]
  rw [← key]
  rcases Nat.le_total drop (n.log2 + 2) with h | h
  · rw [Nat.min_eq_left h]
  · rw [Nat.min_eq_right h]
    have hn : n < 2 ^ (n.log2 + 1) := Nat.lt_log2_self
    have small : ∀ d, n.log2 + 2 ≤ d → 2 * n < 2 ^ d := by
      intro d hd
      have : 2 ^ (n.log2 + 2) ≤ 2 ^ d := Nat.pow_le_pow_right (by omega) hd
      have : 2 ^ (n.log2 + 2) = 2 * 2 ^ (n.log2 + 1) := by rw [Nat.pow_succ, Nat.mul_comm]
      omega
    have zero : ∀ d, n.log2 + 2 ≤ d → n / 2 ^ d + (if 2 ^ d < 2 * (n % 2 ^ d) ∨ (2 ^ d = 2 * (n % 2 ^ d) ∧ n / 2 ^ d % 2 = 1) then 1 else 0) = 0 := by
      intro d hd
      have h1 := small d hd
      have h2 : n < 2 ^ d := by omega
      rw [Nat.div_eq_of_lt h2, Nat.mod_eq_of_lt h2, if_neg (by omega)]
    rw [zero _ (Nat.le_refl _), zero _ h]

theorem log2_mul_pow (m p : Nat) (h : m ≠ 0) : (m * 2 ^ p).log2 = m.log2 + p := by
  have h1 : m * 2 ^ p ≠ 0 := Nat.mul_ne_zero h (Nat.ne_of_gt (Nat.two_pow_pos p))
  rw [Nat.log2_eq_iff h1]
  constructor
  · rw [Nat.pow_add]; exact Nat.mul_le_mul_right _ (Nat.log2_self_le h)
  · have := Nat.mul_lt_mul_of_pos_right (Nat.lt_log2_self (n := m)) (Nat.two_pow_pos p)
    rw [← Nat.pow_add] at this
    rwa [show m.log2 + p + 1 = m.log2 + 1 + p by omega]

theorem log2_div_pow (m d : Nat) : (m / 2 ^ d).log2 = m.log2 - d := by
  by_cases h : m / 2 ^ d = 0
  · rw [h]
    have : m < 2 ^ d := by
      rcases Nat.lt_or_ge m (2 ^ d) with h1 | h1
      · exact h1
      · have := Nat.div_pos h1 (Nat.two_pow_pos d); omega
    by_cases hm : m = 0
    · subst hm; simp
    · have : m.log2 < d := (Nat.log2_lt hm).2 this
      rw [show m.log2 - d = 0 by omega]; simp
  · rw [Nat.log2_eq_iff h]
    have hm : m ≠ 0 := by intro h1; subst h1; simp at h
    have h1 : 2 ^ d ≤ m := by
      rcases Nat.lt_or_ge m (2 ^ d) with h1 | h1
      · exact absurd (Nat.div_eq_of_lt h1) h
      · exact h1
    have h2 : d ≤ m.log2 := (Nat.le_log2 hm).2 h1
    constructor
    · rw [Nat.le_div_iff_mul_le (Nat.two_pow_pos d), ← Nat.pow_add, Nat.sub_add_cancel h2]
      exact Nat.log2_self_le hm
    · rw [Nat.div_lt_iff_lt_mul (Nat.two_pow_pos d), ← Nat.pow_add, show m.log2 - d + 1 + d = m.log2 + 1 by omega]
      exact Nat.lt_log2_self

/-- The model's rounding, of a number mag * 2 ^ place. -/
theorem nearest_rnd (f : Format) (neg : Bool) (mag : Nat) (place : Int) :
    f.nearest neg mag place = f.word neg (min (rnd f (mag * 2 ^ (place - f.leastPlace).toNat) (2 ^ (f.leastPlace - place).toNat)) f.infRung) := by
  unfold Format.nearest
  by_cases hm : mag = 0
  · rw [if_pos hm, hm]
    have : rnd f (0 * 2 ^ (place - f.leastPlace).toNat) (2 ^ (f.leastPlace - place).toNat) = 0 := by
      unfold rnd cutE
      simp
    rw [this, Nat.zero_min]
  · rw [if_neg hm]
    dsimp only
    rw [cut_even, Nat.shiftLeft_eq]
    refine congrArg _ (congrArg (min · _) ?_)
    unfold rnd
    rcases Int.le_total f.leastPlace place with h | h
    · obtain ⟨p, hp⟩ : ∃ p : Nat, place = f.leastPlace + p := ⟨(place - f.leastPlace).toNat, by omega⟩
      subst hp
      rw [show (f.leastPlace - (f.leastPlace + (p : Int))).toNat = 0 by omega, show (f.leastPlace + (p : Int) - f.leastPlace).toNat = p by omega]
      simp only [Nat.pow_zero, Nat.div_one, Nat.one_mul]
      rw [log2_mul_pow _ _ hm]
      have e : (max (f.leastPlace + (p : Int) + (mag.log2 : Int) - (f.fractionBits : Int)) f.leastPlace - f.leastPlace).toNat = mag.log2 + p - f.fractionBits := by omega
      rw [e]
      refine congrArg _ ?_
      generalize hk : mag.log2 + p - f.fractionBits = k at *
      have e1 : (f.leastPlace + (p : Int) - max (f.leastPlace + (p : Int) + (mag.log2 : Int) - (f.fractionBits : Int)) f.leastPlace).toNat = p - k := by omega
      have e2 : (max (f.leastPlace + (p : Int) + (mag.log2 : Int) - (f.fractionBits : Int)) f.leastPlace - (f.leastPlace + (p : Int))).toNat = k - p := by omega
      rw [e1, e2, ← cutE_scale _ (2 ^ (k - p)) (2 ^ (min k p)) (Nat.two_pow_pos _), Nat.mul_assoc, ← Nat.pow_add, ← Nat.pow_add, show p - k + min k p = p by omega, show k - p + min k p = k by omega]
    · obtain ⟨p, hp⟩ : ∃ p : Nat, f.leastPlace = place + p := ⟨(f.leastPlace - place).toNat, by omega⟩
      rw [hp, show (place - (place + (p : Int))).toNat = 0 by omega, show (place + (p : Int) - place).toNat = p by omega]
      simp only [Nat.pow_zero, Nat.mul_one]
      rw [log2_div_pow]
      have e : (max (place + (mag.log2 : Int) - (f.fractionBits : Int)) (place + p) - (place + (p : Int))).toNat = mag.log2 - p - f.fractionBits := by omega
      rw [e]
      refine congrArg _ ?_
      generalize hk : mag.log2 - p - f.fractionBits = k at *
      have e1 : (place - max (place + (mag.log2 : Int) - (f.fractionBits : Int)) (place + (p : Int))).toNat = 0 := by omega
      have e2 : (max (place + (mag.log2 : Int) - (f.fractionBits : Int)) (place + (p : Int)) - place).toNat = p + k := by omega
      rw [e1, e2, Nat.pow_zero, Nat.mul_one, Nat.pow_add]

theorem rnd_V (f : Format) (r : Nat) : rnd f (V f r) 1 = r := by
  have hb := binade_pos f
  have one : ∀ n, cutE n 1 = n := by intro n; unfold cutE; simp [Nat.mod_one]
  unfold rnd
  rw [Nat.div_one, Nat.one_mul]
  unfold V
  by_cases h : r < f.binade
  · rw [if_pos h]
    have : r.log2 - f.fractionBits = 0 := by
      by_cases h0 : r = 0
      · subst h0; simp
      · have : r.log2 < f.fractionBits := (Nat.log2_lt h0).2 h
        omega
    rw [this]; simp [one]
  · rw [if_neg h]
    have hm := Nat.mod_lt r hb
    have hd := Nat.div_add_mod r f.binade
    have hq : 0 < r / f.binade := Nat.div_pos (by omega) hb
    have hl : (f.binade + r % f.binade).log2 = f.fractionBits := by
      rw [Nat.log2_eq_iff (by omega)]
      refine ⟨?_, ?_⟩
      · show f.binade ≤ _; omega
      · rw [Nat.pow_succ]; show _ < f.binade * 2; omega
    rw [log2_mul_pow _ _ (by omega), hl, Nat.add_sub_cancel_left]
    have := cutE_scale (f.binade + r % f.binade) 1 (2 ^ (r / f.binade - 1)) (Nat.two_pow_pos _)
    rw [Nat.one_mul] at this
    rw [this, one]
    obtain ⟨q, hq'⟩ : ∃ q, r / f.binade = q + 1 := ⟨r / f.binade - 1, by omega⟩
    rw [hq', Nat.add_sub_cancel]
    rw [hq', Nat.mul_add, Nat.mul_comm] at hd
    omega
end Flt
end Go.Proofs.YtpdaklklhoenhaaGreatDoor
