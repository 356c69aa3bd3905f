/- What a sum and a product have lost: exact numbers. -/
import Derived.Test.YtmkploknoohliaaRB
import Derived.Test.YtmkploknoohliaaRC
namespace Go.Proofs.Ytmkploknoohliaa
namespace Flt
set_option linter.unusedVariables false
set_option linter.unusedSimpArgs false
open Ieee

/-- A number of so few digits that it is a float's (whatever its size). -/
def InF (f : Format) (z : Int) : Prop := ∃ c k : Nat, z.natAbs = c * 2 ^ k ∧ c < 2 * f.binade

/-- The nearest number. -/
def R (f : Format) (z : Int) : Int := if z < 0 then -(V f (rnd f z.natAbs 1) : Nat) else (V f (rnd f z.natAbs 1) : Nat)

theorem V_parts (f : Format) (r : Nat) : ∃ m k : Nat, V f r = m * 2 ^ k ∧ m < 2 * f.binade ∧ (k = 0 ∨ f.binade ≤ m) := by
  have hb := binade_pos f
  unfold V
  by_cases h : r < f.binade
  · exact ⟨r, 0, by rw [if_pos h]; simp, by omega, Or.inl rfl⟩
  · have hm := Nat.mod_lt r hb
    exact ⟨f.binade + r % f.binade, r / f.binade - 1, by rw [if_neg h], by omega, Or.inr (by omega)⟩

theorem InF_V (f : Format) (z : Int) (r : Nat) (h : z.natAbs = V f r) : InF f z := by
  obtain ⟨m, k, h1, h2, _⟩ := V_parts f r
  exact ⟨m, k, by rw [h, h1], h2⟩

theorem InF_rung (f : Format) (z : Int) (h : InF f z) : ∃ r, V f r = z.natAbs := by
  obtain ⟨c, k, h1, h2⟩ := h
  obtain ⟨r, hr⟩ := repr f c k h2
  exact ⟨r, by rw [hr, h1]⟩

theorem InF_neg (f : Format) (z : Int) (h : InF f z) : InF f (-z) := by
  obtain ⟨c, k, h1, h2⟩ := h
  exact ⟨c, k, by rw [Int.natAbs_neg]; exact h1, h2⟩

theorem R_abs (f : Format) (z : Int) : (R f z).natAbs = V f (rnd f z.natAbs 1) := by
  unfold R; split <;> omega

theorem R_in (f : Format) (z : Int) : InF f (R f z) := InF_V f _ _ (R_abs f z)

theorem R_exact (f : Format) (z : Int) (h : InF f z) : R f z = z := by
  obtain ⟨r, hr⟩ := InF_rung f z h
  unfold R
  rw [← hr, rnd_V, hr]
  split <;> omega

theorem R_neg (f : Format) (z : Int) : R f (-z) = -R f z := by
  unfold R
  rw [Int.natAbs_neg]
  rcases Int.lt_trichotomy z 0 with h | h | h
  · rw [if_pos h, if_neg (by omega)]; omega
  · subst h
    have h0 : V f (rnd f (0 : Int).natAbs 1) = 0 := by
      show V f (rnd f 0 1) = 0
      rw [rnd_zero, V_zero]
    rw [h0]; simp
  · rw [if_neg (show ¬ z < 0 by omega), if_pos (by omega)]

/-- No other one is nearer. -/
theorem R_near (f : Format) (hf : 1 ≤ f.fractionBits) (z x : Int) (hx : InF f x) : (R f z - z).natAbs ≤ (x - z).natAbs := by
  obtain ⟨t, ht⟩ := InF_rung f x hx
  obtain ⟨h1, h2⟩ := rnd_mid f hf z.natAbs 1 (by omega)
  rw [Nat.mul_one] at h2
  unfold R
  generalize rnd f z.natAbs 1 = r at *
  have h3 : V f r ≤ 2 * z.natAbs := by
    by_cases hr : r = 0
    · rw [hr, V_zero]; omega
    · have := h1 hr; omega
  have hcase : t < r ∨ t = r ∨ r < t := by omega
  have key : (V f r ≤ z.natAbs ∧ z.natAbs - V f r ≤ z.natAbs - V f t ∧ V f t ≤ z.natAbs) ∨ (z.natAbs ≤ V f r ∧ V f t ≤ z.natAbs ∧ V f r - z.natAbs ≤ z.natAbs - V f t) ∨ t = r ∨ (V f r ≤ z.natAbs ∧ z.natAbs ≤ V f t ∧ z.natAbs - V f r ≤ V f t - z.natAbs) ∨ (z.natAbs ≤ V f r ∧ V f r ≤ V f t) := by
    rcases hcase with h | h | h
    · have h4 := h1 (by omega)
      have h5 : V f t ≤ V f (r - 1) := V_le (by omega)
      have h6 := V_lt (f := f) h
      omega
    · omega
    · have h5 : V f (r + 1) ≤ V f t := V_le (by omega)
      have h6 := V_lt (f := f) h
      omega
  by_cases hz : z < 0
  · rw [if_pos hz]
    by_cases hxs : x ≤ 0
    · rcases key with k | k | k | k | k
      · omega
      · omega
      · rw [k] at ht; omega
      · omega
      · omega
    · omega
  · rw [if_neg hz]
    by_cases hxs : 0 ≤ x
    · rcases key with k | k | k | k | k
      · omega
      · omega
      · rw [k] at ht; omega
      · omega
      · omega
    · omega

theorem R_ge (f : Format) (hf : 1 ≤ f.fractionBits) (z x : Int) (hx : InF f x) (h : x.natAbs ≤ z.natAbs) : x.natAbs ≤ (R f z).natAbs := by
  obtain ⟨t, ht⟩ := InF_rung f x hx
  rw [R_abs, ← ht]
  exact V_le (le_rnd f hf _ _ _ (by omega) (by omega))

theorem pow_in (f : Format) (k : Nat) : InF f ((2 * f.binade * 2 ^ k : Nat) : Int) :=
  ⟨f.binade, k + 1, by rw [Int.natAbs_natCast, Nat.pow_succ, Nat.mul_comm (2 ^ k), ← Nat.mul_assoc, Nat.mul_comm 2], by have := binade_pos f; omega⟩

/-- A great one is a multiple. -/
theorem dvd_great (f : Format) (x : Int) (k : Nat) (hx : InF f x) (h : 2 * f.binade * 2 ^ k ≤ x.natAbs) : ((2 ^ (k + 1) : Nat) : Int) ∣ x := by
  obtain ⟨c, j, h1, h2⟩ := hx
  rw [Int.ofNat_dvd_left, h1]
  have hj : k < j := by
    rcases Nat.lt_or_ge k j with h3 | h3
    · exact h3
    · exfalso
      have h4 : 2 ^ j ≤ 2 ^ k := Nat.pow_le_pow_right (by omega) h3
      have h5 : c * 2 ^ j ≤ c * 2 ^ k := Nat.mul_le_mul_left _ h4
      have h6 : c * 2 ^ k < 2 * f.binade * 2 ^ k := Nat.mul_lt_mul_of_pos_right h2 (Nat.two_pow_pos k)
      omega
  exact Nat.dvd_trans (Nat.pow_dvd_pow 2 hj) (Nat.dvd_mul_left _ _)

/-- A multiple that is not great is one. -/
theorem in_small (f : Format) (z : Int) (k : Nat) (hd : ((2 ^ k : Nat) : Int) ∣ z) (h : z.natAbs ≤ 2 * f.binade * 2 ^ k) : InF f z := by
  rw [Int.ofNat_dvd_left] at hd
  obtain ⟨c, hc⟩ := hd
  rcases Nat.lt_or_ge c (2 * f.binade) with h1 | h1
  · exact ⟨c, k, by rw [hc, Nat.mul_comm], h1⟩
  · have h2 : 2 * f.binade * 2 ^ k ≤ c * 2 ^ k := Nat.mul_le_mul_right _ h1
    rw [Nat.mul_comm] at hc
    obtain ⟨c', k', h3, h4⟩ := pow_in f k
    rw [Int.natAbs_natCast] at h3
    exact ⟨c', k', by omega, h4⟩

theorem R_dvd (f : Format) (hf : 1 ≤ f.fractionBits) (z : Int) (k : Nat) (hd : ((2 ^ k : Nat) : Int) ∣ z) : ((2 ^ k : Nat) : Int) ∣ R f z := by
  rcases Nat.le_total z.natAbs (2 * f.binade * 2 ^ k) with h | h
  · rw [R_exact f z (in_small f z k hd h)]; exact hd
  · have h1 := R_ge f hf z _ (pow_in f k) (by rw [Int.natAbs_natCast]; exact h)
    rw [Int.natAbs_natCast] at h1
    have h2 := dvd_great f _ k (R_in f z) h1
    refine Int.dvd_trans ?_ h2
    exact Int.ofNat_dvd.2 (Nat.pow_dvd_pow 2 (by omega))

theorem canon (f : Format) (x : Int) (hx : InF f x) : ∃ k : Nat, ((2 ^ k : Nat) : Int) ∣ x ∧ x.natAbs < 2 * f.binade * 2 ^ k ∧ ∀ y : Int, InF f y → x.natAbs ≤ y.natAbs → ((2 ^ k : Nat) : Int) ∣ y := by
  obtain ⟨r, hr⟩ := InF_rung f x hx
  obtain ⟨m, k, h1, h2, h3⟩ := V_parts f r
  refine ⟨k, ?_, ?_, ?_⟩
  · rw [Int.ofNat_dvd_left, ← hr, h1]; exact Nat.dvd_mul_left _ _
  · rw [← hr, h1]; exact Nat.mul_lt_mul_of_pos_right h2 (Nat.two_pow_pos k)
  · intro y hy hle
    rcases h3 with h3 | h3
    · subst h3; exact ⟨y, by simp⟩
    · cases k with
      | zero => exact ⟨y, by simp⟩
      | succ k =>
        refine dvd_great f y k hy ?_
        have h4 : f.binade * 2 ^ (k + 1) ≤ m * 2 ^ (k + 1) := Nat.mul_le_mul_right _ h3
        have h5 : 2 * f.binade * 2 ^ k = f.binade * 2 ^ (k + 1) := by rw [Nat.pow_succ, Nat.mul_comm (2 ^ k), ← Nat.mul_assoc, Nat.mul_comm 2]
        omega

/-- Of a multiple that is less than twice as great, no more than one of the multiple's is lost. -/
theorem R_err (f : Format) (hf : 1 ≤ f.fractionBits) (z : Int) (k : Nat) (hd : ((2 ^ k : Nat) : Int) ∣ z) (h : z.natAbs < 2 * (2 * f.binade * 2 ^ k)) : (R f z - z).natAbs ≤ 2 ^ k := by
  obtain ⟨q, hq⟩ := hd
  have hp := Nat.two_pow_pos k
  obtain ⟨x, hx1, hx2⟩ : ∃ x : Int, (x - z).natAbs ≤ 2 ^ k ∧ InF f x := by
    have hq2 : z.natAbs = 2 ^ k * q.natAbs := by rw [hq, Int.natAbs_mul, Int.natAbs_natCast]
    have hq3 : q.natAbs < 2 * (2 * f.binade) := by
      refine Nat.lt_of_mul_lt_mul_left (a := 2 ^ k) ?_
      rw [← hq2, Nat.mul_comm (2 ^ k), Nat.mul_assoc 2]; exact h
    obtain ⟨g, g1, g2⟩ : ∃ g : Int, (2 * g - q).natAbs ≤ 1 ∧ g.natAbs < 2 * f.binade := by
      rcases Int.le_total 0 q with h5 | h5
      · exact ⟨q / 2, by omega, by omega⟩
      · exact ⟨-(-q / 2), by omega, by omega⟩
    refine ⟨((2 ^ k : Nat) : Int) * (2 * g), ?_, ?_⟩
    · rw [hq, ← Int.mul_sub, Int.natAbs_mul, Int.natAbs_natCast]
      have h4 := Nat.mul_le_mul_left (2 ^ k) g1
      omega
    · refine ⟨g.natAbs, k + 1, ?_, g2⟩
      rw [Int.natAbs_mul, Int.natAbs_natCast, Int.natAbs_mul, Nat.pow_succ]
      show 2 ^ k * (2 * g.natAbs) = _
      rw [← Nat.mul_assoc, Nat.mul_comm]
  have := R_near f hf z x hx2
  omega

/-- What is lost by a sum is less than either, and a float's number. -/
theorem lost_le (f : Format) (hf : 1 ≤ f.fractionBits) (a b : Int) (ha : InF f a) : (a + b - R f (a + b)).natAbs ≤ b.natAbs := by
  have := R_near f hf (a + b) a ha
  omega

theorem lost_in (f : Format) (hf : 1 ≤ f.fractionBits) (a b : Int) (ha : InF f a) (hb : InF f b) : InF f (a + b - R f (a + b)) := by
  have key : ∀ a b : Int, InF f a → InF f b → b.natAbs ≤ a.natAbs → InF f (a + b - R f (a + b)) := by
    intro a b ha hb hle
    obtain ⟨k, k1, k2, k3⟩ := canon f b hb
    have d1 := Int.dvd_add (k3 a ha hle) k1
    have d2 := R_dvd f hf _ k d1
    have := lost_le f hf a b ha
    exact in_small f _ k (Int.dvd_sub d1 d2) (by omega)
  rcases Nat.le_total b.natAbs a.natAbs with h | h
  · exact key a b ha hb h
  · have := key b a hb ha h
    rwa [Int.add_comm b a] at this

/-- The sum less the greater one. -/
theorem less_in (f : Format) (hf : 1 ≤ f.fractionBits) (a b : Int) (ha : InF f a) (hb : InF f b) (hle : b.natAbs ≤ a.natAbs) : InF f (R f (a + b) - a) := by
  obtain ⟨k, k1, k2, k3⟩ := canon f b hb
  have da := k3 a ha hle
  have d1 := Int.dvd_add da k1
  have d2 := R_dvd f hf _ k d1
  have hl := lost_le f hf a b ha
  rcases Nat.le_total (a + b).natAbs (2 * f.binade * 2 ^ k) with h1 | h1
  · rw [R_exact f _ (in_small f _ k d1 h1), show a + b - a = b by omega]; exact hb
  · rcases Nat.lt_or_ge a.natAbs (2 * f.binade * 2 ^ k) with h2 | h2
    · have h3 := R_err f hf (a + b) k d1 (by omega)
      refine in_small f _ k (Int.dvd_sub d2 da) ?_
      have hb2 : b.natAbs + 2 ^ k ≤ 2 * f.binade * 2 ^ k := by
        rw [Int.ofNat_dvd_left] at k1
        obtain ⟨q, hq⟩ := k1
        rw [hq, Nat.mul_comm (2 ^ k)] at k2 ⊢
        have h4 := Nat.lt_of_mul_lt_mul_right k2
        have h5 : (q + 1) * 2 ^ k ≤ 2 * f.binade * 2 ^ k := Nat.mul_le_mul_right _ h4
        rw [Nat.add_mul, Nat.one_mul] at h5
        exact h5
      omega
    · have e1 := dvd_great f a k ha h2
      have h3 := R_ge f hf (a + b) _ (pow_in f k) (by rw [Int.natAbs_natCast]; exact h1)
      rw [Int.natAbs_natCast] at h3
      have e2 := dvd_great f _ k (R_in f _) h3
      refine in_small f _ (k + 1) (Int.dvd_sub e2 e1) ?_
      have h5 : 2 * f.binade * 2 ^ (k + 1) = 2 * (2 * f.binade * 2 ^ k) := by rw [Nat.pow_succ, ← Nat.mul_assoc, Nat.mul_comm]
      omega

/-- Knuth's six sums. -/
theorem two_sum (f : Format) (hf : 1 ≤ f.fractionBits) (a b s c d : Int) (ha : InF f a) (hb : InF f b) (hs : s = R f (a + b)) (hc : c = R f (s - a)) (hd : d = R f (s - c)) :
    InF f (a - d) ∧ InF f (b - c) ∧ a - d + (b - c) = a + b - s ∧ InF f (a + b - s) ∧ (a - d).natAbs ≤ a.natAbs ∧ (a + b - s).natAbs ≤ b.natAbs ∧
    ((b - c).natAbs ≤ b.natAbs ∨ ∃ k : Nat, (b - c).natAbs < 2 * (2 * f.binade * 2 ^ k) ∧ 2 * f.binade * 2 ^ k ≤ b.natAbs) := by
  have hl := lost_le f hf a b ha
  have hi := lost_in f hf a b ha hb
  rw [← hs] at hl hi
  have hsf : InF f s := by rw [hs]; exact R_in f _
  have zero : InF f 0 := ⟨0, 0, by simp, by have := binade_pos f; omega⟩
  by_cases hex : InF f (s - a)
  · -- exactly
    have hc' : c = s - a := by rw [hc, R_exact f _ hex]
    have hd' : d = a := by rw [hd, hc', show s - (s - a) = a by omega, R_exact f a ha]
    rw [hd', hc', show a - a = 0 by omega, show b - (s - a) = a + b - s by omega]
    exact ⟨zero, hi, by omega, hi, by simp, hl, Or.inl hl⟩
  · have hlt : a.natAbs < b.natAbs := by
      rcases Nat.lt_or_ge a.natAbs b.natAbs with h | h
      · exact h
      · exact absurd (by rw [hs]; exact less_in f hf a b ha hb h) hex
    obtain ⟨k, k1, k2, k3⟩ := canon f a ha
    have db := k3 b hb (by omega)
    have d1 := Int.dvd_add k1 db
    have hsa : a.natAbs ≤ s.natAbs := by
      rcases Nat.lt_or_ge s.natAbs a.natAbs with h | h
      · exfalso
        have h2 : (a + b).natAbs < a.natAbs := by
          rcases Nat.lt_or_ge (a + b).natAbs a.natAbs with h3 | h3
          · exact h3
          · have := R_ge f hf (a + b) a ha h3
            rw [← hs] at this; omega
        have h3 : s = a + b := by rw [hs]; exact R_exact f _ (in_small f _ k d1 (by omega))
        rw [h3, show a + b - a = b by omega] at hex
        exact hex hb
      · exact h
    have ds := k3 s hsf hsa
    have dsa : ((2 ^ k : Nat) : Int) ∣ s - a := Int.dvd_sub ds k1
    -- the second sum
    have hna := InF_neg f a ha
    have hsum : s + -a = s - a := by omega
    have l1 := less_in f hf s (-a) hsf hna (by rw [Int.natAbs_neg]; exact hsa)
    have l2 := lost_in f hf s (-a) hsf hna
    have l3 := lost_le f hf s (-a) hsf
    rw [hsum, ← hc] at l1 l2 l3
    rw [Int.natAbs_neg] at l3
    have hd' : d = s - c := by
      rw [hd]
      have := InF_neg f _ l1
      rw [show -(c - s) = s - c by omega] at this
      exact R_exact f _ this
    have hgt : 2 * f.binade * 2 ^ k < (s - a).natAbs := by
      rcases Nat.lt_or_ge (2 * f.binade * 2 ^ k) (s - a).natAbs with h | h
      · exact h
      · exact absurd (in_small f _ k dsa h) hex
    have hbg : 2 * f.binade * 2 ^ k ≤ b.natAbs := by
      rcases Nat.lt_or_ge b.natAbs (2 * f.binade * 2 ^ k) with h | h
      · exfalso
        have h3 := R_err f hf (a + b) k d1 (by omega)
        rw [← hs] at h3
        have hb2 : b.natAbs + 2 ^ k ≤ 2 * f.binade * 2 ^ k := by
          rw [Int.ofNat_dvd_left] at db
          obtain ⟨q, hq⟩ := db
          rw [hq, Nat.mul_comm (2 ^ k)] at h ⊢
          have h4 := Nat.lt_of_mul_lt_mul_right h
          have h5 : (q + 1) * 2 ^ k ≤ 2 * f.binade * 2 ^ k := Nat.mul_le_mul_right _ h4
          rw [Nat.add_mul, Nat.one_mul] at h5
          exact h5
        omega
      · exact h
    have eb := dvd_great f b k hb hbg
    have hcg : 2 * f.binade * 2 ^ k ≤ c.natAbs := by
      have := R_ge f hf (s - a) _ (pow_in f k) (by rw [Int.natAbs_natCast]; omega)
      rw [Int.natAbs_natCast, ← hc] at this
      exact this
    have ec := dvd_great f c k (by rw [hc]; exact R_in f _) hcg
    have hla : (a + b - s).natAbs ≤ a.natAbs := by
      have := lost_le f hf b a hb
      rw [Int.add_comm b a, ← hs] at this; exact this
    have hbc : (b - c).natAbs ≤ 2 * a.natAbs := by omega
    have h5 : 2 * f.binade * 2 ^ (k + 1) = 2 * (2 * f.binade * 2 ^ k) := by rw [Nat.pow_succ, ← Nat.mul_assoc, Nat.mul_comm]
    refine ⟨?_, in_small f _ (k + 1) (Int.dvd_sub eb ec) (by omega), by omega, hi, ?_, hl, Or.inr ⟨k, by omega, hbg⟩⟩
    · have := InF_neg f _ l2
      rw [show -(s - a - c) = a - d by omega] at this
      exact this
    · omega

/-- What a product has lost. -/
theorem two_prod (f : Format) (hf : 1 ≤ f.fractionBits) (m n j : Nat) (hm : m < 2 * f.binade) (hn : n < 2 * f.binade) : InF f (((m * n * 2 ^ j : Nat) : Int) - R f ((m * n * 2 ^ j : Nat) : Int)) ∧
    (((m * n * 2 ^ j : Nat) : Int) - R f ((m * n * 2 ^ j : Nat) : Int)).natAbs ≤ m * n * 2 ^ j := by
  obtain ⟨Z, hZ⟩ : ∃ Z : Int, ((m * n * 2 ^ j : Nat) : Int) = Z := ⟨_, rfl⟩
  have hZ0 : Z.natAbs = m * n * 2 ^ j := by rw [← hZ, Int.natAbs_natCast]
  rw [hZ]
  have zero : InF f 0 := ⟨0, 0, by simp, by have := binade_pos f; omega⟩
  have n0 := R_near f hf Z 0 zero
  refine ⟨?_, by omega⟩
  have dZ : ((2 ^ j : Nat) : Int) ∣ Z := by rw [Int.ofNat_dvd_left, hZ0]; exact Nat.dvd_mul_left _ _
  have hB : 0 < 2 * f.binade := by have := binade_pos f; omega
  -- a candidate
  have hc : InF f ((m * n / (2 * f.binade) * (2 * f.binade) * 2 ^ j : Nat) : Int) := by
    refine ⟨m * n / (2 * f.binade), f.fractionBits + 1 + j, ?_, ?_⟩
    · rw [Int.natAbs_natCast, Nat.pow_add, Nat.pow_succ, Nat.mul_comm (2 ^ f.fractionBits) 2, Nat.mul_assoc (m * n / (2 * f.binade))]; rfl
    · rw [Nat.div_lt_iff_lt_mul hB]
      exact Nat.mul_lt_mul_of_le_of_lt (Nat.le_of_lt hm) hn (by omega)
  have n1 := R_near f hf Z _ hc
  refine in_small f _ j (Int.dvd_sub dZ (R_dvd f hf _ j dZ)) ?_
  have hdm := Nat.div_add_mod (m * n) (2 * f.binade)
  have hml := Nat.mod_lt (m * n) hB
  have h3 : m * n * 2 ^ j = m * n / (2 * f.binade) * (2 * f.binade) * 2 ^ j + m * n % (2 * f.binade) * 2 ^ j := by
    rw [← Nat.add_mul, Nat.mul_comm (m * n / (2 * f.binade)), hdm]
  have h4 : m * n % (2 * f.binade) * 2 ^ j ≤ 2 * f.binade * 2 ^ j := Nat.mul_le_mul_right _ (by omega)
  omega

end Flt
end Go.Proofs.Ytmkploknoohliaa
