/- The rung nearest to a square root. -/
import Derived.Test.YtmkploknoohliaaGreatRB
import Derived.Test.YtmkploknoohliaaGreatNI
namespace Go.Proofs.YtmkploknoohliaaGreat
namespace Flt
set_option linter.unusedVariables false
set_option linter.unusedSimpArgs false
open Ieee

/-- R is the rung nearest to the square root of N / D. -/
def RtR (f : Format) (N D R : Nat) : Prop :=
  ∃ r, V f r * V f r * D ≤ N ∧ N < V f (r + 1) * V f (r + 1) * D ∧
    R = r + (if (V f r + V f (r + 1)) * (V f r + V f (r + 1)) * D < 4 * N ∨ ((V f r + V f (r + 1)) * (V f r + V f (r + 1)) * D = 4 * N ∧ r % 2 = 1) then 1 else 0)

theorem sq_lt {a b : Nat} (h : a < b) : a * a < b * b := Nat.mul_lt_mul_of_lt_of_lt h h
theorem sq_lt_iff {a b : Nat} : a * a < b * b ↔ a < b := by
  refine ⟨fun h => ?_, sq_lt⟩
  rcases Nat.lt_or_ge a b with h1 | h1
  · exact h1
  · have := sq_le h1; omega

theorem RtR.mono {f : Format} {N D R N' D' R' : Nat} (hD : 0 < D) (hD' : 0 < D') (h : RtR f N D R) (h' : RtR f N' D' R') (hle : N * D' ≤ N' * D) : R ≤ R' := by
  obtain ⟨r, a1, a2, a3⟩ := h
  obtain ⟨s, b1, b2, b3⟩ := h'
  rw [a3, b3]
  have hrs : r < s + 1 := by
    rw [← V_lt_iff (f := f), ← sq_lt_iff]
    refine Nat.lt_of_mul_lt_mul_right (a := D * D') ?_
    calc V f r * V f r * (D * D') = V f r * V f r * D * D' := by rw [Nat.mul_assoc (V f r * V f r)]
      _ ≤ N * D' := Nat.mul_le_mul_right _ a1
      _ ≤ N' * D := hle
      _ < V f (s + 1) * V f (s + 1) * D' * D := Nat.mul_lt_mul_of_pos_right b2 hD
      _ = V f (s + 1) * V f (s + 1) * (D * D') := by rw [Nat.mul_assoc (V f (s + 1) * V f (s + 1)), Nat.mul_comm D' D]
  rcases Nat.lt_or_ge r s with h1 | h1
  · split <;> split <;> omega
  · have : r = s := by omega
    subst this
    generalize (V f r + V f (r + 1)) * (V f r + V f (r + 1)) = M at *
    have key : (M * D < 4 * N ∨ (M * D = 4 * N ∧ r % 2 = 1)) → (M * D' < 4 * N' ∨ (M * D' = 4 * N' ∧ r % 2 = 1)) := by
      rintro (h2 | ⟨h2, h3⟩)
      · left
        refine Nat.lt_of_mul_lt_mul_right (a := D) ?_
        have := Nat.mul_lt_mul_of_pos_right h2 hD'
        calc M * D' * D = M * D * D' := Nat.mul_right_comm ..
          _ < 4 * N * D' := this
          _ = 4 * (N * D') := Nat.mul_assoc ..
          _ ≤ 4 * (N' * D) := Nat.mul_le_mul_left _ hle
          _ = 4 * N' * D := (Nat.mul_assoc ..).symm
      · have h4 : M * D' * D ≤ 4 * N' * D := by
          calc M * D' * D = M * D * D' := Nat.mul_right_comm ..
            _ = 4 * N * D' := by rw [h2]
            _ = 4 * (N * D') := Nat.mul_assoc ..
            _ ≤ 4 * (N' * D) := Nat.mul_le_mul_left _ hle
            _ = 4 * N' * D := (Nat.mul_assoc ..).symm
        have h5 := Nat.le_of_mul_le_mul_right h4 hD
        rcases Nat.lt_or_ge (M * D') (4 * N') with h6 | h6
        · exact .inl h6
        · exact .inr ⟨by omega, h3⟩
    by_cases h2 : M * D < 4 * N ∨ (M * D = 4 * N ∧ r % 2 = 1)
    · rw [if_pos h2, if_pos (key h2)]; exact Nat.le_refl _
    · rw [if_neg h2]; split <;> omega

theorem RtR.uniq {f : Format} {N D R N' D' R' : Nat} (hD : 0 < D) (hD' : 0 < D') (h : RtR f N D R) (h' : RtR f N' D' R') (he : N * D' = N' * D) : R = R' :=
  Nat.le_antisymm (h.mono hD hD' h' (Nat.le_of_eq he)) (h'.mono hD' hD h (Nat.le_of_eq he.symm))

theorem root_rung (f : Format) (hf : 1 ≤ f.fractionBits) (N D P Q w A B : Nat) (st : Bool) (hD : 0 < D) (hQ : 0 < Q) (h1 : w * w * Q ≤ P) (h2 : P < (w + 1) * (w + 1) * Q) (h3 : st = true ↔ w * w * Q ≠ P)
    (hw : 2 ^ (f.fractionBits + 1) ≤ w) (hrel : N * (Q * 2 ^ (2 * B)) = 4 * (P * (D * 2 ^ (2 * A)))) : RtR f N D (rnd f ((2 * w + st.toNat) * 2 ^ A) (2 ^ B)) := by
  -- what the digits say of any number
  have lt1 : ∀ y, 2 * y < 2 * w + st.toNat ↔ y * y * Q < P := by
    intro y
    cases st with
    | false =>
      have e : w * w * Q = P := Classical.byContradiction fun h => by simpa using h3.2 h
      rw [← e, show (false.toNat) = 0 from rfl]
      constructor
      · intro h; exact Nat.mul_lt_mul_of_pos_right (sq_lt (by omega)) hQ
      · intro h; have := sq_lt_iff.1 (Nat.lt_of_mul_lt_mul_right h); omega
    | true =>
      have e : w * w * Q ≠ P := h3.1 rfl
      rw [show (true.toNat) = 1 from rfl]
      constructor
      · intro h; have := Nat.mul_le_mul_right Q (sq_le (show y ≤ w by omega)); omega
      · intro h; have := sq_lt_iff.1 (Nat.lt_of_mul_lt_mul_right (Nat.lt_trans h h2)); omega
  have eq1 : ∀ y, 2 * y = 2 * w + st.toNat ↔ y * y * Q = P := by
    intro y
    cases st with
    | false =>
      have e : w * w * Q = P := Classical.byContradiction fun h => by simpa using h3.2 h
      rw [← e, show (false.toNat) = 0 from rfl]
      constructor
      · intro h; have : y = w := by omega
        rw [this]
      · intro h
        have h5 := Nat.eq_of_mul_eq_mul_right hQ h
        rcases Nat.lt_trichotomy y w with h6 | h6 | h6
        · have := sq_lt h6; omega
        · omega
        · have := sq_lt h6; omega
    | true =>
      have e : w * w * Q ≠ P := h3.1 rfl
      rw [show (true.toNat) = 1 from rfl]
      constructor
      · intro h; omega
      · intro h
        exfalso
        have h6 : y < w + 1 := sq_lt_iff.1 (Nat.lt_of_mul_lt_mul_right (Nat.lt_of_le_of_lt (Nat.le_of_eq h) h2))
        have h7 : ¬ y < w := fun h8 => by have := Nat.mul_lt_mul_of_pos_right (sq_lt h8) hQ; omega
        have : y = w := by omega
        rw [this] at h; exact e h
  have hq : 2 ^ (f.fractionBits + 2) ≤ 2 * w + st.toNat := by rw [Nat.pow_succ]; omega
  generalize 2 * w + st.toNat = q at *
  obtain ⟨r, s1, s2, s3⟩ := rnd_spec f hf (q * 2 ^ A) (2 ^ B) (Nat.two_pow_pos _)
  obtain ⟨c, v1, v2, v3⟩ := V_form f r
  generalize r / f.binade - 1 = kk at *
  have hkk : A + 2 ≤ kk + B := by
    have h4 : 2 ^ (f.fractionBits + 2 + A) < 2 ^ (f.fractionBits + 1 + kk + B) := by
      rw [Nat.pow_add 2 (f.fractionBits + 2), Nat.pow_add 2 (f.fractionBits + 1 + kk), Nat.pow_add 2 (f.fractionBits + 1)]
      rw [v2] at s2
      refine Nat.lt_of_le_of_lt (Nat.mul_le_mul_right (2 ^ A) hq) (Nat.lt_of_lt_of_le s2 ?_)
      refine Nat.mul_le_mul_right _ (Nat.mul_le_mul_right _ ?_)
      rw [Nat.pow_succ, Nat.mul_comm]; exact v3
    have := (Nat.pow_lt_pow_iff_right (by omega : 1 < 2)).1 h4
    omega
  obtain ⟨s, hs⟩ : ∃ s, kk + B = A + 2 + s := ⟨kk + B - (A + 2), by omega⟩
  have hsp : ∀ u : Nat, u * 2 ^ kk * 2 ^ B = 2 * (2 * u * 2 ^ s) * 2 ^ A := by
    intro u
    rw [Nat.mul_assoc u, ← Nat.pow_add, hs, Nat.pow_add, Nat.pow_add, show (2 : Nat) ^ 2 = 2 * 2 from rfl]
    simp only [Nat.mul_assoc, Nat.mul_left_comm, Nat.mul_comm]
  have canl : ∀ x y : Nat, x * 2 ^ A < y * 2 ^ A ↔ x < y := fun x y => Nat.mul_lt_mul_right (Nat.two_pow_pos A)
  have cane : ∀ x y : Nat, x * 2 ^ A = y * 2 ^ A ↔ x = y := fun x y => Nat.mul_right_cancel_iff (Nat.two_pow_pos A)
  -- a threshold, in units
  have tr : ∀ u y : Nat, u * 2 ^ B = 2 * y * 2 ^ A → u * u * D * (Q * 2 ^ (2 * B)) = 4 * (y * y * Q * (D * 2 ^ (2 * A))) := by
    intro u y h
    have e := congrArg (fun t => t * t) h
    rw [Nat.mul_comm 2 B, Nat.mul_comm 2 A, Nat.pow_mul, Nat.pow_mul]
    generalize 2 ^ B = b at *
    generalize 2 ^ A = a at *
    rw [show b ^ 2 = b * b from Nat.pow_two b, show a ^ 2 = a * a from Nat.pow_two a]
    calc u * u * D * (Q * (b * b)) = (u * b * (u * b)) * (D * Q) := by simp only [Nat.mul_assoc, Nat.mul_left_comm, Nat.mul_comm]
      _ = (2 * y * a * (2 * y * a)) * (D * Q) := by rw [e]
      _ = 4 * (y * y * Q * (D * (a * a))) := by
        rw [show (4 : Nat) = 2 * 2 from rfl]; simp only [Nat.mul_assoc, Nat.mul_left_comm, Nat.mul_comm]
  have hQB : 0 < Q * 2 ^ (2 * B) := Nat.mul_pos hQ (Nat.two_pow_pos _)
  have hDA : 0 < D * 2 ^ (2 * A) := Nat.mul_pos hD (Nat.two_pow_pos _)
  have ltN : ∀ u y : Nat, u * 2 ^ B = 2 * y * 2 ^ A → (u * u * D < N ↔ 2 * y < q) := by
    intro u y h
    rw [lt1, ← Nat.mul_lt_mul_right hQB, tr u y h, hrel, Nat.mul_lt_mul_left (by omega : 0 < 4), Nat.mul_lt_mul_right hDA]
  have eqN : ∀ u y : Nat, u * 2 ^ B = 2 * y * 2 ^ A → (u * u * D = N ↔ 2 * y = q) := by
    intro u y h
    rw [eq1, ← Nat.mul_right_cancel_iff hQB, tr u y h, hrel, Nat.mul_left_cancel_iff (by omega : 0 < 4), Nat.mul_right_cancel_iff hDA]
  have t1 : V f r * 2 ^ B = 2 * (2 * c * 2 ^ s) * 2 ^ A := by rw [v1, hsp]
  have t2 : V f (r + 1) * 2 ^ B = 2 * (2 * (c + 1) * 2 ^ s) * 2 ^ A := by rw [v2, hsp]
  have t3 : (V f r + V f (r + 1)) * 2 ^ B = 2 * (2 * ((2 * c + 1) * 2 ^ s)) * 2 ^ A := by
    rw [v1, v2, ← Nat.add_mul, show c + (c + 1) = 2 * c + 1 by omega, hsp, Nat.mul_assoc 2 (2 * c + 1)]
  refine ⟨r, ?_, ?_, ?_⟩
  · rw [t1, ] at s1
    have a1 := Nat.le_of_mul_le_mul_right s1 (Nat.two_pow_pos A)
    rcases Nat.lt_or_ge (2 * (2 * c * 2 ^ s)) q with h | h
    · exact Nat.le_of_lt ((ltN _ _ t1).2 h)
    · exact Nat.le_of_eq ((eqN _ _ t1).2 (Nat.le_antisymm a1 h))
  · rw [t2] at s2
    have a2 := (canl _ _).1 s2
    rcases Nat.lt_trichotomy N (V f (r + 1) * V f (r + 1) * D) with h | h | h
    · exact h
    · have := (eqN _ _ t2).1 h.symm; omega
    · have := (ltN _ _ t2).1 h; omega
  · rw [s3]
    refine congrArg _ ?_
    have e1 : (V f r + V f (r + 1)) * 2 ^ B < 2 * (q * 2 ^ A) ↔ 2 * ((2 * c + 1) * 2 ^ s) < q := by
      rw [t3, ← Nat.mul_assoc 2 q, canl]; omega
    have e2 : (V f r + V f (r + 1)) * 2 ^ B = 2 * (q * 2 ^ A) ↔ 2 * ((2 * c + 1) * 2 ^ s) = q := by
      rw [t3, ← Nat.mul_assoc 2 q, cane]; omega
    -- half of the sum
    have g1 : (V f r + V f (r + 1)) * (V f r + V f (r + 1)) * D < 4 * N ↔ 2 * ((2 * c + 1) * 2 ^ s) < q := by
      rw [lt1]
      rw [← Nat.mul_lt_mul_right hQB, tr _ _ t3, Nat.mul_assoc 4 N, hrel, Nat.mul_lt_mul_left (by omega : 0 < 4)]
      rw [show 2 * ((2 * c + 1) * 2 ^ s) * (2 * ((2 * c + 1) * 2 ^ s)) * Q * (D * 2 ^ (2 * A)) = 4 * ((2 * c + 1) * 2 ^ s * ((2 * c + 1) * 2 ^ s) * Q * (D * 2 ^ (2 * A))) by
        rw [show (4 : Nat) = 2 * 2 from rfl]; simp only [Nat.mul_assoc, Nat.mul_left_comm, Nat.mul_comm]]
      rw [Nat.mul_lt_mul_left (by omega : 0 < 4), Nat.mul_lt_mul_right hDA]
    have g2 : (V f r + V f (r + 1)) * (V f r + V f (r + 1)) * D = 4 * N ↔ 2 * ((2 * c + 1) * 2 ^ s) = q := by
      rw [eq1]
      rw [← Nat.mul_right_cancel_iff hQB, tr _ _ t3, Nat.mul_assoc 4 N, hrel, Nat.mul_left_cancel_iff (by omega : 0 < 4)]
      rw [show 2 * ((2 * c + 1) * 2 ^ s) * (2 * ((2 * c + 1) * 2 ^ s)) * Q * (D * 2 ^ (2 * A)) = 4 * ((2 * c + 1) * 2 ^ s * ((2 * c + 1) * 2 ^ s) * Q * (D * 2 ^ (2 * A))) by
        rw [show (4 : Nat) = 2 * 2 from rfl]; simp only [Nat.mul_assoc, Nat.mul_left_comm, Nat.mul_comm]]
      rw [Nat.mul_left_cancel_iff (by omega : 0 < 4), Nat.mul_right_cancel_iff hDA]
    simp only [e1, e2, g1, g2]

/-- The model's root. -/
theorem sqrt_rung (f : Format) (hf : 1 ≤ f.fractionBits) (T a : Nat) (hT : f.leastPlace = -(T : Int)) (ha : rg f a < f.infRung) (ha0 : rg f a ≠ 0) (hs : sg f a = false) :
    ∃ R, RtR f (V f (rg f a) * 2 ^ T) 1 R ∧ f.sqrt a = some (min R f.infRung) := by
  obtain ⟨m, k, e1, e2, e3, _⟩ := read_fin f a ha
  rw [hs] at e1
  have hva : V f (rg f a) ≠ 0 := by
    intro h; apply ha0; exact V_inj (f := f) (by rw [h, V_zero])
  have hm0 : m ≠ 0 := by rintro rfl; rw [Nat.zero_mul] at e2; exact hva e2.symm
  have hml : m.log2 ≤ f.fractionBits := by
    have : m.log2 < f.fractionBits + 1 := (Nat.log2_lt hm0).2 (by rw [Nat.pow_succ, Nat.mul_comm]; exact e3)
    omega
  unfold Format.sqrt
  rw [e1]
  simp only [Datum.root, if_neg hm0, Bool.false_eq_true, if_false, Option.map_some, Format.write]
  rw [nearest_rnd]
  generalize hmo : 2 * (f.fractionBits + 2) - m.log2 = m1
  generalize hmore : m1 + ((f.leastPlace + (k : Int) - (m1 : Int)) % 2).toNat = more
  have hpar : ∃ z : Int, f.leastPlace + (k : Int) - (more : Int) = 2 * z := by
    have h2 : (f.leastPlace + (k : Int) - (m1 : Int)) % 2 = 0 ∨ (f.leastPlace + (k : Int) - (m1 : Int)) % 2 = 1 := by omega
    refine ⟨(f.leastPlace + (k : Int) - (more : Int)) / 2, ?_⟩
    omega
  obtain ⟨z, hz⟩ := hpar
  rw [Nat.shiftLeft_eq]
  obtain ⟨w1, w2⟩ := isqrt (m * 2 ^ more)
  generalize Datum.rootFrom (m * 2 ^ more) ((m * 2 ^ more).log2 / 2 + 1) 0 = w at *
  have hbig : 2 ^ (2 * (f.fractionBits + 2)) ≤ m * 2 ^ more := by
    have := Nat.mul_le_mul_right (2 ^ more) (Nat.log2_self_le hm0)
    rw [← Nat.pow_add] at this
    exact Nat.le_trans (Nat.pow_le_pow_right (by omega) (by omega)) this
  have hwb : 2 ^ (f.fractionBits + 1) ≤ w := by
    rcases Nat.lt_or_ge w (2 ^ (f.fractionBits + 1)) with h | h
    · exfalso
      have h5 : w + 1 ≤ 2 ^ (f.fractionBits + 2) := by rw [Nat.pow_succ 2 (f.fractionBits + 1)]; omega
      have := sq_le h5
      rw [← Nat.pow_add, show f.fractionBits + 2 + (f.fractionBits + 2) = 2 * (f.fractionBits + 2) by omega] at this
      omega
    · exact h
  rw [hz, show (2 * z / 2 : Int) = z by omega]
  generalize hA : (z - 1 - f.leastPlace).toNat = A
  generalize hB : (f.leastPlace - (z - 1)).toNat = B
  refine ⟨rnd f ((2 * w + (w * w != m * 2 ^ more).toNat) * 2 ^ A) (2 ^ B), ?_, rfl⟩
  refine root_rung f hf _ _ (m * 2 ^ more) 1 w A B _ (by omega) (by omega) (by rw [Nat.mul_one]; exact w1) (by rw [Nat.mul_one]; exact w2) (by rw [Nat.mul_one]; simp) hwb ?_
  rw [← e2, Nat.one_mul, Nat.one_mul, show (4 : Nat) = 2 ^ 2 from rfl]
  rw [show 2 ^ 2 * (m * 2 ^ more * 2 ^ (2 * A)) = m * (2 ^ 2 * 2 ^ more * 2 ^ (2 * A)) by simp only [Nat.mul_assoc, Nat.mul_left_comm, Nat.mul_comm]]
  simp only [Nat.mul_assoc, ← Nat.pow_add]
  congr 2; omega
end Flt
end Go.Proofs.YtmkploknoohliaaGreat
