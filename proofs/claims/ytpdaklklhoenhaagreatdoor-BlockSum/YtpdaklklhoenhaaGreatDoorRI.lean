/- Numbers made whole, by modes. -/
import Derived.Test.YtpdaklklhoenhaaGreatDoorRA
/- Rounding keeps the order. -/
namespace Go.Proofs.YtpdaklklhoenhaaGreatDoor
namespace Flt
set_option linter.unusedVariables false
set_option linter.unusedSimpArgs false
open Ieee

theorem rnd_mono (f : Format) (hf : 1 ≤ f.fractionBits) (n d n' d' : Nat) (hd : 0 < d) (hd' : 0 < d') (h : n * d' ≤ n' * d) : rnd f n d ≤ rnd f n' d' := by
  obtain ⟨r, a1, a2, a3⟩ := rnd_spec f hf n d hd
  obtain ⟨s, b1, b2, b3⟩ := rnd_spec f hf n' d' hd'
  rw [a3, b3]
  have hrs : r < s + 1 := by
    rw [← V_lt_iff (f := f)]
    refine Nat.lt_of_mul_lt_mul_right (a := d * d') ?_
    calc V f r * (d * d') = V f r * d * d' := by rw [Nat.mul_assoc]
      _ ≤ n * d' := Nat.mul_le_mul_right _ a1
      _ ≤ n' * d := h
      _ < V f (s + 1) * d' * d := Nat.mul_lt_mul_of_pos_right b2 hd
      _ = V f (s + 1) * (d * d') := by rw [Nat.mul_assoc, Nat.mul_comm d' d]
  rcases Nat.lt_or_ge r s with h1 | h1
  · split <;> split <;> omega
  · have : r = s := by omega
    subst this
    have key : ((V f r + V f (r + 1)) * d < 2 * n ∨ ((V f r + V f (r + 1)) * d = 2 * n ∧ r % 2 = 1)) → ((V f r + V f (r + 1)) * d' < 2 * n' ∨ ((V f r + V f (r + 1)) * d' = 2 * n' ∧ r % 2 = 1)) := by
      generalize V f r + V f (r + 1) = M
      rintro (h2 | ⟨h2, h3⟩)
      · left
        refine Nat.lt_of_mul_lt_mul_right (a := d) ?_
        have := Nat.mul_lt_mul_of_pos_right h2 hd'
        calc M * d' * d = M * d * d' := Nat.mul_right_comm ..
          _ < 2 * n * d' := this
          _ = 2 * (n * d') := Nat.mul_assoc ..
          _ ≤ 2 * (n' * d) := Nat.mul_le_mul_left _ h
          _ = 2 * n' * d := (Nat.mul_assoc ..).symm
      · have h4 : M * d' * d ≤ 2 * n' * d := by
          calc M * d' * d = M * d * d' := Nat.mul_right_comm ..
            _ = 2 * n * d' := by rw [h2]
            _ = 2 * (n * d') := Nat.mul_assoc ..
            _ ≤ 2 * (n' * d) := Nat.mul_le_mul_left _ h
            _ = 2 * n' * d := (Nat.mul_assoc ..).symm
        have h5 := Nat.le_of_mul_le_mul_right h4 hd
        rcases Nat.lt_or_ge (M * d') (2 * n') with h6 | h6
        · exact .inl h6
        · exact .inr ⟨by omega, h3⟩
    by_cases h2 : (V f r + V f (r + 1)) * d < 2 * n ∨ ((V f r + V f (r + 1)) * d = 2 * n ∧ r % 2 = 1)
    · rw [if_pos h2, if_pos (key h2)]; exact Nat.le_refl _
    · rw [if_neg h2]; split <;> omega

theorem rnd_le (f : Format) (hf : 1 ≤ f.fractionBits) (n d R : Nat) (hd : 0 < d) (h : n ≤ V f R * d) : rnd f n d ≤ R := by
  have := rnd_mono f hf n d (V f R) 1 hd (by omega) (by omega)
  rwa [rnd_V] at this
theorem le_rnd (f : Format) (hf : 1 ≤ f.fractionBits) (n d R : Nat) (hd : 0 < d) (h : V f R * d ≤ n) : R ≤ rnd f n d := by
  have := rnd_mono f hf (V f R) 1 n d (by omega) hd (by omega)
  rwa [rnd_V] at this

/-- Between the middles. -/
theorem rnd_mid (f : Format) (hf : 1 ≤ f.fractionBits) (n d : Nat) (hd : 0 < d) :
    (rnd f n d ≠ 0 → (V f (rnd f n d) + V f (rnd f n d - 1)) * d ≤ 2 * n) ∧ 2 * n ≤ (V f (rnd f n d) + V f (rnd f n d + 1)) * d := by
  obtain ⟨r, a1, a2, a3⟩ := rnd_spec f hf n d hd
  by_cases h : (V f r + V f (r + 1)) * d < 2 * n ∨ ((V f r + V f (r + 1)) * d = 2 * n ∧ r % 2 = 1)
  · rw [if_pos h] at a3
    rw [a3]
    refine ⟨fun _ => ?_, ?_⟩
    · rw [Nat.add_sub_cancel, Nat.add_comm (V f (r + 1))]
      rcases h with h | h
      · exact Nat.le_of_lt h
      · exact Nat.le_of_eq h.1
    · have := Nat.mul_le_mul_right d (V_le (f := f) (show r + 1 ≤ r + 1 + 1 by omega))
      rw [Nat.add_mul]; omega
  · rw [if_neg h, Nat.add_zero] at a3
    rw [a3]
    refine ⟨fun _ => ?_, ?_⟩
    · have := Nat.mul_le_mul_right d (V_le (f := f) (show r - 1 ≤ r by omega))
      rw [Nat.add_mul]; omega
    · exact Nat.le_of_not_lt fun e => h (.inl e)
end Flt
end Go.Proofs.YtpdaklklhoenhaaGreatDoor

/- Ieee's operations: the nearest rungs of exact numbers. -/
namespace Go.Proofs.YtpdaklklhoenhaaGreatDoor
namespace Flt
set_option linter.unusedVariables false
set_option linter.unusedSimpArgs false
open Ieee

theorem cutN_sticky (q sh : Nat) (b : Bool) : cutN (2 * q + b.toNat) (sh + 1) false = cutN q sh b := by
  have hb : b.toNat ≤ 1 := Bool.toNat_le _
  have e1 : (2 * q + b.toNat) / 2 ^ (sh + 1) = q / 2 ^ sh := by
    rw [Nat.pow_succ, Nat.mul_comm (2 ^ sh), ← Nat.div_div_eq_div_mul]
    congr 1; omega
  have e2 : (2 * q + b.toNat) % 2 ^ (sh + 1) = b.toNat + 2 * (q % 2 ^ sh) := by
    rw [Nat.pow_succ, Nat.mul_comm (2 ^ sh), Nat.mod_mul]
    have : (2 * q + b.toNat) % 2 = b.toNat := by omega
    have h2 : (2 * q + b.toNat) / 2 = q := by omega
    rw [this, h2]
  unfold cutN
  rw [e1, e2]
  have e3 : (false || decide (b.toNat + 2 * (q % 2 ^ sh) ≠ 0)) = (b || decide (q % 2 ^ sh ≠ 0)) := by
    generalize q % 2 ^ sh = x
    cases b
    · have h : (false.toNat + 2 * x ≠ 0) ↔ (x ≠ 0) := by show (0 + 2 * x ≠ 0) ↔ _; omega
      simp only [h]
    · simp
  rw [e3]

theorem rnd_zero (f : Format) (d : Nat) : rnd f 0 d = 0 := by
  unfold rnd cutE; simp

/-- A number of which one digit more says whether something is left. -/
theorem rnd_sticky (f : Format) (q A B sh k : Nat) (b : Bool) (hq : q ≠ 0) (hk : k = q.log2 + 1 + A - B - f.fractionBits) (hsh : sh + 2 + A = k + B) :
    rnd f ((2 * q + b.toNat) * 2 ^ A) (2 ^ B) = k * f.binade + cutN q sh b := by
  have hb : b.toNat ≤ 1 := Bool.toNat_le _
  have hl : (2 * q + b.toNat).log2 = q.log2 + 1 := by
    rw [Nat.log2_eq_iff (by omega)]
    have l1 := Nat.log2_self_le hq
    have l2 := Nat.lt_log2_self (n := q)
    rw [Nat.pow_succ 2 (q.log2 + 1), Nat.pow_succ 2 q.log2] at *
    omega
  have h := rnd_quot f ((2 * q + b.toNat) * 2 ^ A) (2 ^ B) (2 * q + b.toNat) 1 A B (sh + 1) k (Nat.two_pow_pos _) (by omega) (by rw [Nat.div_one]; omega)
    (by rw [Nat.one_mul, Nat.mul_assoc, Nat.mul_comm (2 ^ A)]) (by rw [Nat.div_one, hl]; exact hk) (by omega)
  rw [h, Nat.div_one, Nat.mod_one]
  simp only [ne_eq, not_true_eq_false, decide_false]
  rw [cutN_sticky]

theorem mul_rnd (f : Format) (T a b : Nat) (hT : f.leastPlace = -(T : Int)) (ha : rg f a < f.infRung) (hb : rg f b < f.infRung) :
    f.mul a b = some (f.word (sg f a ^^ sg f b) (min (rnd f (V f (rg f a) * V f (rg f b)) (2 ^ T)) f.infRung)) := by
  obtain ⟨m, k, e1, e2, _⟩ := read_fin f a ha
  obtain ⟨n, l, e3, e4, _⟩ := read_fin f b hb
  unfold Format.mul
  rw [e1, e3]
  simp only [Datum.product, Option.map_some, Format.write]
  rw [nearest_rnd]
  refine congrArg _ (congrArg _ (congrArg (min · _) ?_))
  refine rnd_eq f (Nat.two_pow_pos _) (Nat.two_pow_pos _) ?_
  rw [← e2, ← e4]
  have e : 2 ^ (f.leastPlace + (k : Int) + (f.leastPlace + (l : Int)) - f.leastPlace).toNat * 2 ^ T = 2 ^ k * 2 ^ l * 2 ^ (f.leastPlace - (f.leastPlace + (k : Int) + (f.leastPlace + (l : Int)))).toNat := by
    rw [← Nat.pow_add, ← Nat.pow_add, ← Nat.pow_add]; congr 1; omega
  generalize 2 ^ (f.leastPlace + (k : Int) + (f.leastPlace + (l : Int)) - f.leastPlace).toNat = X at *
  generalize 2 ^ (f.leastPlace - (f.leastPlace + (k : Int) + (f.leastPlace + (l : Int)))).toNat = Y at *
  rw [Nat.mul_assoc, e]
  simp only [Nat.mul_assoc, Nat.mul_left_comm, Nat.mul_comm]

theorem natAbs_scale (z : Int) (c : Nat) : (z * (c : Int)).natAbs = z.natAbs * c := by rw [Int.natAbs_mul]; rfl

/-- The sum of two signed numbers of units: its sign. -/
def sgn2 (s t : Bool) (z : Int) : Bool := if z = 0 then s && t else decide (z < 0)
theorem sgn2_scale (s t : Bool) (z c : Int) (h : 0 < c) : sgn2 s t (z * c) = sgn2 s t z := by
  unfold sgn2
  rcases Int.lt_trichotomy z 0 with h1 | h1 | h1
  · have h2 : z * c < 0 := by
      have := Int.mul_lt_mul_of_pos_right h1 h
      rwa [Int.zero_mul] at this
    rw [if_neg (by omega), if_neg (by omega), decide_eq_true h1, decide_eq_true h2]
  · subst h1; rw [Int.zero_mul]
  · have h2 : 0 < z * c := Int.mul_pos h1 h
    rw [if_neg (by omega), if_neg (by omega), decide_eq_false (by omega), decide_eq_false (by omega)]

theorem sum_rnd (f : Format) (s t : Bool) (m n : Nat) (i j : Int) (X Y D : Nat) (hX : m * 2 ^ (i - min i j).toNat * 2 ^ (min i j - f.leastPlace).toNat * D = X * 2 ^ (f.leastPlace - min i j).toNat) (hY : n * 2 ^ (j - min i j).toNat * 2 ^ (min i j - f.leastPlace).toNat * D = Y * 2 ^ (f.leastPlace - min i j).toNat) (hD : 0 < D) :
    ((Datum.number s m i).sum (.number t n j)).map f.write = some (f.word (sgn2 s t (signed s X 0 + signed t Y 0)) (min (rnd f (signed s X 0 + signed t Y 0).natAbs D) f.infRung)) := by
  simp only [Datum.sum, Option.map_some, Format.write]
  rw [nearest_rnd]
  generalize (i - min i j).toNat = p at *
  generalize (j - min i j).toNat = q at *
  generalize (min i j - f.leastPlace).toNat = A at *
  generalize (f.leastPlace - min i j).toNat = B at *
  have key : (signed s m p + signed t n q) * ((2 ^ A * D : Nat) : Int) = (signed s X 0 + signed t Y 0) * ((2 ^ B : Nat) : Int) := by
    have one : ∀ (s : Bool) (m p X : Nat), m * 2 ^ p * 2 ^ A * D = X * 2 ^ B → signed s m p * ((2 ^ A * D : Nat) : Int) = signed s X 0 * ((2 ^ B : Nat) : Int) := by
      intro s m p X h
      unfold signed
      simp only [Nat.shiftLeft_eq, Nat.pow_zero, Nat.mul_one]
      cases s
      · simp only [Bool.false_eq_true, if_false]
        rw [← Int.natCast_mul, ← Int.natCast_mul, ← h]; congr 1; simp only [Nat.mul_assoc]
      · simp only [if_true]
        rw [Int.neg_mul, Int.neg_mul, ← Int.natCast_mul, ← Int.natCast_mul, ← h]; congr 2; simp only [Nat.mul_assoc]
    rw [Int.add_mul, Int.add_mul, one s m p X hX, one t n q Y hY]
  have hA : (0 : Int) < ((2 ^ A * D : Nat) : Int) := by exact_mod_cast Nat.mul_pos (Nat.two_pow_pos A) hD
  have hB : (0 : Int) < ((2 ^ B : Nat) : Int) := by exact_mod_cast Nat.two_pow_pos B
  generalize signed s m p + signed t n q = z at *
  generalize signed s X 0 + signed t Y 0 = y at *
  have e1 : sgn2 s t z = sgn2 s t y := by rw [← sgn2_scale s t z _ hA, ← sgn2_scale s t y _ hB, key]
  have e2 : z.natAbs * (2 ^ A * D) = y.natAbs * 2 ^ B := by rw [← natAbs_scale, ← natAbs_scale, key]
  show some (f.word (sgn2 s t z) _) = _
  rw [e1]
  refine congrArg _ (congrArg _ (congrArg (min · _) ?_))
  refine rnd_eq f (Nat.two_pow_pos _) hD ?_
  rw [Nat.mul_assoc]; exact e2

theorem add_rnd (f : Format) (a b : Nat) (ha : rg f a < f.infRung) (hb : rg f b < f.infRung) :
    f.add a b = some (f.word (sgn2 (sg f a) (sg f b) (sv f a + sv f b)) (min (rnd f (sv f a + sv f b).natAbs 1) f.infRung)) := by
  obtain ⟨m, k, e1, e2, _⟩ := read_fin f a ha
  obtain ⟨n, l, e3, e4, _⟩ := read_fin f b hb
  unfold Format.add
  rw [e1, e3, sv_signed, sv_signed]
  refine sum_rnd f _ _ m n _ _ _ _ 1 ?_ ?_ (by omega)
  · rw [← e2, Nat.mul_one, Nat.mul_assoc, Nat.mul_assoc, ← Nat.pow_add, ← Nat.pow_add]
    congr 2; omega
  · rw [← e4, Nat.mul_one, Nat.mul_assoc, Nat.mul_assoc, ← Nat.pow_add, ← Nat.pow_add]
    congr 2; omega

theorem fma_rnd (f : Format) (T a b c : Nat) (hT : f.leastPlace = -(T : Int)) (ha : rg f a < f.infRung) (hb : rg f b < f.infRung) (hc : rg f c < f.infRung) :
    f.fma a b c = some (f.word (sgn2 (sg f a ^^ sg f b) (sg f c) (signed (sg f a ^^ sg f b) (V f (rg f a) * V f (rg f b)) 0 + signed (sg f c) (V f (rg f c) * 2 ^ T) 0))
      (min (rnd f (signed (sg f a ^^ sg f b) (V f (rg f a) * V f (rg f b)) 0 + signed (sg f c) (V f (rg f c) * 2 ^ T) 0).natAbs (2 ^ T)) f.infRung)) := by
  obtain ⟨m, k, e1, e2, _⟩ := read_fin f a ha
  obtain ⟨n, l, e3, e4, _⟩ := read_fin f b hb
  obtain ⟨o, j, e5, e6, _⟩ := read_fin f c hc
  unfold Format.fma
  rw [e1, e3, e5]
  simp only [Datum.product, Option.bind_some]
  refine sum_rnd f _ _ (m * n) o _ _ _ _ (2 ^ T) ?_ ?_ (Nat.two_pow_pos _)
  · rw [← e2, ← e4]
    rw [show m * 2 ^ k * (n * 2 ^ l) = m * n * (2 ^ k * 2 ^ l) by simp only [Nat.mul_assoc, Nat.mul_left_comm, Nat.mul_comm]]
    simp only [Nat.mul_assoc, ← Nat.pow_add]
    congr 3; omega
  · rw [← e6]
    simp only [Nat.mul_assoc, ← Nat.pow_add]
    congr 2; omega

theorem div_rnd (f : Format) (T a b : Nat) (hT : f.leastPlace = -(T : Int)) (ha : rg f a < f.infRung) (hb : rg f b < f.infRung) (hb0 : rg f b ≠ 0) :
    f.div a b = some (f.word (sg f a ^^ sg f b) (min (rnd f (V f (rg f a) * 2 ^ T) (V f (rg f b))) f.infRung)) := by
  obtain ⟨m, k, e1, e2, e7, _⟩ := read_fin f a ha
  obtain ⟨n, l, e3, e4, _⟩ := read_fin f b hb
  have hvb : V f (rg f b) ≠ 0 := by
    intro h; apply hb0; exact V_inj (f := f) (by rw [h, V_zero])
  have hn0 : n ≠ 0 := by rintro rfl; rw [Nat.zero_mul] at e4; exact hvb e4.symm
  have hnp : 0 < n := Nat.pos_of_ne_zero hn0
  unfold Format.div
  rw [e1, e3]
  simp only [Datum.quotient, if_neg hn0, Option.map_some, Format.write]
  rw [nearest_rnd]
  refine congrArg _ (congrArg _ (congrArg (min · _) ?_))
  generalize hmore : f.fractionBits + 2 + n.log2 - m.log2 = more
  rw [Nat.shiftLeft_eq]
  by_cases hm0 : m = 0
  · subst hm0
    rw [Nat.zero_mul] at e2
    rw [← e2]
    simp [rnd_zero]
  · have hml : m.log2 ≤ f.fractionBits := by
      have : m.log2 < f.fractionBits + 1 := (Nat.log2_lt hm0).2 (by rw [Nat.pow_succ, Nat.mul_comm]; exact e7)
      omega
    -- the quotient's digits
    have hq1 : 2 ^ (f.fractionBits + 1) ≤ m * 2 ^ more / n := by
      rw [Nat.le_div_iff_mul_le hnp]
      refine Nat.le_trans (Nat.le_of_lt (Nat.mul_lt_mul_of_pos_left (Nat.lt_log2_self (n := n)) (Nat.two_pow_pos _))) ?_
      have := Nat.mul_le_mul_right (2 ^ more) (Nat.log2_self_le hm0)
      rw [← Nat.pow_add] at this ⊢
      rw [show m.log2 + more = f.fractionBits + 1 + (n.log2 + 1) by omega] at this
      exact this
    have hq0 : m * 2 ^ more / n ≠ 0 := by have := Nat.two_pow_pos (f.fractionBits + 1); omega
    have hql : f.fractionBits + 1 ≤ (m * 2 ^ more / n).log2 := (Nat.le_log2 hq0).2 hq1
    generalize hA : (f.leastPlace + (k : Int) - (f.leastPlace + (l : Int)) - (more : Int) - 1 - f.leastPlace).toNat = A
    generalize hB : (f.leastPlace - (f.leastPlace + (k : Int) - (f.leastPlace + (l : Int)) - (more : Int) - 1)).toNat = B
    obtain ⟨kk, hkk⟩ : ∃ kk, kk = (m * 2 ^ more / n).log2 + 1 + A - B - f.fractionBits := ⟨_, rfl⟩
    obtain ⟨sh, hsh⟩ : ∃ sh, sh + 2 + A = kk + B := ⟨kk + B - 2 - A, by omega⟩
    rw [show (m * 2 ^ more % n != 0) = decide (m * 2 ^ more % n ≠ 0) by by_cases h : m * 2 ^ more % n = 0 <;> simp [h]]
    rw [rnd_sticky f _ A B sh kk _ hq0 hkk hsh, ← e2, ← e4]
    -- the same of the whole numbers
    have hrel : A + l + more + 1 = k + T + B := by omega
    refine (rnd_quot f (m * 2 ^ k * 2 ^ T) (n * 2 ^ l) (m * 2 ^ more) n (k + T) (l + more) sh kk (Nat.mul_pos hnp (Nat.two_pow_pos _)) hnp hq0 ?_ (by omega) (by omega)).symm
    simp only [Nat.pow_add]
    simp only [Nat.mul_assoc, Nat.mul_left_comm, Nat.mul_comm]

/-- A number of the wider format in the narrower one. -/
theorem narrow_rnd (a : Nat) (ha : rg double a < double.infRung) (neg : Bool) (m : Nat) (p : Int) (h : double.read a = .number neg m p) :
    single.nearest neg m p = single.word neg (min (rnd single (V double (rg double a)) (2 ^ gapE)) single.infRung) := by
  obtain ⟨m', k, e1, e2, _⟩ := read_fin double a ha
  rw [h] at e1
  injection e1 with h1 h2 h3
  subst h2 h3
  rw [nearest_rnd]
  refine congrArg _ (congrArg (min · _) ?_)
  have hl1 : double.leastPlace = -1074 := by decide
  have hl2 : single.leastPlace = -149 := by decide
  have hE : gapE = 925 := rfl
  refine rnd_eq single (Nat.two_pow_pos _) (Nat.two_pow_pos _) ?_
  rw [← e2, hl1, hl2]
  simp only [Nat.mul_assoc, ← Nat.pow_add]
  congr 2; omega
end Flt
end Go.Proofs.YtpdaklklhoenhaaGreatDoor

namespace Go.Proofs.YtpdaklklhoenhaaGreatDoor
namespace Flt
set_option linter.unusedVariables false
set_option linter.unusedSimpArgs false
open Ieee

/-- N / D made whole, by a mode: to even, away from nought, toward nought, down, up. -/
def whl (mode : Nat) (s : Bool) (N D : Nat) : Nat := match mode with
  | 0 => cutE N D
  | 1 => N / D + (decide (D ≤ 2 * (N % D))).toNat
  | 2 => N / D
  | 3 => N / D + (s && decide (N % D ≠ 0)).toNat
  | _ => N / D + (!s && decide (N % D ≠ 0)).toNat

theorem frac_eq {n u n' u' : Nat} (hu : 0 < u) (hu' : 0 < u') (h : n * u' = n' * u) : n / u = n' / u' ∧ (n % u = 0 ↔ n' % u' = 0) ∧ (u ≤ 2 * (n % u) ↔ u' ≤ 2 * (n' % u')) := by
  have e1 : n / u = n' / u' := by
    rw [← Nat.mul_div_mul_right n u hu', ← Nat.mul_div_mul_right n' u' hu, h, Nat.mul_comm u u']
  have e2 : n % u * u' = n' % u' * u := by
    rw [← Nat.mul_mod_mul_right, ← Nat.mul_mod_mul_right, h, Nat.mul_comm u u']
  refine ⟨e1, ?_, ?_⟩
  · constructor
    · intro h0; rw [h0, Nat.zero_mul] at e2
      rcases Nat.mul_eq_zero.1 e2.symm with h | h
      · exact h
      · omega
    · intro h0; rw [h0, Nat.zero_mul] at e2
      rcases Nat.mul_eq_zero.1 e2 with h | h
      · exact h
      · omega
  · constructor
    · intro h0
      have := Nat.mul_le_mul_right u' h0
      rw [Nat.mul_assoc, e2, ← Nat.mul_assoc, Nat.mul_comm u u'] at this
      exact Nat.le_of_mul_le_mul_right this hu
    · intro h0
      have := Nat.mul_le_mul_right u h0
      rw [Nat.mul_assoc, ← e2, ← Nat.mul_assoc, Nat.mul_comm u' u] at this
      exact Nat.le_of_mul_le_mul_right this hu'

theorem whl_eq {mode : Nat} {s : Bool} {n u n' u' : Nat} (hu : 0 < u) (hu' : 0 < u') (h : n * u' = n' * u) : whl mode s n u = whl mode s n' u' := by
  obtain ⟨e1, e2, e3⟩ := frac_eq hu hu' h
  unfold whl
  split
  · exact cutE_eq hu hu' h
  · rw [e1]; congr 2; exact decide_eq_decide.2 e3
  · exact e1
  · rw [e1]; congr 3; exact decide_eq_decide.2 (not_congr e2)
  · rw [e1]; congr 3; exact decide_eq_decide.2 (not_congr e2)

/-- The model's ways. -/
def wayOf : Nat → Toward
  | 0 => .even
  | 2 => .zero
  | 3 => .down
  | _ => .up

theorem cut_ways (neg : Bool) (n drop : Nat) (mode : Nat) (hm : mode = 0 ∨ mode = 2 ∨ mode = 3 ∨ mode = 4) : (wayOf mode).cut neg n drop = whl mode neg n (2 ^ drop) := by
  have small : ∀ d, n.log2 + 2 ≤ d → n < 2 ^ d := by
    intro d hd
    exact Nat.lt_of_lt_of_le Nat.lt_log2_self (Nat.pow_le_pow_right (by omega) (by omega))
  have key : n / 2 ^ (min drop (n.log2 + 2)) = n / 2 ^ drop ∧ (n % 2 ^ (min drop (n.log2 + 2)) = 0 ↔ n % 2 ^ drop = 0) := by
    rcases Nat.le_total drop (n.log2 + 2) with h | h
    · rw [Nat.min_eq_left h]; exact ⟨rfl, Iff.rfl⟩
    · rw [Nat.min_eq_right h]
      have h1 := small _ (Nat.le_refl (n.log2 + 2))
      have h2 := small _ h
      rw [Nat.div_eq_of_lt h1, Nat.div_eq_of_lt h2, Nat.mod_eq_of_lt h1, Nat.mod_eq_of_lt h2]
      exact ⟨rfl, Iff.rfl⟩
  rcases hm with rfl | rfl | rfl | rfl
  · exact cut_even neg n drop
  · show n / (1 <<< min drop (n.log2 + 2)) + 0 = n / 2 ^ drop
    rw [Nat.one_shiftLeft, key.1, Nat.add_zero]
  · show n / (1 <<< min drop (n.log2 + 2)) + (neg && n % (1 <<< min drop (n.log2 + 2)) != 0).toNat = n / 2 ^ drop + (neg && decide (n % 2 ^ drop ≠ 0)).toNat
    rw [Nat.one_shiftLeft, key.1]
    congr 3
    have : (n % 2 ^ min drop (n.log2 + 2) != 0) = decide (n % 2 ^ min drop (n.log2 + 2) ≠ 0) := by by_cases h : n % 2 ^ min drop (n.log2 + 2) = 0 <;> simp [h]
    rw [this]; exact decide_eq_decide.2 (not_congr key.2)
  · show n / (1 <<< min drop (n.log2 + 2)) + (!neg && n % (1 <<< min drop (n.log2 + 2)) != 0).toNat = n / 2 ^ drop + (!neg && decide (n % 2 ^ drop ≠ 0)).toNat
    rw [Nat.one_shiftLeft, key.1]
    congr 3
    have : (n % 2 ^ min drop (n.log2 + 2) != 0) = decide (n % 2 ^ min drop (n.log2 + 2) ≠ 0) := by by_cases h : n % 2 ^ min drop (n.log2 + 2) = 0 <;> simp [h]
    rw [this]; exact decide_eq_decide.2 (not_congr key.2)

/-- A whole number's float. -/
def ent (T : Nat) (s : Bool) (K : Nat) : Nat := double.word s (min (rnd double (K * 2 ^ T) 1) double.infRung)

theorem nearest_ent (T : Nat) (hT : T = 1074) (s : Bool) (K : Nat) : double.nearest s K 0 = ent T s K := by
  have hl : double.leastPlace = -1074 := by decide
  unfold ent
  rw [nearest_rnd, hl, show (0 - (-1074) : Int).toNat = T by omega, show (-1074 - 0 : Int).toNat = 0 by omega, Nat.pow_zero]

theorem integral_fin (T : Nat) (hT : T = 1074) (mode a : Nat) (hm : mode = 0 ∨ mode = 2 ∨ mode = 3 ∨ mode = 4) (ha : rg double a < double.infRung) : double.write ((double.read a).integral (wayOf mode)) = ent T (sg double a) (whl mode (sg double a) (V double (rg double a)) (2 ^ T)) := by
  obtain ⟨m, k, e1, e2, _⟩ := read_fin double a ha
  have hl : double.leastPlace = -1074 := by decide
  rw [e1]
  show double.nearest (sg double a) ((wayOf mode).cut (sg double a) (m <<< (double.leastPlace + (k : Int)).toNat) (-(double.leastPlace + (k : Int))).toNat) 0 = _
  rw [nearest_ent T hT, cut_ways _ _ _ _ hm, Nat.shiftLeft_eq, hl]
  refine congrArg _ ?_
  refine whl_eq (Nat.two_pow_pos _) (Nat.two_pow_pos _) ?_
  rw [← e2, Nat.mul_assoc, Nat.mul_assoc, ← Nat.pow_add, ← Nat.pow_add]
  congr 2; omega

/-- A float made whole is a float. -/
theorem whl_repr (T mode : Nat) (s : Bool) (r : Nat) (hm : mode ≤ 4) (hT : 1 ≤ T) : ∃ R, V double R = whl mode s (V double r) (2 ^ T) * 2 ^ T ∧ whl mode s (V double r) (2 ^ T) ≤ V double r / 2 ^ T + 1 := by
  have hb : 2 * double.binade = 2 ^ 53 := by decide
  have hle : V double r / 2 ^ T ≤ whl mode s (V double r) (2 ^ T) ∧ whl mode s (V double r) (2 ^ T) ≤ V double r / 2 ^ T + 1 := by
    have ht : ∀ b : Bool, b.toNat ≤ 1 := fun b => Bool.toNat_le b
    unfold whl
    split
    · unfold cutE; split <;> omega
    · have := ht (decide (2 ^ T ≤ 2 * (V double r % 2 ^ T))); omega
    · omega
    · have := ht (s && decide (V double r % 2 ^ T ≠ 0)); omega
    · have := ht (!s && decide (V double r % 2 ^ T ≠ 0)); omega
  obtain ⟨c, v1, _, v3⟩ := V_form double r
  generalize r / double.binade - 1 = kk at *
  by_cases hk : T ≤ kk
  · -- it is whole
    have hz : V double r % 2 ^ T = 0 := by
      rw [v1, show kk = (kk - T) + T by omega, Nat.pow_add, ← Nat.mul_assoc]; exact Nat.mul_mod_left _ _
    have hw : whl mode s (V double r) (2 ^ T) = V double r / 2 ^ T := by
      have hp := Nat.two_pow_pos T
      unfold whl
      split
      · unfold cutE; rw [hz, if_neg (by omega), Nat.add_zero]
      · rw [hz, decide_eq_false (by omega)]; rfl
      · rfl
      · rw [hz]; simp
      · rw [hz]; simp
    refine ⟨r, ?_, hle.2⟩
    rw [hw]
    have := Nat.div_add_mod (V double r) (2 ^ T)
    rw [hz, Nat.add_zero, Nat.mul_comm] at this
    exact this.symm
  · have hlt : V double r / 2 ^ T + 1 ≤ 2 ^ 53 := by
      have h1 : V double r < 2 ^ 53 * 2 ^ kk := by
        rw [v1]; exact Nat.mul_lt_mul_of_pos_right (by omega) (Nat.two_pow_pos _)
      have h2 : V double r / 2 ^ T < 2 ^ 53 := by
        rw [Nat.div_lt_iff_lt_mul (Nat.two_pow_pos _)]
        exact Nat.lt_of_lt_of_le h1 (Nat.mul_le_mul_left _ (Nat.pow_le_pow_right (by omega) (by omega)))
      omega
    rcases Nat.lt_or_ge (whl mode s (V double r) (2 ^ T)) (2 ^ 53) with h | h
    · obtain ⟨R, hR⟩ := repr double (whl mode s (V double r) (2 ^ T)) T (by omega)
      exact ⟨R, hR, hle.2⟩
    · have e : whl mode s (V double r) (2 ^ T) = 2 ^ 53 := by omega
      obtain ⟨R, hR⟩ := repr double 1 (53 + T) (by decide)
      refine ⟨R, ?_, hle.2⟩
      rw [hR, e, Nat.one_mul, Nat.pow_add]

theorem ent_exact (T : Nat) (s : Bool) (K R : Nat) (h : V double R = K * 2 ^ T) : ent T s K = double.word s (min R double.infRung) := by
  unfold ent
  rw [← h, rnd_V]

/-! The bits of math.Round. -/
theorem V_one (T : Nat) (hT : T = 1074) : V double 4607182418800017408 = 2 ^ T := by
  obtain ⟨q, hq⟩ : ∃ q : Nat, q = 1022 := ⟨_, rfl⟩
  have h := (V_at double q double.binade (by decide) (.inr (Nat.le_refl _))).1
  rw [show q * double.binade + double.binade = 4607182418800017408 by rw [hq]; decide +kernel] at h
  rw [h, show double.binade = 2 ^ 52 by decide, ← Nat.pow_add, show 52 + q = T by omega]
theorem V_half (T : Nat) (hT : T = 1073) : V double 4602678819172646912 = 2 ^ T := by
  obtain ⟨q, hq⟩ : ∃ q : Nat, q = 1021 := ⟨_, rfl⟩
  have h := (V_at double q double.binade (by decide) (.inr (Nat.le_refl _))).1
  rw [show q * double.binade + double.binade = 4602678819172646912 by rw [hq]; decide +kernel] at h
  rw [h, show double.binade = 2 ^ 52 by decide, ← Nat.pow_add, show 52 + q = T by omega]

/-- Below one. -/
theorem away_low (T r : Nat) (s : Bool) (hT : T = 1074) (h : r < 4607182418800017408) : ent T s (whl 1 s (V double r) (2 ^ T)) = double.word s (if 4602678819172646912 ≤ r then 4607182418800017408 else 0) := by
  have h1 := V_one T hT
  have hv : V double r < 2 ^ T := by rw [← h1]; exact V_lt h
  obtain ⟨U, hU⟩ : ∃ U, U = 1073 := ⟨_, rfl⟩
  have h2 := V_half U hU
  have hp : 2 ^ T = 2 * 2 ^ U := by rw [show T = U + 1 by omega, Nat.pow_succ, Nat.mul_comm]
  have hk : whl 1 s (V double r) (2 ^ T) = if 4602678819172646912 ≤ r then 1 else 0 := by
    show V double r / 2 ^ T + (decide (2 ^ T ≤ 2 * (V double r % 2 ^ T))).toNat = _
    rw [Nat.div_eq_of_lt hv, Nat.mod_eq_of_lt hv, hp]
    by_cases h3 : 4602678819172646912 ≤ r
    · have := V_le (f := double) h3
      rw [h2] at this
      rw [if_pos h3, decide_eq_true (by omega)]; rfl
    · have := V_lt (f := double) (show r < 4602678819172646912 by omega)
      rw [h2] at this
      rw [if_neg h3, decide_eq_false (by omega)]; rfl
  rw [hk]
  by_cases h3 : 4602678819172646912 ≤ r
  · rw [if_pos h3, if_pos h3, ent_exact T s 1 4607182418800017408 (by rw [h1, Nat.one_mul]), show double.infRung = 9218868437227405312 by decide +kernel, Nat.min_eq_left (by omega)]
  · rw [if_neg h3, if_neg h3, ent_exact T s 0 0 (by rw [V_zero, Nat.zero_mul]), Nat.zero_min]

/-- From one on, below 2 ^ 52. -/
theorem away_mid (T e f g : Nat) (s : Bool) (hT : T = 1074) (hf : f < 4503599627370496) (he : 1023 ≤ e) (hg : e + g = 1075) (hg1 : 1 ≤ g) :
    ent T s (whl 1 s (V double (e * 4503599627370496 + f)) (2 ^ T)) = double.word s (e * 4503599627370496 + (f + 2 ^ (g - 1)) / 2 ^ g * 2 ^ g) ∧ e * 4503599627370496 + (f + 2 ^ (g - 1)) / 2 ^ g * 2 ^ g ≤ (e + 1) * 4503599627370496 := by
  have hB : double.binade = 4503599627370496 := by decide
  have hg52 : g ≤ 52 := by omega
  have hV : ∀ x, x ≤ 4503599627370496 → V double (e * 4503599627370496 + x) = (4503599627370496 + x) * 2 ^ (e - 1) := by
    intro x hx
    rcases Nat.lt_or_ge x 4503599627370496 with h | h
    · have := (V_at double (e - 1) (4503599627370496 + x) (by rw [hB]; omega) (.inr (by rw [hB]; omega))).1
      rw [hB] at this
      rw [show (e - 1) * 4503599627370496 + (4503599627370496 + x) = e * 4503599627370496 + x by omega] at this
      exact this
    · have hx2 : x = 4503599627370496 := by omega
      have := (V_at double (e - 1) (4503599627370496 + 4503599627370495) (by rw [hB]; omega) (.inr (by rw [hB]; omega))).2
      rw [hB] at this
      rw [show (e - 1) * 4503599627370496 + (4503599627370496 + 4503599627370495) + 1 = e * 4503599627370496 + x by omega] at this
      rw [this, hx2]
  have hsplit : 4503599627370496 = 2 ^ (52 - g) * 2 ^ g := by rw [← Nat.pow_add, show 52 - g + g = 52 by omega]
  have hp := Nat.two_pow_pos g
  have hph : 2 ^ g = 2 * 2 ^ (g - 1) := by
    obtain ⟨x, rfl⟩ : ∃ x, g = x + 1 := ⟨g - 1, by omega⟩
    rw [Nat.add_sub_cancel, Nat.pow_succ, Nat.mul_comm]
  -- the fraction, rounded
  have hfl : (f + 2 ^ (g - 1)) / 2 ^ g ≤ 2 ^ (52 - g) := by
    have h1 : f + 2 ^ (g - 1) < (2 ^ (52 - g) + 1) * 2 ^ g := by rw [Nat.add_mul, ← hsplit]; omega
    have := (Nat.div_lt_iff_lt_mul hp).2 h1
    omega
  have hq : (f + 2 ^ (g - 1)) / 2 ^ g * 2 ^ g ≤ 4503599627370496 := by rw [hsplit]; exact Nat.mul_le_mul_right _ hfl
  refine ⟨?_, by omega⟩
  have hK : whl 1 s (V double (e * 4503599627370496 + f)) (2 ^ T) = 2 ^ (52 - g) + (f + 2 ^ (g - 1)) / 2 ^ g := by
    have e1 : whl 1 s (V double (e * 4503599627370496 + f)) (2 ^ T) = whl 1 s (4503599627370496 + f) (2 ^ g) := by
      refine whl_eq (Nat.two_pow_pos _) hp ?_
      rw [hV f (by omega), Nat.mul_assoc, ← Nat.pow_add, show e - 1 + g = T by omega]
    rw [e1]
    show (4503599627370496 + f) / 2 ^ g + (decide (2 ^ g ≤ 2 * ((4503599627370496 + f) % 2 ^ g))).toNat = _
    have d1 : (4503599627370496 + f) / 2 ^ g = 2 ^ (52 - g) + f / 2 ^ g := by rw [hsplit, Nat.add_comm, Nat.add_mul_div_right _ _ hp, Nat.add_comm]
    have d2 : (4503599627370496 + f) % 2 ^ g = f % 2 ^ g := by rw [hsplit, Nat.add_comm, Nat.add_mul_mod_self_right]
    rw [d1, d2, Nat.add_assoc]
    refine congrArg _ ?_
    have hd := Nat.div_add_mod f (2 ^ g)
    have hm := Nat.mod_lt f hp
    by_cases hc : 2 ^ g ≤ 2 * (f % 2 ^ g)
    · rw [decide_eq_true hc]
      have : (f + 2 ^ (g - 1)) / 2 ^ g = f / 2 ^ g + 1 := by
        rw [Nat.div_eq_iff hp, Nat.add_mul, Nat.one_mul, Nat.mul_comm (f / 2 ^ g)]
        generalize 2 ^ g * (f / 2 ^ g) = y at *
        omega
      rw [this]; rfl
    · rw [decide_eq_false hc]
      have : (f + 2 ^ (g - 1)) / 2 ^ g = f / 2 ^ g := by
        rw [Nat.div_eq_iff hp, Nat.mul_comm (f / 2 ^ g)]
        generalize 2 ^ g * (f / 2 ^ g) = y at *
        omega
      rw [this]; rfl
  rw [hK, ent_exact T s _ (e * 4503599627370496 + (f + 2 ^ (g - 1)) / 2 ^ g * 2 ^ g), show double.infRung = 9218868437227405312 by decide +kernel, Nat.min_eq_left (by omega)]
  rw [hV _ hq]
  have e2 : 4503599627370496 + (f + 2 ^ (g - 1)) / 2 ^ g * 2 ^ g = (2 ^ (52 - g) + (f + 2 ^ (g - 1)) / 2 ^ g) * 2 ^ g := by rw [Nat.add_mul, ← hsplit]
  rw [e2, Nat.mul_assoc, ← Nat.pow_add, show g + (e - 1) = T by omega]

/-- From 2 ^ 52 on it is whole. -/
theorem away_high (T r : Nat) (s : Bool) (hT : T = 1074) (h : 4841369599423283200 ≤ r) (hr : r ≤ double.infRung) : ent T s (whl 1 s (V double r) (2 ^ T)) = double.word s r := by
  have hB : double.binade = 4503599627370496 := by decide
  obtain ⟨c, v1, _, v3⟩ := V_form double r
  rw [hB] at v1
  have hz : V double r % 2 ^ T = 0 := by
    rw [v1, show r / 4503599627370496 - 1 = (r / 4503599627370496 - 1 - T) + T by omega, Nat.pow_add, ← Nat.mul_assoc]; exact Nat.mul_mod_left _ _
  have hp := Nat.two_pow_pos T
  have hw : whl 1 s (V double r) (2 ^ T) = V double r / 2 ^ T := by
    show V double r / 2 ^ T + (decide (2 ^ T ≤ 2 * (V double r % 2 ^ T))).toNat = _
    rw [hz, decide_eq_false (by omega)]; rfl
  rw [hw, ent_exact T s _ r, Nat.min_eq_left hr]
  have := Nat.div_add_mod (V double r) (2 ^ T)
  rw [hz, Nat.add_zero, Nat.mul_comm] at this
  exact this.symm
end Flt
end Go.Proofs.YtpdaklklhoenhaaGreatDoor
