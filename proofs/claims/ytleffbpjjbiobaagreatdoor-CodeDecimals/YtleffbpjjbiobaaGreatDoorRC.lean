/- Rounding keeps the order. -/
import Derived.Test.YtleffbpjjbiobaaGreatDoorFE
import Derived.Test.YtleffbpjjbiobaaGreatDoorFP
/- Rounding a quotient by its whole part and what is left. -/
namespace Go.Proofs.YtleffbpjjbiobaaGreatDoor
namespace Flt
set_option linter.unusedVariables false
set_option linter.unusedSimpArgs false
open Ieee

theorem cutE_eq {n u n' u' : Nat} (hu : 0 < u) (hu' : 0 < u') (h : n * u' = n' * u) : cutE n u = cutE n' u' := by
  rw [← cutE_scale n u u' hu', ← cutE_scale n' u' u hu, h, Nat.mul_comm u u']

/-- To the nearest, by the whole part n, whether something is left, and how many digits fall. -/
def cutN (n sh : Nat) (more : Bool) : Nat := n / 2 ^ sh / 2 + if n / 2 ^ sh % 2 = 1 ∧ ((more || decide (n % 2 ^ sh ≠ 0)) = true ∨ n / 2 ^ sh / 2 % 2 = 1) then 1 else 0

theorem cutE_quot (P Q sh : Nat) (hQ : 0 < Q) : cutE P (Q * 2 ^ (sh + 1)) = cutN (P / Q) sh (decide (P % Q ≠ 0)) := by
  unfold cutE cutN
  have hp := Nat.two_pow_pos sh
  have e1 : P / (Q * 2 ^ (sh + 1)) = P / Q / 2 ^ sh / 2 := by
    rw [← Nat.div_div_eq_div_mul, Nat.pow_succ, ← Nat.div_div_eq_div_mul]
  have e2 : P % (Q * 2 ^ (sh + 1)) = P % Q + Q * (P / Q % 2 ^ (sh + 1)) := Nat.mod_mul
  have hr : P % Q < Q := Nat.mod_lt _ hQ
  rw [e1, e2]
  generalize P / Q = n at *
  generalize P % Q = r at *
  have e3 : n % 2 ^ (sh + 1) = n % 2 ^ sh + 2 ^ sh * (n / 2 ^ sh % 2) := by rw [Nat.pow_succ]; exact Nat.mod_mul
  have hx : n % 2 ^ sh < 2 ^ sh := Nat.mod_lt _ hp
  rw [e3, Nat.pow_succ]
  generalize n / 2 ^ sh = c at *
  generalize n % 2 ^ sh = x at *
  generalize 2 ^ sh = H at *
  refine congrArg _ ?_
  have key : (Q * (H * 2) < 2 * (r + Q * (x + H * (c % 2))) ∨ (Q * (H * 2) = 2 * (r + Q * (x + H * (c % 2))) ∧ c / 2 % 2 = 1)) ↔ (c % 2 = 1 ∧ ((decide (r ≠ 0) || decide (x ≠ 0)) = true ∨ c / 2 % 2 = 1)) := by
    have e4 : Q * (H * 2) = 2 * (Q * H) := by rw [← Nat.mul_assoc, Nat.mul_comm]
    rw [e4]
    have hc : c % 2 = 0 ∨ c % 2 = 1 := by omega
    rcases hc with hc | hc
    · rw [hc, Nat.mul_zero, Nat.add_zero]
      have h1 : Q * (x + 1) ≤ Q * H := Nat.mul_le_mul_left _ hx
      rw [Nat.mul_add, Nat.mul_one] at h1
      constructor
      · rintro (h | h) <;> omega
      · rintro ⟨h, _⟩; omega
    · rw [hc, Nat.mul_one, Nat.mul_add Q]
      have h2 : Q * x = 0 ↔ x = 0 := by
        constructor
        · intro h; rcases Nat.mul_eq_zero.1 h with h | h <;> omega
        · intro h; rw [h, Nat.mul_zero]
      generalize hqx : Q * x = y at *
      simp only [Bool.or_eq_true, decide_eq_true_eq]
      constructor
      · rintro (h | h)
        · refine ⟨trivial, .inl ?_⟩
          by_cases hx0 : x = 0
          · left; have := h2.2 hx0; omega
          · exact .inr hx0
        · exact ⟨trivial, .inr h.2⟩
      · rintro ⟨_, h | h⟩
        · left
          rcases h with h | h
          · omega
          · have : y ≠ 0 := fun e => h (h2.1 e)
            omega
        · by_cases hz : r + y = 0
          · exact .inr ⟨by omega, h⟩
          · left; omega
  by_cases h : Q * (H * 2) < 2 * (r + Q * (x + H * (c % 2))) ∨ (Q * (H * 2) = 2 * (r + Q * (x + H * (c % 2))) ∧ c / 2 % 2 = 1)
  · rw [if_pos h, if_pos (key.1 h)]
  · rw [if_neg h, if_neg (fun e => h (key.2 e))]

theorem log2_quot (N D P Q A B : Nat) (hD : 0 < D) (hQ : 0 < Q) (hn : P / Q ≠ 0) (h : N * (Q * 2 ^ B) = P * (D * 2 ^ A)) : (N / D).log2 = (P / Q).log2 + A - B := by
  have l1 := Nat.log2_self_le hn
  have l2 := Nat.lt_log2_self (n := P / Q)
  generalize (P / Q).log2 = g at *
  rw [Nat.le_div_iff_mul_le hQ] at l1
  rw [Nat.div_lt_iff_lt_mul hQ] at l2
  have g1 : 2 ^ (g + A) * D ≤ N * 2 ^ B := by
    refine Nat.le_of_mul_le_mul_right (c := Q) ?_ hQ
    rw [Nat.mul_assoc N, Nat.mul_comm (2 ^ B), h, Nat.pow_add]
    have := Nat.mul_le_mul_right (D * 2 ^ A) l1
    refine Nat.le_trans (Nat.le_of_eq ?_) this
    simp only [Nat.mul_assoc, Nat.mul_left_comm, Nat.mul_comm]
  have g2 : N * 2 ^ B < 2 ^ (g + 1 + A) * D := by
    refine Nat.lt_of_mul_lt_mul_right (a := Q) ?_
    rw [Nat.mul_assoc N, Nat.mul_comm (2 ^ B), h, Nat.pow_add 2 (g + 1)]
    have := Nat.mul_lt_mul_of_pos_right l2 (Nat.mul_pos hD (Nat.two_pow_pos A))
    refine Nat.lt_of_lt_of_le this (Nat.le_of_eq ?_)
    simp only [Nat.mul_assoc, Nat.mul_left_comm, Nat.mul_comm]
  by_cases hB : B ≤ g + A
  · obtain ⟨j, hj⟩ : ∃ j, g + A = j + B := ⟨g + A - B, by omega⟩
    rw [hj, Nat.pow_add, Nat.mul_right_comm] at g1
    rw [show g + 1 + A = j + 1 + B by omega, Nat.pow_add, Nat.mul_right_comm] at g2
    have g3 := Nat.le_of_mul_le_mul_right g1 (Nat.two_pow_pos B)
    have g4 := Nat.lt_of_mul_lt_mul_right g2
    have h5 : 2 ^ j ≤ N / D := (Nat.le_div_iff_mul_le hD).2 g3
    have h6 : N / D < 2 ^ (j + 1) := (Nat.div_lt_iff_lt_mul hD).2 g4
    rw [hj, Nat.add_sub_cancel]
    have h0 : N / D ≠ 0 := by have := Nat.two_pow_pos j; omega
    exact (Nat.log2_eq_iff h0).2 ⟨h5, h6⟩
  · have h7 : N < D := by
      refine Nat.lt_of_mul_lt_mul_right (a := 2 ^ B) ?_
      refine Nat.lt_of_lt_of_le g2 ?_
      rw [Nat.mul_comm D]
      exact Nat.mul_le_mul_right _ (Nat.pow_le_pow_right (by omega) (by omega))
    rw [Nat.div_eq_of_lt h7, show g + A - B = 0 by omega]
    simp

/-- The nearest rung of N / D = P / Q * 2 ^ (A - B), by the quotient's whole part. -/
theorem rnd_quot (f : Format) (N D P Q A B sh k : Nat) (hD : 0 < D) (hQ : 0 < Q) (hn : P / Q ≠ 0) (h : N * (Q * 2 ^ B) = P * (D * 2 ^ A))
    (hk : k = (P / Q).log2 + A - B - f.fractionBits) (hsh : sh + 1 + A = k + B) : rnd f N D = k * f.binade + cutN (P / Q) sh (decide (P % Q ≠ 0)) := by
  unfold rnd
  rw [log2_quot N D P Q A B hD hQ hn h, ← hk]
  refine congrArg _ ?_
  rw [← cutE_quot P Q sh hQ]
  refine cutE_eq (Nat.mul_pos hD (Nat.two_pow_pos k)) (Nat.mul_pos hQ (Nat.two_pow_pos _)) ?_
  refine Nat.eq_of_mul_eq_mul_right (Nat.two_pow_pos A) ?_
  have e : 2 ^ (sh + 1) * 2 ^ A = 2 ^ k * 2 ^ B := by rw [← Nat.pow_add, ← Nat.pow_add, hsh]
  calc N * (Q * 2 ^ (sh + 1)) * 2 ^ A = N * (Q * (2 ^ (sh + 1) * 2 ^ A)) := by simp only [Nat.mul_assoc]
    _ = N * (Q * 2 ^ B) * 2 ^ k := by rw [e]; simp only [Nat.mul_assoc, Nat.mul_left_comm, Nat.mul_comm]
    _ = P * (D * 2 ^ A) * 2 ^ k := by rw [h]
    _ = P * (D * 2 ^ k) * 2 ^ A := by simp only [Nat.mul_assoc, Nat.mul_left_comm, Nat.mul_comm]

theorem cutN_lt (n sh t : Nat) (more : Bool) (h : n < 2 ^ (sh + 1 + t)) : cutN n sh more ≤ 2 ^ t := by
  unfold cutN
  have : n / 2 ^ sh / 2 < 2 ^ t := by
    rw [Nat.div_div_eq_div_mul, ← Nat.pow_succ, Nat.div_lt_iff_lt_mul (Nat.two_pow_pos _), ← Nat.pow_add, Nat.add_comm t]; exact h
  split <;> omega
end Flt
end Go.Proofs.YtleffbpjjbiobaaGreatDoor

/- Ieee's operations: the nearest rungs of exact numbers. -/
namespace Go.Proofs.YtleffbpjjbiobaaGreatDoor
namespace Flt
set_option linter.unusedVariables false
set_option linter.unusedSimpArgs false
open Ieee

theorem cutN_sticky (q sh : Nat) (b : Bool) : cutN (2 * q + b.toNat) (sh + 1) false = cutN q sh b := by
  have hb : b.toNat ≤ 1 := Bool.toNat_le _
  have e1 : (2 * q + b.toNat) / 2 ^ (sh + 1) = q / 2 ^ sh := by
    rw [Nat.pow_succ, Nat.mul_comm (2 ^ sh), ← Nat.div_div_eq_div_mul]
    congr 1; omega
  have e2 : (2 * q + b.toNat) % 2 ^ (sh + 1) = b.toNat + 2 * (q % 2 ^ sh) := by
    rw [Nat.pow_succ, Nat.mul_comm (2 ^ sh), Nat.mod_mul]
    have : (2 * q + b.toNat) % 2 = b.toNat := by omega
    have h2 : (2 * q + b.toNat) / 2 = q := by omega
    rw [this, h2]
  unfold cutN
  rw [e1, e2]
  have e3 : (false || decide (b.toNat + 2 * (q % 2 ^ sh) ≠ 0)) = (b || decide (q % 2 ^ sh ≠ 0)) := by
    generalize q % 2 ^ sh = x
    cases b
    · have h : (false.toNat + 2 * x ≠ 0) ↔ (x ≠ 0) := by show (0 + 2 * x ≠ 0) ↔ _; omega
      simp only [h]
    · simp
  rw [e3]

theorem rnd_zero (f : Format) (d : Nat) : rnd f 0 d = 0 := by
  unfold rnd cutE; simp

/-- A number of which one digit more says whether something is left. -/
theorem rnd_sticky (f : Format) (q A B sh k : Nat) (b : Bool) (hq : q ≠ 0) (hk : k = q.log2 + 1 + A - B - f.fractionBits) (hsh : sh + 2 + A = k + B) :
    rnd f ((2 * q + b.toNat) * 2 ^ A) (2 ^ B) = k * f.binade + cutN q sh b := by
  have hb : b.toNat ≤ 1 := Bool.toNat_le _
  have hl : (2 * q + b.toNat).log2 = q.log2 + 1 := by
    rw [Nat.log2_eq_iff (by omega)]
    have l1 := Nat.log2_self_le hq
    have l2 := Nat.lt_log2_self (n := q)
    rw [Nat.pow_succ 2 (q.log2 + 1), Nat.pow_succ 2 q.log2] at *
    omega
  have h := rnd_quot f ((2 * q + b.toNat) * 2 ^ A) (2 ^ B) (2 * q + b.toNat) 1 A B (sh + 1) k (Nat.two_pow_pos _) (by omega) (by rw [Nat.div_one]; omega)
    (by rw [Nat.one_mul, Nat.mul_assoc, Nat.mul_comm (2 ^ A)]) (by rw [Nat.div_one, hl]; exact hk) (by omega)
  rw [h, Nat.div_one, Nat.mod_one]
  simp only [ne_eq, not_true_eq_false, decide_false]
  rw [cutN_sticky]

theorem mul_rnd (f : Format) (T a b : Nat) (hT : f.leastPlace = -(T : Int)) (ha : rg f a < f.infRung) (hb : rg f b < f.infRung) :
    f.mul a b = some (f.word (sg f a ^^ sg f b) (min (rnd f (V f (rg f a) * V f (rg f b)) (2 ^ T)) f.infRung)) := by
  obtain ⟨m, k, e1, e2, _⟩ := read_fin f a ha
  obtain ⟨n, l, e3, e4, _⟩ := read_fin f b hb
  unfold Format.mul
  rw [e1, e3]
  simp only [Datum.product, Option.map_some, Format.write]
  rw [nearest_rnd]
  refine congrArg _ (congrArg _ (congrArg (min · _) ?_))
  refine rnd_eq f (Nat.two_pow_pos _) (Nat.two_pow_pos _) ?_
  rw [← e2, ← e4]
  have e : 2 ^ (f.leastPlace + (k : Int) + (f.leastPlace + (l : Int)) - f.leastPlace).toNat * 2 ^ T = 2 ^ k * 2 ^ l * 2 ^ (f.leastPlace - (f.leastPlace + (k : Int) + (f.leastPlace + (l : Int)))).toNat := by
    rw [← Nat.pow_add, ← Nat.pow_add, ← Nat.pow_add]; congr 1; omega
  generalize 2 ^ (f.leastPlace + (k : Int) + (f.leastPlace + (l : Int)) - f.leastPlace).toNat = X at *
  generalize 2 ^ (f.leastPlace - (f.leastPlace + (k : Int) + (f.leastPlace + (l : Int)))).toNat = Y at *
  rw [Nat.mul_assoc, e]
  simp only [Nat.mul_assoc, Nat.mul_left_comm, Nat.mul_comm]

theorem natAbs_scale (z : Int) (c : Nat) : (z * (c : Int)).natAbs = z.natAbs * c := by rw [Int.natAbs_mul]; rfl

/-- The sum of two signed numbers of units: its sign. -/
def sgn2 (s t : Bool) (z : Int) : Bool := if z = 0 then s && t else decide (z < 0)
theorem sgn2_scale (s t : Bool) (z c : Int) (h : 0 < c) : sgn2 s t (z * c) = sgn2 s t z := by
  unfold sgn2
  rcases Int.lt_trichotomy z 0 with h1 | h1 | h1
  · have h2 : z * c < 0 := by
      have := Int.mul_lt_mul_of_pos_right h1 h
      rwa [Int.zero_mul] at this
    rw [if_neg (by omega), if_neg (by omega), decide_eq_true h1, decide_eq_true h2]
  · subst h1; rw [Int.zero_mul]
  · have h2 : 0 < z * c := Int.mul_pos h1 h
    rw [if_neg (by omega), if_neg (by omega), decide_eq_false (by omega), decide_eq_false (by omega)]

theorem sum_rnd (f : Format) (s t : Bool) (m n : Nat) (i j : Int) (X Y D : Nat) (hX : m * 2 ^ (i - min i j).toNat * 2 ^ (min i j - f.leastPlace).toNat * D = X * 2 ^ (f.leastPlace - min i j).toNat) (hY : n * 2 ^ (j - min i j).toNat * 2 ^ (min i j - f.leastPlace).toNat * D = Y * 2 ^ (f.leastPlace - min i j).toNat) (hD : 0 < D) :
    ((Datum.number s m i).sum (.number t n j)).map f.write = some (f.word (sgn2 s t (signed s X 0 + signed t Y 0)) (min (rnd f (signed s X 0 + signed t Y 0).natAbs D) f.infRung)) := by
  simp only [Datum.sum, Option.map_some, Format.write]
  rw [nearest_rnd]
  generalize (i - min i j).toNat = p at *
  generalize (j - min i j).toNat = q at *
  generalize (min i j - f.leastPlace).toNat = A at *
  generalize (f.leastPlace - min i j).toNat = B at *
  have key : (signed s m p + signed t n q) * ((2 ^ A * D : Nat) : Int) = (signed s X 0 + signed t Y 0) * ((2 ^ B : Nat) : Int) := by
    have one : ∀ (s : Bool) (m p X : Nat), m * 2 ^ p * 2 ^ A * D = X * 2 ^ B → signed s m p * ((2 ^ A * D : Nat) : Int) = signed s X 0 * ((2 ^ B : Nat) : Int) := by
      intro s m p X h
      unfold signed
      simp only [Nat.shiftLeft_eq, Nat.pow_zero, Nat.mul_one]
      cases s
      · simp only [Bool.false_eq_true, if_false]
        rw [← Int.natCast_mul, ← Int.natCast_mul, ← h]; congr 1; simp only [Nat.mul_assoc]
      · simp only [if_true]
        rw [Int.neg_mul, Int.neg_mul, ← Int.natCast_mul, ← Int.natCast_mul, ← h]; congr 2; simp only [Nat.mul_assoc]
    rw [Int.add_mul, Int.add_mul, one s m p X hX, one t n q Y hY]
  have hA : (0 : Int) < ((2 ^ A * D : Nat) : Int) := by exact_mod_cast Nat.mul_pos (Nat.two_pow_pos A) hD
  have hB : (0 : Int) < ((2 ^ B : Nat) : Int) := by exact_mod_cast Nat.two_pow_pos B
  generalize signed s m p + signed t n q = z at *
  generalize signed s X 0 + signed t Y 0 = y at *
  have e1 : sgn2 s t z = sgn2 s t y := by rw [← sgn2_scale s t z _ hA, ← sgn2_scale s t y _ hB, key]
  have e2 : z.natAbs * (2 ^ A * D) = y.natAbs * 2 ^ B := by rw [← natAbs_scale, ← natAbs_scale, key]
  show some (f.word (sgn2 s t z) _) = _
  rw [e1]
  refine congrArg _ (congrArg _ (congrArg (min · _) ?_))
  refine rnd_eq f (Nat.two_pow_pos _) hD ?_
  rw [Nat.mul_assoc]; exact e2

theorem add_rnd (f : Format) (a b : Nat) (ha : rg f a < f.infRung) (hb : rg f b < f.infRung) :
    f.add a b = some (f.word (sgn2 (sg f a) (sg f b) (sv f a + sv f b)) (min (rnd f (sv f a + sv f b).natAbs 1) f.infRung)) := by
  obtain ⟨m, k, e1, e2, _⟩ := read_fin f a ha
  obtain ⟨n, l, e3, e4, _⟩ := read_fin f b hb
  unfold Format.add
  rw [e1, e3, sv_signed, sv_signed]
  refine sum_rnd f _ _ m n _ _ _ _ 1 ?_ ?_ (by omega)
  · rw [← e2, Nat.mul_one, Nat.mul_assoc, Nat.mul_assoc, ← Nat.pow_add, ← Nat.pow_add]
    congr 2; omega
  · rw [← e4, Nat.mul_one, Nat.mul_assoc, Nat.mul_assoc, ← Nat.pow_add, ← Nat.pow_add]
    congr 2; omega

theorem fma_rnd (f : Format) (T a b c : Nat) (hT : f.leastPlace = -(T : Int)) (ha : rg f a < f.infRung) (hb : rg f b < f.infRung) (hc : rg f c < f.infRung) :
    f.fma a b c = some (f.word (sgn2 (sg f a ^^ sg f b) (sg f c) (signed (sg f a ^^ sg f b) (V f (rg f a) * V f (rg f b)) 0 + signed (sg f c) (V f (rg f c) * 2 ^ T) 0))
      (min (rnd f (signed (sg f a ^^ sg f b) (V f (rg f a) * V f (rg f b)) 0 + signed (sg f c) (V f (rg f c) * 2 ^ T) 0).natAbs (2 ^ T)) f.infRung)) := by
  obtain ⟨m, k, e1, e2, _⟩ := read_fin f a ha
  obtain ⟨n, l, e3, e4, _⟩ := read_fin f b hb
  obtain ⟨o, j, e5, e6, _⟩ := read_fin f c hc
  unfold Format.fma
  rw [e1, e3, e5]
  simp only [Datum.product, Option.bind_some]
  refine sum_rnd f _ _ (m * n) o _ _ _ _ (2 ^ T) ?_ ?_ (Nat.two_pow_pos _)
  · rw [← e2, ← e4]
    rw [show m * 2 ^ k * (n * 2 ^ l) = m * n * (2 ^ k * 2 ^ l) by simp only [Nat.mul_assoc, Nat.mul_left_comm, Nat.mul_comm]]
    simp only [Nat.mul_assoc, ← Nat.pow_add]
    congr 3; omega
  · rw [← e6]
    simp only [Nat.mul_assoc, ← Nat.pow_add]
    congr 2; omega

theorem div_rnd (f : Format) (T a b : Nat) (hT : f.leastPlace = -(T : Int)) (ha : rg f a < f.infRung) (hb : rg f b < f.infRung) (hb0 : rg f b ≠ 0) :
    f.div a b = some (f.word (sg f a ^^ sg f b) (min (rnd f (V f (rg f a) * 2 ^ T) (V f (rg f b))) f.infRung)) := by
  obtain ⟨m, k, e1, e2, e7, _⟩ := read_fin f a ha
  obtain ⟨n, l, e3, e4, _⟩ := read_fin f b hb
  have hvb : V f (rg f b) ≠ 0 := by
    intro h; apply hb0; exact V_inj (f := f) (by rw [h, V_zero])
  have hn0 : n ≠ 0 := by rintro rfl; rw [Nat.zero_mul] at e4; exact hvb e4.symm
  have hnp : 0 < n := Nat.pos_of_ne_zero hn0
  unfold Format.div
  rw [e1, e3]
  simp only [Datum.quotient, if_neg hn0, Option.map_some, Format.write]
  rw [nearest_rnd]
  refine congrArg _ (congrArg _ (congrArg (min · _) ?_))
  generalize hmore : f.fractionBits + 2 + n.log2 - m.log2 = more
  rw [Nat.shiftLeft_eq]
  by_cases hm0 : m = 0
  · subst hm0
    rw [Nat.zero_mul] at e2
    rw [← e2]
    simp [rnd_zero]
  · have hml : m.log2 ≤ f.fractionBits := by
      have : m.log2 < f.fractionBits + 1 := (Nat.log2_lt hm0).2 (by rw [Nat.pow_succ, Nat.mul_comm]; exact e7)
      omega
    -- the quotient's digits
    have hq1 : 2 ^ (f.fractionBits + 1) ≤ m * 2 ^ more / n := by
      rw [Nat.le_div_iff_mul_le hnp]
      refine Nat.le_trans (Nat.le_of_lt (Nat.mul_lt_mul_of_pos_left (Nat.lt_log2_self (n := n)) (Nat.two_pow_pos _))) ?_
      have := Nat.mul_le_mul_right (2 ^ more) (Nat.log2_self_le hm0)
      rw [← Nat.pow_add] at this ⊢
      rw [show m.log2 + more = f.fractionBits + 1 + (n.log2 + 1) by omega] at this
      exact this
    have hq0 : m * 2 ^ more / n ≠ 0 := by have := Nat.two_pow_pos (f.fractionBits + 1); omega
    have hql : f.fractionBits + 1 ≤ (m * 2 ^ more / n).log2 := (Nat.le_log2 hq0).2 hq1
    generalize hA : (f.leastPlace + (k : Int) - (f.leastPlace + (l : Int)) - (more : Int) - 1 - f.leastPlace).toNat = A
    generalize hB : (f.leastPlace - (f.leastPlace + (k : Int) - (f.leastPlace + (l : Int)) - (more : Int) - 1)).toNat = B
    obtain ⟨kk, hkk⟩ : ∃ kk, kk = (m * 2 ^ more / n).log2 + 1 + A - B - f.fractionBits := ⟨_, rfl⟩
    obtain ⟨sh, hsh⟩ : ∃ sh, sh + 2 + A = kk + B := ⟨kk + B - 2 - A, by omega⟩
    rw [show (m * 2 ^ more % n != 0) = decide (m * 2 ^ more % n ≠ 0) by by_cases h : m * 2 ^ more % n = 0 <;> simp [h]]
    rw [rnd_sticky f _ A B sh kk _ hq0 hkk hsh, ← e2, ← e4]
    -- the same of the whole numbers
    have hrel : A + l + more + 1 = k + T + B := by omega
    refine (rnd_quot f (m * 2 ^ k * 2 ^ T) (n * 2 ^ l) (m * 2 ^ more) n (k + T) (l + more) sh kk (Nat.mul_pos hnp (Nat.two_pow_pos _)) hnp hq0 ?_ (by omega) (by omega)).symm
    simp only [Nat.pow_add]
    simp only [Nat.mul_assoc, Nat.mul_left_comm, Nat.mul_comm]

/-- A number of the wider format in the narrower one. -/
theorem narrow_rnd (a : Nat) (ha : rg double a < double.infRung) (neg : Bool) (m : Nat) (p : Int) (h : double.read a = .number neg m p) :
    single.nearest neg m p = single.word neg (min (rnd single (V double (rg double a)) (2 ^ gapE)) single.infRung) := by
  obtain ⟨m', k, e1, e2, _⟩ := read_fin double a ha
  rw [h] at e1
  injection e1 with h1 h2 h3
  subst h2 h3
  rw [nearest_rnd]
  refine congrArg _ (congrArg (min · _) ?_)
  have hl1 : double.leastPlace = -1074 := by decide
  have hl2 : single.leastPlace = -149 := by decide
  have hE : gapE = 925 := rfl
  refine rnd_eq single (Nat.two_pow_pos _) (Nat.two_pow_pos _) ?_
  rw [← e2, hl1, hl2]
  simp only [Nat.mul_assoc, ← Nat.pow_add]
  congr 2; omega
end Flt
end Go.Proofs.YtleffbpjjbiobaaGreatDoor

namespace Go.Proofs.YtleffbpjjbiobaaGreatDoor
namespace Flt
set_option linter.unusedVariables false
set_option linter.unusedSimpArgs false
open Ieee

theorem rnd_mono (f : Format) (hf : 1 ≤ f.fractionBits) (n d n' d' : Nat) (hd : 0 < d) (hd' : 0 < d') (h : n * d' ≤ n' * d) : rnd f n d ≤ rnd f n' d' := by
  obtain ⟨r, a1, a2, a3⟩ := rnd_spec f hf n d hd
  obtain ⟨s, b1, b2, b3⟩ := rnd_spec f hf n' d' hd'
  rw [a3, b3]
  have hrs : r < s + 1 := by
    rw [← V_lt_iff (f := f)]
    refine Nat.lt_of_mul_lt_mul_right (a := d * d') ?_
    calc V f r * (d * d') = V f r * d * d' := by rw [Nat.mul_assoc]
      _ ≤ n * d' := Nat.mul_le_mul_right _ a1
      _ ≤ n' * d := h
      _ < V f (s + 1) * d' * d := Nat.mul_lt_mul_of_pos_right b2 hd
      _ = V f (s + 1) * (d * d') := by rw [Nat.mul_assoc, Nat.mul_comm d' d]
  rcases Nat.lt_or_ge r s with h1 | h1
  · split <;> split <;> omega
  · have : r = s := by omega
    subst this
    have key : ((V f r + V f (r + 1)) * d < 2 * n ∨ ((V f r + V f (r + 1)) * d = 2 * n ∧ r % 2 = 1)) → ((V f r + V f (r + 1)) * d' < 2 * n' ∨ ((V f r + V f (r + 1)) * d' = 2 * n' ∧ r % 2 = 1)) := by
      generalize V f r + V f (r + 1) = M
      rintro (h2 | ⟨h2, h3⟩)
      · left
        refine Nat.lt_of_mul_lt_mul_right (a := d) ?_
        have := Nat.mul_lt_mul_of_pos_right h2 hd'
        calc M * d' * d = M * d * d' := Nat.mul_right_comm ..
          _ < 2 * n * d' := this
          _ = 2 * (n * d') := Nat.mul_assoc ..
          _ ≤ 2 * (n' * d) := Nat.mul_le_mul_left _ h
          _ = 2 * n' * d := (Nat.mul_assoc ..).symm
      · have h4 : M * d' * d ≤ 2 * n' * d := by
          calc M * d' * d = M * d * d' := Nat.mul_right_comm ..
            _ = 2 * n * d' := by rw [h2]
            _ = 2 * (n * d') := Nat.mul_assoc ..
            _ ≤ 2 * (n' * d) := Nat.mul_le_mul_left _ h
            _ = 2 * n' * d := (Nat.mul_assoc ..).symm
        have h5 := Nat.le_of_mul_le_mul_right h4 hd
        rcases Nat.lt_or_ge (M * d') (2 * n') with h6 | h6
        · exact .inl h6
        · exact .inr ⟨by omega, h3⟩
    by_cases h2 : (V f r + V f (r + 1)) * d < 2 * n ∨ ((V f r + V f (r + 1)) * d = 2 * n ∧ r % 2 = 1)
    · rw [if_pos h2, if_pos (key h2)]; exact Nat.le_refl _
    · rw [if_neg h2]; split <;> omega

theorem rnd_le (f : Format) (hf : 1 ≤ f.fractionBits) (n d R : Nat) (hd : 0 < d) (h : n ≤ V f R * d) : rnd f n d ≤ R := by
  have := rnd_mono f hf n d (V f R) 1 hd (by omega) (by omega)
  rwa [rnd_V] at this
theorem le_rnd (f : Format) (hf : 1 ≤ f.fractionBits) (n d R : Nat) (hd : 0 < d) (h : V f R * d ≤ n) : R ≤ rnd f n d := by
  have := rnd_mono f hf (V f R) 1 n d (by omega) hd (by omega)
  rwa [rnd_V] at this

/-- Between the middles. -/
theorem rnd_mid (f : Format) (hf : 1 ≤ f.fractionBits) (n d : Nat) (hd : 0 < d) :
    (rnd f n d ≠ 0 → (V f (rnd f n d) + V f (rnd f n d - 1)) * d ≤ 2 * n) ∧ 2 * n ≤ (V f (rnd f n d) + V f (rnd f n d + 1)) * d := by
  obtain ⟨r, a1, a2, a3⟩ := rnd_spec f hf n d hd
  by_cases h : (V f r + V f (r + 1)) * d < 2 * n ∨ ((V f r + V f (r + 1)) * d = 2 * n ∧ r % 2 = 1)
  · rw [if_pos h] at a3
    rw [a3]
    refine ⟨fun _ => ?_, ?_⟩
    · rw [Nat.add_sub_cancel, Nat.add_comm (V f (r + 1))]
      rcases h with h | h
      · exact Nat.le_of_lt h
      · exact Nat.le_of_eq h.1
    · have := Nat.mul_le_mul_right d (V_le (f := f) (show r + 1 ≤ r + 1 + 1 by omega))
      rw [Nat.add_mul]; omega
  · rw [if_neg h, Nat.add_zero] at a3
    rw [a3]
    refine ⟨fun _ => ?_, ?_⟩
    · have := Nat.mul_le_mul_right d (V_le (f := f) (show r - 1 ≤ r by omega))
      rw [Nat.add_mul]; omega
    · exact Nat.le_of_not_lt fun e => h (.inl e)
end Flt
end Go.Proofs.YtleffbpjjbiobaaGreatDoor
