/- What a limb's step does in sums, products, shifts, differences: plain mathematics. -/

/- Whole numbers by limbs: plain mathematics. -/
namespace Go.Proofs.YtmfimhpbdbbpoaaDoor
namespace M
set_option linter.unusedVariables false
set_option linter.unusedSimpArgs false

/-- Limb j of a number. -/
def dg (N j : Nat) : Nat := N / 4294967296 ^ j % 4294967296

theorem pw_pos (i : Nat) : 0 < 4294967296 ^ i := Nat.pow_pos (by omega)
theorem pw_succ (i : Nat) : 4294967296 ^ (i + 1) = 4294967296 ^ i * 4294967296 := Nat.pow_succ _ _
theorem dg_lt (N j : Nat) : dg N j < 4294967296 := Nat.mod_lt _ (by omega)
theorem dg_le (N j : Nat) : dg N j ≤ 4294967295 := by have := dg_lt N j; omega
theorem dg_zero (j : Nat) : dg 0 j = 0 := by simp [dg]
theorem dg_high {N k j : Nat} (h : N < 4294967296 ^ k) (hj : k ≤ j) : dg N j = 0 := by
  unfold dg
  rw [Nat.div_eq_of_lt (Nat.lt_of_lt_of_le h (Nat.pow_le_pow_right (by omega) hj))]
theorem mod_succ (N i : Nat) : N % 4294967296 ^ (i + 1) = N % 4294967296 ^ i + 4294967296 ^ i * dg N i := Nat.mod_pow_succ
theorem mod_zero (N : Nat) : N % 4294967296 ^ 0 = 0 := by simp [Nat.mod_one]
theorem mod_self {N k : Nat} (h : N < 4294967296 ^ k) : N % 4294967296 ^ k = N := Nat.mod_eq_of_lt h
theorem mod_lt (N k : Nat) : N % 4294967296 ^ k < 4294967296 ^ k := Nat.mod_lt _ (pw_pos k)

/-- The limbs below k hang on the number modulo the k-th power alone. -/
theorem dg_mod (N : Nat) {k j : Nat} (h : j < k) : dg (N % 4294967296 ^ k) j = dg N j := by
  unfold dg
  obtain ⟨d, rfl⟩ : ∃ d, k = j + 1 + d := ⟨k - (j + 1), by omega⟩
  have e : N = N % 4294967296 ^ (j + 1 + d) + 4294967296 ^ j * (4294967296 * (4294967296 ^ d * (N / 4294967296 ^ (j + 1 + d)))) := by
    have := Nat.mod_add_div N (4294967296 ^ (j + 1 + d))
    rw [show 4294967296 ^ j * (4294967296 * (4294967296 ^ d * (N / 4294967296 ^ (j + 1 + d)))) = 4294967296 ^ (j + 1 + d) * (N / 4294967296 ^ (j + 1 + d)) from by rw [Nat.pow_add, Nat.pow_add, Nat.pow_one, Nat.mul_assoc, Nat.mul_assoc, Nat.mul_assoc]]
    exact this.symm
  conv => rhs; rw [e]
  rw [Nat.add_mul_div_left _ _ (pw_pos j), Nat.add_mul_mod_self_left]

theorem dg_congr {N N' k j : Nat} (h : N % 4294967296 ^ k = N' % 4294967296 ^ k) (hj : j < k) : dg N j = dg N' j := by
  rw [← dg_mod N hj, ← dg_mod N' hj, h]

theorem ext_mod {N N' : Nat} : ∀ {k : Nat}, (∀ j, j < k → dg N j = dg N' j) → N % 4294967296 ^ k = N' % 4294967296 ^ k
  | 0, _ => by simp [Nat.mod_one]
  | k + 1, h => by rw [mod_succ, mod_succ, ext_mod (fun j hj => h j (by omega)), h k (by omega)]

theorem ext {N N' k : Nat} (hN : N < 4294967296 ^ k) (hN' : N' < 4294967296 ^ k) (h : ∀ j, j < k → dg N j = dg N' j) : N = N' := by
  rw [← mod_self hN, ← mod_self hN', ext_mod h]

theorem dg_top {a k b : Nat} (ha : a < 4294967296 ^ k) (hb : b < 4294967296) : dg (a + 4294967296 ^ k * b) k = b := by
  unfold dg
  rw [Nat.add_mul_div_left _ _ (pw_pos k), Nat.div_eq_of_lt ha, Nat.zero_add, Nat.mod_eq_of_lt hb]

theorem dg_low {a k b j : Nat} (hj : j < k) : dg (a + 4294967296 ^ k * b) j = dg a j := by
  rw [← dg_mod _ hj, Nat.add_mul_mod_self_left, dg_mod _ hj]

/-- Every row of limbs is a number's. -/
theorem of_limbs (f : Nat → Nat) : ∀ k, (∀ j, j < k → f j < 4294967296) → ∃ N, N < 4294967296 ^ k ∧ ∀ j, j < k → dg N j = f j
  | 0, _ => ⟨0, by simp, fun j hj => by omega⟩
  | k + 1, h => by
    obtain ⟨N, hN, hj⟩ := of_limbs f k (fun j hj => h j (by omega))
    refine ⟨N + 4294967296 ^ k * f k, ?_, fun j hj' => ?_⟩
    · have hf := h k (by omega)
      have : 4294967296 ^ k * (f k + 1) ≤ 4294967296 ^ k * 4294967296 := Nat.mul_le_mul_left _ hf
      rw [Nat.mul_add] at this
      rw [pw_succ]; omega
    · rcases Nat.lt_or_ge j k with h1 | h1
      · rw [dg_low h1]; exact hj j h1
      · obtain rfl : j = k := by omega
        exact dg_top hN (h j (by omega))

/-- As many limbs as are wanted, and no more. -/
def Nrm (k N : Nat) : Prop := N < 4294967296 ^ k ∧ (k = 0 ∨ 4294967296 ^ (k - 1) ≤ N)

theorem Nrm.le {k N m : Nat} (h : Nrm k N) (hm : N < 4294967296 ^ m) : k ≤ m := by
  rcases h.2 with h0 | h0
  · omega
  · rcases Nat.lt_or_ge m k with h1 | h1
    · have := Nat.pow_le_pow_right (n := 4294967296) (by omega) (show m ≤ k - 1 from by omega)
      omega
    · exact h1

theorem Nrm.uniq {k m N : Nat} (h : Nrm k N) (h' : Nrm m N) : k = m := Nat.le_antisymm (h.le h'.1) (h'.le h.1)

theorem Nrm.zero_iff {k N : Nat} (h : Nrm k N) : k = 0 ↔ N = 0 := by
  constructor
  · rintro rfl; have := h.1; simp at this; exact this
  · rintro rfl; rcases h.2 with h0 | h0
    · exact h0
    · have := pw_pos (k - 1); omega

theorem Nrm.le_iff {k N m : Nat} (h : Nrm k N) : k ≤ m ↔ N < 4294967296 ^ m :=
  ⟨fun hk => Nat.lt_of_lt_of_le h.1 (Nat.pow_le_pow_right (by omega) hk), h.le⟩

theorem Nrm.of_top {k N : Nat} (h : N < 4294967296 ^ (k + 1)) (ht : dg N k ≠ 0) : Nrm (k + 1) N := by
  refine ⟨h, .inr ?_⟩
  show 4294967296 ^ k ≤ N
  rcases Nat.lt_or_ge N (4294967296 ^ k) with h1 | h1
  · exact absurd (dg_high h1 (Nat.le_refl _)) ht
  · exact h1

theorem Nrm.top {k N : Nat} (h : Nrm (k + 1) N) : dg N k ≠ 0 := by
  rcases h.2 with h0 | h0
  · omega
  · intro h1
    have := mod_succ N k
    rw [mod_self h.1, h1, Nat.mul_zero, Nat.add_zero] at this
    have h2 := mod_lt N k
    simp at h0
    omega

theorem Nrm.drop {k N : Nat} (h : N < 4294967296 ^ (k + 1)) (ht : dg N k = 0) : N < 4294967296 ^ k := by
  have := mod_succ N k
  rw [mod_self h, ht, Nat.mul_zero, Nat.add_zero] at this
  have h2 := mod_lt N k
  omega

theorem nrm_exists (N : Nat) : ∃ k, Nrm k N := by
  have h : ∀ k, N < 4294967296 ^ k → ∃ k, Nrm k N := by
    intro k
    induction k with
    | zero => intro h; exact ⟨0, h, .inl rfl⟩
    | succ k ih =>
      intro h
      by_cases ht : dg N k = 0
      · exact ih (Nrm.drop h ht)
      · exact ⟨k + 1, Nrm.of_top h ht⟩
  exact h N (Nat.lt_pow_self (by omega))

theorem nrm_zero : Nrm 0 0 := ⟨by simp, .inl rfl⟩

theorem Nrm.lt_of {k m a b : Nat} (h : Nrm k a) (h' : Nrm m b) (hk : k < m) : a < b := by
  rcases Nat.lt_or_ge a b with h1 | h1
  · exact h1
  · have := h'.le (Nat.lt_of_le_of_lt h1 h.1); omega

/-- It is not too long. -/
def Fits (N : Nat) : Prop := ∃ k, k ≤ 8192 ∧ N < 4294967296 ^ k
theorem Nrm.fits {k N : Nat} (h : Nrm k N) : k ≤ 8192 ↔ Fits N :=
  ⟨fun hk => ⟨k, hk, h.1⟩, fun ⟨m, hm, hN⟩ => Nat.le_trans (h.le hN) hm⟩
theorem Fits.le {a b : Nat} (h : Fits b) (hab : a ≤ b) : Fits a := by
  obtain ⟨k, hk, hb⟩ := h; exact ⟨k, hk, Nat.lt_of_le_of_lt hab hb⟩

/-- The comparison as a number. -/
def cmpI (a b : Nat) : Int := if a < b then -1 else if b < a then 1 else 0

theorem cmpI_lt {a b : Nat} (h : a < b) : cmpI a b = -1 := by simp [cmpI, h]
theorem cmpI_gt {a b : Nat} (h : b < a) : cmpI a b = 1 := by simp [cmpI, h, Nat.lt_asymm h]
theorem cmpI_eq (a : Nat) : cmpI a a = 0 := by simp [cmpI]
theorem cmpI_neg {a b : Nat} : cmpI a b < 0 ↔ a < b := by
  unfold cmpI
  by_cases h : a < b
  · simp [h]
  · rw [if_neg h]; split <;> simp [h]

/-- The parts above place i agree: the limb below decides. -/
theorem div_succ (N i : Nat) : N / 4294967296 ^ i = N / 4294967296 ^ (i + 1) * 4294967296 + dg N i := by
  unfold dg
  rw [pw_succ, ← Nat.div_div_eq_div_mul]
  have := Nat.div_add_mod (N / 4294967296 ^ i) 4294967296
  omega

theorem lt_of_div {a b i : Nat} (h : a / 4294967296 ^ i < b / 4294967296 ^ i) : a < b := by
  rcases Nat.lt_or_ge a b with h1 | h1
  · exact h1
  · have := Nat.div_le_div_right (c := 4294967296 ^ i) h1; omega

/-- What a limb's step carries: x is what came over, y what is added at place i. -/
theorem carry_div (X i y : Nat) : (X + 4294967296 ^ i * y) / 4294967296 ^ i = X / 4294967296 ^ i + y := Nat.add_mul_div_left _ _ (pw_pos i)

theorem carry_next (X i : Nat) : X / 4294967296 ^ i / 4294967296 = X / 4294967296 ^ (i + 1) := by rw [Nat.div_div_eq_div_mul, pw_succ]

theorem add_mod_mod (A B k : Nat) : (A % 4294967296 ^ k + B % 4294967296 ^ k) % 4294967296 ^ k = (A + B) % 4294967296 ^ k := by
  rw [← Nat.add_mod]

end M
end Go.Proofs.YtmfimhpbdbbpoaaDoor

namespace Go.Proofs.YtmfimhpbdbbpoaaDoor
namespace M
set_option linter.unusedVariables false
set_option linter.unusedSimpArgs false

theorem dg_of_mod {X Y i : Nat} (h : X % 4294967296 ^ (i + 1) = Y % 4294967296 ^ (i + 1)) : dg X i = dg Y i := dg_congr h (Nat.lt_succ_self i)

/-- A step of a sum: c is what came over. -/
def addC (A C i : Nat) : Nat := (A % 4294967296 ^ i + C % 4294967296 ^ i) / 4294967296 ^ i

theorem addC_zero (A C : Nat) : addC A C 0 = 0 := by simp [addC, Nat.mod_one]
theorem addC_le (A C i : Nat) : addC A C i ≤ 1 := by
  unfold addC
  have h1 := mod_lt A i
  have h2 := mod_lt C i
  have : (A % 4294967296 ^ i + C % 4294967296 ^ i) / 4294967296 ^ i < 2 := by
    rw [Nat.div_lt_iff_lt_mul (pw_pos i)]; omega
  omega

theorem add_step (A C i : Nat) : (addC A C i + (dg A i + dg C i)) % 4294967296 = dg (A + C) i ∧ (addC A C i + (dg A i + dg C i)) / 4294967296 = addC A C (i + 1) := by
  have e : addC A C i + (dg A i + dg C i) = (A % 4294967296 ^ (i + 1) + C % 4294967296 ^ (i + 1)) / 4294967296 ^ i := by
    unfold addC
    rw [← carry_div, mod_succ, mod_succ, Nat.mul_add]
    congr 1; omega
  constructor
  · rw [e]
    exact dg_of_mod (X := A % 4294967296 ^ (i + 1) + C % 4294967296 ^ (i + 1)) (add_mod_mod A C (i + 1))
  · rw [e, carry_next]; rfl

/-- A step of a sum with f times C. -/
def mulC (W C f i : Nat) : Nat := (W % 4294967296 ^ i + f * (C % 4294967296 ^ i)) / 4294967296 ^ i

theorem mulC_zero (W C f : Nat) : mulC W C f 0 = 0 := by simp [mulC, Nat.mod_one]
theorem mulC_le (W C f i : Nat) : mulC W C f i ≤ f := by
  unfold mulC
  have h1 := mod_lt W i
  have h2 := Nat.mul_le_mul_left f (Nat.le_of_lt (mod_lt C i))
  have : (W % 4294967296 ^ i + f * (C % 4294967296 ^ i)) / 4294967296 ^ i < f + 1 := by
    rw [Nat.div_lt_iff_lt_mul (pw_pos i), Nat.add_mul, Nat.one_mul]; omega
  omega

theorem mul_step (W C f i : Nat) : (mulC W C f i + (dg C i * f + dg W i)) % 4294967296 = dg (W + f * C) i ∧ (mulC W C f i + (dg C i * f + dg W i)) / 4294967296 = mulC W C f (i + 1) := by
  have e : mulC W C f i + (dg C i * f + dg W i) = (W % 4294967296 ^ (i + 1) + f * (C % 4294967296 ^ (i + 1))) / 4294967296 ^ i := by
    unfold mulC
    rw [← carry_div, mod_succ, mod_succ, Nat.mul_add, Nat.mul_add]
    congr 1
    rw [Nat.mul_left_comm f, Nat.mul_comm (dg C i) f]; omega
  constructor
  · rw [e]
    refine dg_of_mod (X := W % 4294967296 ^ (i + 1) + f * (C % 4294967296 ^ (i + 1))) ?_
    rw [Nat.add_mod, Nat.mod_mod, Nat.mul_mod, Nat.mod_mod, ← Nat.mul_mod, ← Nat.add_mod]
  · rw [e, carry_next]; rfl

theorem mulC_all {W C f k : Nat} (hW : W < 4294967296 ^ k) (hC : C < 4294967296 ^ k) : mulC W C f k = (W + f * C) / 4294967296 ^ k := by
  unfold mulC; rw [mod_self hW, mod_self hC]

theorem mul_room (x f y c : Nat) (hx : x < 4294967296) (hf : f < 4294967296) (hy : y < 4294967296) (hc : c ≤ f) : c + (x * f + y) < 18446744073709551616 := by
  have : x * f ≤ 4294967295 * f := Nat.mul_le_mul_right f (by omega)
  omega

/-- A step of a shift: n below 32. -/
def shC (A n i : Nat) : Nat := (A % 4294967296 ^ i * 2 ^ n) / 4294967296 ^ i

theorem shC_zero (A n : Nat) : shC A n 0 = 0 := by simp [shC, Nat.mod_one]
theorem shC_lt (A n i : Nat) : shC A n i < 2 ^ n := by
  unfold shC
  rw [Nat.div_lt_iff_lt_mul (pw_pos i), Nat.mul_comm (2 ^ n)]
  exact Nat.mul_lt_mul_of_pos_right (mod_lt A i) (Nat.two_pow_pos n)

theorem sh_step (A n i : Nat) : (shC A n i + dg A i * 2 ^ n) % 4294967296 = dg (A * 2 ^ n) i ∧ (shC A n i + dg A i * 2 ^ n) / 4294967296 = shC A n (i + 1) := by
  have e : shC A n i + dg A i * 2 ^ n = (A % 4294967296 ^ (i + 1) * 2 ^ n) / 4294967296 ^ i := by
    unfold shC
    rw [← carry_div, mod_succ, Nat.add_mul, Nat.mul_assoc]
  constructor
  · rw [e]
    refine dg_of_mod (X := A % 4294967296 ^ (i + 1) * 2 ^ n) ?_
    rw [Nat.mul_mod, Nat.mod_mod, ← Nat.mul_mod]
  · rw [e, carry_next]; rfl

/-- What is left of P less Y in k limbs. -/
def subN (P Y k : Nat) : Nat := (((P : Int) - (Y : Int)) % ((4294967296 ^ k : Nat) : Int)).toNat

theorem subN_cast (P Y k : Nat) : ((subN P Y k : Nat) : Int) = ((P : Int) - (Y : Int)) % ((4294967296 ^ k : Nat) : Int) := by
  unfold subN
  exact Int.toNat_of_nonneg (Int.emod_nonneg _ (by have := pw_pos k; omega))

theorem subN_lt (P Y k : Nat) : subN P Y k < 4294967296 ^ k := by
  have h := subN_cast P Y k
  have h2 := Int.emod_lt_of_pos ((P : Int) - (Y : Int)) (show (0 : Int) < ((4294967296 ^ k : Nat) : Int) from by have := pw_pos k; omega)
  omega

theorem subN_ge {P Y k : Nat} (h : Y ≤ P) (hP : P < 4294967296 ^ k) : subN P Y k = P - Y := by
  have h1 := subN_cast P Y k
  rw [Int.emod_eq_of_lt (by omega) (by omega)] at h1
  omega

theorem subN_below {P Y k : Nat} (h : P < Y) (hY : Y < 4294967296 ^ k) : subN P Y k = 4294967296 ^ k - (Y - P) := by
  have h1 := subN_cast P Y k
  rw [← Int.add_emod_right, Int.emod_eq_of_lt (by omega) (by omega)] at h1
  omega

/-- Whether the limbs below i borrow. -/
def brw (P Y i : Nat) : Nat := if P % 4294967296 ^ i < Y % 4294967296 ^ i then 1 else 0

theorem brw_zero (P Y : Nat) : brw P Y 0 = 0 := by simp [brw, Nat.mod_one]
theorem brw_le (P Y i : Nat) : brw P Y i ≤ 1 := by unfold brw; split <;> omega

theorem sub_step (P Y k i : Nat) (hi : i < k) (x y b : Nat) (hx : x = dg P i) (hy : y = dg Y i) (hb : b = brw P Y i) :
    (b + y ≤ x → dg (subN P Y k) i = x - y - b ∧ brw P Y (i + 1) = 0) ∧ (x < b + y → dg (subN P Y k) i = x + 4294967296 - y - b ∧ brw P Y (i + 1) = 1) := by
  have hxl : x < 4294967296 := by rw [hx]; exact dg_lt P i
  have hyl : y < 4294967296 := by rw [hy]; exact dg_lt Y i
  have hp := pw_pos i
  have hP := mod_succ P i
  have hY := mod_succ Y i
  have hPl := mod_lt P i
  have hYl := mod_lt Y i
  rw [← hx] at hP
  rw [← hy] at hY
  -- the number modulo the next power
  have key : ((subN P Y k : Nat) : Int) % ((4294967296 ^ (i + 1) : Nat) : Int) = (((P % 4294967296 ^ (i + 1) : Nat) : Int) - ((Y % 4294967296 ^ (i + 1) : Nat) : Int)) % ((4294967296 ^ (i + 1) : Nat) : Int) := by
    rw [subN_cast, Int.emod_emod_of_dvd]
    · rw [Int.natCast_emod, Int.natCast_emod, ← Int.sub_emod]
    · exact Int.natCast_dvd_natCast.2 (Nat.pow_dvd_pow 4294967296 hi)
  have dgx : dg (subN P Y k) i = subN P Y k % 4294967296 ^ (i + 1) / 4294967296 ^ i := by
    rw [mod_succ, Nat.add_mul_div_left _ _ hp, Nat.div_eq_of_lt (mod_lt _ _), Nat.zero_add]
  have hR : ((subN P Y k % 4294967296 ^ (i + 1) : Nat) : Int) = ((subN P Y k : Nat) : Int) % ((4294967296 ^ (i + 1) : Nat) : Int) := Int.natCast_emod _ _
  rw [key] at hR
  generalize subN P Y k % 4294967296 ^ (i + 1) = R at *
  have e1 : 4294967296 ^ (i + 1) = 4294967296 ^ i * 4294967296 := pw_succ i
  have hP1 : P % 4294967296 ^ (i + 1) < 4294967296 ^ (i + 1) := mod_lt _ _
  have hY1 : Y % 4294967296 ^ (i + 1) < 4294967296 ^ (i + 1) := mod_lt _ _
  unfold brw at hb ⊢
  rw [hP, hY] at hR
  rw [hP] at hP1
  rw [hY] at hY1
  rw [hP, hY, dgx]
  rw [e1] at hR hP1 hY1
  generalize P % 4294967296 ^ i = q at *
  generalize Y % 4294967296 ^ i = z at *
  generalize 4294967296 ^ i = p at *
  have fin : ∀ d : Nat, ∀ r : Nat, r < p → R = r + p * d → R / p = d := fun d r hr h => by rw [h, Nat.add_mul_div_left _ _ hp, Nat.div_eq_of_lt hr, Nat.zero_add]
  have pull : ∀ a c : Nat, c ≤ a → p * a = p * c + p * (a - c) := fun a c h => by rw [← Nat.mul_add]; congr 1; omega
  constructor
  · intro hle
    have hm := pull x y (by omega)
    by_cases hqz : q < z
    · rw [if_pos hqz] at hb
      have hm1 := pull (x - y) 1 (by omega)
      refine ⟨?_, if_neg (by omega)⟩
      have : R = (p + q - z) + p * (x - y - 1) := by
        rw [Int.emod_eq_of_lt (by omega) (by omega)] at hR; omega
      rw [fin _ _ (by omega) this, hb]
    · rw [if_neg hqz] at hb
      refine ⟨?_, if_neg (by omega)⟩
      have : R = (q - z) + p * (x - y) := by
        rw [Int.emod_eq_of_lt (by omega) (by omega)] at hR; omega
      rw [fin _ _ (by omega) this, hb]; omega
  · intro hlt
    by_cases hqz : q < z
    · rw [if_pos hqz] at hb
      have hm := pull y x (by omega)
      have hm2 := pull 4294967296 (y - x + 1) (by omega)
      have hm3 : p * (y - x + 1) = p * (y - x) + p := by rw [Nat.mul_add, Nat.mul_one]
      refine ⟨?_, if_pos (by omega)⟩
      have : R = (p + q - z) + p * (4294967296 - (y - x + 1)) := by
        rw [← Int.add_emod_right, Int.emod_eq_of_lt (by omega) (by omega)] at hR; omega
      rw [fin _ _ (by omega) this, hb]; omega
    · rw [if_neg hqz] at hb
      have hm := pull y x (by omega)
      have hm2 := pull 4294967296 (y - x) (by omega)
      have hm3 := pull (y - x) 1 (by omega)
      refine ⟨?_, if_pos (by omega)⟩
      have : R = (q - z) + p * (4294967296 - (y - x)) := by
        rw [← Int.add_emod_right, Int.emod_eq_of_lt (by omega) (by omega)] at hR; omega
      rw [fin _ _ (by omega) this, hb]; omega


theorem dg_shift (N i t : Nat) : dg N (i + t) = dg (N / 4294967296 ^ i) t := by
  unfold dg
  rw [Nat.pow_add, Nat.div_div_eq_div_mul]

theorem div_lt_pow {N i m : Nat} (h : N < 4294967296 ^ (i + m)) : N / 4294967296 ^ i < 4294967296 ^ m := by
  rw [Nat.div_lt_iff_lt_mul (pw_pos i), ← Nat.pow_add, Nat.add_comm]; exact h

theorem mul_lt_pow {a b i m : Nat} (h : a < 4294967296 ^ i) (h' : b < 4294967296 ^ m) : a * b < 4294967296 ^ (i + m) := by
  rw [Nat.pow_add]
  exact Nat.mul_lt_mul'' h h'

/-- One limb's part of a product. -/
theorem prod_lt {P i m a C : Nat} (hP : P < 4294967296 ^ (i + m)) (ha : a < 4294967296) (hC : C < 4294967296 ^ m) : P / 4294967296 ^ i + a * C < 4294967296 ^ (m + 1) := by
  have h1 := div_lt_pow hP
  have h2 : a * C ≤ 4294967295 * C := Nat.mul_le_mul_right C (by omega)
  rw [pw_succ]
  omega

theorem prod_next (A C i : Nat) : A % 4294967296 ^ i * C + 4294967296 ^ i * (dg A i * C) = A % 4294967296 ^ (i + 1) * C := by
  rw [mod_succ, Nat.add_mul, Nat.mul_assoc]


/-- Division by one limb, limb by limb from above. -/
theorem shrink_step (N by_ j : Nat) (hb : 0 < by_) (hb2 : by_ < 4294967296) :
    (N / 4294967296 ^ (j + 1) % by_ * 4294967296 + dg N j) / by_ = dg (N / by_) j ∧ (N / 4294967296 ^ (j + 1) % by_ * 4294967296 + dg N j) % by_ = N / 4294967296 ^ j % by_ ∧
    N / 4294967296 ^ (j + 1) % by_ * 4294967296 + dg N j < by_ * 4294967296 := by
  have hd := dg_lt N j
  have hN := div_succ N j
  have hr := Nat.mod_lt (N / 4294967296 ^ (j + 1)) hb
  have hT := Nat.div_add_mod (N / 4294967296 ^ (j + 1)) by_
  have hrm : N / 4294967296 ^ (j + 1) % by_ * 4294967296 + dg N j < by_ * 4294967296 := by
    have : (N / 4294967296 ^ (j + 1) % by_ + 1) * 4294967296 ≤ by_ * 4294967296 := Nat.mul_le_mul_right _ hr
    omega
  generalize dg N j = d at *
  have e1 : dg (N / by_) j = N / 4294967296 ^ j / by_ % 4294967296 := by
    unfold dg
    rw [Nat.div_div_eq_div_mul, Nat.mul_comm, ← Nat.div_div_eq_div_mul]
  rw [e1]
  generalize N / 4294967296 ^ (j + 1) = T at *
  rw [hN]
  have e2 : T * 4294967296 + d = (T % by_ * 4294967296 + d) + by_ * (T / by_ * 4294967296) := by
    have : T * 4294967296 = (by_ * (T / by_) + T % by_) * 4294967296 := by rw [hT]
    rw [this, Nat.add_mul, Nat.mul_assoc]; omega
  rw [e2, Nat.add_mul_div_left _ _ hb, Nat.add_mul_mod_self_left]
  refine ⟨?_, rfl, hrm⟩
  have hq : (T % by_ * 4294967296 + d) / by_ < 4294967296 := by rw [Nat.div_lt_iff_lt_mul hb, Nat.mul_comm 4294967296]; exact hrm
  rw [Nat.add_mul_mod_self_right, Nat.mod_eq_of_lt hq]

end M
end Go.Proofs.YtmfimhpbdbbpoaaDoor
