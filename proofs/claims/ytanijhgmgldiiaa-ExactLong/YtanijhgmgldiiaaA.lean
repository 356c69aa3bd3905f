/- Whole numbers by limbs: plain mathematics. -/
namespace Go.Proofs.Ytanijhgmgldiiaa
namespace M
set_option linter.unusedVariables false
set_option linter.unusedSimpArgs false

/-- Limb j of a number. -/
def dg (N j : Nat) : Nat := N / 4294967296 ^ j % 4294967296

theorem pw_pos (i : Nat) : 0 < 4294967296 ^ i := Nat.pow_pos (by omega)
theorem pw_succ (i : Nat) : 4294967296 ^ (i + 1) = 4294967296 ^ i * 4294967296 := Nat.pow_succ _ _
theorem dg_lt (N j : Nat) : dg N j < 4294967296 := Nat.mod_lt _ (by omega)
theorem dg_le (N j : Nat) : dg N j ≤ 4294967295 := by have := dg_lt N j; omega
theorem dg_zero (j : Nat) : dg 0 j = 0 := by simp [dg]
theorem dg_high {N k j : Nat} (h : N < 4294967296 ^ k) (hj : k ≤ j) : dg N j = 0 := by
  unfold dg
  rw [Nat.div_eq_of_lt (Nat.lt_of_lt_of_le h (Nat.pow_le_pow_right (by omega) hj))]
theorem mod_succ (N i : Nat) : N % 4294967296 ^ (i + 1) = N % 4294967296 ^ i + 4294967296 ^ i * dg N i := Nat.mod_pow_succ
theorem mod_zero (N : Nat) : N % 4294967296 ^ 0 = 0 := by simp [Nat.mod_one]
theorem mod_self {N k : Nat} (h : N < 4294967296 ^ k) : N % 4294967296 ^ k = N := Nat.mod_eq_of_lt h
theorem mod_lt (N k : Nat) : N % 4294967296 ^ k < 4294967296 ^ k := Nat.mod_lt _ (pw_pos k)

/-- The limbs below k hang on the number modulo the k-th power alone. -/
theorem dg_mod (N : Nat) {k j : Nat} (h : j < k) : dg (N % 4294967296 ^ k) j = dg N j := by
  unfold dg
  obtain ⟨d, rfl⟩ : ∃ d, k = j + 1 + d := ⟨k - (j + 1), by omega⟩
  have e : N = N % 4294967296 ^ (j + 1 + d) + 4294967296 ^ j * (4294967296 * (4294967296 ^ d * (N / 4294967296 ^ (j + 1 + d)))) := by
    have := Nat.mod_add_div N (4294967296 ^ (j + 1 + d))
    rw [show 4294967296 ^ j * (4294967296 * (4294967296 ^ d * (N / 4294967296 ^ (j + 1 + d)))) = 4294967296 ^ (j + 1 + d) * (N / 4294967296 ^ (j + 1 + d)) from by rw [Nat.pow_add, Nat.pow_add, Nat.pow_one, Nat.mul_assoc, Nat.mul_assoc, Nat.mul_assoc]]
    exact this.symm
  conv => rhs; rw [e]
  rw [Nat.add_mul_div_left _ _ (pw_pos j), Nat.add_mul_mod_self_left]

theorem dg_congr {N N' k j : Nat} (h : N % 4294967296 ^ k = N' % 4294967296 ^ k) (hj : j < k) : dg N j = dg N' j := by
  rw [← dg_mod N hj, ← dg_mod N' hj, h]

theorem ext_mod {N N' : Nat} : ∀ {k : Nat}, (∀ j, j < k → dg N j = dg N' j) → N % 4294967296 ^ k = N' % 4294967296 ^ k
  | 0, _ => by simp [Nat.mod_one]
  | k + 1, h => by rw [mod_succ, mod_succ, ext_mod (fun j hj => h j (by omega)), h k (by omega)]

theorem ext {N N' k : Nat} (hN : N < 4294967296 ^ k) (hN' : N' < 4294967296 ^ k) (h : ∀ j, j < k → dg N j = dg N' j) : N = N' := by
  rw [← mod_self hN, ← mod_self hN', ext_mod h]

theorem dg_top {a k b : Nat} (ha : a < 4294967296 ^ k) (hb : b < 4294967296) : dg (a + 4294967296 ^ k * b) k = b := by
  unfold dg
  rw [Nat.add_mul_div_left _ _ (pw_pos k), Nat.div_eq_of_lt ha, Nat.zero_add, Nat.mod_eq_of_lt hb]

theorem dg_low {a k b j : Nat} (hj : j < k) : dg (a + 4294967296 ^ k * b) j = dg a j := by
  rw [← dg_mod _ hj, Nat.add_mul_mod_self_left, dg_mod _ hj]

/-- Every row of limbs is a number's. -/
theorem of_limbs (f : Nat → Nat) : ∀ k, (∀ j, j < k → f j < 4294967296) → ∃ N, N < 4294967296 ^ k ∧ ∀ j, j < k → dg N j = f j
  | 0, _ => ⟨0, by simp, fun j hj => by omega⟩
  | k + 1, h => by
    obtain ⟨N, hN, hj⟩ := of_limbs f k (fun j hj => h j (by omega))
    refine ⟨N + 4294967296 ^ k * f k, ?_, fun j hj' => ?_⟩
    · have hf := h k (by omega)
      have : 4294967296 ^ k * (f k + 1) ≤ 4294967296 ^ k * 4294967296 := Nat.mul_le_mul_left _ hf
      rw [Nat.mul_add] at this
      rw [pw_succ]; omega
    · rcases Nat.lt_or_ge j k with h1 | h1
      · rw [dg_low h1]; exact hj j h1
      · obtain rfl : j = k := by omega
        exact dg_top hN (h j (by omega))

/-- As many limbs as are wanted, and no more. -/
def Nrm (k N : Nat) : Prop := N < 4294967296 ^ k ∧ (k = 0 ∨ 4294967296 ^ (k - 1) ≤ N)

theorem Nrm.le {k N m : Nat} (h : Nrm k N) (hm : N < 4294967296 ^ m) : k ≤ m := by
  rcases h.2 with h0 | h0
  · omega
  · rcases Nat.lt_or_ge m k with h1 | h1
    · have := Nat.pow_le_pow_right (n := 4294967296) (by omega) (show m ≤ k - 1 from by omega)
      omega
    · exact h1

theorem Nrm.uniq {k m N : Nat} (h : Nrm k N) (h' : Nrm m N) : k = m := Nat.le_antisymm (h.le h'.1) (h'.le h.1)

theorem Nrm.zero_iff {k N : Nat} (h : Nrm k N) : k = 0 ↔ N = 0 := by
  constructor
  · rintro rfl; have := h.1; simp at this; exact this
  · rintro rfl; rcases h.2 with h0 | h0
    · exact h0
    · have := pw_pos (k - 1); omega

theorem Nrm.le_iff {k N m : Nat} (h : Nrm k N) : k ≤ m ↔ N < 4294967296 ^ m :=
  ⟨fun hk => Nat.lt_of_lt_of_le h.1 (Nat.pow_le_pow_right (by omega) hk), h.le⟩

theorem Nrm.of_top {k N : Nat} (h : N < 4294967296 ^ (k + 1)) (ht : dg N k ≠ 0) : Nrm (k + 1) N := by
  refine ⟨h, .inr ?_⟩
  show 4294967296 ^ k ≤ N
  rcases Nat.lt_or_ge N (4294967296 ^ k) with h1 | h1
  · exact absurd (dg_high h1 (Nat.le_refl _)) ht
  · exact h1

theorem Nrm.top {k N : Nat} (h : Nrm (k + 1) N) : dg N k ≠ 0 := by
  rcases h.2 with h0 | h0
  · omega
  · intro h1
    have := mod_succ N k
    rw [mod_self h.1, h1, Nat.mul_zero, Nat.add_zero] at this
    have h2 := mod_lt N k
    simp at h0
    omega

theorem Nrm.drop {k N : Nat} (h : N < 4294967296 ^ (k + 1)) (ht : dg N k = 0) : N < 4294967296 ^ k := by
  have := mod_succ N k
  rw [mod_self h, ht, Nat.mul_zero, Nat.add_zero] at this
  have h2 := mod_lt N k
  omega

theorem nrm_exists (N : Nat) : ∃ k, Nrm k N := by
  have h : ∀ k, N < 4294967296 ^ k → ∃ k, Nrm k N := by
    intro k
    induction k with
    | zero => intro h; exact ⟨0, h, .inl rfl⟩
    | succ k ih =>
      intro h
      by_cases ht : dg N k = 0
      · exact ih (Nrm.drop h ht)
      · exact ⟨k + 1, Nrm.of_top h ht⟩
  exact h N (Nat.lt_pow_self (by omega))

theorem nrm_zero : Nrm 0 0 := ⟨by simp, .inl rfl⟩

theorem Nrm.lt_of {k m a b : Nat} (h : Nrm k a) (h' : Nrm m b) (hk : k < m) : a < b := by
  rcases Nat.lt_or_ge a b with h1 | h1
  · exact h1
  · have := h'.le (Nat.lt_of_le_of_lt h1 h.1); omega

/-- It is not too long. -/
def Fits (N : Nat) : Prop := ∃ k, k ≤ 8192 ∧ N < 4294967296 ^ k
theorem Nrm.fits {k N : Nat} (h : Nrm k N) : k ≤ 8192 ↔ Fits N :=
  ⟨fun hk => ⟨k, hk, h.1⟩, fun ⟨m, hm, hN⟩ => Nat.le_trans (h.le hN) hm⟩
theorem Fits.le {a b : Nat} (h : Fits b) (hab : a ≤ b) : Fits a := by
  obtain ⟨k, hk, hb⟩ := h; exact ⟨k, hk, Nat.lt_of_le_of_lt hab hb⟩

/-- The comparison as a number. -/
def cmpI (a b : Nat) : Int := if a < b then -1 else if b < a then 1 else 0

theorem cmpI_lt {a b : Nat} (h : a < b) : cmpI a b = -1 := by simp [cmpI, h]
theorem cmpI_gt {a b : Nat} (h : b < a) : cmpI a b = 1 := by simp [cmpI, h, Nat.lt_asymm h]
theorem cmpI_eq (a : Nat) : cmpI a a = 0 := by simp [cmpI]
theorem cmpI_neg {a b : Nat} : cmpI a b < 0 ↔ a < b := by
  unfold cmpI
  by_cases h : a < b
  · simp [h]
  · rw [if_neg h]; split <;> simp [h]

/-- The parts above place i agree: the limb below decides. -/
theorem div_succ (N i : Nat) : N / 4294967296 ^ i = N / 4294967296 ^ (i + 1) * 4294967296 + dg N i := by
  unfold dg
  rw [pw_succ, ← Nat.div_div_eq_div_mul]
  have := Nat.div_add_mod (N / 4294967296 ^ i) 4294967296
  omega

theorem lt_of_div {a b i : Nat} (h : a / 4294967296 ^ i < b / 4294967296 ^ i) : a < b := by
  rcases Nat.lt_or_ge a b with h1 | h1
  · exact h1
  · have := Nat.div_le_div_right (c := 4294967296 ^ i) h1; omega

/-- What a limb's step carries: x is what came over, y what is added at place i. -/
theorem carry_div (X i y : Nat) : (X + 4294967296 ^ i * y) / 4294967296 ^ i = X / 4294967296 ^ i + y := Nat.add_mul_div_left _ _ (pw_pos i)

theorem carry_next (X i : Nat) : X / 4294967296 ^ i / 4294967296 = X / 4294967296 ^ (i + 1) := by rw [Nat.div_div_eq_div_mul, pw_succ]

theorem add_mod_mod (A B k : Nat) : (A % 4294967296 ^ k + B % 4294967296 ^ k) % 4294967296 ^ k = (A + B) % 4294967296 ^ k := by
  rw [← Nat.add_mod]

end M
end Go.Proofs.Ytanijhgmgldiiaa
