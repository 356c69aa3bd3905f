/- Rows of limbs in memory: what is read (Row), what is written in place (Wk), what a call owns (Own). -/
import Derived.Test.YtolaaemkcmiabaaDoorProg
import Derived.WalkKit
import Derived.WalkSpells
import Derived.WalkLawsBesides
import Derived.Deep.QuietTactic
import Derived.BigQuiet
import Derived.BigRegion
import Derived.OwnWalk
import Derived.Laws.CopyOwn
import Derived.Laws.AppendOwnNone
import Derived.Deep.OwnRows
import Derived.Deep.RegionHeld3
import Derived.Laws.BitsAllLaws
/- Whole numbers by limbs: plain mathematics. -/
namespace Go.Proofs.YtolaaemkcmiabaaDoor
namespace M
set_option linter.unusedVariables false
set_option linter.unusedSimpArgs false

/-- Limb j of a number. -/
def dg (N j : Nat) : Nat := N / 4294967296 ^ j % 4294967296

theorem pw_pos (i : Nat) : 0 < 4294967296 ^ i := Nat.pow_pos (by omega)
theorem pw_succ (i : Nat) : 4294967296 ^ (i + 1) = 4294967296 ^ i * 4294967296 := Nat.pow_succ _ _
theorem dg_lt (N j : Nat) : dg N j < 4294967296 := Nat.mod_lt _ (by omega)
theorem dg_le (N j : Nat) : dg N j ≤ 4294967295 := by have := dg_lt N j; omega
theorem dg_zero (j : Nat) : dg 0 j = 0 := by simp [dg]
theorem dg_high {N k j : Nat} (h : N < 4294967296 ^ k) (hj : k ≤ j) : dg N j = 0 := by
  unfold dg
  rw [Nat.div_eq_of_lt (Nat.lt_of_lt_of_le h (Nat.pow_le_pow_right (by omega) hj))]
theorem mod_succ (N i : Nat) : N % 4294967296 ^ (i + 1) = N % 4294967296 ^ i + 4294967296 ^ i * dg N i := Nat.mod_pow_succ
theorem mod_zero (N : Nat) : N % 4294967296 ^ 0 = 0 := by simp [Nat.mod_one]
theorem mod_self {N k : Nat} (h : N < 4294967296 ^ k) : N % 4294967296 ^ k = N := Nat.mod_eq_of_lt h
theorem mod_lt (N k : Nat) : N % 4294967296 ^ k < 4294967296 ^ k := Nat.mod_lt _ (pw_pos k)

/-- The limbs below k hang on the number modulo the k-th power alone. -/
theorem dg_mod (N : Nat) {k j : Nat} (h : j < k) : dg (N % 4294967296 ^ k) j = dg N j := by
  unfold dg
  obtain ⟨d, rfl⟩ : ∃ d, k = j + 1 + d := ⟨k - (j + 1), by omega⟩
  have e : N = N % 4294967296 ^ (j + 1 + d) + 4294967296 ^ j * (4294967296 * (4294967296 ^ d * (N / 4294967296 ^ (j + 1 + d)))) := by
    have := Nat.mod_add_div N (4294967296 ^ (j + 1 + d))
    rw [show 4294967296 ^ j * (4294967296 * (4294967296 ^ d * (N / 4294967296 ^ (j + 1 + d)))) = 4294967296 ^ (j + 1 + d) * (N / 4294967296 ^ (j + 1 + d)) from by rw [Nat.pow_add, Nat.pow_add, Nat.pow_one, Nat.mul_assoc, Nat.mul_assoc, Nat.mul_assoc]]
    exact this.symm
  conv => rhs; rw [e]
  rw [Nat.add_mul_div_left _ _ (pw_pos j), Nat.add_mul_mod_self_left]

theorem dg_congr {N N' k j : Nat} (h : N % 4294967296 ^ k = N' % 4294967296 ^ k) (hj : j < k) : dg N j = dg N' j := by
  rw [← dg_mod N hj, ← dg_mod N' hj, h]

theorem ext_mod {N N' : Nat} : ∀ {k : Nat}, (∀ j, j < k → dg N j = dg N' j) → N % 4294967296 ^ k = N' % 4294967296 ^ k
  | 0, _ => by simp [Nat.mod_one]
  | k + 1, h => by rw [mod_succ, mod_succ, ext_mod (fun j hj => h j (by omega)), h k (by omega)]

theorem ext {N N' k : Nat} (hN : N < 4294967296 ^ k) (hN' : N' < 4294967296 ^ k) (h : ∀ j, j < k → dg N j = dg N' j) : N = N' := by
  rw [← mod_self hN, ← mod_self hN', ext_mod h]

theorem dg_top {a k b : Nat} (ha : a < 4294967296 ^ k) (hb : b < 4294967296) : dg (a + 4294967296 ^ k * b) k = b := by
  unfold dg
  rw [Nat.add_mul_div_left _ _ (pw_pos k), Nat.div_eq_of_lt ha, Nat.zero_add, Nat.mod_eq_of_lt hb]

theorem dg_low {a k b j : Nat} (hj : j < k) : dg (a + 4294967296 ^ k * b) j = dg a j := by
  rw [← dg_mod _ hj, Nat.add_mul_mod_self_left, dg_mod _ hj]

/-- Every row of limbs is a number's. -/
theorem of_limbs (f : Nat → Nat) : ∀ k, (∀ j, j < k → f j < 4294967296) → ∃ N, N < 4294967296 ^ k ∧ ∀ j, j < k → dg N j = f j
  | 0, _ => ⟨0, by simp, fun j hj => by omega⟩
  | k + 1, h => by
    obtain ⟨N, hN, hj⟩ := of_limbs f k (fun j hj => h j (by omega))
    refine ⟨N + 4294967296 ^ k * f k, ?_, fun j hj' => ?_⟩
    · have hf := h k (by omega)
      have : 4294967296 ^ k * (f k + 1) ≤ 4294967296 ^ k * 4294967296 := Nat.mul_le_mul_left _ hf
      rw [Nat.mul_add] at this
      rw [pw_succ]; omega
    · rcases Nat.lt_or_ge j k with h1 | h1
      · rw [dg_low h1]; exact hj j h1
      · obtain rfl : j = k := by omega
        exact dg_top hN (h j (by omega))

/-- As many limbs as are wanted, and no more. -/
def Nrm (k N : Nat) : Prop := N < 4294967296 ^ k ∧ (k = 0 ∨ 4294967296 ^ (k - 1) ≤ N)

theorem Nrm.le {k N m : Nat} (h : Nrm k N) (hm : N < 4294967296 ^ m) : k ≤ m := by
  rcases h.2 with h0 | h0
  · omega
  · rcases Nat.lt_or_ge m k with h1 | h1
    · have := Nat.pow_le_pow_right (n := 4294967296) (by omega) (show m ≤ k - 1 from by omega)
      omega
    · exact h1

theorem Nrm.uniq {k m N : Nat} (h : Nrm k N) (h' : Nrm m N) : k = m := Nat.le_antisymm (h.le h'.1) (h'.le h.1)

theorem Nrm.zero_iff {k N : Nat} (h : Nrm k N) : k = 0 ↔ N = 0 := by
  constructor
  · rintro rfl; have := h.1; simp at this; exact this
  · rintro rfl; rcases h.2 with h0 | h0
    · exact h0
    · have := pw_pos (k - 1); omega

theorem Nrm.le_iff {k N m : Nat} (h : Nrm k N) : k ≤ m ↔ N < 4294967296 ^ m :=
  ⟨fun hk => Nat.lt_of_lt_of_le h.1 (Nat.pow_le_pow_right (by omega) hk), h.le⟩

theorem Nrm.of_top {k N : Nat} (h : N < 4294967296 ^ (k + 1)) (ht : dg N k ≠ 0) : Nrm (k + 1) N := by
  refine ⟨h, .inr ?_⟩
  show 4294967296 ^ k ≤ N
  rcases Nat.lt_or_ge N (4294967296 ^ k) with h1 | h1
  · exact absurd (dg_high h1 (Nat.le_refl _)) ht
  · exact h1

theorem Nrm.top {k N : Nat} (h : Nrm (k + 1) N) : dg N k ≠ 0 := by
  rcases h.2 with h0 | h0
  · omega
  · intro h1
    have := mod_succ N k
    rw [mod_self h.1, h1, Nat.mul_zero, Nat.add_zero] at this
    have h2 := mod_lt N k
    simp at h0
    omega

theorem Nrm.drop {k N : Nat} (h : N < 4294967296 ^ (k + 1)) (ht : dg N k = 0) : N < 4294967296 ^ k := by
  have := mod_succ N k
  rw [mod_self h, ht, Nat.mul_zero, Nat.add_zero] at this
  have h2 := mod_lt N k
  omega

theorem nrm_exists (N : Nat) : ∃ k, Nrm k N := by
  have h : ∀ k, N < 4294967296 ^ k → ∃ k, Nrm k N := by
    intro k
    induction k with
    | zero => intro h; exact ⟨0, h, .inl rfl⟩
    | succ k ih =>
      intro h
      by_cases ht : dg N k = 0
      · exact ih (Nrm.drop h ht)
      · exact ⟨k + 1, Nrm.of_top h ht⟩
  exact h N (Nat.lt_pow_self (by omega))

theorem nrm_zero : Nrm 0 0 := ⟨by simp, .inl rfl⟩

theorem Nrm.lt_of {k m a b : Nat} (h : Nrm k a) (h' : Nrm m b) (hk : k < m) : a < b := by
  rcases Nat.lt_or_ge a b with h1 | h1
  · exact h1
  · have := h'.le (Nat.lt_of_le_of_lt h1 h.1); omega

/-- It is not too long. -/
def Fits (N : Nat) : Prop := ∃ k, k ≤ 8192 ∧ N < 4294967296 ^ k
theorem Nrm.fits {k N : Nat} (h : Nrm k N) : k ≤ 8192 ↔ Fits N :=
  ⟨fun hk => ⟨k, hk, h.1⟩, fun ⟨m, hm, hN⟩ => Nat.le_trans (h.le hN) hm⟩
theorem Fits.le {a b : Nat} (h : Fits b) (hab : a ≤ b) : Fits a := by
  obtain ⟨k, hk, hb⟩ := h; exact ⟨k, hk, Nat.lt_of_le_of_lt hab hb⟩

/-- The comparison as a number. -/
def cmpI (a b : Nat) : Int := if a < b then -1 else if b < a then 1 else 0

theorem cmpI_lt {a b : Nat} (h : a < b) : cmpI a b = -1 := by simp [cmpI, h]
theorem cmpI_gt {a b : Nat} (h : b < a) : cmpI a b = 1 := by simp [cmpI, h, Nat.lt_asymm h]
theorem cmpI_eq (a : Nat) : cmpI a a = 0 := by simp [cmpI]
theorem cmpI_neg {a b : Nat} : cmpI a b < 0 ↔ a < b := by
  unfold cmpI
  by_cases h : a < b
  · simp [h]
  · rw [if_neg h]; split <;> simp [h]

/-- The parts above place i agree: the limb below decides. -/
theorem div_succ (N i : Nat) : N / 4294967296 ^ i = N / 4294967296 ^ (i + 1) * 4294967296 + dg N i := by
  unfold dg
  rw [pw_succ, ← Nat.div_div_eq_div_mul]
  have := Nat.div_add_mod (N / 4294967296 ^ i) 4294967296
  omega

theorem lt_of_div {a b i : Nat} (h : a / 4294967296 ^ i < b / 4294967296 ^ i) : a < b := by
  rcases Nat.lt_or_ge a b with h1 | h1
  · exact h1
  · have := Nat.div_le_div_right (c := 4294967296 ^ i) h1; omega

/-- What a limb's step carries: x is what came over, y what is added at place i. -/
theorem carry_div (X i y : Nat) : (X + 4294967296 ^ i * y) / 4294967296 ^ i = X / 4294967296 ^ i + y := Nat.add_mul_div_left _ _ (pw_pos i)

theorem carry_next (X i : Nat) : X / 4294967296 ^ i / 4294967296 = X / 4294967296 ^ (i + 1) := by rw [Nat.div_div_eq_div_mul, pw_succ]

theorem add_mod_mod (A B k : Nat) : (A % 4294967296 ^ k + B % 4294967296 ^ k) % 4294967296 ^ k = (A + B) % 4294967296 ^ k := by
  rw [← Nat.add_mod]

end M
end Go.Proofs.YtolaaemkcmiabaaDoor

/- What a limb's step does in sums, products, shifts, differences: plain mathematics. -/
namespace Go.Proofs.YtolaaemkcmiabaaDoor
namespace M
set_option linter.unusedVariables false
set_option linter.unusedSimpArgs false

theorem dg_of_mod {X Y i : Nat} (h : X % 4294967296 ^ (i + 1) = Y % 4294967296 ^ (i + 1)) : dg X i = dg Y i := dg_congr h (Nat.lt_succ_self i)

/-- A step of a sum: c is what came over. -/
def addC (A C i : Nat) : Nat := (A % 4294967296 ^ i + C % 4294967296 ^ i) / 4294967296 ^ i

theorem addC_zero (A C : Nat) : addC A C 0 = 0 := by simp [addC, Nat.mod_one]
theorem addC_le (A C i : Nat) : addC A C i ≤ 1 := by
  unfold addC
  have h1 := mod_lt A i
  have h2 := mod_lt C i
  have : (A % 4294967296 ^ i + C % 4294967296 ^ i) / 4294967296 ^ i < 2 := by
    rw [Nat.div_lt_iff_lt_mul (pw_pos i)]; omega
  omega

theorem add_step (A C i : Nat) : (addC A C i + (dg A i + dg C i)) % 4294967296 = dg (A + C) i ∧ (addC A C i + (dg A i + dg C i)) / 4294967296 = addC A C (i + 1) := by
  have e : addC A C i + (dg A i + dg C i) = (A % 4294967296 ^ (i + 1) + C % 4294967296 ^ (i + 1)) / 4294967296 ^ i := by
    unfold addC
    rw [← carry_div, mod_succ, mod_succ, Nat.mul_add]
    congr 1; omega
  constructor
  · rw [e]
    exact dg_of_mod (X := A % 4294967296 ^ (i + 1) + C % 4294967296 ^ (i + 1)) (add_mod_mod A C (i + 1))
  · rw [e, carry_next]; rfl

/-- A step of a sum with f times C. -/
def mulC (W C f i : Nat) : Nat := (W % 4294967296 ^ i + f * (C % 4294967296 ^ i)) / 4294967296 ^ i

theorem mulC_zero (W C f : Nat) : mulC W C f 0 = 0 := by simp [mulC, Nat.mod_one]
theorem mulC_le (W C f i : Nat) : mulC W C f i ≤ f := by
  unfold mulC
  have h1 := mod_lt W i
  have h2 := Nat.mul_le_mul_left f (Nat.le_of_lt (mod_lt C i))
  have : (W % 4294967296 ^ i + f * (C % 4294967296 ^ i)) / 4294967296 ^ i < f + 1 := by
    rw [Nat.div_lt_iff_lt_mul (pw_pos i), Nat.add_mul, Nat.one_mul]; omega
  omega

theorem mul_step (W C f i : Nat) : (mulC W C f i + (dg C i * f + dg W i)) % 4294967296 = dg (W + f * C) i ∧ (mulC W C f i + (dg C i * f + dg W i)) / 4294967296 = mulC W C f (i + 1) := by
  have e : mulC W C f i + (dg C i * f + dg W i) = (W % 4294967296 ^ (i + 1) + f * (C % 4294967296 ^ (i + 1))) / 4294967296 ^ i := by
    unfold mulC
    rw [← carry_div, mod_succ, mod_succ, Nat.mul_add, Nat.mul_add]
    congr 1
    rw [Nat.mul_left_comm f, Nat.mul_comm (dg C i) f]; omega
  constructor
  · rw [e]
    refine dg_of_mod (X := W % 4294967296 ^ (i + 1) + f * (C % 4294967296 ^ (i + 1))) ?_
    rw [Nat.add_mod, Nat.mod_mod, Nat.mul_mod, Nat.mod_mod, ← Nat.mul_mod, ← Nat.add_mod]
  · rw [e, carry_next]; rfl

theorem mulC_all {W C f k : Nat} (hW : W < 4294967296 ^ k) (hC : C < 4294967296 ^ k) : mulC W C f k = (W + f * C) / 4294967296 ^ k := by
  unfold mulC; rw [mod_self hW, mod_self hC]

theorem mul_room (x f y c : Nat) (hx : x < 4294967296) (hf : f < 4294967296) (hy : y < 4294967296) (hc : c ≤ f) : c + (x * f + y) < 18446744073709551616 := by
  have : x * f ≤ 4294967295 * f := Nat.mul_le_mul_right f (by omega)
  omega

/-- A step of a shift: n below 32. -/
def shC (A n i : Nat) : Nat := (A % 4294967296 ^ i * 2 ^ n) / 4294967296 ^ i

theorem shC_zero (A n : Nat) : shC A n 0 = 0 := by simp [shC, Nat.mod_one]
theorem shC_lt (A n i : Nat) : shC A n i < 2 ^ n := by
  unfold shC
  rw [Nat.div_lt_iff_lt_mul (pw_pos i), Nat.mul_comm (2 ^ n)]
  exact Nat.mul_lt_mul_of_pos_right (mod_lt A i) (Nat.two_pow_pos n)

theorem sh_step (A n i : Nat) : (shC A n i + dg A i * 2 ^ n) % 4294967296 = dg (A * 2 ^ n) i ∧ (shC A n i + dg A i * 2 ^ n) / 4294967296 = shC A n (i + 1) := by
  have e : shC A n i + dg A i * 2 ^ n = (A % 4294967296 ^ (i + 1) * 2 ^ n) / 4294967296 ^ i := by
    unfold shC
    rw [← carry_div, mod_succ, Nat.add_mul, Nat.mul_assoc]
  constructor
  · rw [e]
    refine dg_of_mod (X := A % 4294967296 ^ (i + 1) * 2 ^ n) ?_
    rw [Nat.mul_mod, Nat.mod_mod, ← Nat.mul_mod]
  · rw [e, carry_next]; rfl

/-- What is left of P less Y in k limbs. -/
def subN (P Y k : Nat) : Nat := (((P : Int) - (Y : Int)) % ((4294967296 ^ k : Nat) : Int)).toNat

theorem subN_cast (P Y k : Nat) : ((subN P Y k : Nat) : Int) = ((P : Int) - (Y : Int)) % ((4294967296 ^ k : Nat) : Int) := by
  unfold subN
  exact Int.toNat_of_nonneg (Int.emod_nonneg _ (by have := pw_pos k; omega))

theorem subN_lt (P Y k : Nat) : subN P Y k < 4294967296 ^ k := by
  have h := subN_cast P Y k
  have h2 := Int.emod_lt_of_pos ((P : Int) - (Y : Int)) (show (0 : Int) < ((4294967296 ^ k : Nat) : Int) from by have := pw_pos k; omega)
  omega

theorem subN_ge {P Y k : Nat} (h : Y ≤ P) (hP : P < 4294967296 ^ k) : subN P Y k = P - Y := by
  have h1 := subN_cast P Y k
  rw [Int.emod_eq_of_lt (by omega) (by omega)] at h1
  omega

theorem subN_below {P Y k : Nat} (h : P < Y) (hY : Y < 4294967296 ^ k) : subN P Y k = 4294967296 ^ k - (Y - P) := by
  have h1 := subN_cast P Y k
  rw [← Int.add_emod_right, Int.emod_eq_of_lt (by omega) (by omega)] at h1
  omega

/-- Whether the limbs below i borrow. -/
def brw (P Y i : Nat) : Nat := if P % 4294967296 ^ i < Y % 4294967296 ^ i then 1 else 0

theorem brw_zero (P Y : Nat) : brw P Y 0 = 0 := by simp [brw, Nat.mod_one]
theorem brw_le (P Y i : Nat) : brw P Y i ≤ 1 := by unfold brw; split <;> omega

theorem sub_step (P Y k i : Nat) (hi : i < k) (x y b : Nat) (hx : x = dg P i) (hy : y = dg Y i) (hb : b = brw P Y i) :
    (b + y ≤ x → dg (subN P Y k) i = x - y - b ∧ brw P Y (i + 1) = 0) ∧ (x < b + y → dg (subN P Y k) i = x + 4294967296 - y - b ∧ brw P Y (i + 1) = 1) := by
  have hxl : x < 4294967296 := by rw [hx]; exact dg_lt P i
  have hyl : y < 4294967296 := by rw [hy]; exact dg_lt Y i
  have hp := pw_pos i
  have hP := mod_succ P i
  have hY := mod_succ Y i
  have hPl := mod_lt P i
  have hYl := mod_lt Y i
  rw [← hx] at hP
  rw [← hy] at hY
  -- the number modulo the next power
  have key : ((subN P Y k : Nat) : Int) % ((4294967296 ^ (i + 1) : Nat) : Int) = (((P % 4294967296 ^ (i + 1) : Nat) : Int) - ((Y % 4294967296 ^ (i + 1) : Nat) : Int)) % ((4294967296 ^ (i + 1) : Nat) : Int) := by
    rw [subN_cast, Int.emod_emod_of_dvd]
    · rw [Int.natCast_emod, Int.natCast_emod, ← Int.sub_emod]
    · exact Int.natCast_dvd_natCast.2 (Nat.pow_dvd_pow 4294967296 hi)
  have dgx : dg (subN P Y k) i = subN P Y k % 4294967296 ^ (i + 1) / 4294967296 ^ i := by
    rw [mod_succ, Nat.add_mul_div_left _ _ hp, Nat.div_eq_of_lt (mod_lt _ _), Nat.zero_add]
  have hR : ((subN P Y k % 4294967296 ^ (i + 1) : Nat) : Int) = ((subN P Y k : Nat) : Int) % ((4294967296 ^ (i + 1) : Nat) : Int) := Int.natCast_emod _ _
  rw [key] at hR
  generalize subN P Y k % 4294967296 ^ (i + 1) = R at *
  have e1 : 4294967296 ^ (i + 1) = 4294967296 ^ i * 4294967296 := pw_succ i
  have hP1 : P % 4294967296 ^ (i + 1) < 4294967296 ^ (i + 1) := mod_lt _ _
  have hY1 : Y % 4294967296 ^ (i + 1) < 4294967296 ^ (i + 1) := mod_lt _ _
  unfold brw at hb ⊢
  rw [hP, hY] at hR
  rw [hP] at hP1
  rw [hY] at hY1
  rw [hP, hY, dgx]
  rw [e1] at hR hP1 hY1
  generalize P % 4294967296 ^ i = q at *
  generalize Y % 4294967296 ^ i = z at *
  generalize 4294967296 ^ i = p at *
  have fin : ∀ d : Nat, ∀ r : Nat, r < p → R = r + p * d → R / p = d := fun d r hr h => by rw [h, Nat.add_mul_div_left _ _ hp, Nat.div_eq_of_lt hr, Nat.zero_add]
  have pull : ∀ a c : Nat, c ≤ a → p * a = p * c + p * (a - c) := fun a c h => by rw [← Nat.mul_add]; congr 1; omega
  constructor
  · intro hle
    have hm := pull x y (by omega)
    by_cases hqz : q < z
    · rw [if_pos hqz] at hb
      have hm1 := pull (x - y) 1 (by omega)
      refine ⟨?_, if_neg (by omega)⟩
      have : R = (p + q - z) + p * (x - y - 1) := by
        rw [Int.emod_eq_of_lt (by omega) (by omega)] at hR; omega
      rw [fin _ _ (by omega) this, hb]
    · rw [if_neg hqz] at hb
      refine ⟨?_, if_neg (by omega)⟩
      have : R = (q - z) + p * (x - y) := by
        rw [Int.emod_eq_of_lt (by omega) (by omega)] at hR; omega
      rw [fin _ _ (by omega) this, hb]; omega
  · intro hlt
    by_cases hqz : q < z
    · rw [if_pos hqz] at hb
      have hm := pull y x (by omega)
      have hm2 := pull 4294967296 (y - x + 1) (by omega)
      have hm3 : p * (y - x + 1) = p * (y - x) + p := by rw [Nat.mul_add, Nat.mul_one]
      refine ⟨?_, if_pos (by omega)⟩
      have : R = (p + q - z) + p * (4294967296 - (y - x + 1)) := by
        rw [← Int.add_emod_right, Int.emod_eq_of_lt (by omega) (by omega)] at hR; omega
      rw [fin _ _ (by omega) this, hb]; omega
    · rw [if_neg hqz] at hb
      have hm := pull y x (by omega)
      have hm2 := pull 4294967296 (y - x) (by omega)
      have hm3 := pull (y - x) 1 (by omega)
      refine ⟨?_, if_pos (by omega)⟩
      have : R = (q - z) + p * (4294967296 - (y - x)) := by
        rw [← Int.add_emod_right, Int.emod_eq_of_lt (by omega) (by omega)] at hR; omega
      rw [fin _ _ (by omega) this, hb]; omega


theorem dg_shift (N i t : Nat) : dg N (i + t) = dg (N / 4294967296 ^ i) t := by
  unfold dg
  rw [Nat.pow_add, Nat.div_div_eq_div_mul]

theorem div_lt_pow {N i m : Nat} (h : N < 4294967296 ^ (i + m)) : N / 4294967296 ^ i < 4294967296 ^ m := by
  rw [Nat.div_lt_iff_lt_mul (pw_pos i), ← Nat.pow_add, Nat.add_comm]; exact h

theorem mul_lt_pow {a b i m : Nat} (h : a < 4294967296 ^ i) (h' : b < 4294967296 ^ m) : a * b < 4294967296 ^ (i + m) := by
  rw [Nat.pow_add]
  exact Nat.mul_lt_mul'' h h'

/-- One limb's part of a product. -/
theorem prod_lt {P i m a C : Nat} (hP : P < 4294967296 ^ (i + m)) (ha : a < 4294967296) (hC : C < 4294967296 ^ m) : P / 4294967296 ^ i + a * C < 4294967296 ^ (m + 1) := by
  have h1 := div_lt_pow hP
  have h2 : a * C ≤ 4294967295 * C := Nat.mul_le_mul_right C (by omega)
  rw [pw_succ]
  omega

theorem prod_next (A C i : Nat) : A % 4294967296 ^ i * C + 4294967296 ^ i * (dg A i * C) = A % 4294967296 ^ (i + 1) * C := by
  rw [mod_succ, Nat.add_mul, Nat.mul_assoc]


/-- Division by one limb, limb by limb from above. -/
theorem shrink_step (N by_ j : Nat) (hb : 0 < by_) (hb2 : by_ < 4294967296) :
    (N / 4294967296 ^ (j + 1) % by_ * 4294967296 + dg N j) / by_ = dg (N / by_) j ∧ (N / 4294967296 ^ (j + 1) % by_ * 4294967296 + dg N j) % by_ = N / 4294967296 ^ j % by_ ∧
    N / 4294967296 ^ (j + 1) % by_ * 4294967296 + dg N j < by_ * 4294967296 := by
  have hd := dg_lt N j
  have hN := div_succ N j
  have hr := Nat.mod_lt (N / 4294967296 ^ (j + 1)) hb
  have hT := Nat.div_add_mod (N / 4294967296 ^ (j + 1)) by_
  have hrm : N / 4294967296 ^ (j + 1) % by_ * 4294967296 + dg N j < by_ * 4294967296 := by
    have : (N / 4294967296 ^ (j + 1) % by_ + 1) * 4294967296 ≤ by_ * 4294967296 := Nat.mul_le_mul_right _ hr
    omega
  generalize dg N j = d at *
  have e1 : dg (N / by_) j = N / 4294967296 ^ j / by_ % 4294967296 := by
    unfold dg
    rw [Nat.div_div_eq_div_mul, Nat.mul_comm, ← Nat.div_div_eq_div_mul]
  rw [e1]
  generalize N / 4294967296 ^ (j + 1) = T at *
  rw [hN]
  have e2 : T * 4294967296 + d = (T % by_ * 4294967296 + d) + by_ * (T / by_ * 4294967296) := by
    have : T * 4294967296 = (by_ * (T / by_) + T % by_) * 4294967296 := by rw [hT]
    rw [this, Nat.add_mul, Nat.mul_assoc]; omega
  rw [e2, Nat.add_mul_div_left _ _ hb, Nat.add_mul_mod_self_left]
  refine ⟨?_, rfl, hrm⟩
  have hq : (T % by_ * 4294967296 + d) / by_ < 4294967296 := by rw [Nat.div_lt_iff_lt_mul hb, Nat.mul_comm 4294967296]; exact hrm
  rw [Nat.add_mul_mod_self_right, Nat.mod_eq_of_lt hq]

end M
end Go.Proofs.YtolaaemkcmiabaaDoor

namespace Go.Proofs.YtolaaemkcmiabaaDoor
open Go.RowKit
open M
set_option linter.unusedVariables false
set_option linter.unusedSimpArgs false

theorem hide {p : Prop} (h : p) : Hid p := h

/-- Of what was there only the cells from lo to hi of block b may have turned. -/
structure Only (b lo hi : Nat) (w w' : World) : Prop where
  os : w'.os = w.os
  tape : w'.tape = w.tape
  output : w'.output = w.output
  size : w.heap.size ≤ w'.heap.size
  block : ∀ k, k < w.heap.size → k ≠ b → w'.heap[k]? = w.heap[k]?
  cell : ∀ j, (j < lo ∨ hi ≤ j) → w'.cell? ⟨b, j, none⟩ = w.cell? ⟨b, j, none⟩
  frozen : ∀ j, w'.frozen? ⟨b, j, none⟩ = w.frozen? ⟨b, j, none⟩

theorem Only.refl (b lo hi : Nat) (w : World) : Only b lo hi w w := ⟨rfl, rfl, rfl, Nat.le_refl _, fun _ _ _ => rfl, fun _ _ => rfl, fun _ => rfl⟩

theorem Only.trans {b lo hi : Nat} {u v w : World} (h : Only b lo hi u v) (k : Only b lo hi v w) : Only b lo hi u w :=
  ⟨k.os.trans h.os, k.tape.trans h.tape, k.output.trans h.output, Nat.le_trans h.size k.size,
   fun i hi hb => (k.block i (Nat.lt_of_lt_of_le hi h.size) hb).trans (h.block i hi hb), fun j hj => (k.cell j hj).trans (h.cell j hj), fun j => (k.frozen j).trans (h.frozen j)⟩

theorem Only.wider {b lo hi lo' hi' : Nat} {u v : World} (h : Only b lo hi u v) (h1 : lo' ≤ lo) (h2 : hi ≤ hi') : Only b lo' hi' u v :=
  ⟨h.os, h.tape, h.output, h.size, h.block, fun j hj => h.cell j (by omega), h.frozen⟩

theorem Only.drew {b lo hi : Nat} {u w : World} (h : Only b lo hi u w) : Only b lo hi u w.drew := ⟨h.os, h.tape, h.output, h.size, h.block, h.cell, h.frozen⟩

theorem Only.drewN {b lo hi : Nat} {u w : World} (h : Only b lo hi u w) (n : Nat) : Only b lo hi u (w.drewN n) := ⟨h.os, h.tape, h.output, h.size, h.block, h.cell, h.frozen⟩

theorem Only.below {b lo hi B : Nat} {u w : World} (h : Only b lo hi u w) (hB : B ≤ b) (hs : B ≤ u.heap.size) : Below B u w :=
  ⟨h.os, h.tape, h.output, h.size, fun k hk => h.block k (by omega) (by omega)⟩

theorem Only.of_below {b lo hi : Nat} {u w : World} (h : Below u.heap.size u w) (hb : b < u.heap.size) : Only b lo hi u w :=
  ⟨h.os, h.tape, h.output, h.size, fun k hk _ => h.block k hk, fun j _ => h.cell (p := ⟨b, j, none⟩) hb, fun j => h.frozen (p := ⟨b, j, none⟩) hb⟩

theorem below_drewN {B : Nat} {u w : World} (h : Below B u w) (n : Nat) : Below B u (w.drewN n) := ⟨h.os, h.tape, h.output, h.size, h.block⟩

theorem cell_setCell_ne (w : World) (b i j : Nat) (v : Value) (h : j ≠ i) : (w.setCell ⟨b, i, none⟩ v).cell? ⟨b, j, none⟩ = w.cell? ⟨b, j, none⟩ := by
  simp only [World.cell?, World.setCell, Array.getElem?_modify]
  simp only [if_true]
  cases w.heap[b]? with
  | none => rfl
  | some o => cases o <;> simp
              rw [Array.getElem?_setIfInBounds_ne (by omega)]

theorem cell_setCell_eq (w : World) (b i : Nat) (v u : Value) (h : w.cell? ⟨b, i, none⟩ = some u) : (w.setCell ⟨b, i, none⟩ v).cell? ⟨b, i, none⟩ = some v := by
  simp only [World.cell?, World.setCell, Array.getElem?_modify] at h ⊢
  simp only [if_true]
  cases hb : w.heap[b]? with
  | none => simp [hb] at h
  | some o => cases o <;> simp [hb] at h ⊢
              rename_i c e f
              have hi : i < c.size := by
                rcases Nat.lt_or_ge i c.size with h1 | h1
                · exact h1
                · simp [h1] at h
              simp [hi]

theorem frozen_setCell (w : World) (a : Addr) (v : Value) (p : Addr) : (w.setCell a v).frozen? p = w.frozen? p := by
  simp only [World.frozen?, World.setCell, Array.getElem?_modify]
  by_cases h : a.block = p.block
  · rw [if_pos h]
    cases w.heap[p.block]? with
    | none => rfl
    | some o => cases o <;> simp
  · rw [if_neg h]

theorem cell_other (w : World) (b i b' j : Nat) (v : Value) (h : b' ≠ b) : (w.setCell ⟨b, i, none⟩ v).cell? ⟨b', j, none⟩ = w.cell? ⟨b', j, none⟩ :=
  World.cell?_of_block (w := w) (Below.heap_setCell _ _ _ _ h)

theorem Only.setCell {b lo hi : Nat} {u w : World} (h : Only b lo hi u w) (i : Nat) (h1 : lo ≤ i) (h2 : i < hi) (v : Value) : Only b lo hi u (w.setCell ⟨b, i, none⟩ v) := by
  refine h.trans ⟨rfl, rfl, rfl, by simp [World.setCell], fun k _ hb => Below.heap_setCell _ _ _ _ hb, fun j hj => cell_setCell_ne _ _ _ _ _ (by omega), fun j => frozen_setCell _ _ _ _⟩

theorem lt_of_cell {w : World} {g o : Nat} {u : Value} (h : w.cell? ⟨g, o, none⟩ = some u) : g < w.heap.size := block_lt_of_cell h

/-- A row of k limbs, the number N's, in a block of which S holds. -/
def RowX (S : Nat → Prop) (w : World) (v : Value) (k N : Nat) : Prop :=
  N < 4294967296 ^ k ∧ k ≤ 70368744177664 ∧ ∃ ad cap, v = .slice ad k cap ∧ k ≤ cap ∧
    (0 < k → ∃ g o, ad = some ⟨g, o, none⟩ ∧ S g ∧ ∀ j, j < k → w.cell? ⟨g, o + j, none⟩ = some (.int .u32 (dg N j : Nat)))

/-- A row of limbs. -/
def Row (w : World) (v : Value) (k N : Nat) : Prop := RowX (fun _ => True) w v k N

theorem RowX.mono {S S' : Nat → Prop} {w : World} {v : Value} {k N : Nat} (h : RowX S w v k N) (hS : ∀ g, g < w.heap.size → S g → S' g) : RowX S' w v k N := by
  obtain ⟨h1, h2, ad, cap, hv, hc, hcell⟩ := h
  refine ⟨h1, h2, ad, cap, hv, hc, fun hk => ?_⟩
  obtain ⟨g, o, ha, hs, hj⟩ := hcell hk
  exact ⟨g, o, ha, hS g (lt_of_cell (hj 0 hk)) hs, hj⟩

theorem RowX.row {S : Nat → Prop} {w : World} {v : Value} {k N : Nat} (h : RowX S w v k N) : Row w v k N := h.mono fun _ _ _ => trivial
theorem Row.old {w : World} {v : Value} {k N : Nat} (h : Row w v k N) : RowX (· < w.heap.size) w v k N := RowX.mono h fun _ hg _ => hg

theorem RowX.keep {S : Nat → Prop} {w w' : World} {v : Value} {k N : Nat} (h : RowX S w v k N) (hc : ∀ g o, S g → g < w.heap.size → w'.cell? ⟨g, o, none⟩ = w.cell? ⟨g, o, none⟩) : RowX S w' v k N := by
  obtain ⟨h1, h2, ad, cap, hv, hcap, hcell⟩ := h
  refine ⟨h1, h2, ad, cap, hv, hcap, fun hk => ?_⟩
  obtain ⟨g, o, ha, hs, hj⟩ := hcell hk
  exact ⟨g, o, ha, hs, fun j hj' => by rw [hc g _ hs (lt_of_cell (hj j hj'))]; exact hj j hj'⟩

theorem RowX.below {S : Nat → Prop} {w w' : World} {v : Value} {k N : Nat} (h : RowX S w v k N) (hb : Below w.heap.size w w') : RowX S w' v k N :=
  h.keep fun g o _ hg => hb.cell (p := ⟨g, o, none⟩) hg
theorem Row.below {w w' : World} {v : Value} {k N : Nat} (h : Row w v k N) (hb : Below w.heap.size w w') : Row w' v k N := RowX.below h hb

theorem RowX.belowB {B : Nat} {w w' : World} {v : Value} {k N : Nat} (h : RowX (· < B) w v k N) (hb : Below B w w') : RowX (· < B) w' v k N :=
  h.keep fun g o hg _ => hb.cell (p := ⟨g, o, none⟩) hg

theorem RowX.only {b lo hi : Nat} {w w' : World} {v : Value} {k N : Nat} (h : RowX (· ≠ b) w v k N) (ho : Only b lo hi w w') : RowX (· ≠ b) w' v k N :=
  h.keep fun g o hg hs => World.cell?_of_block (w := w) (ho.block g hs hg)

theorem RowX.drewN {S : Nat → Prop} {w : World} {v : Value} {k N : Nat} (h : RowX S w v k N) (n : Nat) : RowX S (w.drewN n) v k N := h
theorem RowX.lt {S : Nat → Prop} {w : World} {v : Value} {k N : Nat} (h : RowX S w v k N) : N < 4294967296 ^ k := h.1
theorem RowX.len {S : Nat → Prop} {w : World} {v : Value} {k N : Nat} (h : RowX S w v k N) : k ≤ 70368744177664 := h.2.1

/-- The cells of a row that may be written: from o on in block g, k limbs of N. -/
structure Wk (w : World) (g o k N : Nat) : Prop where
  lt : N < 4294967296 ^ k
  cell : ∀ j, j < k → w.cell? ⟨g, o + j, none⟩ = some (.int .u32 (dg N j : Nat))
  free : ∀ j, j < k → w.frozen? ⟨g, o + j, none⟩ = false

theorem Wk.row {w : World} {g o k N cap : Nat} (h : Wk w g o k N) (hk : k ≤ 70368744177664) (hc : k ≤ cap) {S : Nat → Prop} (hS : S g) (ad : Option Addr) (ha : 0 < k → ad = some ⟨g, o, none⟩) : RowX S w (.slice ad k cap) k N :=
  ⟨h.lt, hk, ad, cap, rfl, hc, fun hk => ⟨g, o, ha hk, hS, h.cell⟩⟩

theorem Wk.below {w w' : World} {g o k N B : Nat} (h : Wk w g o k N) (hb : Below B w w') (hg : g < B) : Wk w' g o k N :=
  ⟨h.lt, fun j hj => by rw [hb.cell (p := ⟨g, o + j, none⟩) hg]; exact h.cell j hj, fun j hj => by rw [hb.frozen (p := ⟨g, o + j, none⟩) hg]; exact h.free j hj⟩

theorem Wk.only {w w' : World} {g o k N b lo hi : Nat} (h : Wk w g o k N) (ho : Only b lo hi w w') (hg : g ≠ b) (hs : g < w.heap.size) : Wk w' g o k N :=
  ⟨h.lt, fun j hj => by rw [World.cell?_of_block (w := w) (a := ⟨g, o + j, none⟩) (ho.block g hs hg)]; exact h.cell j hj, fun j hj => by rw [World.frozen?_of_block (w := w) (a := ⟨g, o + j, none⟩) (ho.block g hs hg)]; exact h.free j hj⟩

theorem Wk.apart {w w' : World} {g o k N lo hi : Nat} (h : Wk w g o k N) (ho : Only g lo hi w w') (hd : o + k ≤ lo ∨ hi ≤ o) : Wk w' g o k N :=
  ⟨h.lt, fun j hj => by rw [ho.cell _ (by omega)]; exact h.cell j hj, fun j hj => by rw [ho.frozen]; exact h.free j hj⟩

theorem Wk.drewN {w : World} {g o k N : Nat} (h : Wk w g o k N) (n : Nat) : Wk (w.drewN n) g o k N := ⟨h.lt, h.cell, h.free⟩

/-- While a row is gone through from below: the limbs below i are X's, the others N's. -/
structure Mid (w : World) (g o k i N X : Nat) : Prop where
  lo : ∀ j, j < i → w.cell? ⟨g, o + j, none⟩ = some (.int .u32 (dg X j : Nat))
  hi : ∀ j, i ≤ j → j < k → w.cell? ⟨g, o + j, none⟩ = some (.int .u32 (dg N j : Nat))
  free : ∀ j, j < k → w.frozen? ⟨g, o + j, none⟩ = false

theorem Wk.mid {w : World} {g o k N : Nat} (h : Wk w g o k N) (X : Nat) : Mid w g o k 0 N X := ⟨fun j hj => by omega, fun j _ hj => h.cell j hj, h.free⟩

theorem Mid.wk {w : World} {g o k N X : Nat} (h : Mid w g o k k N X) (hX : X < 4294967296 ^ k) : Wk w g o k X := ⟨hX, h.lo, h.free⟩

theorem Mid.wk_mod {w : World} {g o k N X : Nat} (h : Mid w g o k k N X) : Wk w g o k (X % 4294967296 ^ k) :=
  ⟨mod_lt X k, fun j hj => by rw [dg_mod X hj]; exact h.lo j hj, h.free⟩

theorem Mid.step {w : World} {g o k i N X : Nat} (h : Mid w g o k i N X) (hi : i < k) (y : Int) (hy : y = (dg X i : Nat)) : Mid (w.setCell ⟨g, o + i, none⟩ (.int .u32 y)) g o k (i + 1) N X := by
  subst hy
  refine ⟨fun j hj => ?_, fun j h1 h2 => ?_, fun j hj => by rw [frozen_setCell]; exact h.free j hj⟩
  · by_cases e : j = i
    · subst e; exact cell_setCell_eq _ _ _ _ _ (h.hi j (Nat.le_refl _) hi)
    · rw [cell_setCell_ne _ _ _ _ _ (by omega)]; exact h.lo j (by omega)
  · rw [cell_setCell_ne _ _ _ _ _ (by omega)]; exact h.hi j (by omega) h2

/-- While a row is gone through from above: the limbs from i on are X's, the others N's. -/
structure Dim (w : World) (g o k i N X : Nat) : Prop where
  lo : ∀ j, j < i → w.cell? ⟨g, o + j, none⟩ = some (.int .u32 (dg N j : Nat))
  hi : ∀ j, i ≤ j → j < k → w.cell? ⟨g, o + j, none⟩ = some (.int .u32 (dg X j : Nat))
  free : ∀ j, j < k → w.frozen? ⟨g, o + j, none⟩ = false

theorem Wk.dim {w : World} {g o k N : Nat} (h : Wk w g o k N) (X : Nat) : Dim w g o k k N X := ⟨fun j hj => h.cell j hj, fun j _ hj => by omega, h.free⟩
theorem Dim.wk {w : World} {g o k N X : Nat} (h : Dim w g o k 0 N X) (hX : X < 4294967296 ^ k) : Wk w g o k X := ⟨hX, fun j hj => h.hi j (Nat.zero_le _) hj, h.free⟩
theorem Dim.step {w : World} {g o k i N X : Nat} (h : Dim w g o k (i + 1) N X) (hi : i < k) (y : Int) (hy : y = (dg X i : Nat)) : Dim (w.setCell ⟨g, o + i, none⟩ (.int .u32 y)) g o k i N X := by
  subst hy
  refine ⟨fun j hj => ?_, fun j h1 h2 => ?_, fun j hj => by rw [frozen_setCell]; exact h.free j hj⟩
  · rw [cell_setCell_ne _ _ _ _ _ (by omega)]; exact h.lo j (by omega)
  · by_cases e : j = i
    · subst e; exact cell_setCell_eq _ _ _ _ _ (h.lo j (by omega))
    · rw [cell_setCell_ne _ _ _ _ _ (by omega)]; exact h.hi j (by omega) h2
theorem Dim.drewN {w : World} {g o k i N X : Nat} (h : Dim w g o k i N X) (n : Nat) : Dim (w.drewN n) g o k i N X := ⟨h.lo, h.hi, h.free⟩

theorem Mid.drewN {w : World} {g o k i N X : Nat} (h : Mid w g o k i N X) (n : Nat) : Mid (w.drewN n) g o k i N X := ⟨h.lo, h.hi, h.free⟩

theorem Wk.sub {w : World} {g o k N : Nat} (h : Wk w g o k N) (i m : Nat) (hm : i + m ≤ k) : Wk w g (o + i) m (N / 4294967296 ^ i % 4294967296 ^ m) :=
  ⟨mod_lt _ _, fun j hj => by rw [dg_mod _ hj, ← dg_shift, Nat.add_assoc]; exact h.cell (i + j) (by omega), fun j hj => by rw [Nat.add_assoc]; exact h.free (i + j) (by omega)⟩

/-- Behind one limb's part of a product. -/
theorem Wk.prod {w w' : World} {g K P i m a C : Nat} (h : Wk w g 0 K P) (ho : Only g i (i + m) w w') (hk : i + m < K) (hP : P < 4294967296 ^ (i + m)) (ha : a < 4294967296) (hC : C < 4294967296 ^ m)
    (h' : Wk w' g i m ((P / 4294967296 ^ i + a * C) % 4294967296 ^ m)) :
    Wk (w'.setCell ⟨g, i + m, none⟩ (.int .u32 ((P / 4294967296 ^ i + a * C) / 4294967296 ^ m : Nat))) g 0 K (P + 4294967296 ^ i * (a * C)) := by
  have hX := prod_lt hP ha hC
  have hdiv : (P + 4294967296 ^ i * (a * C)) / 4294967296 ^ i = P / 4294967296 ^ i + a * C := carry_div _ _ _
  have hlt : P + 4294967296 ^ i * (a * C) < 4294967296 ^ K := by
    refine Nat.lt_of_lt_of_le ?_ (Nat.pow_le_pow_right (by omega) (show i + m + 1 ≤ K from hk))
    rw [show i + m + 1 = i + (m + 1) from by omega, Nat.pow_add]
    have := (Nat.div_lt_iff_lt_mul (pw_pos i)).1 (show (P + 4294967296 ^ i * (a * C)) / 4294967296 ^ i < 4294967296 ^ (m + 1) from by rw [hdiv]; exact hX)
    rw [Nat.mul_comm (4294967296 ^ i) (4294967296 ^ (m + 1))]; exact this
  refine ⟨hlt, fun j hj => ?_, fun j hj => by rw [frozen_setCell, ho.frozen]; exact h.free j hj⟩
  rw [Nat.zero_add]
  rcases Nat.lt_or_ge j i with h1 | h1
  · rw [cell_setCell_ne _ _ _ _ _ (by omega), ho.cell j (by omega), dg_low h1]
    have := h.cell j hj; rw [Nat.zero_add] at this; exact this
  · obtain ⟨t, rfl⟩ : ∃ t, j = i + t := ⟨j - i, by omega⟩
    rw [dg_shift, hdiv]
    rcases Nat.lt_trichotomy t m with h2 | h2 | h2
    · rw [cell_setCell_ne _ _ _ _ _ (by omega), h'.cell t h2, dg_mod _ h2]
    · subst h2
      have hc : ∃ u, w'.cell? ⟨g, i + t, none⟩ = some u := ⟨_, by rw [ho.cell _ (by omega)]; have := h.cell (i + t) hj; rw [Nat.zero_add] at this; exact this⟩
      obtain ⟨u, hu⟩ := hc
      rw [cell_setCell_eq _ _ _ _ _ hu]
      have : dg (P / 4294967296 ^ i + a * C) t = (P / 4294967296 ^ i + a * C) / 4294967296 ^ t := by
        unfold dg
        rw [Nat.mod_eq_of_lt]
        rw [Nat.div_lt_iff_lt_mul (pw_pos t), Nat.mul_comm 4294967296 (4294967296 ^ t), ← pw_succ]; exact hX
      rw [this]
    · rw [cell_setCell_ne _ _ _ _ _ (by omega), ho.cell _ (by omega), dg_high hX (by omega)]
      have := h.cell (i + t) hj
      rw [Nat.zero_add, dg_high hP (by omega)] at this
      exact this

/-- The cells of a row, as values. -/
def limbsV (k N : Nat) : List Value := (List.range k).map fun j => .int .u32 (dg N j : Nat)
@[simp] theorem limbsV_length (k N : Nat) : (limbsV k N).length = k := by simp [limbsV]
theorem limbsV_get (k N j : Nat) (h : j < k) : (limbsV k N)[j]? = some (.int .u32 (dg N j : Nat)) := by simp [limbsV, h]
theorem limbsV_cell (k N : Nat) : ∀ u ∈ limbsV k N, u.oneCell' = true := by
  intro u hu
  simp only [limbsV, List.mem_map] at hu
  obtain ⟨j, _, rfl⟩ := hu
  rfl

theorem info32 : ∃ i5, Tryd.prog.info? 97 = some i5 ∧ i5.zero = some (.int .u32 0) ∧ i5.size = 1 ∧ i5.bytes = 4 := by
  have hz : (Tryd.prog.info? 97).bind (·.zero) = some (.int .u32 0) := by kernel_rfl
  have hs : (Tryd.prog.info? 97).map (·.size) = some 1 := by kernel_rfl
  have hb : (Tryd.prog.info? 97).map (·.bytes) = some 4 := by kernel_rfl
  cases hi : Tryd.prog.info? 97 with
  | none => simp [hi] at hs
  | some i5 =>
    simp only [hi, Option.bind_some, Option.map_some, Option.some.injEq] at hz hs hb
    exact ⟨i5, rfl, hz, hs, hb⟩

theorem size32 : (Tryd.prog.info? 97).map (·.size) = some 1 := by kernel_rfl

/-- A row of the call's own, in a block from base on. -/
def Own (w : World) (base : Nat) (v : Value) (k N : Nat) : Prop := N < 4294967296 ^ k ∧ k ≤ 70368744177664 ∧ w.ownsRow base 97 1 v k (limbsV k N)

theorem Own.rowX {w : World} {base : Nat} {v : Value} {k N : Nat} (h : Own w base v k N) : RowX (base ≤ ·) w v k N := by
  obtain ⟨h1, h2, h3, h4⟩ := h
  rcases h4 with ⟨rfl, rfl⟩ | ⟨g, cap, cur, rfl, hb, hg, hc, hm, hs, ht⟩
  · exact ⟨h1, h2, none, 0, rfl, Nat.le_refl _, fun h => by omega⟩
  · refine ⟨h1, h2, _, cap, rfl, hc, fun hk => ⟨g, 0, rfl, hb, fun j hj => ?_⟩⟩
    rw [Nat.zero_add, cell_of_row w g j cur _ (0, 0) hg, ← limbsV_get k N j hj, ← ht, List.getElem?_take, if_pos (by omega)]
    simp

theorem Own.row {w : World} {base : Nat} {v : Value} {k N : Nat} (h : Own w base v k N) : Row w v k N := h.rowX.row

theorem Own.mono {w : World} {base base' : Nat} {v : Value} {k N : Nat} (h : Own w base v k N) (hb : base' ≤ base) : Own w base' v k N := by
  obtain ⟨h1, h2, h3, h4⟩ := h
  refine ⟨h1, h2, h3, ?_⟩
  rcases h4 with h | ⟨g, cap, cur, hv, hbg, h⟩
  · exact .inl h
  · exact .inr ⟨g, cap, cur, hv, Nat.le_trans hb hbg, h⟩

theorem Own.nil (w : World) (base : Nat) : Own w base (.slice none 0 0) 0 0 := ⟨by simp, by omega, rfl, .inl ⟨rfl, rfl⟩⟩
theorem Row.nil (w : World) : Row w (.slice none 0 0) 0 0 := (Own.nil w 0).row

theorem Own.below {w w' : World} {base : Nat} {v : Value} {k N : Nat} (h : Own w base v k N) (hb : Below w.heap.size w w') : Own w' base v k N := by
  obtain ⟨h1, h2, h3, h4⟩ := h
  refine ⟨h1, h2, h3, ?_⟩
  rcases h4 with h | ⟨g, cap, cur, hv, hbg, hg, h⟩
  · exact .inl h
  · refine .inr ⟨g, cap, cur, hv, hbg, ?_, h⟩
    rw [hb.block g ?_]; exact hg
    rcases Nat.lt_or_ge g w.heap.size with h1 | h1
    · exact h1
    · rw [Array.getElem?_eq_none h1] at hg; cases hg

/-- A block that holds a row and no more. -/
theorem own_of_block {w : World} {base g k N : Nat} (hN : N < 4294967296 ^ k) (hk : k ≤ 70368744177664) (hb : base ≤ g) (hg : w.heap[g]? = some (.cells (limbsV k N).toArray 97 (0, 0))) : Own w base (.slice (some ⟨g, 0, none⟩) k k) k N :=
  ⟨hN, hk, by simp, .inr ⟨g, k, _, rfl, hb, hg, Nat.le_refl _, by unfold maxLen; omega, by simp, by rw [Nat.mul_one]; exact List.take_of_length_le (by simp)⟩⟩

theorem wk_of_block {w : World} {g k N : Nat} (hN : N < 4294967296 ^ k) (hg : w.heap[g]? = some (.cells (limbsV k N).toArray 97 (0, 0))) : Wk w g 0 k N :=
  ⟨hN, fun j hj => by rw [Nat.zero_add, cell_of_row w g j _ _ (0, 0) hg]; simpa using limbsV_get k N j hj, fun j _ => frozen_of_row w g _ _ _ hg⟩

/-- An answer: the number, or that it is too long. -/
def Told (w : World) (base : Nat) (u : Value) (c : Int) (N : Nat) : Prop :=
  (Fits N ∧ c = 0 ∧ ∃ n, Own w base u n N ∧ Nrm n N) ∨ (¬ Fits N ∧ c = 21 ∧ u = .slice none 0 0)

theorem Told.mono {w : World} {base base' : Nat} {u : Value} {c : Int} {N : Nat} (h : Told w base u c N) (hb : base' ≤ base) : Told w base' u c N := by
  rcases h with ⟨h1, h2, n, h3, h4⟩ | h
  · exact .inl ⟨h1, h2, n, h3.mono hb, h4⟩
  · exact .inr h

/-- A number in memory. -/
def Num (w : World) (v : Value) (N : Nat) : Prop := ∃ k, Row w v k N ∧ Nrm k N ∧ k ≤ 8192

theorem Num.fits {w : World} {v : Value} {N : Nat} (h : Num w v N) : Fits N := by obtain ⟨k, _, h1, h2⟩ := h; exact h1.fits.1 h2
theorem Num.below {w w' : World} {v : Value} {N : Nat} (h : Num w v N) (hb : Below w.heap.size w w') : Num w' v N := by obtain ⟨k, h0, h1, h2⟩ := h; exact ⟨k, h0.below hb, h1, h2⟩
theorem Own.num {w : World} {base : Nat} {v : Value} {k N : Nat} (h : Own w base v k N) (hn : Nrm k N) (hf : Fits N) : Num w v N := ⟨k, h.row, hn, hn.fits.2 hf⟩
theorem Num.nil (w : World) : Num w (.slice none 0 0) 0 := ⟨0, Row.nil w, nrm_zero, by omega⟩

theorem limbsV_zero (k : Nat) : limbsV k 0 = List.replicate k (.int .u32 0) := by
  apply List.ext_getElem?
  intro j
  rcases Nat.lt_or_ge j k with h | h
  · rw [limbsV_get k 0 j h, dg_zero]; simp [h]
  · simp [h]

theorem made_zero (k : Nat) : (madeCells #[Value.int .u32 0] k) = (limbsV k 0).toArray := by
  rw [limbsV_zero, ← toList_madeCells_one]

theorem make_block (w : World) (k : Nat) : (w.alloc (.cells (madeCells #[Value.int .u32 0] k) 97)).heap[w.heap.size]? = some (.cells (limbsV k 0).toArray 97 (0, 0)) := by
  rw [made_zero]; exact heap_alloc_new w _


/-- A row copied to the head of a new block of noughts. -/
theorem copy_new {S : Nat → Prop} (w : World) (v : Value) (k N m g : Nat) (dT sT ty : TypeId) (hu : Tryd.prog.underlying dT = some (.slice 97)) (h : RowX S w v k N) (hkm : k ≤ m) (hg : w.heap[g]? = some (.cells (limbsV m 0).toArray 97 (0, 0))) :
    ∃ w', (Builtin.copy_ #[dT, sT] ty #[.slice (some ⟨g, 0, none⟩) m m, v]).run Tryd.prog w = .ok (goInt k) w' ∧ w'.heap[g]? = some (.cells (limbsV m N).toArray 97 (0, 0)) ∧ Below g w w' := by
  obtain ⟨hN, hk, ad, cap, rfl, hc, hcell⟩ := h
  have hmin : (limbsV k N).length = Nat.min k m := by rw [limbsV_length]; exact (Nat.min_eq_left hkm).symm
  have hsp : (limbsV m 0).take 0 ++ limbsV k N ++ (limbsV m 0).drop (0 + (limbsV k N).length) = limbsV m N := by
    apply List.ext_getElem?
    intro j
    simp only [List.take_zero, List.nil_append, limbsV_length, Nat.zero_add]
    rcases Nat.lt_or_ge j k with h | h
    · rw [List.getElem?_append_left (by simpa using h), limbsV_get k N j h, limbsV_get m N j (by omega)]
    · rw [List.getElem?_append_right (by simpa using h), limbsV_length, List.getElem?_drop, show k + (j - k) = j from by omega]
      rcases Nat.lt_or_ge j m with h1 | h1
      · rw [limbsV_get m 0 j h1, limbsV_get m N j h1, dg_high hN h, dg_zero]
      · rw [List.getElem?_eq_none (by simpa using h1), List.getElem?_eq_none (by simpa using h1)]
  by_cases h0 : k = 0
  · subst h0
    have hz : N = 0 := by simpa using hN
    subst hz
    exact ⟨w, run_copy_none w dT sT ty _ _ _ _ _ _ _ hu size32 (by simp), hg, Below.refl _ _⟩
  · obtain ⟨g', o, rfl, _, hj⟩ := hcell (by omega)
    have hr := run_copy_row (P := Tryd.prog) w dT sT ty 97 g 0 m m ⟨g', o, none⟩ k cap (limbsV m 0).toArray 97 (limbsV k N) hu size32 hg hmin ?_ (by simpa using hkm) (limbsV_cell k N)
    · rw [limbsV_length] at hr
      refine ⟨_, hr, ?_, below_setRow (Below.refl _ _) (Nat.le_refl _) _⟩
      rw [setRow_heap w g _ _ _ _ hg]
      rw [limbsV_length] at hsp
      simp only [Option.some.injEq, Obj.cells.injEq, and_true]
      exact congrArg List.toArray hsp
    · intro j u hju
      have hjk : j < k := by
        rcases Nat.lt_or_ge j k with h | h
        · exact h
        · rw [List.getElem?_eq_none (by simpa using h)] at hju; cases hju
      rw [limbsV_get k N j hjk] at hju
      rw [← hju, show (⟨g', o, none⟩ : Addr).add j = ⟨g', o + j, none⟩ from by unfold Addr.add; split <;> simp_all]
      exact hj j hjk

end Go.Proofs.YtolaaemkcmiabaaDoor
