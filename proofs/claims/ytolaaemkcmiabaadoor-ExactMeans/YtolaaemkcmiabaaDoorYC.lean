/- Words of 64 bits: once, laid. -/
import Derived.Test.YtolaaemkcmiabaaDoorB
import Derived.Test.YtolaaemkcmiabaaDoorF
import Derived.Lib.Mul64
import Derived.Laws.Bits64b
import Derived.Laws.Externs
import Derived.BigRegion
import Derived.RegionTactic
/- Whole numbers by words of 64 bits, sums of words with a carry, sums below nought: plain mathematics. -/
namespace Go.Proofs.YtolaaemkcmiabaaDoor
namespace M
namespace W6
set_option linter.unusedVariables false
set_option linter.unusedSimpArgs false

/-- Word j of a number. -/
def wd (N j : Nat) : Nat := N / 18446744073709551616 ^ j % 18446744073709551616

theorem pw_pos (i : Nat) : 0 < 18446744073709551616 ^ i := Nat.pow_pos (by omega)
theorem pw_succ (i : Nat) : 18446744073709551616 ^ (i + 1) = 18446744073709551616 ^ i * 18446744073709551616 := Nat.pow_succ _ _
theorem wd_lt (N j : Nat) : wd N j < 18446744073709551616 := Nat.mod_lt _ (by omega)
theorem wd_le (N j : Nat) : wd N j ≤ 18446744073709551615 := by have := wd_lt N j; omega
theorem wd_zero (j : Nat) : wd 0 j = 0 := by simp [wd]
theorem wd_high {N k j : Nat} (h : N < 18446744073709551616 ^ k) (hj : k ≤ j) : wd N j = 0 := by
  unfold wd
  rw [Nat.div_eq_of_lt (Nat.lt_of_lt_of_le h (Nat.pow_le_pow_right (by omega) hj))]
theorem mod_succ (N i : Nat) : N % 18446744073709551616 ^ (i + 1) = N % 18446744073709551616 ^ i + 18446744073709551616 ^ i * wd N i := Nat.mod_pow_succ
theorem mod_zero (N : Nat) : N % 18446744073709551616 ^ 0 = 0 := by simp [Nat.mod_one]
theorem mod_self {N k : Nat} (h : N < 18446744073709551616 ^ k) : N % 18446744073709551616 ^ k = N := Nat.mod_eq_of_lt h
theorem mod_lt (N k : Nat) : N % 18446744073709551616 ^ k < 18446744073709551616 ^ k := Nat.mod_lt _ (pw_pos k)

/-- The words below k hang on the number modulo the k-th power alone. -/
theorem wd_mod (N : Nat) {k j : Nat} (h : j < k) : wd (N % 18446744073709551616 ^ k) j = wd N j := by
  unfold wd
  obtain ⟨d, rfl⟩ : ∃ d, k = j + 1 + d := ⟨k - (j + 1), by omega⟩
  have e : N = N % 18446744073709551616 ^ (j + 1 + d) + 18446744073709551616 ^ j * (18446744073709551616 * (18446744073709551616 ^ d * (N / 18446744073709551616 ^ (j + 1 + d)))) := by
    have := Nat.mod_add_div N (18446744073709551616 ^ (j + 1 + d))
    rw [show 18446744073709551616 ^ j * (18446744073709551616 * (18446744073709551616 ^ d * (N / 18446744073709551616 ^ (j + 1 + d)))) = 18446744073709551616 ^ (j + 1 + d) * (N / 18446744073709551616 ^ (j + 1 + d)) from by rw [Nat.pow_add, Nat.pow_add, Nat.pow_one, Nat.mul_assoc, Nat.mul_assoc, Nat.mul_assoc]]
    exact this.symm
  conv => rhs; rw [e]
  rw [Nat.add_mul_div_left _ _ (pw_pos j), Nat.add_mul_mod_self_left]

theorem wd_congr {N N' k j : Nat} (h : N % 18446744073709551616 ^ k = N' % 18446744073709551616 ^ k) (hj : j < k) : wd N j = wd N' j := by
  rw [← wd_mod N hj, ← wd_mod N' hj, h]

theorem ext_mod {N N' : Nat} : ∀ {k : Nat}, (∀ j, j < k → wd N j = wd N' j) → N % 18446744073709551616 ^ k = N' % 18446744073709551616 ^ k
  | 0, _ => by simp [Nat.mod_one]
  | k + 1, h => by rw [mod_succ, mod_succ, ext_mod (fun j hj => h j (by omega)), h k (by omega)]

theorem ext {N N' k : Nat} (hN : N < 18446744073709551616 ^ k) (hN' : N' < 18446744073709551616 ^ k) (h : ∀ j, j < k → wd N j = wd N' j) : N = N' := by
  rw [← mod_self hN, ← mod_self hN', ext_mod h]

theorem wd_top {a k b : Nat} (ha : a < 18446744073709551616 ^ k) (hb : b < 18446744073709551616) : wd (a + 18446744073709551616 ^ k * b) k = b := by
  unfold wd
  rw [Nat.add_mul_div_left _ _ (pw_pos k), Nat.div_eq_of_lt ha, Nat.zero_add, Nat.mod_eq_of_lt hb]

theorem wd_low {a k b j : Nat} (hj : j < k) : wd (a + 18446744073709551616 ^ k * b) j = wd a j := by
  rw [← wd_mod _ hj, Nat.add_mul_mod_self_left, wd_mod _ hj]

/-- Every row of words is a number's. -/
theorem of_words (f : Nat → Nat) : ∀ k, (∀ j, j < k → f j < 18446744073709551616) → ∃ N, N < 18446744073709551616 ^ k ∧ ∀ j, j < k → wd N j = f j
  | 0, _ => ⟨0, by simp, fun j hj => by omega⟩
  | k + 1, h => by
    obtain ⟨N, hN, hj⟩ := of_words f k (fun j hj => h j (by omega))
    refine ⟨N + 18446744073709551616 ^ k * f k, ?_, fun j hj' => ?_⟩
    · have hf := h k (by omega)
      have : 18446744073709551616 ^ k * (f k + 1) ≤ 18446744073709551616 ^ k * 18446744073709551616 := Nat.mul_le_mul_left _ hf
      rw [Nat.mul_add] at this
      rw [pw_succ]; omega
    · rcases Nat.lt_or_ge j k with h1 | h1
      · rw [wd_low h1]; exact hj j h1
      · obtain rfl : j = k := by omega
        exact wd_top hN (h j (by omega))
/-- The parts above place i agree: the word below decides. -/
theorem div_succ (N i : Nat) : N / 18446744073709551616 ^ i = N / 18446744073709551616 ^ (i + 1) * 18446744073709551616 + wd N i := by
  unfold wd
  rw [pw_succ, ← Nat.div_div_eq_div_mul]
  have := Nat.div_add_mod (N / 18446744073709551616 ^ i) 18446744073709551616
  omega
/-- What a word's step carries: x is what came over, y what is added at place i. -/
theorem carry_div (X i y : Nat) : (X + 18446744073709551616 ^ i * y) / 18446744073709551616 ^ i = X / 18446744073709551616 ^ i + y := Nat.add_mul_div_left _ _ (pw_pos i)

theorem carry_next (X i : Nat) : X / 18446744073709551616 ^ i / 18446744073709551616 = X / 18446744073709551616 ^ (i + 1) := by rw [Nat.div_div_eq_div_mul, pw_succ]

theorem add_mod_mod (A B k : Nat) : (A % 18446744073709551616 ^ k + B % 18446744073709551616 ^ k) % 18446744073709551616 ^ k = (A + B) % 18446744073709551616 ^ k := by
  rw [← Nat.add_mod]

/-- What is carried into place i of A + B + c. -/
def cy (A B c i : Nat) : Nat := (A % 18446744073709551616 ^ i + B % 18446744073709551616 ^ i + c) / 18446744073709551616 ^ i

theorem cy_zero (A B c : Nat) : cy A B c 0 = c := by simp [cy, Nat.mod_one]
theorem cy_le (A B c i : Nat) (hc : c ≤ 1) : cy A B c i ≤ 1 := by
  unfold cy
  have h1 := mod_lt A i
  have h2 := mod_lt B i
  have : (A % 18446744073709551616 ^ i + B % 18446744073709551616 ^ i + c) / 18446744073709551616 ^ i < 2 := by
    rw [Nat.div_lt_iff_lt_mul (pw_pos i)]; omega
  omega

theorem cy_step (A B c i : Nat) : (wd A i + wd B i + cy A B c i) % 18446744073709551616 = wd (A + B + c) i ∧ (wd A i + wd B i + cy A B c i) / 18446744073709551616 = cy A B c (i + 1) := by
  have e : wd A i + wd B i + cy A B c i = (A % 18446744073709551616 ^ (i + 1) + B % 18446744073709551616 ^ (i + 1) + c) / 18446744073709551616 ^ i := by
    unfold cy
    rw [Nat.add_comm (wd A i + wd B i), ← carry_div, mod_succ, mod_succ, Nat.mul_add]
    congr 1; omega
  constructor
  · rw [e]
    refine wd_congr (N := A % 18446744073709551616 ^ (i + 1) + B % 18446744073709551616 ^ (i + 1) + c) (k := i + 1) ?_ (Nat.lt_succ_self i)
    rw [Nat.add_mod (_ + _) c, add_mod_mod A B, ← Nat.add_mod]
  · rw [e, carry_next]; rfl

/-- Behind a place where nothing more is carried, and nought is added, nothing changes. -/
theorem cy_stay0 (A B c i : Nat) (h : cy A B c i = 0) : ∀ d, (∀ j, i ≤ j → j < i + d → wd B j = 0) → cy A B c (i + d) = 0
  | 0, _ => h
  | d + 1, hB => by
    have h1 := cy_stay0 A B c i h d (fun j h1 h2 => hB j h1 (by omega))
    have h2 := (cy_step A B c (i + d)).2
    rw [h1, hB (i + d) (by omega) (by omega), Nat.add_zero, Nat.add_zero, Nat.div_eq_of_lt (wd_lt A _)] at h2
    exact h2.symm
theorem cy_keep0 (A B c i j : Nat) (h : cy A B c i = 0) (hij : i ≤ j) (hB : ∀ t, i ≤ t → t ≤ j → wd B t = 0) : wd (A + B + c) j = wd A j := by
  have h1 := cy_stay0 A B c i h (j - i) (fun t h1 h2 => hB t h1 (by omega))
  rw [show i + (j - i) = j from by omega] at h1
  have h2 := (cy_step A B c j).1
  rw [h1, hB j hij (Nat.le_refl _)] at h2
  have h3 := wd_lt A j
  omega
theorem cy_stay1 (A B c i : Nat) (h : cy A B c i = 1) : ∀ d, (∀ j, i ≤ j → j < i + d → wd B j = 18446744073709551615) → cy A B c (i + d) = 1
  | 0, _ => h
  | d + 1, hB => by
    have h1 := cy_stay1 A B c i h d (fun j h1 h2 => hB j h1 (by omega))
    have h2 := (cy_step A B c (i + d)).2
    have h3 := wd_lt A (i + d)
    rw [h1, hB (i + d) (by omega) (by omega)] at h2
    rw [show i + (d + 1) = i + d + 1 from by omega]
    omega
theorem cy_keep1 (A B c i j : Nat) (h : cy A B c i = 1) (hij : i ≤ j) (hB : ∀ t, i ≤ t → t ≤ j → wd B t = 18446744073709551615) : wd (A + B + c) j = wd A j := by
  have h1 := cy_stay1 A B c i h (j - i) (fun t h1 h2 => hB t h1 (by omega))
  rw [show i + (j - i) = j from by omega] at h1
  have h2 := (cy_step A B c j).1
  have h3 := wd_lt A j
  rw [h1, hB j hij (Nat.le_refl _)] at h2
  omega

/-- The words of what is turned. -/
theorem wd_turn (Y k j : Nat) (hY : Y < 18446744073709551616 ^ k) (hj : j < k) : wd (18446744073709551616 ^ k - 1 - Y) j = 18446744073709551615 - wd Y j := by
  have key : ∀ i, i ≤ k → (18446744073709551616 ^ k - 1 - Y) % 18446744073709551616 ^ i = 18446744073709551616 ^ i - 1 - Y % 18446744073709551616 ^ i := by
    intro i hi
    obtain ⟨d, rfl⟩ : ∃ d, k = i + d := ⟨k - i, by omega⟩
    have h1 := Nat.mod_add_div Y (18446744073709551616 ^ i)
    have h2 := mod_lt Y i
    have h3 : Y / 18446744073709551616 ^ i < 18446744073709551616 ^ d := by
      rw [Nat.div_lt_iff_lt_mul (pw_pos i), Nat.mul_comm, ← Nat.pow_add]; exact hY
    obtain ⟨z, hz⟩ : ∃ z, 18446744073709551616 ^ d = Y / 18446744073709551616 ^ i + z + 1 := ⟨18446744073709551616 ^ d - (Y / 18446744073709551616 ^ i + 1), by omega⟩
    have e : 18446744073709551616 ^ (i + d) - 1 - Y = (18446744073709551616 ^ i - 1 - Y % 18446744073709551616 ^ i) + 18446744073709551616 ^ i * z := by
      rw [Nat.pow_add, hz, Nat.mul_add, Nat.mul_add, Nat.mul_one]
      omega
    rw [e, Nat.add_mul_mod_self_left, Nat.mod_eq_of_lt (by omega)]
  have k0 := key j (by omega)
  have k1 := key (j + 1) (by omega)
  rw [mod_succ, k0, mod_succ Y] at k1
  have h2 := mod_lt Y j
  have h4 := wd_lt Y j
  rw [pw_succ] at k1
  have h5 : 18446744073709551616 ^ j * wd (18446744073709551616 ^ k - 1 - Y) j = 18446744073709551616 ^ j * (18446744073709551615 - wd Y j) := by
    rw [Nat.mul_sub]
    have : 18446744073709551616 ^ j * wd Y j ≤ 18446744073709551616 ^ j * 18446744073709551615 := Nat.mul_le_mul_left _ (by omega)
    omega
  exact Nat.eq_of_mul_eq_mul_left (pw_pos j) h5

/-- A whole number in n words, one below nought as its two's complement. -/
def tc (n : Nat) (Z : Int) : Nat := (Z % ((18446744073709551616 ^ n : Nat) : Int)).toNat

theorem tc_cast (n : Nat) (Z : Int) : ((tc n Z : Nat) : Int) = Z % ((18446744073709551616 ^ n : Nat) : Int) := by
  unfold tc
  exact Int.toNat_of_nonneg (Int.emod_nonneg _ (by have := pw_pos n; omega))
theorem tc_lt (n : Nat) (Z : Int) : tc n Z < 18446744073709551616 ^ n := by
  have h := tc_cast n Z
  have h1 := Int.emod_lt_of_pos Z (show (0 : Int) < ((18446744073709551616 ^ n : Nat) : Int) from by have := pw_pos n; omega)
  omega
theorem tc_nat (n N : Nat) (h : N < 18446744073709551616 ^ n) : tc n (N : Int) = N := by
  have h1 := tc_cast n (N : Int)
  rw [Int.emod_eq_of_lt (by omega) (by omega)] at h1
  omega
theorem tc_of {n N : Nat} {Z q : Int} (h : N < 18446744073709551616 ^ n) (e : (N : Int) = Z + ((18446744073709551616 ^ n : Nat) : Int) * q) : tc n Z = N := by
  have h1 := tc_cast n Z
  have h2 : (N : Int) % ((18446744073709551616 ^ n : Nat) : Int) = Z % ((18446744073709551616 ^ n : Nat) : Int) := by
    rw [e, Int.add_mul_emod_self_left]
  rw [Int.emod_eq_of_lt (by omega) (by omega)] at h2
  omega
theorem tc_quo (n : Nat) (Z : Int) : ∃ q : Int, ((tc n Z : Nat) : Int) = Z + ((18446744073709551616 ^ n : Nat) : Int) * q :=
  ⟨-(Z / ((18446744073709551616 ^ n : Nat) : Int)), by rw [tc_cast, Int.mul_neg]; have := Int.emod_add_mul_ediv Z ((18446744073709551616 ^ n : Nat) : Int); omega⟩

/-- Sums from word s on. -/
theorem tc_from (s k : Nat) (Z D : Int) (R : Nat) (hR : R = tc k (((tc (s + k) Z / 18446744073709551616 ^ s : Nat) : Int) + D)) :
    tc (s + k) (Z + D * ((18446744073709551616 ^ s : Nat) : Int)) = tc (s + k) Z % 18446744073709551616 ^ s + 18446744073709551616 ^ s * R := by
  obtain ⟨q, hq⟩ := tc_quo (s + k) Z
  obtain ⟨q', hq'⟩ := tc_quo k (((tc (s + k) Z / 18446744073709551616 ^ s : Nat) : Int) + D)
  rw [← hR] at hq'
  have hRl : R < 18446744073709551616 ^ k := by rw [hR]; exact tc_lt _ _
  have hdm := Nat.mod_add_div (tc (s + k) Z) (18446744073709551616 ^ s)
  have hml := mod_lt (tc (s + k) Z) s
  generalize tc (s + k) Z = N at *
  refine tc_of (q := q + q') ?_ ?_
  · have h1 : 18446744073709551616 ^ s * (R + 1) ≤ 18446744073709551616 ^ s * 18446744073709551616 ^ k := Nat.mul_le_mul_left _ hRl
    rw [Nat.pow_add]
    rw [Nat.mul_add, Nat.mul_one] at h1
    omega
  · generalize N % 18446744073709551616 ^ s = a at *
    generalize N / 18446744073709551616 ^ s = b at *
    rw [Nat.pow_add] at hq ⊢
    generalize 18446744073709551616 ^ s = S at *
    generalize 18446744073709551616 ^ k = K at *
    subst hdm
    rw [Int.natCast_add, Int.natCast_mul, hq', Int.natCast_mul] at *
    simp only [Int.mul_add, Int.add_mul] at *
    have e1 : (S : Int) * ((K : Int) * q') = (S : Int) * (K : Int) * q' := (Int.mul_assoc _ _ _).symm
    have e2 : (S : Int) * D = D * (S : Int) := Int.mul_comm _ _
    omega

/-- What is added for Q, or, turned, for -Q. -/
def sm (neg : Bool) (Q k : Nat) : Nat := if neg then 18446744073709551616 ^ k - 1 - Q % 18446744073709551616 ^ k else Q % 18446744073709551616 ^ k
def sgn (neg : Bool) (Q : Nat) : Int := if neg then -(Q : Int) else (Q : Int)
def c0 (neg : Bool) : Nat := if neg then 1 else 0

theorem sm_tc (A Q k : Nat) (neg : Bool) : (A + sm neg Q k + c0 neg) % 18446744073709551616 ^ k = tc k ((A : Int) + sgn neg Q) := by
  have hdm := Nat.mod_add_div (A + sm neg Q k + c0 neg) (18446744073709551616 ^ k)
  have hql := mod_lt Q k
  have hqd := Nat.mod_add_div Q (18446744073709551616 ^ k)
  symm
  cases neg with
  | false =>
    refine tc_of (q := -(((A + sm false Q k + c0 false) / 18446744073709551616 ^ k : Nat) : Int) - ((Q / 18446744073709551616 ^ k : Nat) : Int)) (mod_lt _ _) ?_
    simp only [sm, sgn, c0, if_false, Bool.false_eq_true] at *
    generalize (A + Q % 18446744073709551616 ^ k + 0) / 18446744073709551616 ^ k = x at *
    generalize (A + Q % 18446744073709551616 ^ k + 0) % 18446744073709551616 ^ k = y at *
    generalize Q % 18446744073709551616 ^ k = z at *
    generalize Q / 18446744073709551616 ^ k = t at *
    generalize 18446744073709551616 ^ k = K at *
    simp only [Int.mul_sub, Int.mul_neg, ← Int.natCast_mul]
    omega
  | true =>
    refine tc_of (q := 1 - (((A + sm true Q k + c0 true) / 18446744073709551616 ^ k : Nat) : Int) + ((Q / 18446744073709551616 ^ k : Nat) : Int)) (mod_lt _ _) ?_
    simp only [sm, sgn, c0, if_true] at *
    have hp := pw_pos k
    generalize 18446744073709551616 ^ k = K at *
    generalize (A + (K - 1 - Q % K) + 1) / K = x at *
    generalize (A + (K - 1 - Q % K) + 1) % K = y at *
    generalize Q % K = z at *
    generalize Q / K = t at *
    simp only [Int.mul_sub, Int.mul_add, Int.mul_neg, ← Int.natCast_mul, Int.mul_one]
    omega

theorem wd_sm (neg : Bool) (Q k j : Nat) (hj : j < k) : wd (sm neg Q k) j = if neg then 18446744073709551615 - wd Q j else wd Q j := by
  cases neg with
  | false => simp only [sm, if_false, Bool.false_eq_true]; exact wd_mod Q hj
  | true => simp only [sm, if_true]; rw [wd_turn _ _ _ (mod_lt Q k) hj, wd_mod Q hj]

end W6
end M
end Go.Proofs.YtolaaemkcmiabaaDoor

/- Words of 64 bits: Add64, Mul64, signWords, once, laid. -/
namespace Go.Proofs.YtolaaemkcmiabaaDoor
open Go.RowKit
open M
set_option linter.unusedVariables false
set_option linter.unusedSimpArgs false

theorem add64_run (x y c : Nat) (hc : c ≤ 1) (w : World) :
    (callFunc 31 #[.int .u64 x, .int .u64 y, .int .u64 c]).run Tryd.prog w =
      .ok (.value (.tuple #[.int .u64 (((x + y + c) % 18446744073709551616 : Nat) : Int), .int .u64 (((x + y + c) / 18446744073709551616 : Nat) : Int)])) w := by
  rw [run_callFunc_extern Tryd.func31 (by kernel_rfl) (by kernel_rfl) (by kernel_rfl) (e := add64Entry) (by kernel_rfl), run_add64 x y c (by omega) (by omega) (by omega) (by omega)]
  simp only [Result.andThen]
  congr 5 <;> omega

theorem m64_mask (a : Nat) (ha : a < 18446744073709551616) : bits .and .u64 (a : Int) 4294967295 = ((a % 4294967296 : Nat) : Int) := by
  have h := bits_and_u64_nat a 4294967295 ha (by omega)
  have e : a &&& 4294967295 = a % 4294967296 := Nat.and_two_pow_sub_one_eq_mod a 32
  rw [e] at h
  exact h
theorem m64_div (a : Nat) : (a : Int) / 4294967296 = ((a / 4294967296 : Nat) : Int) := by omega
theorem m64_mul (a b : Nat) : (a : Int) * (b : Int) = ((a * b : Nat) : Int) := (Int.natCast_mul a b).symm
theorem m64_add (a b : Nat) : (a : Int) + (b : Int) = ((a + b : Nat) : Int) := (Int.natCast_add a b).symm
theorem m64_wrap (a : Nat) (ha : a < 18446744073709551616) : IntKind.u64.wrap (a : Int) = (a : Int) := by rw [IntKind.wrap_u64]; omega
theorem m64_cut (a : Nat) : IntKind.u64.wrap (a : Int) = ((a % 18446744073709551616 : Nat) : Int) := by rw [IntKind.wrap_u64]; omega

set_option maxHeartbeats 1000000 in
theorem Mul64_any (x y : Nat) (hx : x < 18446744073709551616) (hy : y < 18446744073709551616) (w : World) :
    Calls Tryd.prog 52 #[.int .u64 x, .int .u64 y] w fun e w' => e = .returned (.tuple #[.int .u64 ((x * y / 18446744073709551616 : Nat) : Int), .int .u64 ((x * y % 18446744073709551616 : Nat) : Int)]) ∧ w' = w := by
  obtain ⟨bd, bt, bw, hhi⟩ := Lib.mul64_hi x y hx hy
  have ba := Lib.half_mul_le (a := x / 4294967296) (b := y / 4294967296) (by omega) (by omega)
  have bb := Lib.half_mul_le (a := x / 4294967296) (b := y % 4294967296) (by omega) (by omega)
  have bc := Lib.half_mul_le (a := x % 4294967296) (b := y / 4294967296) (by omega) (by omega)
  have ba' : x / 4294967296 * (y / 4294967296) < 18446744073709551616 := by omega
  have bb' : x / 4294967296 * (y % 4294967296) < 18446744073709551616 := by omega
  have bc' : x % 4294967296 * (y / 4294967296) < 18446744073709551616 := by omega
  have bh1 : x / 4294967296 * (y / 4294967296) + (x / 4294967296 * (y % 4294967296) + x % 4294967296 * (y % 4294967296) / 4294967296) / 4294967296 < 18446744073709551616 := by omega
  have bh : x / 4294967296 * (y / 4294967296) + (x / 4294967296 * (y % 4294967296) + x % 4294967296 * (y % 4294967296) / 4294967296) / 4294967296 + ((x / 4294967296 * (y % 4294967296) + x % 4294967296 * (y % 4294967296) / 4294967296) % 4294967296 + x % 4294967296 * (y / 4294967296)) / 4294967296 < 18446744073709551616 := by omega
  go_enter Tryd.func52, Tryd.ntmps52
  go_wp2_with fail
  simp only [m64_mask x hx, m64_mask y hy, m64_div, m64_mul, m64_add, m64_wrap _ bd, m64_wrap _ bb', m64_wrap _ bt, m64_mask _ bt, m64_wrap _ bc', m64_wrap _ bw, m64_wrap _ ba', m64_wrap _ bh1, m64_wrap _ bh, m64_cut (x * y)]
  rw [hhi]
  go_ret2
  exact ⟨rfl, rfl⟩

/-- What words are turned by. -/
def flp (neg : Bool) : Nat := if neg then 18446744073709551615 else 0

theorem signWords_any (neg : Bool) (w : World) : Calls Tryd.prog 29 #[.bool neg] w fun e w' => e = .returned (.tuple #[.int .u64 (flp neg : Nat), .int .u64 (W6.c0 neg : Nat)]) ∧ w' = w := by
  cases neg
  all_goals
    go_enter Tryd.func29, Tryd.ntmps29
    go_wp2_with fail
    go_ret2
    exact ⟨rfl, rfl⟩

theorem laid_words (P up : Nat) (hup : up < 64) :
    W6.wd (P * 2 ^ up) 0 = P % 18446744073709551616 * 2 ^ up % 18446744073709551616 ∧
    W6.wd (P * 2 ^ up) 1 = P / 18446744073709551616 * 2 ^ up % 18446744073709551616 + P % 18446744073709551616 / 2 ^ (64 - up) ∧
    P / 18446744073709551616 * 2 ^ up % 18446744073709551616 % 2 ^ up = 0 ∧ P % 18446744073709551616 / 2 ^ (64 - up) < 2 ^ up ∧
    (P < 18446744073709551616 * 18446744073709551616 → W6.wd (P * 2 ^ up) 2 = P / 18446744073709551616 / 2 ^ (64 - up)) := by
  have hW : (18446744073709551616 : Nat) = 2 ^ up * 2 ^ (64 - up) := by rw [← Nat.pow_add, show up + (64 - up) = 64 from by omega]
  have hU := Nat.two_pow_pos up
  have hD := Nat.two_pow_pos (64 - up)
  have hdm := Nat.mod_add_div P 18446744073709551616
  have hl : P % 18446744073709551616 < 18446744073709551616 := Nat.mod_lt _ (by omega)
  have hh : P < 18446744073709551616 * 18446744073709551616 → P / 18446744073709551616 < 18446744073709551616 := fun h => by omega
  generalize P % 18446744073709551616 = l at *
  generalize P / 18446744073709551616 = h at *
  generalize 2 ^ up = U at *
  generalize 2 ^ (64 - up) = D at *
  have e1 : l * U / 18446744073709551616 = l / D := by rw [hW, Nat.mul_comm l U]; exact Nat.mul_div_mul_left _ _ hU
  have e2 : h * U / 18446744073709551616 = h / D := by rw [hW, Nat.mul_comm h U]; exact Nat.mul_div_mul_left _ _ hU
  have hr : l / D < U := by rw [Nat.div_lt_iff_lt_mul hD]; omega
  have hmu : h * U % 18446744073709551616 % U = 0 := by
    rw [hW, Nat.mod_mul_right_mod]; exact Nat.mul_mod_left _ _
  have hsum : h * U % 18446744073709551616 + l / D < 18446744073709551616 := by
    have h1 : h * U % 18446744073709551616 < 18446744073709551616 := Nat.mod_lt _ (by omega)
    have h2 := Nat.mod_add_div (h * U % 18446744073709551616) U
    rw [hmu] at h2
    have h3 : h * U % 18446744073709551616 / U < D := by
      rw [Nat.div_lt_iff_lt_mul hU, Nat.mul_comm D U]; omega
    have h4 : U * (h * U % 18446744073709551616 / U + 1) ≤ U * D := Nat.mul_le_mul_left _ h3
    rw [Nat.mul_add, Nat.mul_one] at h4
    omega
  have hQ : P * U = l * U + 18446744073709551616 * (h * U) := by rw [← hdm, Nat.add_mul, Nat.mul_assoc]
  have hq1 : P * U / 18446744073709551616 = l / D + h * U := by rw [hQ, Nat.add_mul_div_left _ _ (by omega), e1]
  refine ⟨?_, ?_, hmu, hr, fun hP => ?_⟩
  · unfold W6.wd
    rw [Nat.pow_zero, Nat.div_one, hQ, Nat.add_mul_mod_self_left]
  · unfold W6.wd
    rw [Nat.pow_one, hq1]
    omega
  · unfold W6.wd
    have h5 := hh hP
    have h6 : h / D < 18446744073709551616 := Nat.lt_of_le_of_lt (Nat.div_le_self _ _) h5
    rw [show (18446744073709551616 : Nat) ^ 2 = 18446744073709551616 * 18446744073709551616 from rfl, ← Nat.div_div_eq_div_mul, hq1]
    omega

end Go.Proofs.YtolaaemkcmiabaaDoor

namespace Go.Proofs.YtolaaemkcmiabaaDoor
open Go.RowKit
open M
set_option linter.unusedVariables false
set_option linter.unusedSimpArgs false

/-- Three cells of one's own. -/
theorem three_put {w1 : World} {h : Nat} {a b c x y z : Value} (c0 : w1.cell? ⟨h, 0, none⟩ = some x) (c1 : w1.cell? ⟨h, 1, none⟩ = some y) (c2 : w1.cell? ⟨h, 2, none⟩ = some z) :
    (((w1.setCell ⟨h, 0, none⟩ a).setCell ⟨h, 1, none⟩ b).setCell ⟨h, 2, none⟩ c).cell? ⟨h, 0, none⟩ = some a ∧ (((w1.setCell ⟨h, 0, none⟩ a).setCell ⟨h, 1, none⟩ b).setCell ⟨h, 2, none⟩ c).cell? ⟨h, 1, none⟩ = some b ∧ (((w1.setCell ⟨h, 0, none⟩ a).setCell ⟨h, 1, none⟩ b).setCell ⟨h, 2, none⟩ c).cell? ⟨h, 2, none⟩ = some c ∧
    (∀ D (w : World), D ≤ h → Below D w w1 → Below D w (((w1.setCell ⟨h, 0, none⟩ a).setCell ⟨h, 1, none⟩ b).setCell ⟨h, 2, none⟩ c)) := by
  have e1 : (w1.setCell ⟨h, 0, none⟩ a).cell? ⟨h, 1, none⟩ = some y := by rw [cell_setCell_ne _ _ _ _ _ (by omega)]; exact c1
  have e2 : ((w1.setCell ⟨h, 0, none⟩ a).setCell ⟨h, 1, none⟩ b).cell? ⟨h, 2, none⟩ = some z := by rw [cell_setCell_ne _ _ _ _ _ (by omega), cell_setCell_ne _ _ _ _ _ (by omega)]; exact c2
  refine ⟨?_, ?_, cell_setCell_eq _ _ _ _ _ e2, fun D w hD hb => ((hb.setCell hD _).setCell hD _).setCell hD _⟩
  · rw [cell_setCell_ne _ _ _ _ _ (by omega), cell_setCell_ne _ _ _ _ _ (by omega)]; exact cell_setCell_eq _ _ _ _ _ c0
  · rw [cell_setCell_ne _ _ _ _ _ (by omega)]; exact cell_setCell_eq _ _ _ _ _ e1

/-- A part of a sum. -/
def prt (neg : Bool) (m at_ : Nat) : Value := .agg #[.bool neg, .int .u64 (m : Nat), .int .i64 (at_ : Nat)]

set_option maxRecDepth 100000 in
theorem once_any (w : World) : Calls Tryd.prog 15 #[] w fun e w' => e = .returned (prt false 1 0) ∧ Below w.heap.size w w' := by
  go_enter Tryd.func15, Tryd.ntmps15
  go_wp2_with fail
  refine bodyPost_ret (v := prt false 1 0) (by simp [results, Tryd.results15, go_sem, prt]) rfl ⟨rfl, ?_⟩
  exact (Below.refl _ w).alloc (Nat.le_refl _) _

theorem or_words (a b n : Nat) (hb : b < 2 ^ n) (hn : n < 64) (hm : a % 2 ^ n = 0) (ha : a < 18446744073709551616) (hs : a + b < 18446744073709551616) :
    bits BinOp.or IntKind.u64 (a : Int) (b : Int) = ((a + b : Nat) : Int) := by
  rw [u64_or _ _ (by omega) (by omega) (by omega) (by omega)]
  simp only [Int.toNat_natCast]
  rw [nat_join n a b hm hb]

set_option maxRecDepth 100000 in
set_option maxHeartbeats 4000000 in
theorem laid_any (x y up : Nat) (hx : x < 18446744073709551616) (hy : y < 18446744073709551616) (hup : up < 64) (w : World) :
    Calls Tryd.prog 30 #[.int .u64 x, .int .u64 y, .int .i64 up] w fun e w' => e = .returned (.agg #[.int .u64 (W6.wd (x * y * 2 ^ up) 0 : Nat), .int .u64 (W6.wd (x * y * 2 ^ up) 1 : Nat), .int .u64 (W6.wd (x * y * 2 ^ up) 2 : Nat)]) ∧ Below w.heap.size w w' := by
  have HM : Hid (∀ w : World, Calls Tryd.prog 52 #[.int .u64 x, .int .u64 y] w fun e w' => e = .returned (.tuple #[.int .u64 ((x * y / 18446744073709551616 : Nat) : Int), .int .u64 ((x * y % 18446744073709551616 : Nat) : Int)]) ∧ w' = w) := Mul64_any x y hx hy
  have hP : x * y < 18446744073709551616 * 18446744073709551616 := by
    refine Nat.lt_of_le_of_lt (Nat.mul_le_mul_left x (Nat.le_of_lt hy)) ?_
    exact Nat.mul_lt_mul_of_pos_right hx (by omega)
  obtain ⟨l0, l1, l2, l3, l4⟩ := laid_words (x * y) up hup
  replace l4 := l4 hP
  have hl : x * y % 18446744073709551616 < 18446744073709551616 := Nat.mod_lt _ (by omega)
  have hh : x * y / 18446744073709551616 < 18446744073709551616 := by omega
  have hs := W6.wd_lt (x * y * 2 ^ up) 1
  rw [l1] at hs
  rw [l0, l1, l4]
  clear l0 l1 l4 hP
  generalize x * y % 18446744073709551616 = l at *
  generalize x * y / 18446744073709551616 = h at *
  clear hx hy
  go_enter Tryd.func30, Tryd.ntmps30
  go_wp2_with fail
  refine (HM.out _).mono ?_
  rintro e w1 ⟨rfl, rfl⟩
  clear HM
  go_wp2_with fail
  go_region
  have e0 : IntKind.u64.wrap ((l : Int) * 2 ^ up) = ((l * 2 ^ up % 18446744073709551616 : Nat) : Int) := by rw [← m64_cut]; simp
  have e1 : IntKind.u64.wrap ((h : Int) * 2 ^ up) = ((h * 2 ^ up % 18446744073709551616 : Nat) : Int) := by rw [← m64_cut]; simp
  have e2 : ((l : Int) / 2 ^ (64 - up)) = ((l / 2 ^ (64 - up) : Nat) : Int) := by simp
  have e3 : ((h : Int) / 2 ^ (64 - up)) = ((h / 2 ^ (64 - up) : Nat) : Int) := by simp
  rw [e0, e1, e2, e3, or_words _ _ up l3 hup l2 (Nat.mod_lt _ (by omega)) hs]
  go_wp2_with fail
  refine bodyPost_ret (v := .agg #[.int .u64 (l * 2 ^ up % 18446744073709551616 : Nat), .int .u64 (h * 2 ^ up % 18446744073709551616 + l / 2 ^ (64 - up) : Nat), .int .u64 (h / 2 ^ (64 - up) : Nat)]) (by simp [results, Tryd.results30, go_sem]) rfl ⟨rfl, ?_⟩
  exact ((Below.refl _ w).alloc (Nat.le_refl _) _).drew

end Go.Proofs.YtolaaemkcmiabaaDoor
