/- Lehmer's rows: the mathematics. -/
import Derived.Test.YtfbkdjghbgdgpabA
namespace Go.Proofs.Ytfbkdjghbgdgpab
open M
set_option linter.unusedVariables false

structure Lem (X Y K : Nat) (sg : Int) (a b c d x y : Nat) : Prop where
  kpos : 0 < K
  sgn : sg = 1 ∨ sg = -1
  hx : X / K = d * x + b * y
  hy : Y / K = c * x + a * y
  det : (a : Int) * d - b * c = sg
  dpos : 1 ≤ d
  bd : b ≤ d
  cd : c ≤ d
  ad : a ≤ d
  sum : a + c ≤ b + d
  old : (b = 0 ∧ c = 0 ∧ d = 1 ∧ a = 1 ∧ sg = 1) ∨ (1 ≤ b ∧ sg * (a * X - b * Y) ≤ Y)
  gcd : Int.gcd (sg * (a * X - b * Y)) (sg * (d * Y - c * X)) = Nat.gcd X Y

theorem Lem.start {X Y K : Nat} (hK : 0 < K) : Lem X Y K 1 1 0 0 1 (X / K) (Y / K) := by
  refine ⟨hK, .inl rfl, by simp, by simp, by simp, by omega, by omega, by omega, by omega, by omega, .inl (by simp), ?_⟩
  simp [Int.gcd]

theorem Lem.collins {X Y K : Nat} {sg : Int} {a b c d x y : Nat} (h : Lem X Y K sg a b c d x y) (h1 : d ≤ y) (h2 : y + (b + d) ≤ x) :
    0 ≤ sg * (d * Y - c * X) ∧ sg * ((d : Int) * Y - c * X) < sg * (a * X - b * Y) := by
  obtain ⟨hK, hs, hx, hy, hdet, hd, hbd, hcd, had, hsum, _, _⟩ := h
  have eX := Nat.div_add_mod X K
  have eY := Nat.div_add_mod Y K
  have lX := Nat.mod_lt X hK
  have lY := Nat.mod_lt Y hK
  generalize X % K = x' at *
  generalize Y % K = y' at *
  rw [hx] at eX
  rw [hy] at eY
  have eX' : (X : Int) = K * (d * x + b * y) + x' := by rw [← eX]; simp
  have eY' : (Y : Int) = K * (c * x + a * y) + y' := by rw [← eY]; simp
  -- the two remainders
  have e1 : (a : Int) * X - b * Y = K * x * (a * d - b * c) + (a * x' - b * y') := by rw [eX', eY']; grind
  have e2 : (d : Int) * Y - c * X = K * y * (a * d - b * c) + (d * y' - c * x') := by rw [eX', eY']; grind
  rw [hdet] at e1 e2
  rw [e1, e2]
  have b1 : (d : Int) * y' ≤ d * (K - 1) := Int.mul_le_mul_of_nonneg_left (by omega) (by omega)
  have b2 : (c : Int) * x' ≤ d * (K - 1) := Int.le_trans (Int.mul_le_mul_of_nonneg_left (by omega : (x' : Int) ≤ K - 1) (by omega)) (Int.mul_le_mul_of_nonneg_right (by omega) (by omega))
  have b3 : (0 : Int) ≤ d * y' := Int.mul_nonneg (by omega) (by omega)
  have b4 : (0 : Int) ≤ c * x' := Int.mul_nonneg (by omega) (by omega)
  have b5 : (0 : Int) ≤ (y - d) * K := Int.mul_nonneg (by omega) (by omega)
  have b6 : (0 : Int) ≤ (x - y - (b + d)) * K := Int.mul_nonneg (by omega) (by omega)
  have b7 : ((b : Int) + d) * y' ≤ (b + d) * (K - 1) := Int.mul_le_mul_of_nonneg_left (by omega) (by omega)
  have b8 : ((a : Int) + c) * x' ≤ (b + d) * (K - 1) := Int.le_trans (Int.mul_le_mul_of_nonneg_left (by omega : (x' : Int) ≤ K - 1) (by omega)) (Int.mul_le_mul_of_nonneg_right (by omega) (by omega))
  have b9 : (0 : Int) ≤ (b + d) * y' := Int.mul_nonneg (by omega) (by omega)
  have b10 : (0 : Int) ≤ (a + c) * x' := Int.mul_nonneg (by omega) (by omega)
  rcases hs with rfl | rfl <;> constructor <;> grind

theorem Lem.next {X Y K : Nat} {sg : Int} {a b c d x y : Nat} (h : Lem X Y K sg a b c d x y) (h1 : d ≤ y) (h2 : y + (b + d) ≤ x) :
    Lem X Y K (-sg) c d (a + x / y * c) (b + x / y * d) y (x % y) := by
  have hc := h.collins h1 h2
  obtain ⟨hK, hs, hx, hy, hdet, hd, hbd, hcd, had, hsum, hold, hg⟩ := h
  have hy0 : 0 < y := by omega
  have hq : 1 ≤ x / y := (Nat.one_le_div_iff hy0).2 (by omega)
  have ex := Nat.div_add_mod x y
  generalize x / y = q at *
  generalize x % y = r at *
  have hqc : c ≤ q * c := Nat.le_mul_of_pos_left _ hq
  have hqd : d ≤ q * d := Nat.le_mul_of_pos_left _ hq
  have hqcd : q * c ≤ q * d := Nat.mul_le_mul_left _ hcd
  obtain ⟨q', rfl⟩ : ∃ q', q = q' + 1 := ⟨q - 1, by omega⟩
  have hq2 : (q' + 1) * c = q' * c + c := Nat.succ_mul _ _
  have hq3 : (q' + 1) * d = q' * d + d := Nat.succ_mul _ _
  have hq4 : q' * c ≤ q' * d := Nat.mul_le_mul_left _ hcd
  refine ⟨hK, by rcases hs with rfl | rfl <;> simp, ?_, ?_, ?_, by omega, by omega, by omega, by omega, by omega, .inr ⟨hd, ?_⟩, ?_⟩
  · rw [hx, ← ex]; grind
  · rw [hy, ← ex]; grind
  · rw [← hdet]; push_cast; grind
  · have e : -sg * ((c : Int) * X - d * Y) = sg * (d * Y - c * X) := by grind
    rw [e]
    rcases hold with ⟨rfl, rfl, rfl, rfl, rfl⟩ | ⟨_, h3⟩
    · simp
    · omega
  · have e : -sg * ((c : Int) * X - d * Y) = sg * (d * Y - c * X) := by grind
    rw [e]
    have e2 : -sg * (((b + (q' + 1) * d : Nat) : Int) * Y - ((a + (q' + 1) * c : Nat) : Int) * X) = sg * (a * X - b * Y) - sg * (d * Y - c * X) * ((q' + 1 : Nat) : Int) := by push_cast; grind
    rw [e2, Int.gcd_sub_mul_left_right, Int.gcd_comm]
    exact hg

theorem Lem.bound {X Y K : Nat} {sg : Int} {a b c d x y : Nat} (h : Lem X Y K sg a b c d x y) (h1 : d ≤ y) (h2 : y + (b + d) ≤ x) (hX : X / K < 4611686018427387904) : d < 2147483648 := by
  obtain ⟨hK, hs, hx, hy, hdet, hd, hbd, hcd, had, hsum, hold, hg⟩ := h
  have h3 : d * d ≤ d * x := Nat.mul_le_mul_left _ (by omega)
  refine Decidable.byContradiction fun hn => ?_
  have h4 : 2147483648 * 2147483648 ≤ d * d := Nat.mul_le_mul (by omega) (by omega)
  omega

/-- Factors of opposite signs, below 2^31. -/
def Opp (u v : Int) : Prop := (0 ≤ u ∧ v ≤ 0 ∨ u ≤ 0 ∧ 0 ≤ v) ∧ -2147483648 < u ∧ u < 2147483648 ∧ -2147483648 < v ∧ v < 2147483648

/-- What two told rows make of X and Y. -/
def Good (X Y : Nat) (fu fv su sv : Int) : Prop := Opp fu fv ∧ Opp su sv ∧ ∃ P Q : Nat, fu * X + fv * Y = P ∧ su * X + sv * Y = Q ∧ Q < P ∧ P ≤ Y ∧ Nat.gcd P Q = Nat.gcd X Y

theorem Lem.good {X Y K : Nat} {sg : Int} {a b c d x y : Nat} (h : Lem X Y K sg a b c d x y) (h1 : d ≤ y) (h2 : y + (b + d) ≤ x) (hX : X / K < 4611686018427387904) (hb : b ≠ 0) :
    Good X Y (sg * a) (-sg * b) (-sg * c) (sg * d) := by
  have hc := h.collins h1 h2
  have hbd := h.bound h1 h2 hX
  obtain ⟨hK, hs, hx, hy, hdet, hd, hbd, hcd, had, hsum, hold, hg⟩ := h
  rcases hold with ⟨rfl, _⟩ | ⟨_, h3⟩
  · exact absurd rfl hb
  refine ⟨?_, ?_, (sg * (a * X - b * Y)).toNat, (sg * (d * Y - c * X)).toNat, ?_, ?_, by omega, by omega, ?_⟩
  · rcases hs with rfl | rfl
    · exact ⟨.inl (by omega), by omega, by omega, by omega, by omega⟩
    · exact ⟨.inr (by omega), by omega, by omega, by omega, by omega⟩
  · rcases hs with rfl | rfl
    · exact ⟨.inr (by omega), by omega, by omega, by omega, by omega⟩
    · exact ⟨.inl (by omega), by omega, by omega, by omega, by omega⟩
  · rw [Int.toNat_of_nonneg (by omega)]; grind
  · rw [Int.toNat_of_nonneg (by omega)]; grind
  · rw [← hg, Int.gcd]
    congr 1 <;> omega

/-- mix's carry. -/
def mxC (u v : Int) (X Y i : Nat) : Int := (u * (X % 4294967296 ^ i : Nat) + v * (Y % 4294967296 ^ i : Nat)) / ((4294967296 ^ i : Nat) : Int)

theorem mxC_zero (u v : Int) (X Y : Nat) : mxC u v X Y 0 = 0 := by simp [mxC, Nat.mod_one]

theorem mxC_le {u v : Int} (h : Opp u v) (X Y i : Nat) : -2147483648 ≤ mxC u v X Y i ∧ mxC u v X Y i < 2147483648 := by
  have hp : 0 < 4294967296 ^ i := Nat.pow_pos (by omega)
  have hX : X % 4294967296 ^ i < 4294967296 ^ i := Nat.mod_lt _ hp
  have hY : Y % 4294967296 ^ i < 4294967296 ^ i := Nat.mod_lt _ hp
  unfold mxC
  generalize X % 4294967296 ^ i = x at *
  generalize Y % 4294967296 ^ i = y at *
  generalize 4294967296 ^ i = B at *
  obtain ⟨hs, h1, h2, h3, h4⟩ := h
  have hB : (0 : Int) < B := by omega
  have key : ∀ (p : Int) (q : Nat), 0 ≤ p → p < 2147483648 → q < B → 0 ≤ p * q ∧ p * q < 2147483648 * B := fun p q hp0 hp1 hq => by
    refine ⟨Int.mul_nonneg hp0 (by omega), ?_⟩
    have := Int.mul_le_mul (show p ≤ 2147483647 by omega) (show (q : Int) ≤ B by omega) (by omega) (by omega)
    omega
  rcases hs with ⟨hu, hv⟩ | ⟨hu, hv⟩
  · have k1 := key u x hu h2 hX
    have k2 := key (-v) y (by omega) (by omega) hY
    rw [Int.neg_mul] at k2
    refine ⟨(Int.le_ediv_iff_mul_le hB).2 (by omega), Int.ediv_lt_of_lt_mul hB (by omega)⟩
  · have k1 := key (-u) x (by omega) (by omega) hX
    have k2 := key v y (by omega) (by omega) hY
    rw [Int.neg_mul] at k1
    refine ⟨(Int.le_ediv_iff_mul_le hB).2 (by omega), Int.ediv_lt_of_lt_mul hB (by omega)⟩

theorem mx_room {u v : Int} (h : Opp u v) (x y : Nat) (hx : x ≤ 4294967295) (hy : y ≤ 4294967295) (c : Int) (hc : -2147483648 ≤ c ∧ c < 2147483648) :
    (-9223372036854775808 ≤ u * x ∧ u * x < 9223372036854775808) ∧ (-9223372036854775808 ≤ v * y ∧ v * y < 9223372036854775808) ∧ (-9223372036854775808 ≤ u * x + v * y ∧ u * x + v * y < 9223372036854775808) ∧ -9223372036854775808 ≤ c + (u * x + v * y) ∧ c + (u * x + v * y) < 9223372036854775808 := by
  obtain ⟨hs, h1, h2, h3, h4⟩ := h
  have key : ∀ (p : Int) (q : Nat), 0 ≤ p → p < 2147483648 → q ≤ 4294967295 → 0 ≤ p * q ∧ p * q ≤ 2147483647 * 4294967295 := fun p q hp0 hp1 hq => by
    refine ⟨Int.mul_nonneg hp0 (by omega), ?_⟩
    exact Int.mul_le_mul (show p ≤ 2147483647 by omega) (show (q : Int) ≤ 4294967295 by omega) (by omega) (by omega)
  rcases hs with ⟨hu, hv⟩ | ⟨hu, hv⟩
  · have k1 := key u x hu h2 hx
    have k2 := key (-v) y (by omega) (by omega) hy
    rw [Int.neg_mul] at k2
    omega
  · have k1 := key (-u) x (by omega) (by omega) hx
    have k2 := key v y (by omega) (by omega) hy
    rw [Int.neg_mul] at k1
    omega

theorem mx_step (u v : Int) (X Y P i : Nat) (hP : u * X + v * Y = P) :
    (mxC u v X Y i + (u * (dg X i : Nat) + v * (dg Y i : Nat))) % 4294967296 = (dg P i : Nat) ∧
    (mxC u v X Y i + (u * (dg X i : Nat) + v * (dg Y i : Nat))) / 4294967296 = mxC u v X Y (i + 1) := by
  have hp : (0 : Int) < ((4294967296 ^ i : Nat) : Int) := by have : 0 < 4294967296 ^ i := Nat.pow_pos (by omega); omega
  have e : mxC u v X Y i + (u * (dg X i : Nat) + v * (dg Y i : Nat)) = (u * (X % 4294967296 ^ (i + 1) : Nat) + v * (Y % 4294967296 ^ (i + 1) : Nat)) / ((4294967296 ^ i : Nat) : Int) := by
    rw [mod_succ, mod_succ]
    have : (u * ((X % 4294967296 ^ i + 4294967296 ^ i * dg X i : Nat) : Int) + v * ((Y % 4294967296 ^ i + 4294967296 ^ i * dg Y i : Nat) : Int)) = (u * (X % 4294967296 ^ i : Nat) + v * (Y % 4294967296 ^ i : Nat)) + ((4294967296 ^ i : Nat) : Int) * (u * (dg X i : Nat) + v * (dg Y i : Nat)) := by
      generalize 4294967296 ^ i = B
      push_cast
      grind
    rw [this, Int.add_mul_ediv_left _ _ (by omega)]
    rfl
  have ep : ((4294967296 ^ (i + 1) : Nat) : Int) = ((4294967296 ^ i : Nat) : Int) * 4294967296 := by rw [pw_succ]; exact Int.natCast_mul _ _
  rw [e]
  refine ⟨?_, ?_⟩
  · -- the digit
    have hc : (u * (X % 4294967296 ^ (i + 1) : Nat) + v * (Y % 4294967296 ^ (i + 1) : Nat)) % ((4294967296 ^ (i + 1) : Nat) : Int) = ((P % 4294967296 ^ (i + 1) : Nat) : Int) := by
      rw [Int.natCast_emod P, ← hP, Int.natCast_emod X, Int.natCast_emod Y, Int.add_emod, Int.mul_emod, Int.emod_emod, ← Int.mul_emod, Int.mul_emod v, Int.emod_emod, ← Int.mul_emod, ← Int.add_emod]
    rw [ep] at hc
    generalize u * (X % 4294967296 ^ (i + 1) : Nat) + v * (Y % 4294967296 ^ (i + 1) : Nat) = T at *
    have h1 : T / ((4294967296 ^ i : Nat) : Int) % 4294967296 = T % (((4294967296 ^ i : Nat) : Int) * 4294967296) / ((4294967296 ^ i : Nat) : Int) := by
      have hB := hp
      generalize ((4294967296 ^ i : Nat) : Int) = B at hB ⊢
      have d1 := Int.mul_ediv_add_emod T B
      have d2 := Int.mul_ediv_add_emod (T / B) 4294967296
      have d3 := Int.emod_nonneg T (show B ≠ 0 by omega)
      have d4 := Int.emod_lt_of_pos T hB
      have d5 := Int.emod_nonneg (T / B) (show (4294967296 : Int) ≠ 0 by omega)
      have d6 := Int.emod_lt_of_pos (T / B) (show (0 : Int) < 4294967296 by omega)
      have e1 : T = (B * (T / B % 4294967296) + T % B) + B * 4294967296 * (T / B / 4294967296) := by grind
      have e2 : T % (B * 4294967296) = B * (T / B % 4294967296) + T % B := by
        have h7 : 0 ≤ B * (T / B % 4294967296) := Int.mul_nonneg (by omega) d5
        have h8 : B * (T / B % 4294967296) ≤ B * 4294967295 := Int.mul_le_mul_of_nonneg_left (by omega) (by omega)
        have h9 : (B * (T / B % 4294967296) + T % B) % (B * 4294967296) = B * (T / B % 4294967296) + T % B := Int.emod_eq_of_lt (by omega) (by omega)
        have h10 : T % (B * 4294967296) = ((B * (T / B % 4294967296) + T % B) + B * 4294967296 * (T / B / 4294967296)) % (B * 4294967296) := congrArg (· % (B * 4294967296)) e1
        rw [h10, Int.add_mul_emod_self_left, h9]
      rw [e2, Int.add_comm, Int.add_mul_ediv_left _ _ (by omega), Int.ediv_eq_zero_of_lt d3 d4, Int.zero_add]
    rw [h1, hc, mod_succ]
    have hm : P % 4294967296 ^ i < 4294967296 ^ i := Nat.mod_lt _ (Nat.pow_pos (by omega))
    rw [Int.ofNat_ediv_ofNat, Nat.add_mul_div_left _ _ (Nat.pow_pos (by omega)), Nat.div_eq_of_lt hm, Nat.zero_add]
  · rw [mxC, ep, Int.ediv_ediv_of_nonneg (by omega)]

end Go.Proofs.Ytfbkdjghbgdgpab
