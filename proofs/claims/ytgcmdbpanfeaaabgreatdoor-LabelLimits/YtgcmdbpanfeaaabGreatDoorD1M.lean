/- The CRC-32, bit by bit and four bits at a time. Plain mathematics. -/
import Derived.Test.YtgcmdbpanfeaaabGreatDoorB1M
namespace Go.Proofs.YtgcmdbpanfeaaabGreatDoor
set_option linter.unusedVariables false

/-- One bit drops. -/
def st1 (x : Nat) : Nat := if x % 2 = 1 then (x / 2) ^^^ 3988292384 else x / 2
def stN : Nat → Nat → Nat
  | 0, x => x
  | k + 1, x => stN k (st1 x)

theorem xor_half (a b : Nat) : (a ^^^ b) / 2 = (a / 2) ^^^ (b / 2) := by
  have := @Nat.xor_div_two_pow a b 1
  simpa using this

theorem xor_odd (a b : Nat) : (a ^^^ b) % 2 = (a % 2) ^^^ (b % 2) := by
  have := @Nat.xor_mod_two_pow a b 1
  simpa using this

theorem st1_xor (a b : Nat) : st1 (a ^^^ b) = st1 a ^^^ st1 b := by
  unfold st1
  rw [xor_half, xor_odd]
  rcases Nat.mod_two_eq_zero_or_one a with ha | ha <;> rcases Nat.mod_two_eq_zero_or_one b with hb | hb <;> rw [ha, hb]
  · simp
  · simp [Nat.xor_assoc]
  · simp only [show (1 : Nat) ^^^ 0 = 1 from rfl, if_true]
    rw [if_neg (by omega), Nat.xor_assoc, Nat.xor_assoc, Nat.xor_comm (b / 2)]
  · simp only [show (1 : Nat) ^^^ 1 = 0 from rfl, if_true]
    rw [if_neg (by omega)]
    generalize a / 2 = x
    generalize b / 2 = y
    rw [Nat.xor_assoc, ← Nat.xor_assoc 3988292384, Nat.xor_comm 3988292384 y, Nat.xor_assoc y, Nat.xor_self, Nat.xor_zero]

theorem stN_xor (k a b : Nat) : stN k (a ^^^ b) = stN k a ^^^ stN k b := by
  induction k generalizing a b with
  | zero => rfl
  | succ k ih => rw [stN, stN, stN, st1_xor, ih]

theorem st1_even (y : Nat) : st1 (2 * y) = y := by
  unfold st1; rw [if_neg (by omega)]; omega

theorem stN_even (k y : Nat) : stN k (2 ^ k * y) = y := by
  induction k generalizing y with
  | zero => simp [stN]
  | succ k ih => rw [stN, show 2 ^ (k + 1) * y = 2 * (2 ^ k * y) from by rw [Nat.pow_succ, Nat.mul_comm (2 ^ k) 2, Nat.mul_assoc], st1_even, ih]

theorem split16 (x : Nat) : (16 * (x / 16)) ^^^ (x % 16) = x := by
  have h : 16 * (x / 16) + x % 16 = x := Nat.div_add_mod x 16
  have h2 := Nat.two_pow_add_eq_or_of_lt (i := 4) (b := x % 16) (Nat.mod_lt _ (by omega)) (x / 16)
  have h3 : (2 ^ 4 * (x / 16)) ^^^ (x % 16) = (2 ^ 4 * (x / 16)) ||| (x % 16) := by
    apply Nat.eq_of_testBit_eq
    intro i
    rw [Nat.testBit_xor, Nat.testBit_or]
    by_cases hi : i < 4
    · have hq : (2 ^ 4 * (x / 16)).testBit i = false := by rw [Nat.testBit_two_pow_mul]; simp; omega
      rw [hq]; simp
    · have hq : (x % 16).testBit i = false := Nat.testBit_lt_two_pow (Nat.lt_of_lt_of_le (Nat.mod_lt x (by omega)) (show 16 ≤ 2 ^ i from Nat.pow_le_pow_right (n := 2) (by omega) (show 4 ≤ i by omega)))
      rw [hq]; simp
  have h4 : (2 : Nat) ^ 4 = 16 := rfl
  rw [h4] at h2 h3
  rw [h3, ← h2, h]

/-- Four bits at a time. -/
theorem st4 (x : Nat) : stN 4 x = (x / 16) ^^^ stN 4 (x % 16) := by
  conv => lhs; rw [← split16 x, stN_xor]
  rw [show (16 : Nat) * (x / 16) = 2 ^ 4 * (x / 16) from rfl, stN_even]

theorem stN_add (j k x : Nat) : stN (j + k) x = stN k (stN j x) := by
  induction j generalizing x with
  | zero => rw [Nat.zero_add]; rfl
  | succ j ih => rw [Nat.succ_add, stN, stN, ih]

def crcTab : List Nat := [0x00000000, 0x1db71064, 0x3b6e20c8, 0x26d930ac, 0x76dc4190, 0x6b6b51f4, 0x4db26158, 0x5005713c, 0xedb88320, 0xf00f9344, 0xd6d6a3e8, 0xcb61b38c, 0x9b64c2b0, 0x86d3d2d4, 0xa00ae278, 0xbdbdf21c]

theorem tab_ok (i : Nat) (h : i < 16) : stN 4 i = crcTab.getD i 0 := by
  have : ∀ j : Fin 16, stN 4 j.val = crcTab.getD j.val 0 := by decide +kernel
  exact this ⟨i, h⟩

theorem tab_lt (i : Nat) (h : i < 16) : crcTab.getD i 0 < 4294967296 := by
  have : ∀ j : Fin 16, crcTab.getD j.val 0 < 4294967296 := by decide +kernel
  exact this ⟨i, h⟩

/-- One byte more. -/
def crc1 (x c : Nat) : Nat := stN 8 (x ^^^ c)
theorem crc1_two (x c y z : Nat) (hy : y = x ^^^ c) (hz : z = (y / 16) ^^^ crcTab.getD (y % 16) 0) : crc1 x c = (z / 16) ^^^ crcTab.getD (z % 16) 0 := by
  unfold crc1
  rw [← hy, show (8 : Nat) = 4 + 4 from rfl, stN_add, st4 y, tab_ok (y % 16) (Nat.mod_lt _ (by omega)), ← hz, st4 z, tab_ok (z % 16) (Nat.mod_lt _ (by omega))]

def crcF (bs : List Nat) : Nat → Nat
  | 0 => 4294967295
  | k + 1 => crc1 (crcF bs k) (bs.getD k 0)

theorem st1_lt (x : Nat) (h : x < 4294967296) : st1 x < 4294967296 := by
  unfold st1
  split
  · exact Nat.xor_lt_two_pow (n := 32) (by show x / 2 < 4294967296; omega) (by decide)
  · omega
theorem stN_lt (k x : Nat) (h : x < 4294967296) : stN k x < 4294967296 := by
  induction k generalizing x with
  | zero => exact h
  | succ k ih => exact ih _ (st1_lt x h)
theorem crcF_lt (bs : List Nat) (hb : ∀ n ∈ bs, n < 256) (k : Nat) : crcF bs k < 4294967296 := by
  induction k with
  | zero => show 4294967295 < 4294967296; omega
  | succ k ih =>
    refine stN_lt 8 _ (Nat.xor_lt_two_pow (n := 32) ih ?_)
    show bs.getD k 0 < 4294967296
    by_cases h : k < bs.length
    · have := hb (bs.getD k 0) (by rw [List.getD_eq_getElem?_getD, List.getElem?_eq_getElem h]; exact List.getElem_mem h)
      omega
    · rw [List.getD_eq_getElem?_getD, List.getElem?_eq_none (by omega)]; decide

/-- The sum. -/
def crcO (bs : List Nat) : Nat := 4294967295 - crcF bs bs.length

end Go.Proofs.YtgcmdbpanfeaaabGreatDoor
