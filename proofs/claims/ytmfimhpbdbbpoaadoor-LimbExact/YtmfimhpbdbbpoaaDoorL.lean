/- Decimals: plain mathematics. -/
import Derived.Test.YtmfimhpbdbbpoaaDoorE
namespace Go.Proofs.YtmfimhpbdbbpoaaDoor
namespace M
set_option linter.unusedVariables false
set_option linter.unusedSimpArgs false

/-- Digit j of a number's decimal, from below. -/
def d10 (N j : Nat) : Nat := N / 10 ^ j % 10
theorem d10_lt (N j : Nat) : d10 N j < 10 := Nat.mod_lt _ (by omega)
theorem tw_pos (i : Nat) : 0 < 10 ^ i := Nat.pow_pos (by omega)

/-- So many digits, from below, as bytes. -/
def dgs (N t : Nat) : List Nat := (List.range t).map fun j => 48 + d10 N j
@[simp] theorem dgs_length (N t : Nat) : (dgs N t).length = t := by simp [dgs]
theorem dgs_succ (N t : Nat) : dgs N (t + 1) = dgs N t ++ [48 + d10 N t] := by simp [dgs, List.range_succ]
theorem dgs_get (N t j : Nat) (h : j < t) : (dgs N t)[j]? = some (48 + d10 N j) := by simp [dgs, h]

/-- The digit that the next step lays. -/
theorem d10_part (N t s : Nat) (hs : s < 9) : N / 10 ^ (9 * t) % 1000000000 / 10 ^ s % 10 = d10 N (9 * t + s) := by
  unfold d10
  rw [Nat.pow_add, ← Nat.div_div_eq_div_mul]
  generalize N / 10 ^ (9 * t) = M
  obtain ⟨d, hd⟩ : ∃ d, 9 = s + 1 + d := ⟨8 - s, by omega⟩
  have e : (1000000000 : Nat) = 10 ^ s * (10 * 10 ^ d) := by
    rw [← Nat.mul_assoc, ← Nat.pow_succ, ← Nat.pow_add, ← hd]
  rw [e, Nat.mod_mul_right_div_self, Nat.mod_mul_right_mod]

theorem part_next (x s : Nat) : x / 10 ^ s / 10 = x / 10 ^ (s + 1) := by rw [Nat.div_div_eq_div_mul, ← Nat.pow_succ]

theorem quo_next (N t : Nat) : N / 10 ^ (9 * t) / 1000000000 = N / 10 ^ (9 * (t + 1)) := by
  rw [Nat.div_div_eq_div_mul, Nat.mul_add, Nat.pow_add]

theorem digits_bound {N t k : Nat} (h : 10 ^ (9 * t) ≤ N) (hN : N < 4294967296 ^ k) (hk : k ≤ 8192) : t ≤ 9040 := by
  have h1 : (2 : Nat) ^ (29 * t) ≤ 10 ^ (9 * t) := by
    rw [Nat.pow_mul, Nat.pow_mul]
    exact Nat.pow_le_pow_left (by omega) t
  have h2 : (4294967296 : Nat) ^ k = 2 ^ (32 * k) := by rw [Nat.pow_mul]
  rw [h2] at hN
  have h3 : (2 : Nat) ^ (29 * t) < 2 ^ (32 * k) := by omega
  have h4 := (Nat.pow_lt_pow_iff_right (by omega : 1 < 2)).1 h3
  omega

theorem lt_tw_of_quo {N t : Nat} (h : N / 10 ^ t = 0) : N < 10 ^ t := by
  rcases Nat.lt_or_ge N (10 ^ t) with h1 | h1
  · exact h1
  · have := Nat.div_pos h1 (tw_pos t); omega

theorem le_of_quo {N t : Nat} (h : N / 10 ^ t ≠ 0) : 10 ^ t ≤ N := by
  rcases Nat.lt_or_ge N (10 ^ t) with h1 | h1
  · exact absurd (Nat.div_eq_of_lt h1) h
  · exact h1

theorem d10_drop {N n : Nat} (h : N < 10 ^ (n + 1)) (hd : d10 N n = 0) : N < 10 ^ n := by
  unfold d10 at hd
  have h1 : N / 10 ^ n < 10 := by rw [Nat.div_lt_iff_lt_mul (tw_pos n), Nat.mul_comm, ← Nat.pow_succ]; exact h
  rw [Nat.mod_eq_of_lt h1] at hd
  exact lt_tw_of_quo hd

theorem d10_keep {N n : Nat} (hd : d10 N n ≠ 0) : 10 ^ n ≤ N := by
  rcases Nat.lt_or_ge N (10 ^ n) with h1 | h1
  · exfalso; apply hd; unfold d10; rw [Nat.div_eq_of_lt h1]
  · exact h1

/-- A decimal's bytes, the highest digit first. -/
def txt (L N : Nat) : List Nat := (List.range L).map fun i => 48 + d10 N (L - 1 - i)
@[simp] theorem txt_length (L N : Nat) : (txt L N).length = L := by simp [txt]

/-- So many digits has the number. -/
def Dec (L N : Nat) : Prop := N < 10 ^ L ∧ 10 ^ (L - 1) ≤ N ∧ 0 < L

theorem Dec.uniq {L L' N : Nat} (h : Dec L N) (h' : Dec L' N) : L = L' := by
  obtain ⟨h1, h2, h3⟩ := h
  obtain ⟨g1, g2, g3⟩ := h'
  rcases Nat.lt_trichotomy L L' with hl | hl | hl
  · have := Nat.pow_le_pow_right (n := 10) (by omega) (show L ≤ L' - 1 from by omega); omega
  · exact hl
  · have := Nat.pow_le_pow_right (n := 10) (by omega) (show L' ≤ L - 1 from by omega); omega

end M
end Go.Proofs.YtmfimhpbdbbpoaaDoor
