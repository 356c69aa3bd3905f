/- Plain lists of bits: how the groups of a Var are read; what is laid is read again, and what is read has that form. -/
import Derived.Test.YtenhippcjnemcaaDoorB1M
namespace Go.Proofs.YtenhippcjnemcaaDoor.M

/-- The groups in front of l, k of them having been read (they made x, and end at u): the number, where it ends, 0; or 0, 0 and the error. -/
def readG : Nat → List Bool → Nat → Nat → Nat → Nat × Nat × Nat
  | 0, _, _, _, _ => (0, 0, 13)
  | f + 1, l, k, x, u =>
    if l.length < 8 then (0, 0, 12)
    else if (k = 9 ∧ 1 < num (l.take 8)) ∨ (0 < k ∧ num (l.take 8) = 0) then (0, 0, 13)
    else if num (l.take 8) < 128 then (x + num (l.take 8) % 128 * 2 ^ (7 * k), u + 8, 0)
    else readG f (l.drop 8) (k + 1) (x + num (l.take 8) % 128 * 2 ^ (7 * k)) (u + 8)

theorem readG_short (f : Nat) (l : List Bool) (k x u : Nat) (h : l.length < 8) : readG (f + 1) l k x u = (0, 0, 12) := by
  rw [readG, if_pos h]
theorem readG_form (f : Nat) (l : List Bool) (k x u : Nat) (h : 8 ≤ l.length) (hb : (k = 9 ∧ 1 < num (l.take 8)) ∨ (0 < k ∧ num (l.take 8) = 0)) : readG (f + 1) l k x u = (0, 0, 13) := by
  rw [readG, if_neg (by omega), if_pos hb]
theorem readG_last (f : Nat) (l : List Bool) (k x u : Nat) (h : 8 ≤ l.length) (hb : ¬ ((k = 9 ∧ 1 < num (l.take 8)) ∨ (0 < k ∧ num (l.take 8) = 0))) (hg : num (l.take 8) < 128) :
    readG (f + 1) l k x u = (x + num (l.take 8) % 128 * 2 ^ (7 * k), u + 8, 0) := by
  rw [readG, if_neg (by omega), if_neg hb, if_pos hg]
theorem readG_more (f : Nat) (l : List Bool) (k x u : Nat) (h : 8 ≤ l.length) (hb : ¬ ((k = 9 ∧ 1 < num (l.take 8)) ∨ (0 < k ∧ num (l.take 8) = 0))) (hg : ¬ num (l.take 8) < 128) :
    readG (f + 1) l k x u = readG f (l.drop 8) (k + 1) (x + num (l.take 8) % 128 * 2 ^ (7 * k)) (u + 8) := by
  rw [readG, if_neg (by omega), if_neg hb, if_neg hg]

/-- What is laid is read again. -/
theorem readG_groups : ∀ (f y k x u : Nat) (rest : List Bool), k + f = 9 → y < 2 ^ (7 * f + 1) → (0 < k → 0 < y) →
    readG (f + 1) (groups f y ++ rest) k x u = (x + y * 2 ^ (7 * k), u + (groups f y).length, 0) := by
  intro f
  induction f with
  | zero =>
    intro y k x u rest hk hy hp
    have hl : (groups 0 y).length = 8 := by simp [groups]
    have ht : (groups 0 y ++ rest).take 8 = bitsOf y 8 := by rw [List.take_left' hl]; rfl
    have hn : num ((groups 0 y ++ rest).take 8) = y := by rw [ht, num_bitsOf]; omega
    have h2 : y < 2 := by simpa using hy
    rw [readG_last _ _ _ _ _ (by simp [hl]) (by rw [hn]; omega) (by rw [hn]; omega), hn, hl]
    have : y % 128 = y := by omega
    rw [this]
  | succ f ih =>
    intro y k x u rest hk hy hp
    by_cases hs : y < 128
    · rw [groups_small _ _ hs]
      have ht : (bitsOf y 8 ++ rest).take 8 = bitsOf y 8 := List.take_left' (by simp)
      have hn : num ((bitsOf y 8 ++ rest).take 8) = y := by rw [ht, num_bitsOf]; omega
      rw [readG_last _ _ _ _ _ (by simp) (by rw [hn]; omega) (by rw [hn]; omega), hn, bitsOf_length]
      have : y % 128 = y := by omega
      rw [this]
    · rw [groups_big _ _ (by omega), List.append_assoc]
      have ht : (bitsOf (128 + y % 128) 8 ++ (groups f (y / 128) ++ rest)).take 8 = bitsOf (128 + y % 128) 8 := List.take_left' (by simp)
      have hn : num ((bitsOf (128 + y % 128) 8 ++ (groups f (y / 128) ++ rest)).take 8) = 128 + y % 128 := by rw [ht, num_bitsOf]; omega
      have hd : (bitsOf (128 + y % 128) 8 ++ (groups f (y / 128) ++ rest)).drop 8 = groups f (y / 128) ++ rest := List.drop_left' (by simp)
      have hy' : y / 128 < 2 ^ (7 * f + 1) := by
        rw [show 7 * (f + 1) + 1 = (7 * f + 1) + 7 from by omega, Nat.pow_add] at hy; omega
      rw [readG_more _ _ _ _ _ (by simp) (by rw [hn]; omega) (by rw [hn]; omega), hn, hd, ih (y / 128) (k + 1) _ _ rest (by omega) hy' (by omega), List.length_append, bitsOf_length]
      have e1 : (128 + y % 128) % 128 = y % 128 := by omega
      have e2 : x + y % 128 * 2 ^ (7 * k) + y / 128 * 2 ^ (7 * (k + 1)) = x + y * 2 ^ (7 * k) := by
        rw [show 7 * (k + 1) = 7 * k + 7 from by omega, Nat.pow_add]
        have : y * 2 ^ (7 * k) = (y % 128 + 128 * (y / 128)) * 2 ^ (7 * k) := by rw [Nat.mod_add_div]
        rw [this, Nat.add_mul, Nat.add_assoc]
        congr 2
        rw [Nat.mul_comm 128 (y / 128), Nat.mul_assoc, Nat.mul_comm (2 ^ (7 * k))]
      rw [e1, e2, Nat.add_assoc]

theorem varB_read (x u : Nat) (rest : List Bool) (h : x < 2 ^ 64) : readG 10 (varB x ++ rest) 0 0 u = (x, u + (varB x).length, 0) := by
  have := readG_groups 9 x 0 0 u rest rfl (by simpa using h) (by omega)
  simpa [varB] using this

/-- What is read has that form. -/
theorem readG_form_of : ∀ (f : Nat) (l : List Bool) (k x u X E : Nat), k + f = 9 → readG (f + 1) l k x u = (X, E, 0) →
    ∃ y, X = x + y * 2 ^ (7 * k) ∧ y < 2 ^ (7 * f + 1) ∧ (0 < k → 0 < y) ∧ E = u + (groups f y).length ∧ ∃ rest, l = groups f y ++ rest := by
  intro f
  induction f with
  | zero =>
    intro l k x u X E hk h
    by_cases h8 : l.length < 8
    · rw [readG_short _ _ _ _ _ h8] at h; simp at h
    by_cases hb : (k = 9 ∧ 1 < num (l.take 8)) ∨ (0 < k ∧ num (l.take 8) = 0)
    · rw [readG_form _ _ _ _ _ (by omega) hb] at h; simp at h
    have hlt : num (l.take 8) < 128 := by omega
    rw [readG_last _ _ _ _ _ (by omega) hb hlt] at h
    simp only [Prod.mk.injEq] at h
    have hl : (l.take 8).length = 8 := by simp; omega
    have hbits : bitsOf (num (l.take 8)) 8 = l.take 8 := by have := bitsOf_num (l.take 8); rwa [hl] at this
    refine ⟨num (l.take 8), ?_, ?_, by omega, ?_, l.drop 8, ?_⟩
    · rw [← h.1, Nat.mod_eq_of_lt hlt]
    · simp; omega
    · simp [groups]; omega
    · show l = bitsOf (num (l.take 8)) 8 ++ l.drop 8
      rw [hbits, List.take_append_drop]
  | succ f ih =>
    intro l k x u X E hk h
    by_cases h8 : l.length < 8
    · rw [readG_short _ _ _ _ _ h8] at h; simp at h
    by_cases hb : (k = 9 ∧ 1 < num (l.take 8)) ∨ (0 < k ∧ num (l.take 8) = 0)
    · rw [readG_form _ _ _ _ _ (by omega) hb] at h; simp at h
    have hl : (l.take 8).length = 8 := by simp; omega
    have hbits : bitsOf (num (l.take 8)) 8 = l.take 8 := by have := bitsOf_num (l.take 8); rwa [hl] at this
    have h256 : num (l.take 8) < 256 := by have := num_lt (l.take 8); rwa [hl] at this
    by_cases hlt : num (l.take 8) < 128
    · rw [readG_last _ _ _ _ _ (by omega) hb hlt] at h
      simp only [Prod.mk.injEq] at h
      refine ⟨num (l.take 8), ?_, ?_, by omega, ?_, l.drop 8, ?_⟩
      · rw [← h.1, Nat.mod_eq_of_lt hlt]
      · have : (2 : Nat) ^ 7 ≤ 2 ^ (7 * (f + 1) + 1) := Nat.pow_le_pow_right (by omega) (by omega)
        omega
      · rw [groups_small _ _ hlt]; simp; omega
      · rw [groups_small _ _ hlt, hbits, List.take_append_drop]
    · rw [readG_more _ _ _ _ _ (by omega) hb hlt] at h
      obtain ⟨y, hX, hy, hpos, hE, rest, hr⟩ := ih _ _ _ _ _ _ (by omega) h
      generalize hg : num (l.take 8) = g at *
      have hy0 : 0 < y := hpos (by omega)
      have hbig : 128 ≤ y * 128 + g % 128 := by omega
      have hd1 : (y * 128 + g % 128) / 128 = y := by omega
      have hd2 : (y * 128 + g % 128) % 128 = g % 128 := by omega
      refine ⟨y * 128 + g % 128, ?_, ?_, by omega, ?_, rest, ?_⟩
      · rw [hX, show 7 * (k + 1) = 7 * k + 7 from by omega, Nat.pow_add, Nat.add_mul, Nat.add_assoc, Nat.add_comm (g % 128 * _)]
        congr 2
        rw [Nat.mul_assoc, Nat.mul_comm (2 ^ (7 * k))]
      · rw [show 7 * (f + 1) + 1 = (7 * f + 1) + 7 from by omega, Nat.pow_add]; omega
      · rw [groups_big _ _ hbig, hd1, List.length_append, bitsOf_length]; omega
      · rw [groups_big _ _ hbig, hd1, hd2, List.append_assoc, ← hr, show 128 + g % 128 = g from by omega, hbits, List.take_append_drop]

theorem varB_form (l : List Bool) (u X E : Nat) (h : readG 10 l 0 0 u = (X, E, 0)) : X < 2 ^ 64 ∧ E = u + (varB X).length ∧ ∃ rest, l = varB X ++ rest := by
  obtain ⟨y, hX, hy, _, hE, rest, hr⟩ := readG_form_of 9 l 0 0 u X E rfl h
  have : X = y := by simpa using hX
  subst this
  exact ⟨by simpa using hy, hE, rest, hr⟩

theorem readG_err : ∀ (f : Nat) (l : List Bool) (k x u : Nat), k + f = 9 → (readG (f + 1) l k x u).2.2 = 0 ∨ ((readG (f + 1) l k x u).1 = 0 ∧ (readG (f + 1) l k x u).2.1 = 0 ∧ ((readG (f + 1) l k x u).2.2 = 12 ∨ (readG (f + 1) l k x u).2.2 = 13)) := by
  intro f
  induction f with
  | zero =>
    intro l k x u hk
    by_cases h8 : l.length < 8
    · rw [readG_short _ _ _ _ _ h8]; simp
    by_cases hb : (k = 9 ∧ 1 < num (l.take 8)) ∨ (0 < k ∧ num (l.take 8) = 0)
    · rw [readG_form _ _ _ _ _ (by omega) hb]; simp
    rw [readG_last _ _ _ _ _ (by omega) hb (by omega)]; simp
  | succ f ih =>
    intro l k x u hk
    by_cases h8 : l.length < 8
    · rw [readG_short _ _ _ _ _ h8]; simp
    by_cases hb : (k = 9 ∧ 1 < num (l.take 8)) ∨ (0 < k ∧ num (l.take 8) = 0)
    · rw [readG_form _ _ _ _ _ (by omega) hb]; simp
    by_cases hlt : num (l.take 8) < 128
    · rw [readG_last _ _ _ _ _ (by omega) hb hlt]; simp
    rw [readG_more _ _ _ _ _ (by omega) hb hlt]; exact ih _ _ _ _ (by omega)

end Go.Proofs.YtenhippcjnemcaaDoor.M
