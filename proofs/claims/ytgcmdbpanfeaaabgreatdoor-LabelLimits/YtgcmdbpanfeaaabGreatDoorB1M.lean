/- Plain lists of bits: their number, their bytes, the form of a Var; no program in sight. -/
import Derived.Laws.BitsAllLaws
namespace Go.Proofs.YtgcmdbpanfeaaabGreatDoor.M

/-- The number that a row of bits is, the highest first. -/
def num : List Bool → Nat
  | [] => 0
  | b :: l => (if b then 1 else 0) * 2 ^ l.length + num l

/-- The n lowest bits of x, the highest first. -/
def bitsOf (x : Nat) : Nat → List Bool
  | 0 => []
  | n + 1 => (x / 2 ^ n % 2 == 1) :: bitsOf x n

@[simp] theorem num_nil : num [] = 0 := rfl

theorem num_append (a b : List Bool) : num (a ++ b) = num a * 2 ^ b.length + num b := by
  induction a with
  | nil => simp
  | cons x a ih => simp only [List.cons_append, num, List.length_append, ih]; rw [Nat.pow_add, Nat.add_mul, Nat.mul_assoc, Nat.add_assoc]

theorem num_lt (l : List Bool) : num l < 2 ^ l.length := by
  induction l with
  | nil => simp
  | cons b l ih => simp only [num, List.length_cons, Nat.pow_succ]; cases b <;> simp <;> omega

@[simp] theorem bitsOf_length (x n : Nat) : (bitsOf x n).length = n := by
  induction n with
  | zero => rfl
  | succ n ih => simp [bitsOf, ih]

theorem num_bitsOf (x n : Nat) : num (bitsOf x n) = x % 2 ^ n := by
  induction n with
  | zero => simp [bitsOf, Nat.mod_one]
  | succ n ih =>
    simp only [bitsOf, num, bitsOf_length, ih]
    rw [Nat.pow_succ, Nat.mod_mul]
    have h : x / 2 ^ n % 2 = 0 ∨ x / 2 ^ n % 2 = 1 := by omega
    rcases h with h | h <;> simp [h] <;> omega

theorem num_inj {a b : List Bool} (hl : a.length = b.length) (hn : num a = num b) : a = b := by
  induction a generalizing b with
  | nil => cases b with
    | nil => rfl
    | cons _ _ => simp at hl
  | cons x a ih => cases b with
    | nil => simp at hl
    | cons y b =>
      simp only [List.length_cons, Nat.add_right_cancel_iff] at hl
      simp only [num, hl] at hn
      have ha := num_lt a
      have hb := num_lt b
      rw [hl] at ha
      cases x <;> cases y <;> simp at hn
      · rw [ih hl hn]
      · omega
      · omega
      · rw [ih hl hn]

theorem bitsOf_num (l : List Bool) : bitsOf (num l) l.length = l := by
  apply num_inj (by simp)
  rw [num_bitsOf]; exact Nat.mod_eq_of_lt (num_lt l)

theorem bitsOf_mod (x n : Nat) : bitsOf (x % 2 ^ n) n = bitsOf x n := by
  apply num_inj (by simp)
  rw [num_bitsOf, num_bitsOf, Nat.mod_mod]

theorem bitsOf_split (x a b : Nat) : bitsOf x (a + b) = bitsOf (x / 2 ^ b) a ++ bitsOf x b := by
  apply num_inj (by simp)
  rw [num_append, num_bitsOf, num_bitsOf, num_bitsOf, bitsOf_length, Nat.add_comm a b, Nat.pow_add, Nat.mod_mul, Nat.mul_comm, Nat.add_comm]

/-- Byte i of a row of bits, what is missing as noughts. -/
def byteAt (l : List Bool) (i : Nat) : Nat := num ((l.drop (8 * i)).take 8) * 2 ^ (8 - ((l.drop (8 * i)).take 8).length)

theorem byteAt_lt (l : List Bool) (i : Nat) : byteAt l i < 256 := by
  unfold byteAt
  have h := num_lt ((l.drop (8 * i)).take 8)
  have hl : ((l.drop (8 * i)).take 8).length ≤ 8 := List.length_take_le _ _
  generalize (l.drop (8 * i)).take 8 = m at *
  calc num m * 2 ^ (8 - m.length) < 2 ^ m.length * 2 ^ (8 - m.length) := Nat.mul_lt_mul_of_pos_right h (Nat.pos_of_ne_zero (by simp))
    _ = 256 := by rw [← Nat.pow_add, Nat.add_sub_cancel' hl]

theorem byteAt_beyond (l : List Bool) (i : Nat) (h : l.length ≤ 8 * i) : byteAt l i = 0 := by
  unfold byteAt; rw [List.drop_eq_nil_of_le h]; simp

theorem byteAt_full (l m : List Bool) (i : Nat) (h : 8 * (i + 1) ≤ l.length) : byteAt (l ++ m) i = byteAt l i := by
  unfold byteAt
  rw [List.drop_append_of_le_length (by omega), List.take_append_of_le_length (by simp; omega)]

theorem byteAt_before (l m : List Bool) (i : Nat) (h : (l ++ m).length ≤ 8 * i) : byteAt (l ++ m) i = 0 := byteAt_beyond _ _ h

theorem byteAt_mod (l : List Bool) (i r : Nat) (h : l.length = 8 * i + r) (hr : r < 8) : byteAt l i % 2 ^ (8 - r) = 0 := by
  unfold byteAt
  have : ((l.drop (8 * i)).take 8).length = r := by simp; omega
  rw [this]; exact Nat.mul_mod_left _ _

theorem byteAt_here (l m : List Bool) (i r : Nat) (h : l.length = 8 * i + r) (hm : m.length ≤ 8 - r) (hr : r < 8) :
    byteAt (l ++ m) i = byteAt l i + num m * 2 ^ (8 - r - m.length) := by
  unfold byteAt
  have hd : (l.drop (8 * i)).length = r := by simp; omega
  rw [List.drop_append_of_le_length (by omega)]
  rw [List.take_of_length_le (l := l.drop (8 * i) ++ m) (by simp; omega), List.take_of_length_le (l := l.drop (8 * i)) (by omega)]
  generalize l.drop (8 * i) = d at *
  rw [num_append, List.length_append, hd, Nat.add_mul, Nat.mul_assoc, ← Nat.pow_add]
  have e1 : m.length + (8 - (r + m.length)) = 8 - r := by omega
  have e2 : 8 - (r + m.length) = 8 - r - m.length := by omega
  rw [e1, e2]

/-- The bytes of a row of bits. -/
def packed (l : List Bool) : List Nat := (List.range ((l.length + 7) / 8)).map (byteAt l)

@[simp] theorem packed_length (l : List Bool) : (packed l).length = (l.length + 7) / 8 := by simp [packed]

theorem packed_getD (l : List Bool) (i : Nat) (h : i < (l.length + 7) / 8) : (packed l).getD i 0 = byteAt l i := by
  simp [packed, List.getD, h]

/-- The bits of bytes. -/
def rbits (bs : List Nat) : List Bool := bs.flatMap fun b => bitsOf b 8

@[simp] theorem rbits_nil : rbits [] = [] := rfl
@[simp] theorem rbits_cons (b : Nat) (bs : List Nat) : rbits (b :: bs) = bitsOf b 8 ++ rbits bs := rfl
@[simp] theorem rbits_length (bs : List Nat) : (rbits bs).length = 8 * bs.length := by
  induction bs with
  | nil => rfl
  | cons b bs ih => simp [ih]; omega
theorem rbits_append (a b : List Nat) : rbits (a ++ b) = rbits a ++ rbits b := by simp [rbits]

/-- What stands in byte q from its bit r on. -/
theorem rbits_drop (bs : List Nat) (q : Nat) : (rbits bs).drop (8 * q) = rbits (bs.drop q) := by
  induction q generalizing bs with
  | zero => simp
  | succ q ih => cases bs with
    | nil => simp
    | cons b bs =>
      rw [rbits_cons, List.drop_append, bitsOf_length, List.drop_eq_nil_of_le (by simp; omega)]
      have : 8 * (q + 1) - 8 = 8 * q := by omega
      rw [this, ih]; simp

theorem take_bitsOf (x n k : Nat) (h : k ≤ n) : (bitsOf x n).take k = bitsOf (x / 2 ^ (n - k)) k := by
  have := bitsOf_split x k (n - k)
  rw [show k + (n - k) = n from by omega] at this
  rw [this, List.take_left' (by simp)]
theorem drop_bitsOf (x n k : Nat) (h : k ≤ n) : (bitsOf x n).drop k = bitsOf x (n - k) := by
  have := bitsOf_split x k (n - k)
  rw [show k + (n - k) = n from by omega] at this
  rw [this, List.drop_left' (by simp)]

/-- A part of one byte. -/
theorem look_byte (bs : List Nat) (at_ k : Nat) (hq : at_ / 8 < bs.length) (hk : k ≤ 8 - at_ % 8) :
    num (((rbits bs).drop at_).take k) = bs.getD (at_ / 8) 0 / 2 ^ (8 - at_ % 8 - k) % 2 ^ k := by
  have e : at_ = 8 * (at_ / 8) + at_ % 8 := by omega
  generalize hq' : at_ / 8 = q at *
  generalize hr : at_ % 8 = r at *
  have hr8 : r < 8 := by omega
  rw [e, ← List.drop_drop, rbits_drop]
  have hb : bs.drop q = bs.getD q 0 :: bs.drop (q + 1) := by
    rw [List.drop_eq_getElem_cons hq]; simp [List.getD, hq]
  rw [hb, rbits_cons, List.drop_append_of_le_length (by simp; omega), drop_bitsOf _ _ _ (by omega), List.take_append_of_le_length (by simp; omega), take_bitsOf _ _ _ (by omega), num_bitsOf]

theorem num_take_add (l : List Bool) (a b : Nat) (h : a + b ≤ l.length) : num (l.take (a + b)) = num (l.take a) * 2 ^ b + num ((l.drop a).take b) := by
  have e : ((l.drop a).take b).length = b := by simp; omega
  rw [List.take_add, num_append, e]

/-- Bytes and back. -/
theorem rbits_packed (l : List Bool) : rbits (packed l) = l ++ List.replicate (8 * ((l.length + 7) / 8) - l.length) false := by
  have key : ∀ n l, l.length ≤ n → rbits (packed l) = l ++ List.replicate (8 * ((l.length + 7) / 8) - l.length) false := by
    intro n
    induction n with
    | zero => intro l h; have : l = [] := List.length_eq_zero_iff.1 (by omega); subst this; rfl
    | succ n ih =>
      intro l h
      by_cases h0 : l.length = 0
      · have : l = [] := List.length_eq_zero_iff.1 h0; subst this; rfl
      · have hp : packed l = byteAt l 0 :: packed (l.drop 8) := by
          unfold packed
          have e : (l.length + 7) / 8 = ((l.drop 8).length + 7) / 8 + 1 := by simp; omega
          rw [e, List.range_succ_eq_map, List.map_cons, List.map_map]
          congr 1
          apply List.map_congr_left
          intro i _
          simp only [Function.comp, byteAt, List.drop_drop]
          rw [show 8 + 8 * i = 8 * (i + 1) from by omega]
        rw [hp, rbits_cons, ih (l.drop 8) (by simp; omega)]
        have hbyte : bitsOf (byteAt l 0) 8 = l.take 8 ++ List.replicate (8 - l.length) false := by
          apply num_inj (by simp; omega)
          rw [num_bitsOf, Nat.mod_eq_of_lt (byteAt_lt _ _), num_append]
          have hz : ∀ k, num (List.replicate k false) = 0 := by
            intro k; induction k with
            | zero => rfl
            | succ k ih => simp [List.replicate_succ, num, ih]
          rw [hz]
          unfold byteAt
          simp only [Nat.mul_zero, List.drop_zero, List.length_take, List.length_replicate, Nat.add_zero]
          congr 2; omega
        rw [hbyte]
        by_cases h8 : 8 ≤ l.length
        · rw [show 8 - l.length = 0 from by omega]
          simp only [List.replicate_zero, List.append_nil]
          rw [← List.append_assoc, List.take_append_drop]
          congr 2; simp; omega
        · rw [List.take_of_length_le (by omega), List.drop_eq_nil_of_le (by omega)]
          have e : (l.length + 7) / 8 = 1 := by omega
          simp [e]
  exact key _ l (Nat.le_refl _)

/-- The groups of a number: at most k + 1 of them. -/
def groups : Nat → Nat → List Bool
  | 0, x => bitsOf x 8
  | k + 1, x => if x < 128 then bitsOf x 8 else bitsOf (128 + x % 128) 8 ++ groups k (x / 128)

/-- The bits of a Var. -/
def varB (x : Nat) : List Bool := groups 9 x

/-- The number whose Var a Zig is. -/
def zig (x : Int) : Nat := if x < 0 then (-2 * x - 1).toNat else (2 * x).toNat

theorem groups_small (k x : Nat) (h : x < 128) : groups k x = bitsOf x 8 := by
  cases k with
  | zero => rfl
  | succ k => simp [groups, h]

theorem groups_big (k x : Nat) (h : 128 ≤ x) : groups (k + 1) x = bitsOf (128 + x % 128) 8 ++ groups k (x / 128) := by
  simp [groups, show ¬ x < 128 from by omega]

end Go.Proofs.YtgcmdbpanfeaaabGreatDoor.M
