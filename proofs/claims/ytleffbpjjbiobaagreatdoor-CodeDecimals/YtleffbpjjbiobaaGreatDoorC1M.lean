/- The bits of a column's codings: Plain, Stride, Runs. Plain mathematics. -/
import Derived.Test.YtleffbpjjbiobaaGreatDoorFE
import Derived.Test.YtleffbpjjbiobaaGreatDoorRC
import Derived.Laws.BitsAllLaws
/- CodeDecimals: a whole number divided by another, and times that again, is made the same whole number; two such quotients that are one float. Plain mathematics. -/
namespace Go.Proofs.YtleffbpjjbiobaaGreatDoor.Flt
open Ieee
set_option linter.unusedVariables false

/-- A float that stands for K whole units of 2 ^ T, its sign s. -/
structure Whl (f : Format) (T K : Nat) (s : Bool) (a : Nat) : Prop where
  fin : rg f a < f.infRung
  val : V f (rg f a) = K * 2 ^ T
  sgn : sg f a = s

/-- The quotient of two whole numbers. -/
structure Quo (f : Format) (T K D : Nat) (s : Bool) (x : Nat) : Prop where
  fin : rg f x < f.infRung
  sgn : sg f x = s
  lo : 2 * f.binade * (V f (rg f x) * D) ≤ 2 * f.binade * (K * 2 ^ T) + K * 2 ^ T
  hi : 2 * f.binade * (K * 2 ^ T) ≤ 2 * f.binade * (V f (rg f x) * D) + K * 2 ^ T
  lt : x < 2 * f.signWeight

theorem word_lt (f : Format) (s : Bool) (r : Nat) (h : r < f.signWeight) : f.word s r < 2 * f.signWeight := by
  cases s
  · show r < _; omega
  · show f.signWeight + r < _; omega

theorem quo_is (f : Format) (hf : 1 ≤ f.fractionBits) (T K D a b : Nat) (s : Bool) (hT : f.leastPlace = -(T : Int)) (hw : f.infRung ≤ f.signWeight) (ha : Whl f T K s a) (hb : Whl f T D false b) (hD : 1 ≤ D) (hn : f.binade * D ≤ K * 2 ^ T) :
    ∃ x, f.div a b = some x ∧ Quo f T K D s x := by
  have hp : 0 < 2 ^ T := Nat.two_pow_pos T
  have hb0 : rg f b ≠ 0 := fun h => by
    have := hb.val
    rw [h, V_zero] at this
    have : 0 < D * 2 ^ T := Nat.mul_pos (by omega) hp
    omega
  have hr : rnd f (V f (rg f a) * 2 ^ T) (V f (rg f b)) = rnd f (K * 2 ^ T) D := by rw [ha.val, hb.val, rnd_scale f _ _ _ hp]
  have hle : rnd f (K * 2 ^ T) D ≤ rg f a := rnd_le f hf _ _ _ (by omega) (by rw [ha.val]; exact Nat.le_mul_of_pos_right _ (by omega))
  have hlt : rnd f (K * 2 ^ T) D < f.infRung := Nat.lt_of_le_of_lt hle ha.fin
  refine ⟨f.word s (rnd f (K * 2 ^ T) D), ?_, ?_⟩
  · rw [div_rnd f T a b hT ha.fin hb.fin hb0, hr, ha.sgn, hb.sgn, Bool.xor_false, Nat.min_eq_left (by omega)]
  · have e := rg_word f s (rnd f (K * 2 ^ T) D) (by omega)
    have h := rnd_near f hf (K * 2 ^ T) D (by omega) hn
    exact ⟨by rw [e]; exact hlt, sg_word f s _ (by omega), by rw [e]; exact h.1, by rw [e]; exact h.2, word_lt f s _ (by omega)⟩

theorem back_is (f : Format) (hf : 1 ≤ f.fractionBits) (T K D x b : Nat) (s : Bool) (hT : f.leastPlace = -(T : Int)) (hw : f.infRung ≤ f.signWeight) (hx : Quo f T K D s x) (hb : Whl f T D false b) (hK : 1 ≤ K) (hK4 : 4 * K ≤ f.binade)
    (h2 : 2 * f.binade ≤ 2 ^ T) (hinf : 2 * K * 2 ^ T < V f f.infRung) : ∃ y, f.mul x b = some y ∧ rg f y < f.infRung ∧ sg f y = s ∧ cutE (V f (rg f y)) (2 ^ T) = K ∧ y < 2 * f.signWeight := by
  have hp : 0 < 2 ^ T := Nat.two_pow_pos T
  have hB := binade_pos f
  obtain ⟨z, hz⟩ : ∃ z, V f (rg f x) * D = z := ⟨_, rfl⟩
  have hr : rnd f (V f (rg f x) * V f (rg f b)) (2 ^ T) = rnd f z 1 := by
    rw [hb.val, ← Nat.mul_assoc, hz]
    have := rnd_scale f z 1 (2 ^ T) hp
    rw [Nat.one_mul] at this
    exact this
  have l1 := hx.lo
  have l2 := hx.hi
  rw [hz] at l1 l2
  have hU : 2 * f.binade ≤ K * 2 ^ T := Nat.le_trans h2 (Nat.le_mul_of_pos_left _ hK)
  have hz2 : z ≤ 2 * (K * 2 ^ T) := by
    have a : 2 * f.binade * z ≤ 2 * f.binade * (2 * (K * 2 ^ T)) := by
      have : K * 2 ^ T ≤ 2 * f.binade * (K * 2 ^ T) := Nat.le_mul_of_pos_left _ (by omega)
      grind
    exact Nat.le_of_mul_le_mul_left a (by omega)
  have hzB : f.binade * 1 ≤ z := by
    have a : 2 * f.binade * f.binade ≤ 2 * f.binade * z := by
      generalize K * 2 ^ T = W at *
      generalize f.binade = B at *
      have : 2 * B * W ≤ 2 * B * z + W := l2
      have e : B * (2 * B) ≤ B * W := Nat.mul_le_mul_left B hU
      have : W ≤ B * W := Nat.le_mul_of_pos_left _ hB
      grind
    have := Nat.le_of_mul_le_mul_left a (by omega)
    omega
  obtain ⟨R, hR⟩ := repr f (2 * K) T (by omega)
  have hRi : R < f.infRung := V_lt_iff.1 (by rw [hR]; exact hinf)
  have hle : rnd f z 1 ≤ R := rnd_le f hf _ _ _ (by omega) (by rw [hR, Nat.mul_one, Nat.mul_assoc]; exact hz2)
  have hlt : rnd f z 1 < f.infRung := Nat.lt_of_le_of_lt hle hRi
  have hn := rnd_near f hf z 1 (by omega) hzB
  rw [Nat.mul_one] at hn
  have e := rg_word f s (rnd f z 1) (by omega)
  refine ⟨f.word s (rnd f z 1), ?_, by rw [e]; exact hlt, sg_word f s _ (by omega), ?_, word_lt f s _ (by omega)⟩
  · rw [mul_rnd f T x b hT hx.fin hb.fin, hr, hx.sgn, hb.sgn, Bool.xor_false, Nat.min_eq_left (by omega)]
  · rw [e]
    have t := twice_near f.binade K (2 ^ T) D (V f (rg f x)) (V f (rnd f z 1)) hB hK hp hK4 (by rw [hz]; exact l1) (by rw [hz]; exact l2) (by rw [hz]; exact hn.1) (by rw [hz]; exact hn.2)
    exact cutE_near _ _ _ t.1 t.2 hp

/-- Two quotients of numbers of few digits that are one float are one number. -/
theorem quo_one (f : Format) (T K K' D E : Nat) (s s' : Bool) (x : Nat) (hx : Quo f T K (D * E) s x) (hy : Quo f T K' D s' x) (hK : 2 * K < 2 * f.binade - 1) : K = K' * E := by
  have e : V f (rg f x) * (D * E) = V f (rg f x) * D * E := (Nat.mul_assoc _ _ _).symm
  have l1 := hx.lo
  have l2 := hx.hi
  have l3 := Nat.mul_le_mul_right E hy.lo
  have l4 := Nat.mul_le_mul_right E hy.hi
  rw [e] at l1 l2
  generalize V f (rg f x) * D = z at *
  generalize f.binade = B at *
  have hp : 0 < 2 ^ T := Nat.two_pow_pos T
  generalize 2 ^ T = U at *
  refine same_near B K (K' * E) U (z * E) hp hK l1 l2 ?_ ?_
  · grind
  · grind

/-- A quotient of a number that is not nought is none. -/
theorem quo_pos (f : Format) (T K D : Nat) (s : Bool) (x : Nat) (hx : Quo f T K D s x) (hK : 1 ≤ K) : rg f x ≠ 0 := by
  intro h
  have l2 := hx.hi
  rw [h, V_zero, Nat.zero_mul, Nat.mul_zero, Nat.zero_add] at l2
  have hp : 0 < K * 2 ^ T := Nat.mul_pos (by omega) (Nat.two_pow_pos T)
  have hB := binade_pos f
  have : K * 2 ^ T * 2 ≤ K * 2 ^ T := by
    refine Nat.le_trans ?_ l2
    rw [Nat.mul_comm]
    exact Nat.mul_le_mul_right _ (by omega)
  omega

end Go.Proofs.YtleffbpjjbiobaaGreatDoor.Flt

/- Plain lists of bits: their number, their bytes, the form of a Var; no program in sight. -/
namespace Go.Proofs.YtleffbpjjbiobaaGreatDoor.M

/-- The number that a row of bits is, the highest first. -/
def num : List Bool → Nat
  | [] => 0
  | b :: l => (if b then 1 else 0) * 2 ^ l.length + num l

/-- The n lowest bits of x, the highest first. -/
def bitsOf (x : Nat) : Nat → List Bool
  | 0 => []
  | n + 1 => (x / 2 ^ n % 2 == 1) :: bitsOf x n

@[simp] theorem num_nil : num [] = 0 := rfl

theorem num_append (a b : List Bool) : num (a ++ b) = num a * 2 ^ b.length + num b := by
  induction a with
  | nil => simp
  | cons x a ih => simp only [List.cons_append, num, List.length_append, ih]; rw [Nat.pow_add, Nat.add_mul, Nat.mul_assoc, Nat.add_assoc]

theorem num_lt (l : List Bool) : num l < 2 ^ l.length := by
  induction l with
  | nil => simp
  | cons b l ih => simp only [num, List.length_cons, Nat.pow_succ]; cases b <;> simp <;> omega

@[simp] theorem bitsOf_length (x n : Nat) : (bitsOf x n).length = n := by
  induction n with
  | zero => rfl
  | succ n ih => simp [bitsOf, ih]

theorem num_bitsOf (x n : Nat) : num (bitsOf x n) = x % 2 ^ n := by
  induction n with
  | zero => simp [bitsOf, Nat.mod_one]
  | succ n ih =>
    simp only [bitsOf, num, bitsOf_length, ih]
    rw [Nat.pow_succ, Nat.mod_mul]
    have h : x / 2 ^ n % 2 = 0 ∨ x / 2 ^ n % 2 = 1 := by omega
    rcases h with h | h <;> simp [h] <;> omega

theorem num_inj {a b : List Bool} (hl : a.length = b.length) (hn : num a = num b) : a = b := by
  induction a generalizing b with
  | nil => cases b with
    | nil => rfl
    | cons _ _ => simp at hl
  | cons x a ih => cases b with
    | nil => simp at hl
    | cons y b =>
      simp only [List.length_cons, Nat.add_right_cancel_iff] at hl
      simp only [num, hl] at hn
      have ha := num_lt a
      have hb := num_lt b
      rw [hl] at ha
      cases x <;> cases y <;> simp at hn
      · rw [ih hl hn]
      · omega
      · omega
      · rw [ih hl hn]

theorem bitsOf_num (l : List Bool) : bitsOf (num l) l.length = l := by
  apply num_inj (by simp)
  rw [num_bitsOf]; exact Nat.mod_eq_of_lt (num_lt l)

theorem bitsOf_mod (x n : Nat) : bitsOf (x % 2 ^ n) n = bitsOf x n := by
  apply num_inj (by simp)
  rw [num_bitsOf, num_bitsOf, Nat.mod_mod]

theorem bitsOf_split (x a b : Nat) : bitsOf x (a + b) = bitsOf (x / 2 ^ b) a ++ bitsOf x b := by
  apply num_inj (by simp)
  rw [num_append, num_bitsOf, num_bitsOf, num_bitsOf, bitsOf_length, Nat.add_comm a b, Nat.pow_add, Nat.mod_mul, Nat.mul_comm, Nat.add_comm]

/-- Byte i of a row of bits, what is missing as noughts. -/
def byteAt (l : List Bool) (i : Nat) : Nat := num ((l.drop (8 * i)).take 8) * 2 ^ (8 - ((l.drop (8 * i)).take 8).length)

theorem byteAt_lt (l : List Bool) (i : Nat) : byteAt l i < 256 := by
  unfold byteAt
  have h := num_lt ((l.drop (8 * i)).take 8)
  have hl : ((l.drop (8 * i)).take 8).length ≤ 8 := List.length_take_le _ _
  generalize (l.drop (8 * i)).take 8 = m at *
  calc num m * 2 ^ (8 - m.length) < 2 ^ m.length * 2 ^ (8 - m.length) := Nat.mul_lt_mul_of_pos_right h (Nat.pos_of_ne_zero (by simp))
    _ = 256 := by rw [← Nat.pow_add, Nat.add_sub_cancel' hl]

theorem byteAt_beyond (l : List Bool) (i : Nat) (h : l.length ≤ 8 * i) : byteAt l i = 0 := by
  unfold byteAt; rw [List.drop_eq_nil_of_le h]; simp

theorem byteAt_full (l m : List Bool) (i : Nat) (h : 8 * (i + 1) ≤ l.length) : byteAt (l ++ m) i = byteAt l i := by
  unfold byteAt
  rw [List.drop_append_of_le_length (by omega), List.take_append_of_le_length (by simp; omega)]

theorem byteAt_before (l m : List Bool) (i : Nat) (h : (l ++ m).length ≤ 8 * i) : byteAt (l ++ m) i = 0 := byteAt_beyond _ _ h

theorem byteAt_mod (l : List Bool) (i r : Nat) (h : l.length = 8 * i + r) (hr : r < 8) : byteAt l i % 2 ^ (8 - r) = 0 := by
  unfold byteAt
  have : ((l.drop (8 * i)).take 8).length = r := by simp; omega
  rw [this]; exact Nat.mul_mod_left _ _

theorem byteAt_here (l m : List Bool) (i r : Nat) (h : l.length = 8 * i + r) (hm : m.length ≤ 8 - r) (hr : r < 8) :
    byteAt (l ++ m) i = byteAt l i + num m * 2 ^ (8 - r - m.length) := by
  unfold byteAt
  have hd : (l.drop (8 * i)).length = r := by simp; omega
  rw [List.drop_append_of_le_length (by omega)]
  rw [List.take_of_length_le (l := l.drop (8 * i) ++ m) (by simp; omega), List.take_of_length_le (l := l.drop (8 * i)) (by omega)]
  generalize l.drop (8 * i) = d at *
  rw [num_append, List.length_append, hd, Nat.add_mul, Nat.mul_assoc, ← Nat.pow_add]
  have e1 : m.length + (8 - (r + m.length)) = 8 - r := by omega
  have e2 : 8 - (r + m.length) = 8 - r - m.length := by omega
  rw [e1, e2]

/-- The bytes of a row of bits. -/
def packed (l : List Bool) : List Nat := (List.range ((l.length + 7) / 8)).map (byteAt l)

@[simp] theorem packed_length (l : List Bool) : (packed l).length = (l.length + 7) / 8 := by simp [packed]

theorem packed_getD (l : List Bool) (i : Nat) (h : i < (l.length + 7) / 8) : (packed l).getD i 0 = byteAt l i := by
  simp [packed, List.getD, h]

/-- The bits of bytes. -/
def rbits (bs : List Nat) : List Bool := bs.flatMap fun b => bitsOf b 8

@[simp] theorem rbits_nil : rbits [] = [] := rfl
@[simp] theorem rbits_cons (b : Nat) (bs : List Nat) : rbits (b :: bs) = bitsOf b 8 ++ rbits bs := rfl
@[simp] theorem rbits_length (bs : List Nat) : (rbits bs).length = 8 * bs.length := by
  induction bs with
  | nil => rfl
  | cons b bs ih => simp [ih]; omega
theorem rbits_append (a b : List Nat) : rbits (a ++ b) = rbits a ++ rbits b := by simp [rbits]

/-- What stands in byte q from its bit r on. -/
theorem rbits_drop (bs : List Nat) (q : Nat) : (rbits bs).drop (8 * q) = rbits (bs.drop q) := by
  induction q generalizing bs with
  | zero => simp
  | succ q ih => cases bs with
    | nil => simp
    | cons b bs =>
      rw [rbits_cons, List.drop_append, bitsOf_length, List.drop_eq_nil_of_le (by simp; omega)]
      have : 8 * (q + 1) - 8 = 8 * q := by omega
      rw [this, ih]; simp

theorem take_bitsOf (x n k : Nat) (h : k ≤ n) : (bitsOf x n).take k = bitsOf (x / 2 ^ (n - k)) k := by
  have := bitsOf_split x k (n - k)
  rw [show k + (n - k) = n from by omega] at this
  rw [this, List.take_left' (by simp)]
theorem drop_bitsOf (x n k : Nat) (h : k ≤ n) : (bitsOf x n).drop k = bitsOf x (n - k) := by
  have := bitsOf_split x k (n - k)
  rw [show k + (n - k) = n from by omega] at this
  rw [this, List.drop_left' (by simp)]

/-- A part of one byte. -/
theorem look_byte (bs : List Nat) (at_ k : Nat) (hq : at_ / 8 < bs.length) (hk : k ≤ 8 - at_ % 8) :
    num (((rbits bs).drop at_).take k) = bs.getD (at_ / 8) 0 / 2 ^ (8 - at_ % 8 - k) % 2 ^ k := by
  have e : at_ = 8 * (at_ / 8) + at_ % 8 := by omega
  generalize hq' : at_ / 8 = q at *
  generalize hr : at_ % 8 = r at *
  have hr8 : r < 8 := by omega
  rw [e, ← List.drop_drop, rbits_drop]
  have hb : bs.drop q = bs.getD q 0 :: bs.drop (q + 1) := by
    rw [List.drop_eq_getElem_cons hq]; simp [List.getD, hq]
  rw [hb, rbits_cons, List.drop_append_of_le_length (by simp; omega), drop_bitsOf _ _ _ (by omega), List.take_append_of_le_length (by simp; omega), take_bitsOf _ _ _ (by omega), num_bitsOf]

theorem num_take_add (l : List Bool) (a b : Nat) (h : a + b ≤ l.length) : num (l.take (a + b)) = num (l.take a) * 2 ^ b + num ((l.drop a).take b) := by
  have e : ((l.drop a).take b).length = b := by simp; omega
  rw [List.take_add, num_append, e]

/-- Bytes and back. -/
theorem rbits_packed (l : List Bool) : rbits (packed l) = l ++ List.replicate (8 * ((l.length + 7) / 8) - l.length) false := by
  have key : ∀ n l, l.length ≤ n → rbits (packed l) = l ++ List.replicate (8 * ((l.length + 7) / 8) - l.length) false := by
    intro n
    induction n with
    | zero => intro l h; have : l = [] := List.length_eq_zero_iff.1 (by omega); subst this; rfl
    | succ n ih =>
      intro l h
      by_cases h0 : l.length = 0
      · have : l = [] := List.length_eq_zero_iff.1 h0; subst this; rfl
      · have hp : packed l = byteAt l 0 :: packed (l.drop 8) := by
          unfold packed
          have e : (l.length + 7) / 8 = ((l.drop 8).length + 7) / 8 + 1 := by simp; omega
          rw [e, List.range_succ_eq_map, List.map_cons, List.map_map]
          congr 1
          apply List.map_congr_left
          intro i _
          simp only [Function.comp, byteAt, List.drop_drop]
          rw [show 8 + 8 * i = 8 * (i + 1) from by omega]
        rw [hp, rbits_cons, ih (l.drop 8) (by simp; omega)]
        have hbyte : bitsOf (byteAt l 0) 8 = l.take 8 ++ List.replicate (8 - l.length) false := by
          apply num_inj (by simp; omega)
          rw [num_bitsOf, Nat.mod_eq_of_lt (byteAt_lt _ _), num_append]
          have hz : ∀ k, num (List.replicate k false) = 0 := by
            intro k; induction k with
            | zero => rfl
            | succ k ih => simp [List.replicate_succ, num, ih]
          rw [hz]
          unfold byteAt
          simp only [Nat.mul_zero, List.drop_zero, List.length_take, List.length_replicate, Nat.add_zero]
          congr 2; omega
        rw [hbyte]
        by_cases h8 : 8 ≤ l.length
        · rw [show 8 - l.length = 0 from by omega]
          simp only [List.replicate_zero, List.append_nil]
          rw [← List.append_assoc, List.take_append_drop]
          congr 2; simp; omega
        · rw [List.take_of_length_le (by omega), List.drop_eq_nil_of_le (by omega)]
          have e : (l.length + 7) / 8 = 1 := by omega
          simp [e]
  exact key _ l (Nat.le_refl _)

/-- The groups of a number: at most k + 1 of them. -/
def groups : Nat → Nat → List Bool
  | 0, x => bitsOf x 8
  | k + 1, x => if x < 128 then bitsOf x 8 else bitsOf (128 + x % 128) 8 ++ groups k (x / 128)

/-- The bits of a Var. -/
def varB (x : Nat) : List Bool := groups 9 x

/-- The number whose Var a Zig is. -/
def zig (x : Int) : Nat := if x < 0 then (-2 * x - 1).toNat else (2 * x).toNat

theorem groups_small (k x : Nat) (h : x < 128) : groups k x = bitsOf x 8 := by
  cases k with
  | zero => rfl
  | succ k => simp [groups, h]

theorem groups_big (k x : Nat) (h : 128 ≤ x) : groups (k + 1) x = bitsOf (128 + x % 128) 8 ++ groups k (x / 128) := by
  simp [groups, show ¬ x < 128 from by omega]

end Go.Proofs.YtleffbpjjbiobaaGreatDoor.M

namespace Go.Proofs.YtleffbpjjbiobaaGreatDoor
open M
set_option linter.unusedVariables false

/-- n values of W bits each, as they are. -/
def plB (W : Nat) (f : Nat → Nat) : Nat → List Bool
  | 0 => []
  | n + 1 => plB W f n ++ bitsOf (f n) W

theorem plB_length (W : Nat) (f : Nat → Nat) (n : Nat) : (plB W f n).length = W * n := by
  induction n with
  | zero => rfl
  | succ n ih => rw [plB, List.length_append, ih, bitsOf_length, Nat.mul_succ]

theorem plB_congr (W : Nat) (f g : Nat → Nat) (n : Nat) (h : ∀ i, i < n → f i = g i) : plB W f n = plB W g n := by
  induction n with
  | zero => rfl
  | succ n ih => rw [plB, plB, ih fun i hi => h i (by omega), h n (by omega)]

/-- What is expected of value i, modulo M. -/
def exS (M : Nat) (f : Nat → Nat) : Nat → Nat
  | 0 => 0
  | 1 => f 0
  | i + 2 => (2 * f (i + 1) + M - f i) % M

/-- A number of W bits read as a signed one (H = 2^(W-1), M = 2^W). -/
def sgW (H M x : Nat) : Int := if x < H then (x : Int) else (x : Int) - M

/-- What is laid of value i. -/
def rsS (M : Nat) (f : Nat → Nat) (i : Nat) : Nat := (f i + M - exS M f i) % M

theorem exS_lt (M : Nat) (f : Nat → Nat) (hM : 0 < M) (i : Nat) (h : ∀ j, j < i → f j < M) : exS M f i < M := by
  match i with
  | 0 => exact hM
  | 1 => exact h 0 (by omega)
  | i + 2 => exact Nat.mod_lt _ hM

theorem rsS_lt (M : Nat) (f : Nat → Nat) (hM : 0 < M) (i : Nat) : rsS M f i < M := Nat.mod_lt _ hM

theorem rsS_back (M : Nat) (f : Nat → Nat) (hM : 0 < M) (i : Nat) (h : ∀ j, j ≤ i → f j < M) : (exS M f i + rsS M f i) % M = f i := by
  have he := exS_lt M f hM i fun j hj => h j (by omega)
  have hf := h i (by omega)
  unfold rsS
  by_cases hle : exS M f i ≤ f i
  · have e : f i + M - exS M f i = (f i - exS M f i) + M := by omega
    rw [e, Nat.add_mod_right, Nat.mod_eq_of_lt (show f i - exS M f i < M by omega), show exS M f i + (f i - exS M f i) = f i from by omega, Nat.mod_eq_of_lt hf]
  · rw [Nat.mod_eq_of_lt (show f i + M - exS M f i < M by omega), show exS M f i + (f i + M - exS M f i) = f i + M from by omega, Nat.add_mod_right, Nat.mod_eq_of_lt hf]

theorem sgW_range (H M x : Nat) (hM : M = 2 * H) (hx : x < M) : -(H : Int) ≤ sgW H M x ∧ sgW H M x < (H : Int) := by
  unfold sgW; split <;> omega

theorem sgW_mod (H M x : Nat) (hM : M = 2 * H) (hx : x < M) : sgW H M x % (M : Int) = (x : Int) := by
  unfold sgW
  split
  · exact Int.emod_eq_of_lt (by omega) (by omega)
  · rw [show ((x : Int) - M) = (x : Int) + M * (-1) from by omega, Int.add_mul_emod_self_left]
    exact Int.emod_eq_of_lt (by omega) (by omega)

/-- The bits of n values by Stride. -/
def stB (H M : Nat) (f : Nat → Nat) : Nat → List Bool
  | 0 => []
  | n + 1 => stB H M f n ++ varB (zig (sgW H M (rsS M f n)))

theorem exS_congr (M : Nat) (f g : Nat → Nat) (i : Nat) (h : ∀ j, j < i → f j = g j) : exS M f i = exS M g i := by
  match i with
  | 0 => rfl
  | 1 => exact h 0 (by omega)
  | i + 2 => rw [exS, exS, h i (by omega), h (i + 1) (by omega)]

theorem stB_congr (H M : Nat) (f g : Nat → Nat) (n : Nat) (h : ∀ i, i < n → f i = g i) : stB H M f n = stB H M g n := by
  induction n with
  | zero => rfl
  | succ n ih => rw [stB, stB, ih fun i hi => h i (by omega), rsS, rsS, h n (by omega), exS_congr M f g n fun j hj => h j (by omega)]

/-- How many values from i on, of those before n, are the value at i. -/
def aheadOf (f : Nat → Nat) (v : Nat) : Nat → Nat → Nat
  | _, 0 => 0
  | i, k + 1 => if f i = v then aheadOf f v (i + 1) k + 1 else 0

theorem aheadOf_le (f : Nat → Nat) (v i k : Nat) : aheadOf f v i k ≤ k := by
  induction k generalizing i with
  | zero => exact Nat.le_refl _
  | succ k ih => have := ih (i + 1); rw [aheadOf]; split <;> omega

theorem aheadOf_eq (f : Nat → Nat) (v i k : Nat) (j : Nat) (hj : j < aheadOf f v i k) : f (i + j) = v := by
  induction k generalizing i j with
  | zero => simp [aheadOf] at hj
  | succ k ih =>
    rw [aheadOf] at hj
    split at hj
    · rename_i h
      match j with
      | 0 => exact h
      | j + 1 => rw [show i + (j + 1) = i + 1 + j from by omega]; exact ih (i + 1) j (by omega)
    · omega

theorem aheadOf_pos (f : Nat → Nat) (i k : Nat) : 0 < aheadOf f (f i) i (k + 1) := by rw [aheadOf, if_pos rfl]; omega

/-- What ends a run: the first value that is another one. -/
theorem aheadOf_of (f : Nat → Nat) (v i k m : Nat) (hm : m ≤ k) (hs : ∀ j, j < m → f (i + j) = v) (he : m < k → f (i + m) ≠ v) : aheadOf f v i k = m := by
  induction k generalizing i m with
  | zero => simp [aheadOf]; omega
  | succ k ih =>
    rw [aheadOf]
    match m with
    | 0 => rw [if_neg]; exact fun h => he (by omega) h
    | m + 1 =>
      rw [if_pos (show f i = v from hs 0 (by omega)), ih (i + 1) m (by omega) (fun j hj => ?_) (fun hj => ?_)]
      · rw [show i + 1 + j = i + (j + 1) from by omega]; exact hs (j + 1) (by omega)
      · rw [show i + 1 + m = i + (m + 1) from by omega]; exact he (by omega)

/-- The bits by Runs of k values from i on (of at most u runs). -/
def rnB (W : Nat) (f : Nat → Nat) : Nat → Nat → Nat → List Bool
  | 0, _, _ => []
  | _, _, 0 => []
  | u + 1, i, k + 1 => bitsOf (f i) W ++ varB (aheadOf f (f i) i (k + 1) - 1) ++ rnB W f u (i + aheadOf f (f i) i (k + 1)) (k + 1 - aheadOf f (f i) i (k + 1))

/-- So many runs are enough. -/
theorem rnB_enough (W : Nat) (f : Nat → Nat) (u u' i k : Nat) (h : k ≤ u) (h' : k ≤ u') : rnB W f u i k = rnB W f u' i k := by
  induction u generalizing u' i k with
  | zero => obtain rfl : k = 0 := by omega
            cases u' <;> rfl
  | succ u ih =>
    match k, u' with
    | 0, 0 => rfl
    | 0, u' + 1 => rfl
    | k + 1, u' + 1 =>
      have hp := aheadOf_pos f i k
      rw [rnB, rnB, ih u' _ _ (by omega) (by omega)]

end Go.Proofs.YtleffbpjjbiobaaGreatDoor
