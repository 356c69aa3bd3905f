/- Words of 64 bits: rows in memory that are written in place; gather. -/
import Derived.Test.YtleeahigceppiaaDoorYB
/- Words of 64 bits: once, laid. -/
namespace Go.Proofs.YtleeahigceppiaaDoor
open Go.RowKit
open M
set_option linter.unusedVariables false
set_option linter.unusedSimpArgs false

/-- Three cells of one's own. -/
theorem three_put {w1 : World} {h : Nat} {a b c x y z : Value} (c0 : w1.cell? ⟨h, 0, none⟩ = some x) (c1 : w1.cell? ⟨h, 1, none⟩ = some y) (c2 : w1.cell? ⟨h, 2, none⟩ = some z) :
    (((w1.setCell ⟨h, 0, none⟩ a).setCell ⟨h, 1, none⟩ b).setCell ⟨h, 2, none⟩ c).cell? ⟨h, 0, none⟩ = some a ∧ (((w1.setCell ⟨h, 0, none⟩ a).setCell ⟨h, 1, none⟩ b).setCell ⟨h, 2, none⟩ c).cell? ⟨h, 1, none⟩ = some b ∧ (((w1.setCell ⟨h, 0, none⟩ a).setCell ⟨h, 1, none⟩ b).setCell ⟨h, 2, none⟩ c).cell? ⟨h, 2, none⟩ = some c ∧
    (∀ D (w : World), D ≤ h → Below D w w1 → Below D w (((w1.setCell ⟨h, 0, none⟩ a).setCell ⟨h, 1, none⟩ b).setCell ⟨h, 2, none⟩ c)) := by
  have e1 : (w1.setCell ⟨h, 0, none⟩ a).cell? ⟨h, 1, none⟩ = some y := by rw [cell_setCell_ne _ _ _ _ _ (by omega)]; exact c1
  have e2 : ((w1.setCell ⟨h, 0, none⟩ a).setCell ⟨h, 1, none⟩ b).cell? ⟨h, 2, none⟩ = some z := by rw [cell_setCell_ne _ _ _ _ _ (by omega), cell_setCell_ne _ _ _ _ _ (by omega)]; exact c2
  refine ⟨?_, ?_, cell_setCell_eq _ _ _ _ _ e2, fun D w hD hb => ((hb.setCell hD _).setCell hD _).setCell hD _⟩
  · rw [cell_setCell_ne _ _ _ _ _ (by omega), cell_setCell_ne _ _ _ _ _ (by omega)]; exact cell_setCell_eq _ _ _ _ _ c0
  · rw [cell_setCell_ne _ _ _ _ _ (by omega)]; exact cell_setCell_eq _ _ _ _ _ e1

/-- A part of a sum. -/
def prt (neg : Bool) (m at_ : Nat) : Value := .agg #[.bool neg, .int .u64 (m : Nat), .int .i64 (at_ : Nat)]

set_option maxRecDepth 100000 in
theorem once_any (w : World) : Calls Tryd.prog 11 #[] w fun e w' => e = .returned (prt false 1 0) ∧ Below w.heap.size w w' := by
  go_enter Tryd.func11, Tryd.ntmps11
  go_wp2_with fail
  refine bodyPost_ret (v := prt false 1 0) (by simp [results, Tryd.results11, go_sem, prt]) rfl ⟨rfl, ?_⟩
  exact (Below.refl _ w).alloc (Nat.le_refl _) _

theorem or_words (a b n : Nat) (hb : b < 2 ^ n) (hn : n < 64) (hm : a % 2 ^ n = 0) (ha : a < 18446744073709551616) (hs : a + b < 18446744073709551616) :
    bits BinOp.or IntKind.u64 (a : Int) (b : Int) = ((a + b : Nat) : Int) := by
  rw [u64_or _ _ (by omega) (by omega) (by omega) (by omega)]
  simp only [Int.toNat_natCast]
  rw [nat_join n a b hm hb]

set_option maxRecDepth 100000 in
set_option maxHeartbeats 4000000 in
theorem laid_any (x y up : Nat) (hx : x < 18446744073709551616) (hy : y < 18446744073709551616) (hup : up < 64) (w : World) :
    Calls Tryd.prog 18 #[.int .u64 x, .int .u64 y, .int .i64 up] w fun e w' => e = .returned (.agg #[.int .u64 (W6.wd (x * y * 2 ^ up) 0 : Nat), .int .u64 (W6.wd (x * y * 2 ^ up) 1 : Nat), .int .u64 (W6.wd (x * y * 2 ^ up) 2 : Nat)]) ∧ Below w.heap.size w w' := by
  have HM : Hid (∀ w : World, Calls Tryd.prog 32 #[.int .u64 x, .int .u64 y] w fun e w' => e = .returned (.tuple #[.int .u64 ((x * y / 18446744073709551616 : Nat) : Int), .int .u64 ((x * y % 18446744073709551616 : Nat) : Int)]) ∧ w' = w) := Mul64_any x y hx hy
  have hP : x * y < 18446744073709551616 * 18446744073709551616 := by
    refine Nat.lt_of_le_of_lt (Nat.mul_le_mul_left x (Nat.le_of_lt hy)) ?_
    exact Nat.mul_lt_mul_of_pos_right hx (by omega)
  obtain ⟨l0, l1, l2, l3, l4⟩ := laid_words (x * y) up hup
  replace l4 := l4 hP
  have hl : x * y % 18446744073709551616 < 18446744073709551616 := Nat.mod_lt _ (by omega)
  have hh : x * y / 18446744073709551616 < 18446744073709551616 := by omega
  have hs := W6.wd_lt (x * y * 2 ^ up) 1
  rw [l1] at hs
  rw [l0, l1, l4]
  clear l0 l1 l4 hP
  generalize x * y % 18446744073709551616 = l at *
  generalize x * y / 18446744073709551616 = h at *
  clear hx hy
  go_enter Tryd.func18, Tryd.ntmps18
  go_wp2_with fail
  refine (HM.out _).mono ?_
  rintro e w1 ⟨rfl, rfl⟩
  clear HM
  go_wp2_with fail
  go_region
  have e0 : IntKind.u64.wrap ((l : Int) * 2 ^ up) = ((l * 2 ^ up % 18446744073709551616 : Nat) : Int) := by rw [← m64_cut]; simp
  have e1 : IntKind.u64.wrap ((h : Int) * 2 ^ up) = ((h * 2 ^ up % 18446744073709551616 : Nat) : Int) := by rw [← m64_cut]; simp
  have e2 : ((l : Int) / 2 ^ (64 - up)) = ((l / 2 ^ (64 - up) : Nat) : Int) := by simp
  have e3 : ((h : Int) / 2 ^ (64 - up)) = ((h / 2 ^ (64 - up) : Nat) : Int) := by simp
  rw [e0, e1, e2, e3, or_words _ _ up l3 hup l2 (Nat.mod_lt _ (by omega)) hs]
  go_wp2_with fail
  refine bodyPost_ret (v := .agg #[.int .u64 (l * 2 ^ up % 18446744073709551616 : Nat), .int .u64 (h * 2 ^ up % 18446744073709551616 + l / 2 ^ (64 - up) : Nat), .int .u64 (h / 2 ^ (64 - up) : Nat)]) (by simp [results, Tryd.results18, go_sem]) rfl ⟨rfl, ?_⟩
  exact ((Below.refl _ w).alloc (Nat.le_refl _) _).drew

end Go.Proofs.YtleeahigceppiaaDoor

namespace Go.Proofs.YtleeahigceppiaaDoor
open Go.RowKit
open M
set_option linter.unusedVariables false
set_option linter.unusedSimpArgs false

/-- The cells of a sum: from o on in block g, n words of N. -/
structure Ws (w : World) (g o n N : Nat) : Prop where
  lt : N < 18446744073709551616 ^ n
  cell : ∀ j, j < n → w.cell? ⟨g, o + j, none⟩ = some (.int .u64 (W6.wd N j : Nat))
  free : ∀ j, j < n → w.frozen? ⟨g, o + j, none⟩ = false

theorem Ws.below {w w' : World} {g o n N B : Nat} (h : Ws w g o n N) (hb : Below B w w') (hg : g < B) : Ws w' g o n N :=
  ⟨h.lt, fun j hj => by rw [hb.cell (p := ⟨g, o + j, none⟩) hg]; exact h.cell j hj, fun j hj => by rw [hb.frozen (p := ⟨g, o + j, none⟩) hg]; exact h.free j hj⟩

theorem Ws.only {w w' : World} {g o n N b lo hi : Nat} (h : Ws w g o n N) (ho : Only b lo hi w w') (hg : g ≠ b) (hs : g < w.heap.size) : Ws w' g o n N :=
  ⟨h.lt, fun j hj => by rw [World.cell?_of_block (w := w) (a := ⟨g, o + j, none⟩) (ho.block g hs hg)]; exact h.cell j hj, fun j hj => by rw [World.frozen?_of_block (w := w) (a := ⟨g, o + j, none⟩) (ho.block g hs hg)]; exact h.free j hj⟩

theorem Ws.apart {w w' : World} {g o n N lo hi : Nat} (h : Ws w g o n N) (ho : Only g lo hi w w') (hd : o + n ≤ lo ∨ hi ≤ o) : Ws w' g o n N :=
  ⟨h.lt, fun j hj => by rw [ho.cell _ (by omega)]; exact h.cell j hj, fun j hj => by rw [ho.frozen]; exact h.free j hj⟩

theorem Ws.drewN {w : World} {g o n N : Nat} (h : Ws w g o n N) (m : Nat) : Ws (w.drewN m) g o n N := ⟨h.lt, h.cell, h.free⟩
theorem Ws.drew {w : World} {g o n N : Nat} (h : Ws w g o n N) : Ws w.drew g o n N := ⟨h.lt, h.cell, h.free⟩

/-- While a sum's words are gone through, from word s on: those from s on and below s + i are X's. -/
structure Wm (w : World) (g o k i A X : Nat) : Prop where
  lo : ∀ j, j < i → w.cell? ⟨g, o + j, none⟩ = some (.int .u64 (W6.wd X j : Nat))
  hi : ∀ j, i ≤ j → j < k → w.cell? ⟨g, o + j, none⟩ = some (.int .u64 (W6.wd A j : Nat))
  free : ∀ j, j < k → w.frozen? ⟨g, o + j, none⟩ = false

theorem Wm.step {w : World} {g o k i N X : Nat} (h : Wm w g o k i N X) (hi : i < k) (y : Int) (hy : y = (W6.wd X i : Nat)) : Wm (w.setCell ⟨g, o + i, none⟩ (.int .u64 y)) g o k (i + 1) N X := by
  subst hy
  refine ⟨fun j hj => ?_, fun j h1 h2 => ?_, fun j hj => by rw [frozen_setCell]; exact h.free j hj⟩
  · by_cases e : j = i
    · subst e; exact cell_setCell_eq _ _ _ _ _ (h.hi j (Nat.le_refl _) hi)
    · rw [cell_setCell_ne _ _ _ _ _ (by omega)]; exact h.lo j (by omega)
  · rw [cell_setCell_ne _ _ _ _ _ (by omega)]; exact h.hi j (by omega) h2

theorem wd_from (N s j : Nat) : W6.wd N (s + j) = W6.wd (N / 18446744073709551616 ^ s) j := by
  unfold W6.wd
  rw [Nat.pow_add, Nat.div_div_eq_div_mul]

theorem Ws.from {w : World} {g o n N : Nat} (h : Ws w g o n N) (s : Nat) (X : Nat) : Wm w g (o + s) (n - s) 0 (N / 18446744073709551616 ^ s) X :=
  ⟨fun j hj => by omega, fun j _ hj => by rw [Nat.add_assoc, ← wd_from]; exact h.cell (s + j) (by omega), fun j hj => by rw [Nat.add_assoc]; exact h.free (s + j) (by omega)⟩

/-- Behind all words, or where the others stay. -/
theorem Ws.done {w w' : World} {g o n i : Nat} {Z D : Int} (s X : Nat) (h : Ws w g o n (W6.tc n Z)) (hs : s ≤ n) (hm : Wm w' g (o + s) (n - s) i (W6.tc n Z / 18446744073709551616 ^ s) X) (hi : ∀ j, i ≤ j → j < n - s → W6.wd X j = W6.wd (W6.tc n Z / 18446744073709551616 ^ s) j)
    (ho : Only g (o + s) (o + n) w w') (hX : X % 18446744073709551616 ^ (n - s) = W6.tc (n - s) (((W6.tc n Z / 18446744073709551616 ^ s : Nat) : Int) + D)) : Ws w' g o n (W6.tc n (Z + D * ((18446744073709551616 ^ s : Nat) : Int))) := by
  obtain ⟨k, rfl⟩ : ∃ k, n = s + k := ⟨n - s, by omega⟩
  rw [show s + k - s = k from by omega] at *
  have e := W6.tc_from s k Z D _ hX
  refine ⟨W6.tc_lt _ _, fun j hj => ?_, fun j hj => by rw [ho.frozen]; exact h.free j hj⟩
  rw [e]
  rcases Nat.lt_or_ge j s with h1 | h1
  · rw [ho.cell _ (by omega), W6.wd_low h1, W6.wd_mod _ h1]; exact h.cell j hj
  · obtain ⟨t, rfl⟩ : ∃ t, j = s + t := ⟨j - s, by omega⟩
    rw [wd_from, Nat.add_mul_div_left _ _ (W6.pw_pos s), Nat.div_eq_of_lt (W6.mod_lt _ s), Nat.zero_add, W6.wd_mod _ (by omega : t < k), ← Nat.add_assoc]
    rcases Nat.lt_or_ge t i with h2 | h2
    · exact hm.lo t h2
    · rw [hi t h2 (by omega)]; exact hm.hi t h2 (by omega)

theorem ones_xor (a : Nat) (ha : a < 2 ^ 64) : (2 ^ 64 - 1) ^^^ a = 2 ^ 64 - 1 - a := by
  apply Nat.eq_of_testBit_eq
  intro i
  rw [show 2 ^ 64 - 1 - a = 2 ^ 64 - (a + 1) by omega, Nat.testBit_two_pow_sub_succ ha, Nat.testBit_xor, Nat.testBit_two_pow_sub_one]
  by_cases h : i < 64
  · simp [h]
  · have : a.testBit i = false := Nat.testBit_lt_two_pow (Nat.lt_of_lt_of_le ha (Nat.pow_le_pow_right (by omega) (by omega)))
    simp [h, this]

/-- A word, turned or not. -/
theorem flp_xor (neg : Bool) (q : Nat) (hq : q < 18446744073709551616) : bits BinOp.xor IntKind.u64 (flp neg : Nat) (q : Int) = ((if neg then 18446744073709551615 - q else q : Nat) : Int) := by
  cases neg with
  | false =>
    rw [show (flp false) = 0 from rfl, u64_xor_nat 0 q (by omega) hq]
    simp
  | true =>
    rw [show (flp true) = 18446744073709551615 from rfl, u64_xor_nat 18446744073709551615 q (by omega) hq]
    have := ones_xor q hq
    simp only [if_true]
    exact congrArg _ this

theorem flp_and (neg : Bool) : bits BinOp.and IntKind.u64 (flp neg : Nat) 1 = (W6.c0 neg : Nat) := by cases neg <;> decide +kernel

theorem flp_word (neg : Bool) (Q k j : Nat) (hj : j < k) (hQ : W6.wd Q j = 0) : W6.wd (W6.sm neg Q k) j = flp neg := by
  rw [W6.wd_sm neg Q k j hj, hQ]; cases neg <;> rfl

/-- Where nothing is carried any more. -/
theorem stay_on (A Q k i : Nat) (neg : Bool) (hQ : ∀ j, i ≤ j → W6.wd Q j = 0) (hc : W6.cy A (W6.sm neg Q k) (W6.c0 neg) i = W6.c0 neg) (j : Nat) (h1 : i ≤ j) (h2 : j < k) : W6.wd (A + W6.sm neg Q k + W6.c0 neg) j = W6.wd A j := by
  cases neg with
  | false => exact W6.cy_keep0 _ _ _ i j hc h1 (fun t h3 h4 => flp_word false Q k t (by omega) (hQ t h3))
  | true => exact W6.cy_keep1 _ _ _ i j hc h1 (fun t h3 h4 => flp_word true Q k t (by omega) (hQ t h3))

theorem c0_le (neg : Bool) : W6.c0 neg ≤ 1 := by cases neg <;> decide

/-- What is told at the end. -/
theorem gather_end {w wr : World} {g o n i s up : Nat} {Z : Int} (neg : Bool) (P a : Nat) (h : Ws w g o n (W6.tc n Z)) (hs : s = a / 64) (hup : up = a % 64) (hsn : s < n)
    (hm : Wm wr g (o + s) (n - s) i (W6.tc n Z / 18446744073709551616 ^ s) (W6.tc n Z / 18446744073709551616 ^ s + W6.sm neg (P * 2 ^ up) (n - s) + W6.c0 neg))
    (hi : ∀ j, i ≤ j → j < n - s → W6.wd (W6.tc n Z / 18446744073709551616 ^ s + W6.sm neg (P * 2 ^ up) (n - s) + W6.c0 neg) j = W6.wd (W6.tc n Z / 18446744073709551616 ^ s) j) (ho : Only g (o + s) (o + n) w wr) :
    Ws wr g o n (W6.tc n (Z + W6.sgn neg (P * 2 ^ a))) := by
  have e : P * 2 ^ a = P * 2 ^ up * 18446744073709551616 ^ s := by
    rw [Nat.mul_assoc, show (18446744073709551616 : Nat) ^ s = 2 ^ (64 * s) from by rw [Nat.pow_mul], ← Nat.pow_add, show up + 64 * s = a from by omega]
  have e2 : W6.sgn neg (P * 2 ^ a) = W6.sgn neg (P * 2 ^ up) * ((18446744073709551616 ^ s : Nat) : Int) := by
    rw [e]; unfold W6.sgn
    cases neg <;> simp [Int.neg_mul]
  rw [e2]
  exact Ws.done s _ h (Nat.le_of_lt hsn) hm hi ho (W6.sm_tc _ _ _ neg)

theorem wd_three (P up j : Nat) (hP : P < 18446744073709551616 * 18446744073709551616) (hup : up < 64) (hj : 3 ≤ j) : W6.wd (P * 2 ^ up) j = 0 := by
  refine W6.wd_high (k := 3) ?_ hj
  have h1 : (2 : Nat) ^ up ≤ 2 ^ 63 := Nat.pow_le_pow_right (by omega) (by omega)
  have h2 : P * 2 ^ up ≤ P * 2 ^ 63 := Nat.mul_le_mul_left _ h1
  omega

set_option maxRecDepth 100000 in
set_option maxHeartbeats 2000000 in
theorem gather_any (g o n cap : Nat) (Z : Int) (xn yn : Bool) (xm ym xa ya : Nat) (w : World) (hW : Ws w g o n (W6.tc n Z)) (hn : n ≤ 100) (hcap : n ≤ cap) (hc2 : cap ≤ 100) (hg : g < w.heap.size)
    (hxm : xm < 18446744073709551616) (hym : ym < 18446744073709551616) (hat : (xa + ya) / 64 < n) :
    Calls Tryd.prog 10 #[.slice (some ⟨g, o, none⟩) n cap, prt xn xm xa, prt yn ym ya] w fun e w' => e = .returned (.tuple #[]) ∧ Ws w' g o n (W6.tc n (Z + W6.sgn (xn != yn) (xm * ym * 2 ^ (xa + ya)))) ∧ Only g o (o + n) w w' := by
  have HW := hide hW
  have HL : Hid (∀ (up : Nat) (w : World), up < 64 → Calls Tryd.prog 18 #[.int .u64 xm, .int .u64 ym, .int .i64 up] w fun e w' => e = .returned (.agg #[.int .u64 (W6.wd (xm * ym * 2 ^ up) 0 : Nat), .int .u64 (W6.wd (xm * ym * 2 ^ up) 1 : Nat), .int .u64 (W6.wd (xm * ym * 2 ^ up) 2 : Nat)]) ∧ Below w.heap.size w w') := fun up w h => laid_any xm ym up hxm hym h w
  obtain ⟨s, hs⟩ : ∃ s, s = (xa + ya) / 64 := ⟨_, rfl⟩
  obtain ⟨up, hup⟩ : ∃ up, up = (xa + ya) % 64 := ⟨_, rfl⟩
  have hq1 : ((xa : Int) + (ya : Int)) / 64 = (s : Int) := by omega
  have hq2 : ((xa : Int) + (ya : Int)) % 64 = (up : Int) := by omega
  have hsn : (s : Int) < (n : Int) := by omega
  have hupl : up < 64 := by omega
  have hsum : (xa : Int) + (ya : Int) ≤ 6400 := by omega
  have Hs : Hid (s = (xa + ya) / 64 ∧ up = (xa + ya) % 64 ∧ s < n) := ⟨hs, hup, by omega⟩
  have hpos : (0 : Int) ≤ (xa : Int) + (ya : Int) := by omega
  have hpos' : (0 : Int) ≤ (s : Int) := by omega
  obtain ⟨t, ht⟩ : ∃ t : Int, t = (xa : Int) + (ya : Int) := ⟨_, rfl⟩
  rw [← ht] at hq1 hq2 hsum hpos
  have hP : xm * ym < 18446744073709551616 * 18446744073709551616 := by
    refine Nat.lt_of_le_of_lt (Nat.mul_le_mul_left xm (Nat.le_of_lt hym)) ?_
    exact Nat.mul_lt_mul_of_pos_right hxm (by omega)
  obtain ⟨neg, hneg⟩ : ∃ neg, neg = (xn != yn) := ⟨_, rfl⟩
  have HSG : Hid (∀ w : World, Calls Tryd.prog 17 #[.bool (xn != yn)] w fun e w' => e = .returned (.tuple #[.int .u64 (flp neg : Nat), .int .u64 (W6.c0 neg : Nat)]) ∧ w' = w) := by rw [hneg]; exact fun w => signWords_any (xn != yn) w
  rw [← hneg]
  have HE := fun (wr : World) (i : Nat) => hide (gather_end (wr := wr) (i := i) (Z := Z) neg (xm * ym) (xa + ya) HW.out hs hup (by omega))
  generalize W6.tc n (Z + W6.sgn neg (xm * ym * 2 ^ (xa + ya))) = R at *
  have H3 : Hid (∀ j, 3 ≤ j → W6.wd (xm * ym * 2 ^ up) j = 0) := fun j hj => wd_three _ _ _ hP hupl hj
  clear hs hup hat hW hxm hym hP hneg
  unfold prt
  go_enter Tryd.func10, Tryd.ntmps10
  go_wp2_with fail
  refine (HSG.out _).mono ?_
  rintro e w1 ⟨rfl, rfl⟩
  clear HSG
  go_wp2_with (simp only [← ht, hq1, hq2])
  refine (HL.out up _ hupl).mono ?_
  rintro e w2 ⟨rfl, B2⟩
  clear HL ht
  have hsn' : s < n := by omega
  obtain ⟨A, hA⟩ : ∃ A, A = W6.tc n Z / 18446744073709551616 ^ s := ⟨_, rfl⟩
  obtain ⟨k, hk⟩ : ∃ k, k = n - s := ⟨_, rfl⟩
  rw [← hA, ← hk] at HE
  generalize xm * ym * 2 ^ up = Q at *
  have hB0 : Below w.heap.size w w2 := (((Below.refl _ w).alloc (Nat.le_refl _) _).alloc (by simp) _).trans (B2.mono (by simp; omega))
  clear B2
  obtain ⟨h, hh⟩ : ∃ h, h = w2.heap.size := ⟨_, rfl⟩
  have hgh : h ≠ g := by have := hB0.size; omega
  obtain ⟨W0, hW0⟩ : ∃ W0, W0 = w2.alloc (.cells #[.int .u64 (W6.wd Q 0 : Nat), .int .u64 (W6.wd Q 1 : Nat), .int .u64 (W6.wd Q 2 : Nat)] 56) := ⟨_, rfl⟩
  have hO : Only g (o + s) (o + n) w W0 := by rw [hW0]; exact Only.of_below (hB0.alloc hB0.size _) hg
  have hC : ∀ j, j < 3 → W0.cell? ⟨h, j, none⟩ = some (.int .u64 (W6.wd Q j : Nat)) := by
    intro j hj
    have hn := heap_alloc_new w2 (.cells #[.int .u64 (W6.wd Q 0 : Nat), .int .u64 (W6.wd Q 1 : Nat), .int .u64 (W6.wd Q 2 : Nat)] 56)
    rw [hh, hW0, cell_of_row _ _ j _ _ _ hn]
    have : j = 0 ∨ j = 1 ∨ j = 2 := by omega
    rcases this with rfl | rfl | rfl <;> rfl
  have hWm : Wm W0 g (o + s) k 0 A (A + W6.sm neg Q k + W6.c0 neg) := by
    rw [hk, hA]
    exact Ws.from (by rw [hW0]; exact HW.out.below (hB0.alloc hB0.size _) hg) s _
  have HI : Hid (Wm W0 g (o + s) k 0 A (A + W6.sm neg Q k + W6.c0 neg) ∧ Only g (o + s) (o + n) w W0 ∧ (∀ j, j < 3 → W0.cell? ⟨h, j, none⟩ = some (.int .u64 (W6.wd Q j : Nat)))) := ⟨hWm, hO, hC⟩
  have Hsk : Hid (s + k = n) := by show _ = _; omega
  have hkl : k ≤ 100 := by omega
  have Hsm : Hid (∀ j, j < k → W6.wd (W6.sm neg Q k) j = if neg then 18446744073709551615 - W6.wd Q j else W6.wd Q j) := fun j hj => W6.wd_sm neg Q k j hj
  have Hfw : Hid (∀ j, j < k → 3 ≤ j → W6.wd (W6.sm neg Q k) j = flp neg) := fun j hj h3 => flp_word neg Q k j hj (H3.out j h3)
  have Hst : Hid (∀ i, 3 ≤ i → W6.cy A (W6.sm neg Q k) (W6.c0 neg) i = W6.c0 neg → ∀ j, i ≤ j → j < k → W6.wd (A + W6.sm neg Q k + W6.c0 neg) j = W6.wd A j) := fun i hi hc j h1 h2 => stay_on A Q k i neg (fun j hj => H3.out j (by omega)) hc j h1 h2
  have hand := flp_and neg
  have Hxor : Hid (∀ q : Nat, q < 18446744073709551616 → bits BinOp.xor IntKind.u64 (flp neg : Nat) (q : Int) = ((if neg then 18446744073709551615 - q else q : Nat) : Int)) := flp_xor neg
  have hcl0 := c0_le neg
  have HEE : Hid (∀ (wr : World) (i : Nat), Wm wr g (o + s) k i A (A + W6.sm neg Q k + W6.c0 neg) → (∀ j, i ≤ j → j < k → W6.wd (A + W6.sm neg Q k + W6.c0 neg) j = W6.wd A j) → Only g (o + s) (o + n) w wr → Ws wr g o n R) := fun wr i => (HE wr i).out
  clear HE H3 hWm hO hC hA
  generalize W6.sm neg Q k = B at *
  generalize W6.c0 neg = c at *
  generalize flp neg = fl at *
  go_wp2_with (simp only [hq1, hq2])
  rw [← hW0, ← hh, ← hk]
  clear hW0 hB0 hh hk hsn'
  go_loopw [7, 40] (fun t7 t40 wr => ∃ i : Nat, i ≤ k ∧ t7 = .int .u64 (W6.cy A B c i : Nat) ∧ t40 = .int .i64 i ∧ Hid (Wm wr g (o + s) k i A (A + B + c) ∧ Only g (o + s) (o + n) w wr ∧ (∀ j, j < 3 → wr.cell? ⟨h, j, none⟩ = some (.int .u64 (W6.wd Q j : Nat))))) (fun _ t40 _ => k - (intOf t40).toNat)
  case atStart => exact ⟨0, by omega, by rw [W6.cy_zero], rfl, HI⟩
  case round =>
    clear HI
    obtain ⟨i, hi, rfl, rfl, HM⟩ := hrel
    by_cases hlt : i < k
    · have hlt' : (i : Int) < (k : Int) := by omega
      have hx := HM.out.1.hi i (Nat.le_refl _) hlt
      have hf := HM.out.1.free i hlt
      have Hs2 := hide (W6.cy_step A B c i)
      have hcl := W6.cy_le A B c i hcl0
      have hadd := add64_run (W6.wd A i) (W6.wd B i) (W6.cy A B c i) hcl
      have hxl := W6.wd_lt A i
      have hbl := W6.wd_lt B i
      have hql := W6.wd_lt Q i
      have Hrel : Hid (∀ (y : Int), y = (W6.wd (A + B + c) i : Nat) → Wm (wr.setCell ⟨g, o + s + i, none⟩ (.int .u64 y)) g (o + s) k (i + 1) A (A + B + c) ∧ Only g (o + s) (o + n) w (wr.setCell ⟨g, o + s + i, none⟩ (.int .u64 y)) ∧ (∀ j, j < 3 → (wr.setCell ⟨g, o + s + i, none⟩ (.int .u64 y)).cell? ⟨h, j, none⟩ = some (.int .u64 (W6.wd Q j : Nat)))) :=
        fun y hy => ⟨HM.out.1.step hlt y hy, HM.out.2.1.setCell _ (by omega) (by have := Hsk.out; omega) _, fun j hj => by rw [cell_other _ _ _ _ _ _ hgh]; exact HM.out.2.2 j hj⟩
      by_cases h3 : i < 3
      · have h3' : (i : Int) < 3 := by omega
        have hqc := HM.out.2.2 i h3
        have hxor := Hxor.out (W6.wd Q i) hql
        rw [← Hsm.out i hlt] at hxor
        clear HM
        generalize W6.wd A i = x at *
        generalize W6.wd B i = b at *
        generalize W6.wd Q i = q at *
        generalize W6.cy A B c i = cc at *
        go_wp2_with (simp only [hxor, hadd])
        refine ⟨⟨i + 1, by omega, ?_, by go_num, ?_⟩, by simp [intOf]; omega⟩
        · rw [← Hs2.out.2]; exact congrArg _ (by omega)
        · exact Hrel.out _ (by rw [← Hs2.out.1]; omega)
      · have h3' : ¬ (i : Int) < 3 := by omega
        have hfw := Hfw.out i hlt (by omega)
        have HK := hide (Hst.out i (by omega))
        by_cases hcc : W6.cy A B c i = c
        · have hcc' : ((W6.cy A B c i : Nat) : Int) = (c : Int) := by omega
          have HC := hide hcc
          clear hadd hx hcc
          rw [HC.out]
          clear hcc'
          go_wp2_with (simp only [hand])
          refine bodyPost_ret (v := .tuple #[]) (by simp [results, Tryd.results10, go_sem]) rfl ?_
          exact ⟨rfl, HEE.out _ _ HM.out.1 (HK.out HC.out) HM.out.2.1, HM.out.2.1.wider (by omega) (Nat.le_refl _)⟩
        · have hcc' : ¬ ((W6.cy A B c i : Nat) : Int) = (c : Int) := by omega
          rw [hfw] at hadd Hs2 hbl
          clear HM HK hfw
          generalize W6.wd A i = x at *
          generalize W6.cy A B c i = cc at *
          go_wp2_with (simp only [hand, hadd])
          refine ⟨⟨i + 1, by omega, ?_, by go_num, ?_⟩, by simp [intOf]; omega⟩
          · rw [← Hs2.out.2]; exact congrArg _ (by omega)
          · exact Hrel.out _ (by rw [← Hs2.out.1]; omega)
    · obtain rfl : i = k := by omega
      go_wp2_with fail
      go_end0
      exact ⟨rfl, HEE.out _ _ HM.out.1 (fun j h1 h2 => by omega) HM.out.2.1, HM.out.2.1.wider (by omega) (Nat.le_refl _)⟩

end Go.Proofs.YtleeahigceppiaaDoor
