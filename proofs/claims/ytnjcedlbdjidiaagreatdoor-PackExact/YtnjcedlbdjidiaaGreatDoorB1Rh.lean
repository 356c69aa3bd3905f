/- The document's own Reader: the contract of From. -/
import Derived.Test.YtnjcedlbdjidiaaGreatDoorKA
import Derived.Test.YtnjcedlbdjidiaaGreatDoorB1I
/- The contracts of the document's own Writer: Bit, Bits, Unary, Var, Zig, where nothing is refused. -/
namespace Go.Proofs.YtnjcedlbdjidiaaGreatDoor
open Go.RowKit
open M
set_option linter.unusedVariables false

/-- Behind a call on the document's Writer. -/
def RwPost (w : World) (b off : Nat) (r : Option Nat) (l : List Bool) (w' : World) : Prop := ∃ r', Rw w' b off r' l 0 ∧ RowStep w r r' ∧ OnlyR b off (off + 2) r w w'

theorem RwPost.refl {w : World} {b off : Nat} {r : Option Nat} {l : List Bool} (h : Rw w b off r l 0) : RwPost w b off r l w := ⟨r, h, .inl rfl, OnlyR.refl _ _ _ _ _⟩

theorem RwPost.then {u v w : World} {b off : Nat} {r r' : Option Nat} {l : List Bool} (hs : RowStep u r r') (ho : OnlyR b off (off + 2) r u v) (h : RwPost v b off r' l w) : RwPost u b off r l w := by
  obtain ⟨r'', h1, h2, h3⟩ := h
  exact ⟨r'', h1, hs.trans ho.size h2, ho.trans hs h3⟩


theorem bitV_form (x j : Nat) : bitV (((x : Int) / 2 ^ j).tmod 2 == 1) = .int .u8 (((x : Int) / 2 ^ j).tmod 2 % 256) := by
  have h0 : (x : Int) / 2 ^ j = ((x / 2 ^ j : Nat) : Int) := by simp
  rw [h0, Int.tmod_eq_emod_of_nonneg (Int.natCast_nonneg _)]
  unfold bitV
  have h2 : ((x / 2 ^ j : Nat) : Int) % 2 = 0 ∨ ((x / 2 ^ j : Nat) : Int) % 2 = 1 := by omega
  rcases h2 with h2 | h2 <;> rw [h2] <;> rfl

theorem bit_next2 (L : List Bool) (Y W j : Nat) (h : j + 1 ≤ W) : L ++ bitsOf (Y / 2 ^ (j + 1)) (W - (j + 1)) ++ [(((Y : Int) / 2 ^ j).tmod 2 == 1)] = L ++ bitsOf (Y / 2 ^ j) (W - j) := by
  rw [List.append_assoc]
  congr 1
  have h1 := bitsOf_split (Y / 2 ^ j) (W - (j + 1)) 1
  rw [show W - (j + 1) + 1 = W - j from by omega, Nat.div_div_eq_div_mul, ← Nat.pow_add] at h1
  rw [h1]
  congr 1
  have e : ((Y : Int) / 2 ^ j).tmod 2 = ((Y / 2 ^ j % 2 : Nat) : Int) := by
    have h0 : (Y : Int) / 2 ^ j = ((Y / 2 ^ j : Nat) : Int) := by simp
    rw [h0, Int.tmod_eq_emod_of_nonneg (Int.natCast_nonneg _)]; omega
  rw [e]
  simp only [bitsOf, Nat.pow_zero, Nat.div_one]
  generalize Y / 2 ^ j % 2 = y
  by_cases hy : y = 1
  · subst hy; rfl
  · have : ¬ (y : Int) = 1 := by omega
    rw [beq_eq_false_iff_ne.2 hy, beq_eq_false_iff_ne.2 this]

set_option maxRecDepth 100000 in
set_option maxHeartbeats 1000000 in
theorem refbits_any (b off : Nat) (r : Option Nat) (l : List Bool) (x n : Nat) (w : World) (h : Rw w b off r l 0) (hlen : l.length + n < 100000000) (hn : n ≤ 64) (hx : x < 18446744073709551616) (hfit : x < 2 ^ n) :
    Calls Tryz.prog 89 #[.pointer (some ⟨b, off, none⟩), .int .u64 x, .int .i64 n] w fun e w' => e = .returned (.tuple #[]) ∧ RwPost w b off r (l ++ bitsOf x n) w' := by
  have Hh : Hid (Rw w b off r l 0) := h
  clear h
  rcases (show n = 0 ∨ (0 < n ∧ n < 64) ∨ n = 64 from by omega) with h0 | ⟨h0, h1⟩ | h0
  · subst h0
    have hx0 : x = 0 := by simp at hfit; exact hfit
    subst hx0
    go_enter Tryz.func89, Tryz.ntmps89
    go_wp2_with fail
    go_loopw [6] (fun t6 wr => ∃ (j : Nat) (t : Int), t6 = .int .i64 t ∧ -1 ≤ t ∧ t ≤ 63 ∧ Hid (t = (j : Int) - 1 ∧ j ≤ 0) ∧ Hid (RwPost w b off r (l ++ bitsOf (0 / 2 ^ j) (0 - j)) wr)) (fun t6 _ => (intOf t6 + 1).toNat)
    case atStart => exact ⟨0, -1, rfl, by omega, by omega, ⟨by omega, Nat.le_refl _⟩, by rw [Nat.sub_self]; exact (show RwPost w b off r (l ++ []) w from by rw [List.append_nil]; exact RwPost.refl Hh.out)⟩
    case round =>
      obtain ⟨j, t, rfl, ht1, ht2, Hj, HP⟩ := hrel
      by_cases htn : t < 0
      · have hj0 : j = 0 := by have := Hj.out; omega
        subst hj0
        go_wp2_with fail
        go_end0
        exact ⟨rfl, by simpa using HP.out⟩
      · have := Hj.out; omega
  · have ht : ((x : Int) / 2 / 2 ^ (n - 1) != 0) = false := by
      have e1 : (x : Int) / 2 / 2 ^ (n - 1) = ((x / 2 / 2 ^ (n - 1) : Nat) : Int) := by simp
      have e2 : x / 2 / 2 ^ (n - 1) = 0 := by
        rw [Nat.div_div_eq_div_mul, show 2 * 2 ^ (n - 1) = 2 ^ n from by rw [← Nat.pow_succ', show (n - 1).succ = n from by omega]]
        exact Nat.div_eq_of_lt hfit
      rw [e1, e2]; rfl
    have hn0 : ((n : Int) == 0) = false := by rw [beq_eq_false_iff_ne]; omega
    go_enter Tryz.func89, Tryz.ntmps89
    go_wp2_with fail
    go_loopw [6] (fun t6 wr => ∃ (j : Nat) (t : Int), t6 = .int .i64 t ∧ -1 ≤ t ∧ t ≤ 63 ∧ Hid (t = (j : Int) - 1 ∧ j ≤ n) ∧ Hid (RwPost w b off r (l ++ bitsOf (x / 2 ^ j) (n - j)) wr)) (fun t6 _ => (intOf t6 + 1).toNat)
    case atStart => exact ⟨n, (n : Int) - 1, rfl, by omega, by omega, ⟨by omega, Nat.le_refl _⟩, by rw [Nat.sub_self]; exact (show RwPost w b off r (l ++ []) w from by rw [List.append_nil]; exact RwPost.refl Hh.out)⟩
    case round =>
      obtain ⟨j, t, rfl, ht1, ht2, Hj, HP⟩ := hrel
      by_cases htn : t < 0
      · have hj0 : j = 0 := by have := Hj.out; omega
        subst hj0
        go_wp2_with fail
        go_end0
        exact ⟨rfl, by simpa using HP.out⟩
      · obtain ⟨j', rfl⟩ : ∃ j' : Nat, t = (j' : Int) := ⟨t.toNat, by omega⟩
        have hj0 : j = j' + 1 := by have := Hj.out; omega
        subst hj0
        have hjn := Hj.out.2
        obtain ⟨r1, R1, S1, O1⟩ := HP.out
        go_wp2_with fail
        refine (refput_any b off r1 _ _ _ wr (bitV_form x j') R1 (by simp; omega)).mono ?_
        rintro e w1 ⟨rfl, P1⟩
        rw [bit_next2 l x n j' hjn] at P1
        have P2 : Hid (RwPost w b off r (l ++ bitsOf (x / 2 ^ j') (n - j')) w1) := RwPost.then S1 O1 P1
        clear P1 R1 S1 O1 HP
        go_wp2_with fail
        refine ⟨⟨j', (j' : Int) - 1, by go_num, by omega, by omega, ⟨rfl, by omega⟩, P2⟩, by simp [intOf]⟩
  · subst h0
    go_enter Tryz.func89, Tryz.ntmps89
    go_wp2_with fail
    go_loopw [6] (fun t6 wr => ∃ (j : Nat) (t : Int), t6 = .int .i64 t ∧ -1 ≤ t ∧ t ≤ 63 ∧ Hid (t = (j : Int) - 1 ∧ j ≤ 64) ∧ Hid (RwPost w b off r (l ++ bitsOf (x / 2 ^ j) (64 - j)) wr)) (fun t6 _ => (intOf t6 + 1).toNat)
    case atStart => exact ⟨64, 63, rfl, by omega, by omega, ⟨by omega, Nat.le_refl _⟩, by rw [Nat.sub_self]; exact (show RwPost w b off r (l ++ []) w from by rw [List.append_nil]; exact RwPost.refl Hh.out)⟩
    case round =>
      obtain ⟨j, t, rfl, ht1, ht2, Hj, HP⟩ := hrel
      by_cases htn : t < 0
      · have hj0 : j = 0 := by have := Hj.out; omega
        subst hj0
        go_wp2_with fail
        go_end0
        exact ⟨rfl, by simpa using HP.out⟩
      · obtain ⟨j', rfl⟩ : ∃ j' : Nat, t = (j' : Int) := ⟨t.toNat, by omega⟩
        have hj0 : j = j' + 1 := by have := Hj.out; omega
        subst hj0
        have hjn := Hj.out.2
        obtain ⟨r1, R1, S1, O1⟩ := HP.out
        go_wp2_with fail
        refine (refput_any b off r1 _ _ _ wr (bitV_form x j') R1 (by simp; omega)).mono ?_
        rintro e w1 ⟨rfl, P1⟩
        rw [bit_next2 l x 64 j' hjn] at P1
        have P2 : Hid (RwPost w b off r (l ++ bitsOf (x / 2 ^ j') (64 - j')) w1) := RwPost.then S1 O1 P1
        clear P1 R1 S1 O1 HP
        go_wp2_with fail
        go_roundw
        case rel => exact ⟨_, _, _, _, _, _, _, _, _, _, _, _, _, ⟨j', (j' : Int) - 1, rfl, by omega, by omega, ⟨rfl, by omega⟩, P2⟩, rfl⟩
        case measure => simp [intOf]





end Go.Proofs.YtnjcedlbdjidiaaGreatDoor

/- The document's own Reader (package fathomref1), in memory: the bits that are left, its first refusal; the contracts of number, refuse, Left, End, Bits, Bit. -/
namespace Go.Proofs.YtnjcedlbdjidiaaGreatDoor
open Go.RowKit
open M
set_option linter.unusedVariables false

/-- Bit i of a row, as a number. -/
def bn (l : List Bool) (i : Nat) : Nat := if l[i]? = some true then 1 else 0

theorem bn_le (l : List Bool) (i : Nat) : bn l i ≤ 1 := by unfold bn; split <;> omega

theorem bn_drop (l : List Bool) (n i : Nat) : bn (l.drop n) i = bn l (n + i) := by simp [bn]

theorem bn_take (l : List Bool) (n i : Nat) (h : i < n) : bn (l.take n) i = bn l i := by simp [bn, List.getElem?_take_of_lt h]

/-- The slice v holds the bits l, in a block between lo and hi. -/
def IsBits (w : World) (v : Value) (lo hi : Nat) (l : List Bool) : Prop :=
  ∃ p cap, v = .slice p l.length cap ∧ l.length ≤ cap ∧ (0 < l.length → ∃ g o, p = some ⟨g, o, none⟩ ∧ lo < g ∧ g < hi ∧ ∀ i, i < l.length → w.cell? ⟨g, o + i, none⟩ = some (.int .u8 (bn l i : Nat)))

theorem num_take_succ (l : List Bool) (i : Nat) (h : i < l.length) : num (l.take (i + 1)) = 2 * num (l.take i) + bn l i := by
  have e : (l.drop i).take 1 = [l[i]] := by rw [List.drop_eq_getElem_cons h, List.take_succ_cons, List.take_zero]
  have e2 : bn l i = if l[i] then 1 else 0 := by simp [bn, h]
  have e3 : num [l[i]] = if l[i] then 1 else 0 := by cases l[i] <;> rfl
  rw [num_take_add l i 1 (by omega), e, e2, e3]
  omega

theorem num_take_lt (l : List Bool) (i : Nat) : num (l.take i) < 2 ^ i :=
  Nat.lt_of_lt_of_le (num_lt _) (Nat.pow_le_pow_right (by omega) (List.length_take_le _ _))

set_option maxHeartbeats 1000000 in
theorem number_any (v : Value) (lo hi : Nat) (l : List Bool) (w : World) (h : IsBits w v lo hi l) (hl : l.length ≤ 64) :
    Calls Tryz.prog 100 #[v] w fun e w' => e = .returned (.int .u64 (num l : Int)) ∧ w' = w := by
  obtain ⟨p, cap, rfl, hcap, hc⟩ := h
  have Hc : Hid (0 < l.length → ∃ g o, p = some ⟨g, o, none⟩ ∧ lo < g ∧ g < hi ∧ ∀ i, i < l.length → w.cell? ⟨g, o + i, none⟩ = some (.int .u8 (bn l i : Nat))) := hc
  clear hc hcap
  obtain ⟨n, hn⟩ : ∃ n, n = l.length := ⟨_, rfl⟩
  rw [← hn]
  have hn64 : n ≤ 64 := by omega
  have Hn : Hid (n = l.length) := hn
  clear hn hl
  go_enter Tryz.func100, Tryz.ntmps100
  go_wp2
  go_loopw [3, 4] (fun t3 t4 wr => ∃ (i x : Nat), t3 = .int .u64 x ∧ t4 = .int .i64 i ∧ i ≤ n ∧ Hid (x = num (l.take i)) ∧ wr = w) (fun _ t4 _ => n - (intOf t4).toNat)
  case atStart => exact ⟨0, 0, rfl, rfl, by omega, rfl, rfl⟩
  case round =>
    obtain ⟨i, x, rfl, rfl, hi, hx, rfl⟩ := hrel
    by_cases hlt : i < n
    · obtain ⟨g, o, rfl, _, _, hcell⟩ := Hc.out (by have := Hn.out; omega)
      have hci := hcell i (by have := Hn.out; omega)
      have hb1 := bn_le l i
      have hxb : x < 9223372036854775808 := by
        have h1 := num_take_lt l i
        have h2 : (2 : Nat) ^ i ≤ 2 ^ 63 := Nat.pow_le_pow_right (by omega) (by omega)
        rw [hx.out]; omega
      have HN : Hid (num (l.take (i + 1)) = 2 * x + bn l i) := by rw [hx.out]; exact num_take_succ l i (by have := Hn.out; omega)
      clear hcell
      generalize bn l i = bi at *
      go_wp2_with fail
      refine ⟨⟨i + 1, 2 * x + bi, by go_num, by go_num, by omega, HN.out.symm, trivial⟩, by simp [intOf]; omega⟩
    · go_wp2
      go_ret
      refine ⟨?_, rfl⟩
      have e : l.take i = l := List.take_of_length_le (by have := Hn.out; omega)
      show Ending.returned (.int .u64 (x : Int)) = _
      rw [hx.out, e]

/-- The Reader in block b has the bits l left; its first refusal is e; its row lies below hi. -/
structure Rr (w : World) (b hi : Nat) (l : List Bool) (e : Int) : Prop where
  row : ∃ v, w.cell? ⟨b, 0, none⟩ = some v ∧ IsBits w v b hi l
  err : w.cell? ⟨b, 1, none⟩ = some (.int .i64 e)
  fz : ∀ j, j < 2 → w.frozen? ⟨b, j, none⟩ = false
  lt : b < hi
  len : l.length ≤ 1000000000000

theorem IsBits.keep {w w' : World} {v : Value} {lo hi : Nat} {l : List Bool} (h : IsBits w v lo hi l) (hk : ∀ k, lo < k → k < hi → w'.heap[k]? = w.heap[k]?) : IsBits w' v lo hi l := by
  obtain ⟨p, cap, h1, h2, h3⟩ := h
  refine ⟨p, cap, h1, h2, fun h0 => ?_⟩
  obtain ⟨g, o, h4, h5, h6, h7⟩ := h3 h0
  exact ⟨g, o, h4, h5, h6, fun i hi => by rw [World.cell?_of_block (w := w) (hk g h5 h6)]; exact h7 i hi⟩

theorem IsBits.cut {w : World} {lo hi : Nat} {l : List Bool} {p : Option Addr} {len cap : Nat} (h : IsBits w (.slice p len cap) lo hi l) (a k : Nat) (hk : a + k ≤ l.length) :
    IsBits w (.slice (if cap = a then p else p.map (·.add a)) k (cap - a)) lo hi ((l.drop a).take k) := by
  obtain ⟨p', cap', h1, h2, h3⟩ := h
  simp only [Value.slice.injEq] at h1
  obtain ⟨rfl, rfl, rfl⟩ := h1
  have hl : ((l.drop a).take k).length = k := by simp; omega
  refine ⟨_, _, by rw [hl], by rw [hl]; omega, fun h0 => ?_⟩
  rw [hl] at h0
  obtain ⟨g, o, rfl, h5, h6, h7⟩ := h3 (by omega)
  refine ⟨g, o + a, ?_, h5, h6, fun i hi => ?_⟩
  · rw [if_neg (by omega)]; simp [Addr.add_mid]
  · rw [hl] at hi
    rw [bn_take _ _ _ hi, bn_drop, Nat.add_assoc]
    exact h7 (a + i) (by omega)

theorem IsBits.front {w : World} {lo hi : Nat} {l : List Bool} {p : Option Addr} {len cap : Nat} (h : IsBits w (.slice p len cap) lo hi l) (n : Nat) (hn : n ≤ l.length) : IsBits w (.slice p n cap) lo hi (l.take n) := by
  obtain ⟨p', cap', h1, h2, h3⟩ := h
  simp only [Value.slice.injEq] at h1
  obtain ⟨rfl, rfl, rfl⟩ := h1
  have hl : (l.take n).length = n := by simp; omega
  refine ⟨_, _, by rw [hl], by omega, fun h0 => ?_⟩
  rw [hl] at h0
  obtain ⟨g, o, rfl, h5, h6, h7⟩ := h3 (by omega)
  refine ⟨g, o, rfl, h5, h6, fun i hi => ?_⟩
  rw [hl] at hi
  rw [bn_take _ _ _ hi]
  exact h7 i (by omega)

theorem IsBits.rest {w : World} {lo hi : Nat} {l : List Bool} {p : Option Addr} {cap : Nat} (h : IsBits w (.slice p l.length cap) lo hi l) (n : Nat) (hn : n ≤ l.length) (hc : ¬ cap = n) : IsBits w (.slice (p.map (·.add n)) (l.length - n) (cap - n)) lo hi (l.drop n) := by
  have := h.cut n (l.length - n) (by omega)
  rwa [if_neg hc, List.take_of_length_le (by simp)] at this

theorem IsBits.none {w : World} {lo hi : Nat} {l : List Bool} {p : Option Addr} {cap : Nat} (h : IsBits w (.slice p l.length cap) lo hi l) (n : Nat) (hn : n ≤ l.length) (hc : cap = n) : IsBits w (.slice p (l.length - n) 0) lo hi (l.drop n) := by
  have := h.cut n (l.length - n) (by omega)
  rwa [if_pos hc, List.take_of_length_le (by simp), hc, Nat.sub_self] at this

theorem Rr.keep {w w' : World} {b hi : Nat} {l : List Bool} {e : Int} (h : Rr w b hi l e) (hk : ∀ k, b ≤ k → k < hi → w'.heap[k]? = w.heap[k]?) : Rr w' b hi l e := by
  obtain ⟨v, h1, h2⟩ := h.row
  have hb := hk b (Nat.le_refl _) h.lt
  refine ⟨⟨v, ?_, h2.keep (fun k h1 h2 => hk k (by omega) h2)⟩, ?_, fun j hj => ?_, h.lt, h.len⟩
  · rw [World.cell?_of_block (w := w) hb]; exact h1
  · rw [World.cell?_of_block (w := w) hb]; exact h.err
  · rw [World.frozen?_of_block (w := w) (w' := w') (a := ⟨b, j, none⟩) hb]; exact h.fz j hj

theorem Rr.drewN {w : World} {b hi : Nat} {l : List Bool} {e : Int} (h : Rr w b hi l e) (n : Nat) : Rr (w.drewN n) b hi l e := h.keep fun _ _ _ => rfl

theorem Rr.setErr {w : World} {b hi : Nat} {l : List Bool} {e : Int} (h : Rr w b hi l e) (e' : Int) : Rr (w.setCell ⟨b, 1, none⟩ (.int .i64 e')) b hi l e' := by
  obtain ⟨v, h1, h2⟩ := h.row
  refine ⟨⟨v, ?_, h2.keep (fun k h1 h2 => Below.heap_setCell _ _ _ _ (by show k ≠ b; omega))⟩, ?_, fun j hj => ?_, h.lt, h.len⟩
  · rw [cell_setCell_ne _ _ _ _ _ (by omega)]; exact h1
  · exact cell_setCell_eq _ _ _ _ _ h.err
  · rw [frozen_setCell]; exact h.fz j hj

theorem Rr.setRow {w : World} {b hi : Nat} {l l' : List Bool} {e : Int} {v : Value} (h : Rr w b hi l e) (h' : IsBits w v b hi l') (hl : l'.length ≤ l.length) : Rr (w.setCell ⟨b, 0, none⟩ v) b hi l' e := by
  obtain ⟨v0, h1, h2⟩ := h.row
  refine ⟨⟨v, ?_, h'.keep (fun k h1 h2 => Below.heap_setCell _ _ _ _ (by show k ≠ b; omega))⟩, ?_, fun j hj => ?_, h.lt, Nat.le_trans hl h.len⟩
  · exact cell_setCell_eq _ _ _ _ _ h1
  · rw [cell_setCell_ne _ _ _ _ _ (by omega)]; exact h.err
  · rw [frozen_setCell]; exact h.fz j hj

theorem vrefuse_zero (b : Nat) (m : Int) (w : World) (hn : w.cell? ⟨b, 1, none⟩ = some (.int .i64 0)) (hf : w.frozen? ⟨b, 1, none⟩ = false) :
    Calls Tryz.prog 99 #[.pointer (some ⟨b, 0, none⟩), .int .i64 m] w fun e w' => e = .returned (.tuple #[]) ∧ w' = w.setCell ⟨b, 1, none⟩ (.int .i64 m) := by
  go_enter Tryz.func99, Tryz.ntmps99
  go_wp2
  go_end0
  exact ⟨rfl, rfl⟩

theorem vrefuse_not (b : Nat) (m e0 : Int) (w : World) (hn : w.cell? ⟨b, 1, none⟩ = some (.int .i64 e0)) (hf : (e0 == 0) = false) :
    Calls Tryz.prog 99 #[.pointer (some ⟨b, 0, none⟩), .int .i64 m] w fun e w' => e = .returned (.tuple #[]) ∧ w' = w := by
  go_enter Tryz.func99, Tryz.ntmps99
  go_wp2
  go_end0
  exact ⟨rfl, rfl⟩

/-- The first refusal stays. -/
def first (e m : Int) : Int := if e = 0 then m else e

theorem vrefuse_any (b hi : Nat) (l : List Bool) (m e0 : Int) (w : World) (h : Rr w b hi l e0) :
    Calls Tryz.prog 99 #[.pointer (some ⟨b, 0, none⟩), .int .i64 m] w fun e w' => e = .returned (.tuple #[]) ∧ Rr w' b hi l (first e0 m) ∧ Only b 0 2 w w' := by
  by_cases he : e0 = 0
  · subst he
    refine (vrefuse_zero b m w h.err (h.fz 1 (by omega))).mono fun e w' ⟨h1, h2⟩ => ⟨h1, ?_, ?_⟩
    · rw [h2]; exact h.setErr m
    · rw [h2]; exact (Only.refl _ _ _ w).setCell _ (by omega) (by omega) _
  · refine (vrefuse_not b m e0 w h.err (by rw [beq_eq_false_iff_ne]; exact he)).mono fun e w' ⟨h1, h2⟩ => ⟨h1, ?_, ?_⟩
    · rw [h2]; unfold first; rw [if_neg he]; exact h
    · rw [h2]; exact Only.refl _ _ _ _

theorem first_ne (e m : Int) (hm : m ≠ 0) : (first e m != 0) = true := by
  unfold first; split <;> simp [*]


/-- What the document's End tells. -/
def endL (l : List Bool) (e : Int) : Int := if e = 0 then (if 8 ≤ l.length then 14 else if num l = 0 then 0 else 13) else e

theorem vend_any (b hi : Nat) (l : List Bool) (e0 : Int) (w : World) (h : Rr w b hi l e0) :
    Calls Tryz.prog 53 #[.pointer (some ⟨b, 0, none⟩)] w fun e w' => e = .returned (.int .i64 (endL l e0)) ∧ w' = w := by
  obtain ⟨_, h1, p, cap, rfl, hcap, hcells⟩ := h.row
  have h2 := h.err
  have HI : Hid (IsBits w (.slice p l.length cap) b hi l) := ⟨p, cap, rfl, hcap, hcells⟩
  have hlen := h.len
  clear hcells hcap
  by_cases he : e0 = 0
  · subst he
    by_cases h8 : 8 ≤ l.length
    · have hE : Hid (endL l 0 = 14) := by show _ = _; simp [endL, h8]
      have h8' : (8 : Int) ≤ (l.length : Int) := by omega
      generalize l.length = n at *
      go_enter Tryz.func53, Tryz.ntmps53
      go_wp2_with fail
      go_ret
      exact ⟨by rw [hE.out]; rfl, rfl⟩
    · have h8' : ¬ (8 : Int) ≤ (l.length : Int) := by omega
      have hl64 : l.length ≤ 64 := by omega
      by_cases hz : num l = 0
      · have hE : Hid (endL l 0 = 0) := by show _ = _; simp [endL, h8, hz]
        go_enter Tryz.func53, Tryz.ntmps53
        go_wp2_with fail
        refine (number_any _ b hi l w HI.out hl64).mono ?_
        rintro e w1 ⟨rfl, rfl⟩
        rw [hz]
        go_wp2_with fail
        go_ret
        exact ⟨by rw [hE.out]; rfl, rfl⟩
      · have hE : Hid (endL l 0 = 13) := by show _ = _; simp [endL, h8, hz]
        have hz' : ((num l : Int) != 0) = true := by simp [hz]
        go_enter Tryz.func53, Tryz.ntmps53
        go_wp2_with fail
        refine (number_any _ b hi l w HI.out hl64).mono ?_
        rintro e w1 ⟨rfl, rfl⟩
        go_wp2_with fail
        go_ret
        exact ⟨by rw [hE.out]; rfl, rfl⟩
  · have hne : (e0 != 0) = true := by simp [he]
    have hE : Hid (endL l e0 = e0) := by show _ = _; simp [endL, he]
    go_enter Tryz.func53, Tryz.ntmps53
    go_wp2_with fail
    go_ret
    exact ⟨by rw [hE.out]; rfl, rfl⟩

end Go.Proofs.YtnjcedlbdjidiaaGreatDoor

namespace Go.Proofs.YtnjcedlbdjidiaaGreatDoor
open Go.RowKit
open M
set_option linter.unusedVariables false

theorem rw_new113 (w : World) : Rw (w.alloc (.cells #[.slice none 0 0, .int .i64 0] 116)) w.heap.size 0 none [] 0 := by
  have hn := heap_alloc_new w (.cells #[.slice none 0 0, .int .i64 0] 116)
  refine ⟨⟨.slice none 0 0, ?_, World.ownsRow_nil _ _ _ _, rfl, fun _ => rfl⟩, ?_, fun j hj => ?_, fun g hg => by simp at hg⟩
  · rw [cell_of_row _ _ _ _ _ _ hn]; rfl
  · rw [cell_of_row _ _ _ _ _ _ hn]; rfl
  · exact frozen_of_row _ _ _ _ _ hn

theorem from_bit (bs : List Nat) (i q sh : Nat) (h : i < 8 * bs.length) (hl : i < (rbits bs).length) (hq : q = i / 8) (hsh : sh = 7 - i % 8) :
    bitV (rbits bs)[i] = .int .u8 (((bs.getD q 0 : Nat) : Int) / 2 ^ sh % 2) := by
  have h1 := look_byte bs i 1 (by omega) (by omega)
  rw [bit_of _ _ hl] at h1
  rw [← hq, show 8 - i % 8 - 1 = sh from by omega] at h1
  unfold bitV
  generalize bs.getD q 0 = y at *
  have e : ((y : Int) / 2 ^ sh % 2) = ((y / 2 ^ sh % 2 ^ 1 : Nat) : Int) := by simp
  rw [e, ← h1]
  cases (rbits bs)[i] <;> rfl

theorem take_next (l : List Bool) (i : Nat) (h : i < l.length) : l.take (i + 1) = l.take i ++ [l[i]] := by
  rw [List.take_add_one, List.getElem?_eq_getElem h]; rfl

/-- The rows of a Writer and a Reader lie alike. -/
theorem rr_of_rw {w w0 : World} {b : Nat} {r : Option Nat} {l : List Bool} {e : Int} (h : Rw w b 0 r l e) (hs : RowStep w0 none r) (hb : b < w0.heap.size) (hl : l.length ≤ 1000000000000) : Rr w b w.heap.size l e := by
  obtain ⟨v, h1, ⟨h2, h3⟩, h4, h5⟩ := h.row
  refine ⟨⟨v, h1, ?_⟩, by simpa using h.err, fun j hj => by simpa using h.fz j hj, h.lt, hl⟩
  rcases h3 with ⟨rfl, h6⟩ | ⟨g, cap, cur, rfl, _, h6, h7, _, h8, h9⟩
  · exact ⟨none, 0, by rw [h6], by omega, fun h0 => by omega⟩
  · refine ⟨some ⟨g, 0, none⟩, cap, rfl, h7, fun h0 => ⟨g, 0, rfl, ?_, ?_, fun i hi => ?_⟩⟩
    · simp only [Value.ownBlock] at h4
      subst h4
      rcases hs with hs | ⟨g', hg, hle⟩
      · simp at hs
      · simp only [Option.some.injEq] at hg; omega
    · simp only [Value.ownBlock] at h4
      exact (h.apart g h4.symm).2
    · rw [cell_of_row _ _ _ _ _ _ h6]
      have h10 := congrArg (fun l => l[i]?) h9
      rw [List.getElem?_take_of_lt (by omega)] at h10
      simp only [List.getElem?_map, List.getElem?_eq_getElem hi, Option.map_some] at h10
      simp only [Nat.zero_add]
      rw [Array.getElem?_toList] at h10
      rw [h10]
      simp only [bn, List.getElem?_eq_getElem hi, bitV]
      cases l[i] <;> simp

/-- Behind i bits of From. -/
def FromSt (w0 : World) (V : Nat) (l : List Bool) (i : Nat) (wr : World) : Prop :=
  ∃ r, Rw wr V 0 r (l.take i) 0 ∧ RowStep w0 none r ∧ OnlyR V 0 2 none w0 wr

theorem FromSt.step {w0 wr w1 w2 : World} {V : Nat} {l : List Bool} {i : Nat} {r : Option Nat} {xb : Int} {g cap : Nat} (hR : Rw wr.drew V 0 r (l.take i) 0) (hS : RowStep w0 none r) (hO : OnlyR V 0 2 none w0 wr) (hi : i < l.length) (hx : bitV l[i] = .int .u8 xb)
    (ho : w1.ownsRow 0 5 1 (.slice (some ⟨g, 0, none⟩) ((l.take i).length + 1) cap) ((l.take i).length + 1) ((l.take i).map bitV ++ [bitV l[i]])) (hg : (wr.drew.alloc (.cells #[.int .u8 xb] 5)).grownBy w1 r) (hat : r = some g ∨ g = wr.drew.heap.size + 1) (hlt : g < w1.heap.size)
    (hw2 : w2 = w1.setCell ⟨V, 0, none⟩ (.slice (some ⟨g, 0, none⟩) ((l.take i).length + 1) cap)) : FromSt w0 V l (i + 1) w2 := by
  obtain ⟨r', h1, h2, h3⟩ := hR.step hx ho hg hat hlt hw2
  refine ⟨r', by rw [take_next l i hi]; exact h1, hS.trans hO.size h2, ?_⟩
  have hO2 : OnlyR V 0 2 none w0 wr.drew := ⟨hO.os, hO.tape, hO.output, hO.size, hO.block, hO.cell, hO.frozen⟩
  exact hO2.trans hS h3

set_option maxRecDepth 100000 in
set_option maxHeartbeats 4000000 in
theorem vfrom_some (g0 o0 n cap0 : Nat) (bs : List Nat) (w : World) (hn : n = bs.length) (hn2 : n ≤ 1000000) (h256 : ∀ n ∈ bs, n < 256) (hcells : ∀ i, i < n → w.cell? ⟨g0, o0 + i, none⟩ = some (.int .u8 (bs.getD i 0 : Nat))) :
    Calls Tryz.prog 50 #[.slice (some ⟨g0, o0, none⟩) n cap0] w fun e w' => e = .returned (.pointer (some ⟨w.heap.size, 0, none⟩)) ∧ Rr w' w.heap.size w'.heap.size (rbits bs) 0 ∧ Below w.heap.size w w' := by
  have hz : (Tryz.prog.info? 5).bind (·.zero) = some (.int .u8 0) := by kernel_rfl
  have hs : (Tryz.prog.info? 5).map (·.size) = some 1 := by kernel_rfl
  have hb : (Tryz.prog.info? 5).map (·.bytes) = some 1 := by kernel_rfl
  cases hi : Tryz.prog.info? 5 with
  | none => simp [hi] at hs
  | some i5 =>
    simp only [hi, Option.bind_some, Option.map_some, Option.some.injEq] at hz hs hb
    have Hi : Hid (Tryz.prog.info? 5 = some i5 ∧ i5.zero = some (.int .u8 0) ∧ i5.size = 1 ∧ i5.bytes = 1) := ⟨hi, hz, hs, hb⟩
    clear hi hz hs hb
    have Hn : Hid (n = bs.length) := hn
    have H256 : Hid (∀ n ∈ bs, n < 256) := h256
    clear h256
    have HC : Hid (∀ i, i < n → w.cell? ⟨g0, o0 + i, none⟩ = some (.int .u8 (bs.getD i 0 : Nat))) := hcells
    have St : Hid (FromSt (w.alloc (.cells #[.slice none 0 0, .int .i64 0] 116)) w.heap.size (rbits bs) 0 (w.alloc (.cells #[.slice none 0 0, .int .i64 0] 116))) := ⟨none, rw_new113 w, .inl rfl, OnlyR.refl _ _ _ _ _⟩
    have HB : Hid (Below w.heap.size w (w.alloc (.cells #[.slice none 0 0, .int .i64 0] 116)) ∧ w.heap.size < (w.alloc (.cells #[.slice none 0 0, .int .i64 0] 116)).heap.size) := ⟨(Below.refl _ _).alloc (Nat.le_refl _) _, by simp⟩
    clear hcells hn
    go_enter Tryz.func50, Tryz.ntmps50
    go_wp2
    generalize w.alloc (.cells #[.slice none 0 0, .int .i64 0] 116) = w0 at *
    go_loopw [4] (fun t4 wr => ∃ i : Nat, i ≤ 8 * n ∧ t4 = .int .i64 i ∧ Hid (FromSt w0 w.heap.size (rbits bs) i wr)) (fun t4 _ => 8 * n - (intOf t4).toNat)
    case atStart => exact ⟨0, by omega, rfl, St⟩
    case round =>
      obtain ⟨i, hi8, rfl, HS⟩ := hrel
      by_cases hlt : i < 8 * n
      · have hlt' : (i : Int) < 8 * (n : Int) := by omega
        obtain ⟨q, hq⟩ : ∃ q : Nat, (i : Int) / 8 = (q : Int) := ⟨i / 8, by omega⟩
        obtain ⟨sh, hsh⟩ : ∃ sh : Nat, (7 : Int) - (i : Int) % 8 = (sh : Int) := ⟨7 - i % 8, by omega⟩
        have hqn : q < n := by omega
        have hqi : (q : Int) < (n : Int) := by omega
        have hwq : IntKind.i64.wrap (q : Int) = (q : Int) := by rw [IntKind.wrap_i64]; omega
        have hwsh : IntKind.i64.wrap (7 - (i : Int).tmod 8) = (sh : Int) := by
          have e : (i : Int).tmod 8 = ((i % 8 : Nat) : Int) := by rw [Int.tmod_eq_emod_of_nonneg (by omega)]; simp
          rw [e, IntKind.wrap_i64]; omega
        have hwsu : IntKind.u64.wrap (sh : Int) = (sh : Int) := wraps_u64 (sh : Int) (by omega) (by omega)
        have hsh7 : sh ≤ 7 := by omega
        obtain ⟨r, R0, S0, O0⟩ := HS.out
        have hil : i < (rbits bs).length := by rw [rbits_length, ← Hn.out]; exact hlt
        have hbit := from_bit bs i q sh (by rw [← Hn.out]; exact hlt) hil (by omega) (by omega)
        have hc0 := HC.out q hqn
        have hg0 : g0 < w.heap.size := block_lt_of_cell hc0
        have hc : wr.cell? ⟨g0, o0 + q, none⟩ = some (.int .u8 (bs.getD q 0 : Nat)) := by
          rw [World.cell?_of_block (w := w0) (O0.block g0 (by have := HB.out.2; omega) (by omega) (by simp)), World.cell?_of_block (w := w) (HB.out.1.block g0 hg0)]; exact hc0
        have hy : bs.getD q 0 ≤ 255 := by
          have : q < bs.length := by have := Hn.out; omega
          have h1 := H256.out _ (List.getElem_mem this)
          rw [List.getD_eq_getElem?_getD, List.getElem?_eq_getElem this]
          simp only [Option.getD_some]
          omega
        have hlen : ((rbits bs).take i).length = i := by simp; rw [← Hn.out]; omega
        obtain ⟨v, hv, hown, hr, hnil⟩ := R0.row
        have hf0 := R0.fz 0 (by omega)
        rw [Nat.add_zero] at hf0
        rw [hlen] at hown
        have hVlt := R0.lt
        have HX : Hid (v.ownBlock = r ∧ some w.heap.size ≠ r) := ⟨hr, fun e => (R0.apart _ e.symm).1 rfl⟩
        have HO : Hid (wr.ownsRow 0 5 1 v i (((rbits bs).take i).map bitV)) := hown
        have HRw : Hid (Rw wr.drew w.heap.size 0 r ((rbits bs).take i) 0 ∧ RowStep w0 none r ∧ OnlyR w.heap.size 0 2 none w0 wr) := ⟨R0.keep (Nat.le_refl _) rfl (fun _ _ => rfl), S0, O0⟩
        obtain ⟨bt, hbt⟩ : ∃ bt, bt = (rbits bs)[i]'hil := ⟨_, rfl⟩
        rw [← hbt] at hbit
        have Hbit : Hid (bitV bt = .int .u8 (((bs.getD q 0 : Nat) : Int) / 2 ^ sh % 2)) := hbit
        have Hbt : Hid (bt = (rbits bs)[i]'hil) := hbt
        have Hlen : Hid (((rbits bs).take i).length = i) := hlen
        have Hil : Hid (i < (rbits bs).length) := hil
        have hV0 : w.heap.size < wr.heap.size := hVlt
        clear HS R0 S0 O0 hnil hr hown hbit hc0 hlen hbt
        generalize bs.getD q 0 = y at *
        have HFin : Hid (∀ g cap w1, w1.ownsRow 0 5 1 (.slice (some ⟨g, 0, none⟩) (i + 1) cap) (i + 1) (((rbits bs).take i).map bitV ++ [bitV bt]) → (wr.drew.alloc (.cells #[.int .u8 ((y : Int) / 2 ^ sh % 2)] 5)).grownBy w1 r → (r = some g ∨ g = wr.drew.heap.size + 1) → g < w1.heap.size →
            FromSt w0 w.heap.size (rbits bs) (i + 1) (w1.setCell ⟨w.heap.size, 0, none⟩ (.slice (some ⟨g, 0, none⟩) (i + 1) cap)) ∧ w1.cell? ⟨w.heap.size, 0, none⟩ = some v ∧ w1.frozen? ⟨w.heap.size, 0, none⟩ = false) := fun g cap w1 ho hg hat hlt2 => by
          have hx : bitV ((rbits bs)[i]'Hil.out) = .int .u8 ((y : Int) / 2 ^ sh % 2) := by rw [← Hbt.out]; exact Hbit.out
          have hl := Hlen.out
          refine ⟨FromSt.step HRw.out.1 HRw.out.2.1 HRw.out.2.2 Hil.out hx (by rw [hl, ← Hbt.out]; exact ho) hg hat hlt2 (by rw [hl]), ?_, ?_⟩
          · rw [World.cell?_of_block (w := wr) ((hg.block _ (by simp; omega) HX.out.2).trans (Below.heap_alloc _ _ _ hVlt))]; exact hv
          · rw [World.frozen?_of_block (w := wr) ((hg.block _ (by simp; omega) HX.out.2).trans (Below.heap_alloc _ _ _ hVlt))]; exact hf0
        go_wp2_with fail
        go_region_law (refine step_append_lies _ rfl _ _ _ rfl 0 5 i5 (.int .u8 0) 1 1 Tryz.underlying59 Hi.out.1 Hi.out.2.1 Hi.out.2.2.1 Hi.out.2.2.2 rfl (by decide) v i (((rbits bs).take i).map bitV) (by simp [Act.eval]) (World.ownsRow.alloc (w := wr.drew) HO.out _) ⟨wr.heap.size, 0, none⟩ 1 1 [bitV bt] (by simp [Act.eval]) rfl (by intro j u hj; rw [Hbit.out] at hj; exact cell_new1 wr.drew _ 5 j u hj) (by intro u hu; simp at hu; subst hu; rfl) (by decide) (by unfold maxLen; omega) (by omega) (Nat.zero_le _) _ rfl ?_; intro g cap w1 ho hg hat hlt2; rw [HX.out.1] at hg hat; obtain ⟨hF, hcb, hfb⟩ := HFin.out g cap w1 ho hg (by simpa using hat) hlt2; have HF : Hid _ := hF; clear ho hg hat hF)
        all_goals
          go_wp2_with fail
          exact ⟨⟨i + 1, by omega, by go_num, HF⟩, by simp [intOf]; omega⟩
      · have hlt' : ¬ (i : Int) < 8 * (n : Int) := by omega
        go_wp2_with fail
        go_ret
        obtain ⟨r, R0, S0, O0⟩ := HS.out
        have e : (rbits bs).take i = rbits bs := List.take_of_length_le (by rw [rbits_length, ← Hn.out]; omega)
        rw [e] at R0
        refine ⟨rfl, rr_of_rw R0 S0 HB.out.2 (by rw [rbits_length, ← Hn.out]; omega), HB.out.1.trans ⟨O0.os, O0.tape, O0.output, O0.size, fun k hk => O0.block k (by have := HB.out.2; omega) (by omega) (by simp)⟩⟩

theorem vfrom_zero (p : Option Addr) (cap0 : Nat) (w : World) :
    Calls Tryz.prog 50 #[.slice p 0 cap0] w fun e w' => e = .returned (.pointer (some ⟨w.heap.size, 0, none⟩)) ∧ Rr w' w.heap.size w'.heap.size (rbits []) 0 ∧ Below w.heap.size w w' := by
  have HR : Hid (Rr (w.alloc (.cells #[.slice none 0 0, .int .i64 0] 116)) w.heap.size (w.alloc (.cells #[.slice none 0 0, .int .i64 0] 116)).heap.size (rbits []) 0 ∧ Below w.heap.size w (w.alloc (.cells #[.slice none 0 0, .int .i64 0] 116))) :=
    ⟨rr_of_rw (w0 := w.alloc (.cells #[.slice none 0 0, .int .i64 0] 116)) (rw_new113 w) (.inl rfl) (by simp) (by simp), (Below.refl _ _).alloc (Nat.le_refl _) _⟩
  go_enter Tryz.func50, Tryz.ntmps50
  go_wp2
  generalize w.alloc (.cells #[.slice none 0 0, .int .i64 0] 116) = w0 at *
  go_loopw [4] (fun t4 wr => t4 = .int .i64 0 ∧ wr = w0) (fun _ _ => 0)
  case atStart => exact ⟨rfl, rfl⟩
  case round =>
    obtain ⟨rfl, rfl⟩ := hrel
    go_wp2_with fail
    go_ret
    exact ⟨rfl, HR.out⟩

theorem vfrom_any (v : Value) (bs : List Nat) (w : World) (h : IsBy w v bs) (hn2 : bs.length ≤ 1000000) (h256 : ∀ n ∈ bs, n < 256) :
    Calls Tryz.prog 50 #[v] w fun e w' => e = .returned (.pointer (some ⟨w.heap.size, 0, none⟩)) ∧ Rr w' w.heap.size w'.heap.size (rbits bs) 0 ∧ Below w.heap.size w w' := by
  rcases h with (⟨rfl, rfl⟩ | ⟨g, o, cap, rfl, hc⟩) | ⟨ad, cap, rfl, rfl⟩
  · exact vfrom_zero none 0 w
  · exact vfrom_some g o bs.length cap bs w rfl hn2 h256 hc
  · exact vfrom_zero (some ad) cap w

end Go.Proofs.YtnjcedlbdjidiaaGreatDoor
