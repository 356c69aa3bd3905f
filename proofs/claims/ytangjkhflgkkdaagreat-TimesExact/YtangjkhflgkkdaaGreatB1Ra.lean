/- The document's own Reader (package fathomref1), in memory: the bits that are left, its first refusal; the contracts of number, refuse, Left, End, Bits, Bit. -/
import Derived.Test.YtangjkhflgkkdaaGreatB1X0
import Derived.Test.YtangjkhflgkkdaaGreatB1H
import Derived.Test.YtangjkhflgkkdaaGreatB1U
/- The contracts of the document's own Writer: Bit, Bits, Unary, Var, Zig, where nothing is refused. -/
namespace Go.Proofs.YtangjkhflgkkdaaGreat
open Go.RowKit
open M
set_option linter.unusedVariables false

/-- Behind a call on the document's Writer. -/
def RwPost (w : World) (b off : Nat) (r : Option Nat) (l : List Bool) (w' : World) : Prop := ∃ r', Rw w' b off r' l 0 ∧ RowStep w r r' ∧ OnlyR b off (off + 2) r w w'

theorem RwPost.refl {w : World} {b off : Nat} {r : Option Nat} {l : List Bool} (h : Rw w b off r l 0) : RwPost w b off r l w := ⟨r, h, .inl rfl, OnlyR.refl _ _ _ _ _⟩

theorem RwPost.then {u v w : World} {b off : Nat} {r r' : Option Nat} {l : List Bool} (hs : RowStep u r r') (ho : OnlyR b off (off + 2) r u v) (h : RwPost v b off r' l w) : RwPost u b off r l w := by
  obtain ⟨r'', h1, h2, h3⟩ := h
  exact ⟨r'', h1, hs.trans ho.size h2, ho.trans hs h3⟩


theorem bitV_form (x j : Nat) : bitV (((x : Int) / 2 ^ j).tmod 2 == 1) = .int .u8 (((x : Int) / 2 ^ j).tmod 2 % 256) := by
  have h0 : (x : Int) / 2 ^ j = ((x / 2 ^ j : Nat) : Int) := by simp
  rw [h0, Int.tmod_eq_emod_of_nonneg (Int.natCast_nonneg _)]
  unfold bitV
  have h2 : ((x / 2 ^ j : Nat) : Int) % 2 = 0 ∨ ((x / 2 ^ j : Nat) : Int) % 2 = 1 := by omega
  rcases h2 with h2 | h2 <;> rw [h2] <;> rfl

theorem bit_next2 (L : List Bool) (Y W j : Nat) (h : j + 1 ≤ W) : L ++ bitsOf (Y / 2 ^ (j + 1)) (W - (j + 1)) ++ [(((Y : Int) / 2 ^ j).tmod 2 == 1)] = L ++ bitsOf (Y / 2 ^ j) (W - j) := by
  rw [List.append_assoc]
  congr 1
  have h1 := bitsOf_split (Y / 2 ^ j) (W - (j + 1)) 1
  rw [show W - (j + 1) + 1 = W - j from by omega, Nat.div_div_eq_div_mul, ← Nat.pow_add] at h1
  rw [h1]
  congr 1
  have e : ((Y : Int) / 2 ^ j).tmod 2 = ((Y / 2 ^ j % 2 : Nat) : Int) := by
    have h0 : (Y : Int) / 2 ^ j = ((Y / 2 ^ j : Nat) : Int) := by simp
    rw [h0, Int.tmod_eq_emod_of_nonneg (Int.natCast_nonneg _)]; omega
  rw [e]
  simp only [bitsOf, Nat.pow_zero, Nat.div_one]
  generalize Y / 2 ^ j % 2 = y
  by_cases hy : y = 1
  · subst hy; rfl
  · have : ¬ (y : Int) = 1 := by omega
    rw [beq_eq_false_iff_ne.2 hy, beq_eq_false_iff_ne.2 this]

set_option maxRecDepth 100000 in
set_option maxHeartbeats 1000000 in
theorem refbits_any (b off : Nat) (r : Option Nat) (l : List Bool) (x n : Nat) (w : World) (h : Rw w b off r l 0) (hlen : l.length + n < 100000000) (hn : n ≤ 64) (hx : x < 18446744073709551616) (hfit : x < 2 ^ n) :
    Calls Tryz.prog 33 #[.pointer (some ⟨b, off, none⟩), .int .u64 x, .int .i64 n] w fun e w' => e = .returned (.tuple #[]) ∧ RwPost w b off r (l ++ bitsOf x n) w' := by
  have Hh : Hid (Rw w b off r l 0) := h
  clear h
  rcases (show n = 0 ∨ (0 < n ∧ n < 64) ∨ n = 64 from by omega) with h0 | ⟨h0, h1⟩ | h0
  · subst h0
    have hx0 : x = 0 := by simp at hfit; exact hfit
    subst hx0
    go_enter Tryz.func33, Tryz.ntmps33
    go_wp2_with fail
    go_loopw [6] (fun t6 wr => ∃ (j : Nat) (t : Int), t6 = .int .i64 t ∧ -1 ≤ t ∧ t ≤ 63 ∧ Hid (t = (j : Int) - 1 ∧ j ≤ 0) ∧ Hid (RwPost w b off r (l ++ bitsOf (0 / 2 ^ j) (0 - j)) wr)) (fun t6 _ => (intOf t6 + 1).toNat)
    case atStart => exact ⟨0, -1, rfl, by omega, by omega, ⟨by omega, Nat.le_refl _⟩, by rw [Nat.sub_self]; exact (show RwPost w b off r (l ++ []) w from by rw [List.append_nil]; exact RwPost.refl Hh.out)⟩
    case round =>
      obtain ⟨j, t, rfl, ht1, ht2, Hj, HP⟩ := hrel
      by_cases htn : t < 0
      · have hj0 : j = 0 := by have := Hj.out; omega
        subst hj0
        go_wp2_with fail
        go_end0
        exact ⟨rfl, by simpa using HP.out⟩
      · have := Hj.out; omega
  · have ht : ((x : Int) / 2 / 2 ^ (n - 1) != 0) = false := by
      have e1 : (x : Int) / 2 / 2 ^ (n - 1) = ((x / 2 / 2 ^ (n - 1) : Nat) : Int) := by simp
      have e2 : x / 2 / 2 ^ (n - 1) = 0 := by
        rw [Nat.div_div_eq_div_mul, show 2 * 2 ^ (n - 1) = 2 ^ n from by rw [← Nat.pow_succ', show (n - 1).succ = n from by omega]]
        exact Nat.div_eq_of_lt hfit
      rw [e1, e2]; rfl
    have hn0 : ((n : Int) == 0) = false := by rw [beq_eq_false_iff_ne]; omega
    go_enter Tryz.func33, Tryz.ntmps33
    go_wp2_with fail
    go_loopw [6] (fun t6 wr => ∃ (j : Nat) (t : Int), t6 = .int .i64 t ∧ -1 ≤ t ∧ t ≤ 63 ∧ Hid (t = (j : Int) - 1 ∧ j ≤ n) ∧ Hid (RwPost w b off r (l ++ bitsOf (x / 2 ^ j) (n - j)) wr)) (fun t6 _ => (intOf t6 + 1).toNat)
    case atStart => exact ⟨n, (n : Int) - 1, rfl, by omega, by omega, ⟨by omega, Nat.le_refl _⟩, by rw [Nat.sub_self]; exact (show RwPost w b off r (l ++ []) w from by rw [List.append_nil]; exact RwPost.refl Hh.out)⟩
    case round =>
      obtain ⟨j, t, rfl, ht1, ht2, Hj, HP⟩ := hrel
      by_cases htn : t < 0
      · have hj0 : j = 0 := by have := Hj.out; omega
        subst hj0
        go_wp2_with fail
        go_end0
        exact ⟨rfl, by simpa using HP.out⟩
      · obtain ⟨j', rfl⟩ : ∃ j' : Nat, t = (j' : Int) := ⟨t.toNat, by omega⟩
        have hj0 : j = j' + 1 := by have := Hj.out; omega
        subst hj0
        have hjn := Hj.out.2
        obtain ⟨r1, R1, S1, O1⟩ := HP.out
        go_wp2_with fail
        refine (refput_any b off r1 _ _ _ wr (bitV_form x j') R1 (by simp; omega)).mono ?_
        rintro e w1 ⟨rfl, P1⟩
        rw [bit_next2 l x n j' hjn] at P1
        have P2 : Hid (RwPost w b off r (l ++ bitsOf (x / 2 ^ j') (n - j')) w1) := RwPost.then S1 O1 P1
        clear P1 R1 S1 O1 HP
        go_wp2_with fail
        refine ⟨⟨j', (j' : Int) - 1, by go_num, by omega, by omega, ⟨rfl, by omega⟩, P2⟩, by simp [intOf]⟩
  · subst h0
    go_enter Tryz.func33, Tryz.ntmps33
    go_wp2_with fail
    go_loopw [6] (fun t6 wr => ∃ (j : Nat) (t : Int), t6 = .int .i64 t ∧ -1 ≤ t ∧ t ≤ 63 ∧ Hid (t = (j : Int) - 1 ∧ j ≤ 64) ∧ Hid (RwPost w b off r (l ++ bitsOf (x / 2 ^ j) (64 - j)) wr)) (fun t6 _ => (intOf t6 + 1).toNat)
    case atStart => exact ⟨64, 63, rfl, by omega, by omega, ⟨by omega, Nat.le_refl _⟩, by rw [Nat.sub_self]; exact (show RwPost w b off r (l ++ []) w from by rw [List.append_nil]; exact RwPost.refl Hh.out)⟩
    case round =>
      obtain ⟨j, t, rfl, ht1, ht2, Hj, HP⟩ := hrel
      by_cases htn : t < 0
      · have hj0 : j = 0 := by have := Hj.out; omega
        subst hj0
        go_wp2_with fail
        go_end0
        exact ⟨rfl, by simpa using HP.out⟩
      · obtain ⟨j', rfl⟩ : ∃ j' : Nat, t = (j' : Int) := ⟨t.toNat, by omega⟩
        have hj0 : j = j' + 1 := by have := Hj.out; omega
        subst hj0
        have hjn := Hj.out.2
        obtain ⟨r1, R1, S1, O1⟩ := HP.out
        go_wp2_with fail
        refine (refput_any b off r1 _ _ _ wr (bitV_form x j') R1 (by simp; omega)).mono ?_
        rintro e w1 ⟨rfl, P1⟩
        rw [bit_next2 l x 64 j' hjn] at P1
        have P2 : Hid (RwPost w b off r (l ++ bitsOf (x / 2 ^ j') (64 - j')) w1) := RwPost.then S1 O1 P1
        clear P1 R1 S1 O1 HP
        go_wp2_with fail
        go_roundw
        case rel => exact ⟨_, _, _, _, _, _, _, _, _, _, _, _, _, ⟨j', (j' : Int) - 1, rfl, by omega, by omega, ⟨rfl, by omega⟩, P2⟩, rfl⟩
        case measure => simp [intOf]



theorem rzigzag_any (x : Int) (w : World) (h1 : -9223372036854775808 ≤ x) (h2 : x ≤ 9223372036854775807) :
    Calls Tryz.prog 35 #[.int .i64 x] w fun e w' => e = .returned (.int .u64 (zig x : Int)) ∧ w' = w := by
  by_cases hx : x < 0
  · go_enter Tryz.func35, Tryz.ntmps35
    go_wp2_with fail
    go_ret
    exact ⟨by show Ending.returned (.int .u64 (2 * (-1 - x) + 1)) = _; rw [show (2 * (-1 - x) + 1) = (zig x : Int) from by unfold zig; rw [if_pos hx]; omega], rfl⟩
  · go_enter Tryz.func35, Tryz.ntmps35
    go_wp2_with fail
    go_ret
    exact ⟨by show Ending.returned (.int .u64 (2 * x)) = _; rw [show 2 * x = (zig x : Int) from by unfold zig; rw [if_neg (by omega)]; omega], rfl⟩


end Go.Proofs.YtangjkhflgkkdaaGreat

namespace Go.Proofs.YtangjkhflgkkdaaGreat
open Go.RowKit
open M
set_option linter.unusedVariables false

/-- Bit i of a row, as a number. -/
def bn (l : List Bool) (i : Nat) : Nat := if l[i]? = some true then 1 else 0

theorem bn_le (l : List Bool) (i : Nat) : bn l i ≤ 1 := by unfold bn; split <;> omega

theorem bn_drop (l : List Bool) (n i : Nat) : bn (l.drop n) i = bn l (n + i) := by simp [bn]

theorem bn_take (l : List Bool) (n i : Nat) (h : i < n) : bn (l.take n) i = bn l i := by simp [bn, List.getElem?_take_of_lt h]

/-- The slice v holds the bits l, in a block between lo and hi. -/
def IsBits (w : World) (v : Value) (lo hi : Nat) (l : List Bool) : Prop :=
  ∃ p cap, v = .slice p l.length cap ∧ l.length ≤ cap ∧ (0 < l.length → ∃ g o, p = some ⟨g, o, none⟩ ∧ lo < g ∧ g < hi ∧ ∀ i, i < l.length → w.cell? ⟨g, o + i, none⟩ = some (.int .u8 (bn l i : Nat)))

theorem num_take_succ (l : List Bool) (i : Nat) (h : i < l.length) : num (l.take (i + 1)) = 2 * num (l.take i) + bn l i := by
  have e : (l.drop i).take 1 = [l[i]] := by rw [List.drop_eq_getElem_cons h, List.take_succ_cons, List.take_zero]
  have e2 : bn l i = if l[i] then 1 else 0 := by simp [bn, h]
  have e3 : num [l[i]] = if l[i] then 1 else 0 := by cases l[i] <;> rfl
  rw [num_take_add l i 1 (by omega), e, e2, e3]
  omega

theorem num_take_lt (l : List Bool) (i : Nat) : num (l.take i) < 2 ^ i :=
  Nat.lt_of_lt_of_le (num_lt _) (Nat.pow_le_pow_right (by omega) (List.length_take_le _ _))

set_option maxHeartbeats 1000000 in
theorem number_any (v : Value) (lo hi : Nat) (l : List Bool) (w : World) (h : IsBits w v lo hi l) (hl : l.length ≤ 64) :
    Calls Tryz.prog 90 #[v] w fun e w' => e = .returned (.int .u64 (num l : Int)) ∧ w' = w := by
  obtain ⟨p, cap, rfl, hcap, hc⟩ := h
  have Hc : Hid (0 < l.length → ∃ g o, p = some ⟨g, o, none⟩ ∧ lo < g ∧ g < hi ∧ ∀ i, i < l.length → w.cell? ⟨g, o + i, none⟩ = some (.int .u8 (bn l i : Nat))) := hc
  clear hc hcap
  obtain ⟨n, hn⟩ : ∃ n, n = l.length := ⟨_, rfl⟩
  rw [← hn]
  have hn64 : n ≤ 64 := by omega
  have Hn : Hid (n = l.length) := hn
  clear hn hl
  go_enter Tryz.func90, Tryz.ntmps90
  go_wp2
  go_loopw [3, 4] (fun t3 t4 wr => ∃ (i x : Nat), t3 = .int .u64 x ∧ t4 = .int .i64 i ∧ i ≤ n ∧ Hid (x = num (l.take i)) ∧ wr = w) (fun _ t4 _ => n - (intOf t4).toNat)
  case atStart => exact ⟨0, 0, rfl, rfl, by omega, rfl, rfl⟩
  case round =>
    obtain ⟨i, x, rfl, rfl, hi, hx, rfl⟩ := hrel
    by_cases hlt : i < n
    · obtain ⟨g, o, rfl, _, _, hcell⟩ := Hc.out (by have := Hn.out; omega)
      have hci := hcell i (by have := Hn.out; omega)
      have hb1 := bn_le l i
      have hxb : x < 9223372036854775808 := by
        have h1 := num_take_lt l i
        have h2 : (2 : Nat) ^ i ≤ 2 ^ 63 := Nat.pow_le_pow_right (by omega) (by omega)
        rw [hx.out]; omega
      have HN : Hid (num (l.take (i + 1)) = 2 * x + bn l i) := by rw [hx.out]; exact num_take_succ l i (by have := Hn.out; omega)
      clear hcell
      generalize bn l i = bi at *
      go_wp2_with fail
      refine ⟨⟨i + 1, 2 * x + bi, by go_num, by go_num, by omega, HN.out.symm, trivial⟩, by simp [intOf]; omega⟩
    · go_wp2
      go_ret
      refine ⟨?_, rfl⟩
      have e : l.take i = l := List.take_of_length_le (by have := Hn.out; omega)
      show Ending.returned (.int .u64 (x : Int)) = _
      rw [hx.out, e]

/-- The Reader in block b has the bits l left; its first refusal is e; its row lies below hi. -/
structure Rr (w : World) (b hi : Nat) (l : List Bool) (e : Int) : Prop where
  row : ∃ v, w.cell? ⟨b, 0, none⟩ = some v ∧ IsBits w v b hi l
  err : w.cell? ⟨b, 1, none⟩ = some (.int .i64 e)
  fz : ∀ j, j < 2 → w.frozen? ⟨b, j, none⟩ = false
  lt : b < hi
  len : l.length ≤ 1000000000000

theorem IsBits.keep {w w' : World} {v : Value} {lo hi : Nat} {l : List Bool} (h : IsBits w v lo hi l) (hk : ∀ k, lo < k → k < hi → w'.heap[k]? = w.heap[k]?) : IsBits w' v lo hi l := by
  obtain ⟨p, cap, h1, h2, h3⟩ := h
  refine ⟨p, cap, h1, h2, fun h0 => ?_⟩
  obtain ⟨g, o, h4, h5, h6, h7⟩ := h3 h0
  exact ⟨g, o, h4, h5, h6, fun i hi => by rw [World.cell?_of_block (w := w) (hk g h5 h6)]; exact h7 i hi⟩

theorem IsBits.cut {w : World} {lo hi : Nat} {l : List Bool} {p : Option Addr} {len cap : Nat} (h : IsBits w (.slice p len cap) lo hi l) (a k : Nat) (hk : a + k ≤ l.length) :
    IsBits w (.slice (if cap = a then p else p.map (·.add a)) k (cap - a)) lo hi ((l.drop a).take k) := by
  obtain ⟨p', cap', h1, h2, h3⟩ := h
  simp only [Value.slice.injEq] at h1
  obtain ⟨rfl, rfl, rfl⟩ := h1
  have hl : ((l.drop a).take k).length = k := by simp; omega
  refine ⟨_, _, by rw [hl], by rw [hl]; omega, fun h0 => ?_⟩
  rw [hl] at h0
  obtain ⟨g, o, rfl, h5, h6, h7⟩ := h3 (by omega)
  refine ⟨g, o + a, ?_, h5, h6, fun i hi => ?_⟩
  · rw [if_neg (by omega)]; simp [Addr.add_mid]
  · rw [hl] at hi
    rw [bn_take _ _ _ hi, bn_drop, Nat.add_assoc]
    exact h7 (a + i) (by omega)

theorem IsBits.front {w : World} {lo hi : Nat} {l : List Bool} {p : Option Addr} {len cap : Nat} (h : IsBits w (.slice p len cap) lo hi l) (n : Nat) (hn : n ≤ l.length) : IsBits w (.slice p n cap) lo hi (l.take n) := by
  obtain ⟨p', cap', h1, h2, h3⟩ := h
  simp only [Value.slice.injEq] at h1
  obtain ⟨rfl, rfl, rfl⟩ := h1
  have hl : (l.take n).length = n := by simp; omega
  refine ⟨_, _, by rw [hl], by omega, fun h0 => ?_⟩
  rw [hl] at h0
  obtain ⟨g, o, rfl, h5, h6, h7⟩ := h3 (by omega)
  refine ⟨g, o, rfl, h5, h6, fun i hi => ?_⟩
  rw [hl] at hi
  rw [bn_take _ _ _ hi]
  exact h7 i (by omega)

theorem IsBits.rest {w : World} {lo hi : Nat} {l : List Bool} {p : Option Addr} {cap : Nat} (h : IsBits w (.slice p l.length cap) lo hi l) (n : Nat) (hn : n ≤ l.length) (hc : ¬ cap = n) : IsBits w (.slice (p.map (·.add n)) (l.length - n) (cap - n)) lo hi (l.drop n) := by
  have := h.cut n (l.length - n) (by omega)
  rwa [if_neg hc, List.take_of_length_le (by simp)] at this

theorem IsBits.none {w : World} {lo hi : Nat} {l : List Bool} {p : Option Addr} {cap : Nat} (h : IsBits w (.slice p l.length cap) lo hi l) (n : Nat) (hn : n ≤ l.length) (hc : cap = n) : IsBits w (.slice p (l.length - n) 0) lo hi (l.drop n) := by
  have := h.cut n (l.length - n) (by omega)
  rwa [if_pos hc, List.take_of_length_le (by simp), hc, Nat.sub_self] at this

theorem Rr.keep {w w' : World} {b hi : Nat} {l : List Bool} {e : Int} (h : Rr w b hi l e) (hk : ∀ k, b ≤ k → k < hi → w'.heap[k]? = w.heap[k]?) : Rr w' b hi l e := by
  obtain ⟨v, h1, h2⟩ := h.row
  have hb := hk b (Nat.le_refl _) h.lt
  refine ⟨⟨v, ?_, h2.keep (fun k h1 h2 => hk k (by omega) h2)⟩, ?_, fun j hj => ?_, h.lt, h.len⟩
  · rw [World.cell?_of_block (w := w) hb]; exact h1
  · rw [World.cell?_of_block (w := w) hb]; exact h.err
  · rw [World.frozen?_of_block (w := w) (w' := w') (a := ⟨b, j, none⟩) hb]; exact h.fz j hj

theorem Rr.drewN {w : World} {b hi : Nat} {l : List Bool} {e : Int} (h : Rr w b hi l e) (n : Nat) : Rr (w.drewN n) b hi l e := h.keep fun _ _ _ => rfl

theorem Rr.setErr {w : World} {b hi : Nat} {l : List Bool} {e : Int} (h : Rr w b hi l e) (e' : Int) : Rr (w.setCell ⟨b, 1, none⟩ (.int .i64 e')) b hi l e' := by
  obtain ⟨v, h1, h2⟩ := h.row
  refine ⟨⟨v, ?_, h2.keep (fun k h1 h2 => Below.heap_setCell _ _ _ _ (by show k ≠ b; omega))⟩, ?_, fun j hj => ?_, h.lt, h.len⟩
  · rw [cell_setCell_ne _ _ _ _ _ (by omega)]; exact h1
  · exact cell_setCell_eq _ _ _ _ _ h.err
  · rw [frozen_setCell]; exact h.fz j hj

theorem Rr.setRow {w : World} {b hi : Nat} {l l' : List Bool} {e : Int} {v : Value} (h : Rr w b hi l e) (h' : IsBits w v b hi l') (hl : l'.length ≤ l.length) : Rr (w.setCell ⟨b, 0, none⟩ v) b hi l' e := by
  obtain ⟨v0, h1, h2⟩ := h.row
  refine ⟨⟨v, ?_, h'.keep (fun k h1 h2 => Below.heap_setCell _ _ _ _ (by show k ≠ b; omega))⟩, ?_, fun j hj => ?_, h.lt, Nat.le_trans hl h.len⟩
  · exact cell_setCell_eq _ _ _ _ _ h1
  · rw [cell_setCell_ne _ _ _ _ _ (by omega)]; exact h.err
  · rw [frozen_setCell]; exact h.fz j hj

theorem vrefuse_zero (b : Nat) (m : Int) (w : World) (hn : w.cell? ⟨b, 1, none⟩ = some (.int .i64 0)) (hf : w.frozen? ⟨b, 1, none⟩ = false) :
    Calls Tryz.prog 89 #[.pointer (some ⟨b, 0, none⟩), .int .i64 m] w fun e w' => e = .returned (.tuple #[]) ∧ w' = w.setCell ⟨b, 1, none⟩ (.int .i64 m) := by
  go_enter Tryz.func89, Tryz.ntmps89
  go_wp2
  go_end0
  exact ⟨rfl, rfl⟩

theorem vrefuse_not (b : Nat) (m e0 : Int) (w : World) (hn : w.cell? ⟨b, 1, none⟩ = some (.int .i64 e0)) (hf : (e0 == 0) = false) :
    Calls Tryz.prog 89 #[.pointer (some ⟨b, 0, none⟩), .int .i64 m] w fun e w' => e = .returned (.tuple #[]) ∧ w' = w := by
  go_enter Tryz.func89, Tryz.ntmps89
  go_wp2
  go_end0
  exact ⟨rfl, rfl⟩

/-- The first refusal stays. -/
def first (e m : Int) : Int := if e = 0 then m else e

theorem vrefuse_any (b hi : Nat) (l : List Bool) (m e0 : Int) (w : World) (h : Rr w b hi l e0) :
    Calls Tryz.prog 89 #[.pointer (some ⟨b, 0, none⟩), .int .i64 m] w fun e w' => e = .returned (.tuple #[]) ∧ Rr w' b hi l (first e0 m) ∧ Only b 0 2 w w' := by
  by_cases he : e0 = 0
  · subst he
    refine (vrefuse_zero b m w h.err (h.fz 1 (by omega))).mono fun e w' ⟨h1, h2⟩ => ⟨h1, ?_, ?_⟩
    · rw [h2]; exact h.setErr m
    · rw [h2]; exact (Only.refl _ _ _ w).setCell _ (by omega) (by omega) _
  · refine (vrefuse_not b m e0 w h.err (by rw [beq_eq_false_iff_ne]; exact he)).mono fun e w' ⟨h1, h2⟩ => ⟨h1, ?_, ?_⟩
    · rw [h2]; unfold first; rw [if_neg he]; exact h
    · rw [h2]; exact Only.refl _ _ _ _

theorem first_ne (e m : Int) (hm : m ≠ 0) : (first e m != 0) = true := by
  unfold first; split <;> simp [*]


/-- What the document's End tells. -/
def endL (l : List Bool) (e : Int) : Int := if e = 0 then (if 8 ≤ l.length then 14 else if num l = 0 then 0 else 13) else e

theorem vend_any (b hi : Nat) (l : List Bool) (e0 : Int) (w : World) (h : Rr w b hi l e0) :
    Calls Tryz.prog 46 #[.pointer (some ⟨b, 0, none⟩)] w fun e w' => e = .returned (.int .i64 (endL l e0)) ∧ w' = w := by
  obtain ⟨_, h1, p, cap, rfl, hcap, hcells⟩ := h.row
  have h2 := h.err
  have HI : Hid (IsBits w (.slice p l.length cap) b hi l) := ⟨p, cap, rfl, hcap, hcells⟩
  have hlen := h.len
  clear hcells hcap
  by_cases he : e0 = 0
  · subst he
    by_cases h8 : 8 ≤ l.length
    · have hE : Hid (endL l 0 = 14) := by show _ = _; simp [endL, h8]
      have h8' : (8 : Int) ≤ (l.length : Int) := by omega
      generalize l.length = n at *
      go_enter Tryz.func46, Tryz.ntmps46
      go_wp2_with fail
      go_ret
      exact ⟨by rw [hE.out]; rfl, rfl⟩
    · have h8' : ¬ (8 : Int) ≤ (l.length : Int) := by omega
      have hl64 : l.length ≤ 64 := by omega
      by_cases hz : num l = 0
      · have hE : Hid (endL l 0 = 0) := by show _ = _; simp [endL, h8, hz]
        go_enter Tryz.func46, Tryz.ntmps46
        go_wp2_with fail
        refine (number_any _ b hi l w HI.out hl64).mono ?_
        rintro e w1 ⟨rfl, rfl⟩
        rw [hz]
        go_wp2_with fail
        go_ret
        exact ⟨by rw [hE.out]; rfl, rfl⟩
      · have hE : Hid (endL l 0 = 13) := by show _ = _; simp [endL, h8, hz]
        have hz' : ((num l : Int) != 0) = true := by simp [hz]
        go_enter Tryz.func46, Tryz.ntmps46
        go_wp2_with fail
        refine (number_any _ b hi l w HI.out hl64).mono ?_
        rintro e w1 ⟨rfl, rfl⟩
        go_wp2_with fail
        go_ret
        exact ⟨by rw [hE.out]; rfl, rfl⟩
  · have hne : (e0 != 0) = true := by simp [he]
    have hE : Hid (endL l e0 = e0) := by show _ = _; simp [endL, he]
    go_enter Tryz.func46, Tryz.ntmps46
    go_wp2_with fail
    go_ret
    exact ⟨by rw [hE.out]; rfl, rfl⟩

end Go.Proofs.YtangjkhflgkkdaaGreat
