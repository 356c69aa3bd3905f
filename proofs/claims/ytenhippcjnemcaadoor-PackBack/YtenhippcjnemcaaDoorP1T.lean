/- Readings, whatever the Reader's state (Tk): Bits, Bit. -/
import Derived.Test.YtenhippcjnemcaaDoorP1L
namespace Go.Proofs.YtenhippcjnemcaaDoor
open Go.RowKit
open M
set_option linter.unusedVariables false

theorem below_drewN {B : Nat} {w w' : World} (h : Below B w w') (m : Nat) : Below B w (w'.drewN m) := ⟨h.os, h.tape, h.output, h.size, h.block⟩

theorem undrew {B : Nat} {w w' : World} (h : Below B w.drew w') : Below B w w' := ⟨h.os, h.tape, h.output, h.size, h.block⟩

theorem next_below {G : Nat} {w w1 x wz : World} (h : Below G w w1 ∧ G ≤ w1.heap.size) (hbz : Below x.heap.size x wz) (hx : Below G w1 x) : Below G w wz ∧ G ≤ wz.heap.size :=
  ⟨(h.1.trans hx).trans (hbz.mono (Nat.le_trans h.2 hx.size)), Nat.le_trans h.2 (Nat.le_trans hx.size hbz.size)⟩

theorem set_two {w : World} {g : Nat} {u u' v v' : Value} (h0 : w.cell? ⟨g, 0, none⟩ = some u) (h1 : w.cell? ⟨g, 1, none⟩ = some u') :
    ((w.setCell ⟨g, 0, none⟩ v).setCell ⟨g, 1, none⟩ v').cell? ⟨g, 0, none⟩ = some v ∧ ((w.setCell ⟨g, 0, none⟩ v).setCell ⟨g, 1, none⟩ v').cell? ⟨g, 1, none⟩ = some v' :=
  ⟨by rw [cell_setCell_ne _ _ _ _ _ (by omega), cell_setCell_eq _ _ _ _ _ h0], by rw [cell_setCell_eq _ _ _ _ u' (by rw [cell_setCell_ne _ _ _ _ _ (by omega)]; exact h1)]⟩

/-- Behind a reading: the state; where it was not refused, the bits that it took; it was not refused where there are enough. -/
structure Tk (w w' : World) (b off : Nat) (s : ByteArray) (a : Nat) (e0 : Int) (a' : Nat) (e1 : Int) (laid : List Bool) : Prop where
  rd : Rd w' b off s a' e1
  only : Only b off (off + 3) w w'
  sound : e1 = 0 → e0 = 0 ∧ (rb s).take a' = (rb s).take a ++ laid
  full : e0 = 0 → a + laid.length ≤ (rb s).length → e1 = 0

theorem rb_length (s : ByteArray) : (rb s).length = 8 * s.size := by simp [rb]

theorem Tk.trans {w w1 w2 : World} {b off : Nat} {s : ByteArray} {a a1 a2 : Nat} {e0 e1 e2 : Int} {l1 l2 : List Bool} (ha : a ≤ 8 * s.size) (h : Tk w w1 b off s a e0 a1 e1 l1) (k : Tk w1 w2 b off s a1 e1 a2 e2 l2) : Tk w w2 b off s a e0 a2 e2 (l1 ++ l2) := by
  refine ⟨k.rd, h.only.trans k.only, fun he => ?_, fun he hl => ?_⟩
  · obtain ⟨h1, h2⟩ := k.sound he
    obtain ⟨h3, h4⟩ := h.sound h1
    exact ⟨h3, by rw [h2, h4, List.append_assoc]⟩
  · rw [List.length_append] at hl
    have e1 := h.full he (by omega)
    obtain ⟨_, h4⟩ := h.sound e1
    have := tkn_len' _ _ _ _ h4 (by rw [rb_length]; exact ha) (by rw [rb_length]; exact h.rd.le)
    exact k.full e1 (by omega)

/-- What Bits tells. -/
def BitsEnd (w : World) (b off : Nat) (s : ByteArray) (a : Nat) (e0 : Int) (n : Nat) (e : Ending) (w' : World) : Prop :=
  ∃ (x a' : Nat) (e1 : Int), e = .returned (.int .u64 (x : Int)) ∧ x < 2 ^ n ∧ Tk w w' b off s a e0 a' e1 (bitsOf x n)

theorem tk_bits (b off : Nat) (s : ByteArray) (a n : Nat) (e0 : Int) (w : World) (h : Rd w b off s a e0) (hn : n ≤ 64) :
    Calls Tryd.prog 26 #[.pointer (some ⟨b, off, none⟩), .int .i64 n] w (BitsEnd w b off s a e0 n) := by
  have hpos : 0 < 2 ^ n := Nat.pos_of_ne_zero (by simp)
  by_cases he : e0 = 0
  · subst he
    by_cases hs : a + n ≤ 8 * s.size
    · refine (rbits_ok b off s a n w h hn hs).mono fun e w' ⟨h1, h2, h3⟩ => ?_
      have hlen : (((rb s).drop a).take n).length = n := by simp [rb]; omega
      have hbits := bitsOf_num (((rb s).drop a).take n)
      rw [hlen] at hbits
      refine ⟨_, a + n, 0, h1, ?_, h2, h3, fun _ => ⟨rfl, take_more _ _ _ _ hbits.symm⟩, fun _ _ => rfl⟩
      have := num_lt (((rb s).drop a).take n)
      rwa [hlen] at this
    · refine (rbits_short b off s a n w h hn (by omega)).mono fun e w' ⟨h1, h2, h3⟩ => ?_
      exact ⟨0, a, 12, h1, hpos, h2, h3, fun h => by omega, fun _ hl => by rw [bitsOf_length, rb_length] at hl; omega⟩
  · refine (rbits_bad b off s a n e0 w h (by rw [beq_eq_false_iff_ne]; exact he) (by omega) (by omega)).mono fun e w' ⟨h1, h2, h3⟩ => ?_
    exact ⟨0, a, e0, h1, hpos, h2, h3, fun h => absurd h he, fun h _ => absurd h he⟩

/-- What Bit tells: a 1 is told only where it was read. -/
def BitEnd (w : World) (b off : Nat) (s : ByteArray) (a : Nat) (e0 : Int) (e : Ending) (w' : World) : Prop :=
  ∃ (v : Bool) (a' : Nat) (e1 : Int), e = .returned (.bool v) ∧ Tk w w' b off s a e0 a' e1 [v] ∧ (v = true → e1 = 0)

theorem tk_bit (b off : Nat) (s : ByteArray) (a : Nat) (e0 : Int) (w : World) (h : Rd w b off s a e0) :
    Calls Tryd.prog 38 #[.pointer (some ⟨b, off, none⟩)] w (BitEnd w b off s a e0) := by
  by_cases he : e0 = 0
  · subst he
    by_cases hs : a + 1 ≤ 8 * s.size
    · refine (rbit_of b off w _ _ (rbits_ok b off s a 1 w h (by omega) hs)).mono fun e w' ⟨h1, h2, h3⟩ => ?_
      have hin : a < (rb s).length := by simp [rb]; omega
      refine ⟨_, a + 1, 0, h1, ⟨h2, h3, fun _ => ⟨rfl, take_more _ _ _ _ ?_⟩, fun _ _ => rfl⟩, fun _ => rfl⟩
      rw [bit_of _ _ hin, List.drop_eq_getElem_cons hin]
      cases (rb s)[a] <;> rfl
    · refine (rbit_of b off w 0 _ (rbits_short b off s a 1 w h (by omega) (by omega))).mono fun e w' ⟨h1, h2, h3⟩ => ?_
      exact ⟨_, a, 12, h1, ⟨h2, h3, fun h => by omega, fun _ hl => by rw [rb_length] at hl; simp at hl; omega⟩, fun h => by simp at h⟩
  · refine (rbit_of b off w 0 _ (rbits_bad b off s a 1 e0 w h (by rw [beq_eq_false_iff_ne]; exact he) (by omega) (by omega))).mono fun e w' ⟨h1, h2, h3⟩ => ?_
    exact ⟨_, a, e0, h1, ⟨h2, h3, fun h => absurd h he, fun h _ => absurd h he⟩, fun h => by simp at h⟩


theorem Only.setOther' {b lo hi : Nat} {u w : World} (h : Only b lo hi u w) (g i : Nat) (hg : u.heap.size ≤ g) (hb : g ≠ b) (v : Value) : Only b lo hi u (w.setCell ⟨g, i, none⟩ v) := by
  have hbk : ∀ k, k ≠ g → (w.setCell ⟨g, i, none⟩ v).heap[k]? = w.heap[k]? := fun k hk => Below.heap_setCell _ _ _ _ hk
  refine ⟨h.os, h.tape, h.output, Nat.le_trans h.size (by simp [World.setCell]), fun k hk hb => ?_, fun j hj => ?_, fun j => ?_⟩
  · rw [hbk k (by omega)]; exact h.block k hk hb
  · rw [World.cell?_of_block (w := w) (hbk b (by omega))]; exact h.cell j hj
  · rw [frozen_setCell]; exact h.frozen j

theorem Rd.setOther' {w : World} {b off : Nat} {s : ByteArray} {a : Nat} {e : Int} (h : Rd w b off s a e) (g i : Nat) (hb : g ≠ b) (v : Value) : Rd (w.setCell ⟨g, i, none⟩ v) b off s a e := by
  have hbk : (w.setCell ⟨g, i, none⟩ v).heap[b]? = w.heap[b]? := Below.heap_setCell _ _ _ _ (fun e => hb e.symm)
  have hc : ∀ j, (w.setCell ⟨g, i, none⟩ v).cell? ⟨b, j, none⟩ = w.cell? ⟨b, j, none⟩ := fun j => World.cell?_of_block (w := w) hbk
  exact ⟨by rw [hc]; exact h.text, by rw [hc]; exact h.at_, by rw [hc]; exact h.err, fun j hj => by rw [frozen_setCell]; exact h.fz j hj, h.size, h.le⟩


end Go.Proofs.YtenhippcjnemcaaDoor
