/- The contracts of a Reader's ones and Unary. -/
import Derived.Test.YtpdaklklhoenhaaGreatDoorB1K
/- Writers beside one another: what one does leaves the others; four new ones; how long a Var is. -/
namespace Go.Proofs.YtpdaklklhoenhaaGreatDoor
open Go.RowKit
open M
set_option linter.unusedVariables false

theorem new_kept {w : World} {o : Obj} {k : Nat} (h : w.heap[k]? = some o) (p : Obj) : (w.alloc p).heap[k]? = some o := by
  have hk : k < w.heap.size := by
    rcases Nat.lt_or_ge k w.heap.size with h1 | h1
    · exact h1
    · rw [Array.getElem?_eq_none h1] at h; cases h
  rw [Below.heap_alloc _ _ _ hk]; exact h

theorem Raw.other {w w' : World} {b off : Nat} {p : Option Addr} {f : Nat → Nat} {n : Nat} {e : Int} (h : Raw w b off p f n e) {b' o1 o2 : Nat} (ho : Only b' o1 o2 w w') (hne : b ≠ b') : Raw w' b off p f n e := by
  have hb : b < w.heap.size := block_lt_of_cell h.full
  have hc : ∀ i, w'.cell? ⟨b, i, none⟩ = w.cell? ⟨b, i, none⟩ := fun i => World.cell?_of_block (w := w) (ho.block b hb hne)
  refine ⟨by rw [hc]; exact h.full, fun j hj => by rw [hc]; exact h.last j hj, by rw [hc]; exact h.len, by rw [hc]; exact h.err, fun j hj => ?_⟩
  rw [World.frozen?_of_block (w := w) (w' := w') (a := ⟨b, off + j, none⟩) (ho.block b hb hne)]; exact h.fz j hj

theorem Wr.other {w w' : World} {lo b off : Nat} {l : List Bool} {e : Int} (h : Wr w lo b off l e) {b' o1 o2 : Nat} (ho : Only b' o1 o2 w w') (hne : b ≠ b') (hlo : b' < lo) : Wr w' lo b off l e := by
  obtain ⟨p, hR, hC⟩ := h
  exact ⟨p, hR.other ho hne, Chain.only ho hlo hC⟩

theorem Wr.lenCell {w : World} {lo b off : Nat} {l : List Bool} {e : Int} (h : Wr w lo b off l e) : w.cell? ⟨b, off + 121, none⟩ = some (.int .i64 (l.length : Int)) := by
  obtain ⟨p, hR, _⟩ := h; exact hR.len

theorem groups_len_mono : ∀ (k x y : Nat), x ≤ y → (groups k x).length ≤ (groups k y).length := by
  intro k
  induction k with
  | zero => intro x y _; simp [groups]
  | succ k ih =>
    intro x y h
    by_cases hx : x < 128
    · rw [groups_small _ _ hx]
      by_cases hy : y < 128
      · rw [groups_small _ _ hy]; simp
      · rw [groups_big _ _ (by omega)]; simp
    · rw [groups_big _ _ (by omega), groups_big _ _ (by omega)]
      have := ih (x / 128) (y / 128) (by omega)
      simp; omega

theorem groups_len : ∀ (k x : Nat), (groups k x).length % 8 = 0 ∧ 8 ≤ (groups k x).length ∧ (groups k x).length ≤ 8 * (k + 1) := by
  intro k
  induction k with
  | zero => intro x; simp [groups]
  | succ k ih =>
    intro x
    by_cases hx : x < 128
    · rw [groups_small _ _ hx]; simp; omega
    · rw [groups_big _ _ (by omega)]
      have := ih (x / 128)
      simp; omega

theorem varB_mono (x y : Nat) (h : x ≤ y) : (varB x).length ≤ (varB y).length := groups_len_mono 9 x y h
theorem varB_mod (x : Nat) : (varB x).length % 8 = 0 := (groups_len 9 x).1
theorem varB_ge (x : Nat) : 8 ≤ (varB x).length := (groups_len 9 x).2.1
theorem varB_le (x : Nat) : (varB x).length ≤ 80 := (groups_len 9 x).2.2

end Go.Proofs.YtpdaklklhoenhaaGreatDoor

/- Writers and Readers behind what leaves their blocks; what a Reader of packed bits finds. -/
namespace Go.Proofs.YtpdaklklhoenhaaGreatDoor
open Go.RowKit
open M
set_option linter.unusedVariables false

theorem Raw.below {w w' : World} {b off : Nat} {p : Option Addr} {f : Nat → Nat} {n : Nat} {e : Int} (h : Raw w b off p f n e) {B : Nat} (hB : Below B w w') (hb : b < B) : Raw w' b off p f n e := by
  have hc : ∀ i, w'.cell? ⟨b, i, none⟩ = w.cell? ⟨b, i, none⟩ := fun i => hB.cell (p := ⟨b, i, none⟩) hb
  refine ⟨by rw [hc]; exact h.full, fun j hj => by rw [hc]; exact h.last j hj, by rw [hc]; exact h.len, by rw [hc]; exact h.err, fun j hj => ?_⟩
  rw [hB.frozen (p := ⟨b, off + j, none⟩) hb]; exact h.fz j hj

theorem Chain.below {w w' : World} {lo : Nat} {l : List Bool} (hB : Below w.heap.size w w') : ∀ {k : Nat} {p : Option Addr}, Chain w lo l k p → Chain w' lo l k p
  | 0, _, h => h
  | _ + 1, _, ⟨c, q, hp, hc, hk, hr⟩ => ⟨c, q, hp, hc, ⟨by rw [hB.cell (p := ⟨c, 0, none⟩) hk.lt]; exact hk.1, fun j hj => by rw [hB.cell (p := ⟨c, 1 + j, none⟩) hk.lt]; exact hk.2 j hj⟩, Chain.below hB hr⟩

theorem Wr.below {w w' : World} {lo b off : Nat} {l : List Bool} {e : Int} (h : Wr w lo b off l e) (hB : Below w.heap.size w w') : Wr w' lo b off l e := by
  obtain ⟨p, hR, hC⟩ := h
  exact ⟨p, hR.below hB (block_lt_of_cell hR.full), Chain.below hB hC⟩

theorem Rd.below {w w' : World} {b off : Nat} {s : ByteArray} {a : Nat} {e : Int} (h : Rd w b off s a e) {B : Nat} (hB : Below B w w') (hb : b < B) : Rd w' b off s a e := by
  have hc : ∀ i, w'.cell? ⟨b, i, none⟩ = w.cell? ⟨b, i, none⟩ := fun i => hB.cell (p := ⟨b, i, none⟩) hb
  refine ⟨by rw [hc]; exact h.text, by rw [hc]; exact h.at_, by rw [hc]; exact h.err, fun j hj => ?_, h.size, h.le⟩
  rw [hB.frozen (p := ⟨b, off + j, none⟩) hb]; exact h.fz j hj

theorem Rd.other {w w' : World} {b off : Nat} {s : ByteArray} {a : Nat} {e : Int} (h : Rd w b off s a e) {b' o1 o2 : Nat} (ho : Only b' o1 o2 w w') (hne : b ≠ b') : Rd w' b off s a e := by
  have hb : b < w.heap.size := block_lt_of_cell h.text
  have hc : ∀ i, w'.cell? ⟨b, i, none⟩ = w.cell? ⟨b, i, none⟩ := fun i => World.cell?_of_block (w := w) (ho.block b hb hne)
  refine ⟨by rw [hc]; exact h.text, by rw [hc]; exact h.at_, by rw [hc]; exact h.err, fun j hj => ?_, h.size, h.le⟩
  rw [World.frozen?_of_block (w := w) (w' := w') (a := ⟨b, off + j, none⟩) (ho.block b hb hne)]; exact h.fz j hj

theorem Wr.otherR {w w' : World} {lo b off : Nat} {l : List Bool} {e : Int} (h : Wr w lo b off l e) (hB : Below w.heap.size w w') : Wr w' lo b off l e := h.below hB

theorem isBytes_below {w w' : World} {v : Value} {bs : List Nat} (h : IsBytes w v bs) (hB : Below w.heap.size w w') : IsBytes w' v bs := by
  rcases h with h | ⟨g, o, cap, hv, hc⟩
  · exact .inl h
  · exact .inr ⟨g, o, cap, hv, fun i hi => by rw [hB.cell (p := ⟨g, o + i, none⟩) (block_lt_of_cell (hc i hi))]; exact hc i hi⟩

/-- The bits of a text of packed bits. -/
theorem rb_packed (l : List Bool) : rb (strOf (packed l)) = l ++ List.replicate (8 * ((l.length + 7) / 8) - l.length) false := by
  rw [rb_strOf _ (packed_lt l), rbits_packed]

theorem num_zeros (k : Nat) : num (List.replicate k false) = 0 := by
  induction k with
  | zero => rfl
  | succ k ih => simp [List.replicate_succ, num, ih]

theorem end_packed (l : List Bool) : endE (strOf (packed l)) l.length 0 = 0 := by
  have hs : (strOf (packed l)).size = (l.length + 7) / 8 := by simp
  unfold endE
  rw [if_pos rfl, if_neg (by rw [hs]; omega), rb_packed, List.drop_left' rfl, num_zeros, if_pos rfl]

/-- The bits of a part that lies within. -/
theorem part_take (a m c : List Bool) (i n : Nat) (h : i + n ≤ m.length) : ((a ++ m ++ c).drop (a.length + i)).take n = (m.drop i).take n := by
  rw [List.append_assoc, ← List.drop_drop, List.drop_left' rfl, List.drop_append_of_le_length (by omega), List.take_append_of_le_length (by simp; omega)]

theorem size_lt_of_row {w : World} {g : Nat} {o : Obj} (h : w.heap[g]? = some o) : g < w.heap.size := by
  rcases Nat.lt_or_ge g w.heap.size with h1 | h1
  · exact h1
  · rw [Array.getElem?_eq_none h1] at h; cases h

end Go.Proofs.YtpdaklklhoenhaaGreatDoor

namespace Go.Proofs.YtpdaklklhoenhaaGreatDoor
open Go.RowKit
open M
set_option linter.unusedVariables false

theorem bit_of (l : List Bool) (j : Nat) (h : j < l.length) : num ((l.drop j).take 1) = if l[j] then 1 else 0 := by
  have e : (l.drop j).take 1 = [l[j]] := by
    rw [List.drop_eq_getElem_cons h]; rfl
  rw [e]; simp [num]

/-- How many ones stand in front: k of them, at most 65; behind them the end, a nought, or too many. -/
def OnesAt (r : List Bool) (k : Nat) : Prop := k ≤ 65 ∧ k ≤ r.length ∧ (∀ j, j < k → r[j]? = some true) ∧ (k = 65 ∨ k = r.length ∨ r[k]? = some false)




end Go.Proofs.YtpdaklklhoenhaaGreatDoor
