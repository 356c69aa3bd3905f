/- Writers beside one another: what one does leaves the others; four new ones; how long a Var is. -/
import Derived.Test.YtenhippcjnemcaaDoorB1K
namespace Go.Proofs.YtenhippcjnemcaaDoor
open Go.RowKit
open M
set_option linter.unusedVariables false

theorem new_kept {w : World} {o : Obj} {k : Nat} (h : w.heap[k]? = some o) (p : Obj) : (w.alloc p).heap[k]? = some o := by
  have hk : k < w.heap.size := by
    rcases Nat.lt_or_ge k w.heap.size with h1 | h1
    · exact h1
    · rw [Array.getElem?_eq_none h1] at h; cases h
  rw [Below.heap_alloc _ _ _ hk]; exact h

theorem Raw.other {w w' : World} {b off : Nat} {p : Option Addr} {f : Nat → Nat} {n : Nat} {e : Int} (h : Raw w b off p f n e) {b' o1 o2 : Nat} (ho : Only b' o1 o2 w w') (hne : b ≠ b') : Raw w' b off p f n e := by
  have hb : b < w.heap.size := block_lt_of_cell h.full
  have hc : ∀ i, w'.cell? ⟨b, i, none⟩ = w.cell? ⟨b, i, none⟩ := fun i => World.cell?_of_block (w := w) (ho.block b hb hne)
  refine ⟨by rw [hc]; exact h.full, fun j hj => by rw [hc]; exact h.last j hj, by rw [hc]; exact h.len, by rw [hc]; exact h.err, fun j hj => ?_⟩
  rw [World.frozen?_of_block (w := w) (w' := w') (a := ⟨b, off + j, none⟩) (ho.block b hb hne)]; exact h.fz j hj

theorem Wr.other {w w' : World} {lo b off : Nat} {l : List Bool} {e : Int} (h : Wr w lo b off l e) {b' o1 o2 : Nat} (ho : Only b' o1 o2 w w') (hne : b ≠ b') (hlo : b' < lo) : Wr w' lo b off l e := by
  obtain ⟨p, hR, hC⟩ := h
  exact ⟨p, hR.other ho hne, Chain.only ho hlo hC⟩

theorem Wr.lenCell {w : World} {lo b off : Nat} {l : List Bool} {e : Int} (h : Wr w lo b off l e) : w.cell? ⟨b, off + 121, none⟩ = some (.int .i64 (l.length : Int)) := by
  obtain ⟨p, hR, _⟩ := h; exact hR.len

theorem groups_len_mono : ∀ (k x y : Nat), x ≤ y → (groups k x).length ≤ (groups k y).length := by
  intro k
  induction k with
  | zero => intro x y _; simp [groups]
  | succ k ih =>
    intro x y h
    by_cases hx : x < 128
    · rw [groups_small _ _ hx]
      by_cases hy : y < 128
      · rw [groups_small _ _ hy]; simp
      · rw [groups_big _ _ (by omega)]; simp
    · rw [groups_big _ _ (by omega), groups_big _ _ (by omega)]
      have := ih (x / 128) (y / 128) (by omega)
      simp; omega

theorem groups_len : ∀ (k x : Nat), (groups k x).length % 8 = 0 ∧ 8 ≤ (groups k x).length ∧ (groups k x).length ≤ 8 * (k + 1) := by
  intro k
  induction k with
  | zero => intro x; simp [groups]
  | succ k ih =>
    intro x
    by_cases hx : x < 128
    · rw [groups_small _ _ hx]; simp; omega
    · rw [groups_big _ _ (by omega)]
      have := ih (x / 128)
      simp; omega

theorem varB_mono (x y : Nat) (h : x ≤ y) : (varB x).length ≤ (varB y).length := groups_len_mono 9 x y h
theorem varB_mod (x : Nat) : (varB x).length % 8 = 0 := (groups_len 9 x).1
theorem varB_ge (x : Nat) : 8 ≤ (varB x).length := (groups_len 9 x).2.1
theorem varB_le (x : Nat) : (varB x).length ≤ 80 := (groups_len 9 x).2.2

end Go.Proofs.YtenhippcjnemcaaDoor
