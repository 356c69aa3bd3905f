/- Bytes: a number's bytes, the highest first. -/
import Derived.Test.YtfbkdjghbgdgpaaT
import Derived.Test.YtfbkdjghbgdgpaaAE
namespace Go.Proofs.Ytfbkdjghbgdgpaa
open Go.RowKit
open M
set_option linter.unusedVariables false
set_option linter.unusedSimpArgs false

/-- A number's byte, from below. -/
def db (N i : Nat) : Nat := N / 256 ^ i % 256
theorem db_lt (N i : Nat) : db N i < 256 := Nat.mod_lt _ (by omega)
theorem bp_pos (i : Nat) : 0 < 256 ^ i := Nat.pow_pos (by omega)

theorem bp_split (q r : Nat) : 256 ^ (4 * q + r) = 4294967296 ^ q * 2 ^ (8 * r) := by
  rw [Nat.pow_add, Nat.pow_mul, Nat.pow_mul]

theorem db_dg (N q r : Nat) (hr : r < 4) : dg N q / 2 ^ (8 * r) % 256 = db N (4 * q + r) := by
  unfold db dg
  rw [bp_split, ← Nat.div_div_eq_div_mul]
  generalize N / 4294967296 ^ q = M
  have h : r = 0 ∨ r = 1 ∨ r = 2 ∨ r = 3 := by omega
  rcases h with rfl | rfl | rfl | rfl <;> simp <;> omega

theorem bmod_succ (N i : Nat) : N % 256 ^ (i + 1) = N % 256 ^ i + 256 ^ i * db N i := Nat.mod_pow_succ

theorem db_ext {N N' : Nat} : ∀ {k : Nat}, (∀ j, j < k → db N j = db N' j) → N % 256 ^ k = N' % 256 ^ k
  | 0, _ => by simp [Nat.mod_one]
  | k + 1, h => by rw [bmod_succ, bmod_succ, db_ext fun j hj => h j (by omega), h k (by omega)]

/-- Behind i bytes of Bytes. -/
def ByteSt (w : World) (g L N i : Nat) (wr : World) : Prop :=
  (∀ j, j < L → wr.cell? ⟨g, L - 1 - j, none⟩ = some (.int .u8 ((if j < i then db N j else 0 : Nat) : Int)) ∧ wr.frozen? ⟨g, L - 1 - j, none⟩ = false) ∧ Below w.heap.size w wr ∧ g < wr.heap.size

theorem ByteSt.start (w : World) (L N : Nat) : ByteSt w w.heap.size L N 0 (w.alloc (.cells (madeCells #[Value.int .u8 0] L) 5)) := by
  have hg := heap_alloc_new w (.cells (madeCells #[Value.int .u8 0] L) 5)
  refine ⟨fun j hj => ⟨?_, frozen_of_row _ _ _ _ _ hg⟩, (Below.refl _ _).alloc (Nat.le_refl _) _, by simp⟩
  rw [cell_of_row _ _ (L - 1 - j) _ _ (0, 0) hg, ← Array.getElem?_toList, toList_madeCells_one, List.getElem?_replicate, if_pos (by omega), if_neg (by omega)]
  rfl

theorem ByteSt.step {w wr : World} {g L N i : Nat} (h : ByteSt w g L N i wr) (hi : i < L) (hg : w.heap.size ≤ g) (p : Nat) (hp : p = L - 1 - i) (y : Int) (hy : y = (db N i : Nat)) : ByteSt w g L N (i + 1) (wr.setCell ⟨g, p, none⟩ (.int .u8 y)) := by
  subst hp
  refine ⟨fun j hj => ⟨?_, by rw [frozen_setCell]; exact (h.1 j hj).2⟩, h.2.1.setCell hg _, by simp [World.setCell]; exact h.2.2⟩
  by_cases e : j = i
  · subst e
    rw [cell_setCell_eq wr _ _ _ _ (h.1 j hj).1, if_pos (by omega), hy]
  · rw [cell_setCell_ne _ _ _ _ _ (by omega)]
    rw [(h.1 j hj).1]
    by_cases e2 : j < i
    · rw [if_pos e2, if_pos (by omega)]
    · rw [if_neg e2, if_neg (by omega)]

/-- Bytes in memory: a number's, the highest first. -/
def BytesOf (w : World) (base : Nat) (v : Value) (L N : Nat) : Prop :=
  ∃ g, v = .slice (some ⟨g, 0, none⟩) L L ∧ base ≤ g ∧ g < w.heap.size ∧ ∀ j, j < L → w.cell? ⟨g, L - 1 - j, none⟩ = some (.int .u8 (db N j : Nat))


end Go.Proofs.Ytfbkdjghbgdgpaa
