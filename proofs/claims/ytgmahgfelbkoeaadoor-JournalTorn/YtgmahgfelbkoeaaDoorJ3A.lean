/- JournalSum: the walk. -/
import Derived.Test.YtgmahgfelbkoeaaDoorJ2N
import Derived.Test.YtgmahgfelbkoeaaDoorJ3M
import Derived.Deep.CutBlock
import Derived.Deep.DeepCutAuto
import Derived.Deep.CutRange
import Derived.BigQuiet
namespace Go.Proofs.YtgmahgfelbkoeaaDoor
open Go.RowKit
set_option linter.unusedVariables false
set_option linter.unusedSimpArgs false

/-- Bytes that fill a block of their own. -/
def Rz (w : World) (g : Nat) (bs : List Nat) : Prop := w.heap[g]? = some (.cells (bytesV bs).toArray 5 (0, 0))

theorem Rz.cell {w : World} {g : Nat} {bs : List Nat} (h : Rz w g bs) (i : Nat) (hi : i < bs.length) : w.cell? ⟨g, i, none⟩ = some (.int .u8 ((bs.getD i 0 : Nat) : Int)) := by
  rw [cell_of_row w g i _ _ _ h]; simp [bytesV, hi, List.getD]
theorem Rz.set {w : World} {g : Nat} {bs : List Nat} (h : Rz w g bs) (i z : Nat) : Rz (w.setCell ⟨g, i, none⟩ (.int .u8 (z : Int))) g (bs.set i z) := by
  unfold Rz at *; rw [heap_set_at h]; simp [bytesV, List.map_set]
theorem Rz.below {w w' : World} {g : Nat} {bs : List Nat} (h : Rz w g bs) (hb : Below w.heap.size w w') : Rz w' g bs := (hb.block g (heap_lt h)).trans h

/-- The first k bytes xored, the rest noughts. -/
def xr (a b : List Nat) (n k : Nat) : List Nat := (List.range n).map fun j => if j < k then a.getD j 0 ^^^ b.getD j 0 else 0
theorem xr_len (a b : List Nat) (n k : Nat) : (xr a b n k).length = n := by simp [xr]
theorem xr_get (a b : List Nat) (n k j : Nat) (h : j < n) : (xr a b n k).getD j 0 = if j < k then a.getD j 0 ^^^ b.getD j 0 else 0 := by simp [xr, List.getD, h]
theorem xr_zero (a b : List Nat) (n : Nat) : xr a b n 0 = List.replicate n 0 := by
  apply List.ext_getElem <;> simp [xr]
theorem xr_set (a b : List Nat) (n k : Nat) : (xr a b n k).set k (a.getD k 0 ^^^ b.getD k 0) = xr a b n (k + 1) := by
  apply List.ext_getElem
  · simp [xr]
  · intro j h1 h2
    simp only [xr, List.getElem_set, List.getElem_map, List.getElem_range]
    by_cases e : k = j
    · subst e; simp
    · rw [if_neg e]
      by_cases hl : j < k
      · rw [if_pos hl, if_pos (by omega)]
      · rw [if_neg hl, if_neg (by omega)]
theorem xr_lt (a b : List Nat) (n k : Nat) (ha : ∀ x ∈ a, x < 256) (hb : ∀ x ∈ b, x < 256) : ∀ x ∈ xr a b n k, x < 256 := fun x hx => by
  simp only [xr, List.mem_map, List.mem_range] at hx
  obtain ⟨j, _, rfl⟩ := hx
  split
  · exact Nat.xor_lt_two_pow (n := 8) (getD_byte ha j) (getD_byte hb j)
  · omega

set_option maxRecDepth 100000 in
theorem cy_cut {w : World} {p : Option Addr} {n c : Nat} {bs : List Nat} (h : Cy w p n c bs) (hh : Nat) (hl : hh ≤ n) : ∃ p', (∀ w', (Instr.slice 38 (.slice p n c) none (some (.int .i64 (hh : Int))) none).run Tryd.prog w' = .ok (.slice p' hh c) w') ∧ Cy w p' hh c (bs.take hh) := by
  obtain ⟨p', e, hc, ho⟩ := cy_slice h 0 hh (Nat.zero_le _) hl
  refine ⟨p', fun w' => ?_, by simpa using hc⟩
  have e' : Value.slice p' hh c = _ := e
  rw [e', run_slice_h (P := Tryd.prog) (w := w') (t := 38) (a := p) (len := n) (cap := c) (ht := Tryd.underlying38) .i64 (hh : Int) (by omega) (by have := h.2.2.1; omega)]
  simp [Result.andThen, sliced, Tryd.sizeOf5, Program.elem, Tryd.underlying38]

theorem ob_at {B : Nat} {w0 wr : World} {bs : List Nat} {v : Value} (h : OB B w0 bs v wr) (hn : 0 < bs.length) : ∃ g cap, v = .slice (some ⟨g, 0, none⟩) bs.length cap ∧ B ≤ g ∧ (∀ i, i < bs.length → wr.cell? ⟨g, i, none⟩ = some (.int .u8 ((bs.getD i 0 : Nat) : Int))) ∧ ∀ i, wr.frozen? ⟨g, i, none⟩ = false := by
  rcases h.own.2 with ⟨h1, h2⟩ | ⟨g, cap, cur, h1, hb, hg, hc, hm, hs, ht⟩
  · omega
  · refine ⟨g, cap, h1, hb, fun i hi => ?_, fun i => frozen_of_row _ _ _ _ _ hg⟩
    have e : (bytesV bs)[i]? = some (.int .u8 ((bs.getD i 0 : Nat) : Int)) := by simp [bytesV, List.getD, hi]
    rw [cell_of_row wr g i cur _ (0, 0) hg, ← e, ← ht, List.getElem?_take, if_pos (by omega)]
    simp

theorem isBy_set {w : World} {g c i z : Nat} {bs : List Nat} (h : ∀ i, i < bs.length → w.cell? ⟨g, i, none⟩ = some (.int .u8 ((bs.getD i 0 : Nat) : Int))) (hi : i < bs.length) : IsBy (w.setCell ⟨g, i, none⟩ (.int .u8 (z : Int))) (.slice (some ⟨g, 0, none⟩) bs.length c) (bs.set i z) := by
  refine .inl (.inr ⟨g, 0, c, by simp, fun j hj => ?_⟩)
  have hj' : j < bs.length := by simpa using hj
  rw [Nat.zero_add]
  by_cases e : j = i
  · subst e
    rw [cell_setCell_eq _ _ _ _ _ (h j hj')]; simp [List.getD, hj']
  · rw [cell_setCell_ne _ _ _ _ _ e, h j hj']
    simp [List.getD, List.getElem?_set_ne (Ne.symm e)]

theorem below_set {B : Nat} {w w1 : World} {g i : Nat} {v : Value} (h : Below B w w1) (hg : B ≤ g) : Below B w (w1.setCell ⟨g, i, none⟩ v) :=
  ⟨h.os, h.tape, h.output, by have := h.size; simpa [World.setCell] using this, fun j hj => (Below.heap_setCell _ _ _ _ (by show j ≠ g; omega)).trans (h.block j hj)⟩


end Go.Proofs.YtgmahgfelbkoeaaDoor
