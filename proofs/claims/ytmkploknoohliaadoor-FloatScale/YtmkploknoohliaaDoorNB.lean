/- The document's whole numbers: Sum. -/
import Derived.Test.YtmkploknoohliaaDoorNA
import Derived.Deep.AppendLies
namespace Go.Proofs.YtmkploknoohliaaDoor
open Go.RowKit
open M
set_option linter.unusedVariables false
set_option linter.unusedSimpArgs false

theorem cell_new1 (w : World) (x : Value) (t : TypeId) (j : Nat) (u : Value) (h : ([x] : List Value)[j]? = some u) : (w.alloc (.cells #[x] t)).cell? ((⟨w.heap.size, 0, none⟩ : Addr).add j) = some u := by
  match j, h with
  | 0, h => simp at h; subst h; rw [show (⟨w.heap.size, 0, none⟩ : Addr).add 0 = ⟨w.heap.size, 0 + 0, none⟩ from by unfold Addr.add; split <;> simp_all, cell_of_row _ _ _ _ _ _ (heap_alloc_new _ _)]; rfl

theorem grown_below {w w' : World} {row : Option Nat} {B : Nat} (hg : w.grownBy w' row) (hr : ∀ g, row = some g → B ≤ g) (hB : B ≤ w.heap.size) : Below B w w' :=
  ⟨hg.os, hg.tape, hg.output, hg.size, fun k hk => hg.block k (by omega) (fun e => by have := hr k e.symm; omega)⟩

theorem limbsV_succ (i N : Nat) : limbsV (i + 1) N = limbsV i N ++ [.int .u32 (dg N i : Nat)] := by simp [limbsV, List.range_succ]
theorem limbsV_mod (i N : Nat) : limbsV i (N % 4294967296 ^ i) = limbsV i N := by
  unfold limbsV
  apply List.map_congr_left
  intro j hj
  rw [dg_mod N (List.mem_range.1 hj)]

/-- Behind i limbs that were taken over. -/
def NatSt (w : World) (N i : Nat) (v : Value) (wr : World) : Prop := wr.ownsRow w.heap.size 54 1 v i (limbsV i N) ∧ Below w.heap.size w wr

theorem NatSt.next {w wr w4 : World} {N i g cap : Nat} {v : Value} (h : NatSt w N i v wr)
    (ho : w4.ownsRow w.heap.size 54 1 (.slice (some ⟨g, 0, none⟩) (i + 1) cap) (i + 1) (limbsV i N ++ [.int .u32 (dg N i : Nat)]))
    (hg : (wr.alloc (.cells #[.int .u32 (dg N i : Nat)] 54)).grownBy w4 v.ownBlock) : NatSt w N (i + 1) (.slice (some ⟨g, 0, none⟩) (i + 1) cap) w4 := by
  refine ⟨by rw [limbsV_succ]; exact ho, (h.2.alloc h.2.size _).trans (grown_below hg (fun g hg => (h.1.lt g hg).1) (by have := h.2.size; simp; omega))⟩

theorem addC_end {A C i k m : Nat} (hA : A < 4294967296 ^ k) (hC : C < 4294967296 ^ m) (hk : k ≤ i) (hm : m ≤ i) : addC A C i = (A + C) / 4294967296 ^ i := by
  unfold addC
  rw [Nat.mod_eq_of_lt (Nat.lt_of_lt_of_le hA (Nat.pow_le_pow_right (by omega) hk)), Nat.mod_eq_of_lt (Nat.lt_of_lt_of_le hC (Nat.pow_le_pow_right (by omega) hm))]

theorem NatSt.own {w wr : World} {N i : Nat} {v : Value} (h : NatSt w N i v wr) (hN : N < 4294967296 ^ i) (hi : i ≤ 70368744177664) : Own wr w.heap.size v i N := ⟨hN, hi, h.1⟩

end Go.Proofs.YtmkploknoohliaaDoor
