/- The law's own works() is true. -/
import Derived.Test.YtenhippcjnemcaaDoorB1Z
import Derived.Test.YtenhippcjnemcaaDoorB1D
namespace Go.Proofs.YtenhippcjnemcaaDoor
open Go.RowKit
open M
set_option linter.unusedVariables false

/-- The cells of a new Writer. -/
def zW : Array Value := (Value.pointer none :: (List.replicate 120 (Value.int .u8 0) ++ [.int .i64 0, .int .i64 0])).toArray

/-- A Writer whose block has just been made. -/
theorem wr_of {w : World} {b lo : Nat} {t : TypeId} (hn : w.heap[b]? = some (.cells zW t (0, 0))) : Wr w lo b 0 [] 0 := by
  have h0 : zW[0]? = some (.pointer none) := by kernel_rfl
  have h1 : zW[121]? = some (.int .i64 0) := by kernel_rfl
  have h2 : zW[122]? = some (.int .i64 0) := by kernel_rfl
  refine ⟨none, ⟨?_, fun j hj => ?_, ?_, ?_, fun j hj => ?_⟩, rfl⟩
  · rw [cell_of_row _ _ _ _ _ _ hn]; exact h0
  · rw [cell_of_row _ _ _ _ _ _ hn, show 0 + 1 + j = j + 1 from by omega, zW]
    simp only [List.getElem?_toArray, List.getElem?_cons_succ]
    rw [List.getElem?_append_left (by simpa using hj), List.getElem?_replicate, if_pos hj]
    simp [byteAt]
  · rw [cell_of_row _ _ _ _ _ _ hn]; exact h1
  · rw [cell_of_row _ _ _ _ _ _ hn]; exact h2
  · exact frozen_of_row _ _ _ _ _ hn

theorem zW_built : (Tryd.prog.built 64 (#[] : Array (Nat × Value)).toList).getD #[] = zW := by kernel_rfl

theorem Only.below {b o1 o2 : Nat} {w w' : World} (h : Only b o1 o2 w w') {B : Nat} (hB : B ≤ b) (hs : B ≤ w.heap.size) : Below B w w' :=
  ⟨h.os, h.tape, h.output, h.size, fun k hk => h.block k (by omega) (by omega)⟩

theorem isBytes_row {w : World} {g : Nat} {bs : List Nat} {cap : Nat} (h : w.heap[g]? = some (.cells (bytesV bs).toArray 5 (0, 0))) : IsBytes w (.slice (some ⟨g, 0, none⟩) bs.length cap) bs := by
  refine .inr ⟨g, 0, cap, rfl, fun i hi => ?_⟩
  rw [cell_of_row _ _ _ _ _ _ h]
  simp [bytesV, hi]

theorem wdone_packed (b off lo : Nat) (w : World) (l : List Bool) (hW : Wr w lo b off l 0) (hlo : lo ≤ w.heap.size) (hlen : l.length < 1000000000000) (bs : List Nat) (hbs : packed l = bs) :
    Calls Tryd.prog 24 #[.pointer (some ⟨b, off, none⟩)] w fun e w' => e = .returned (.tuple #[.slice (some ⟨w.heap.size, 0, none⟩) bs.length bs.length, .int .i64 0]) ∧
      w'.heap[w.heap.size]? = some (.cells (bytesV bs).toArray 5 (0, 0)) ∧ Below w.heap.size w w' := by
  subst hbs
  rw [packed_length]
  exact wdone_any b off lo w l hW hlo hlen


theorem rb_strOf (bs : List Nat) (h : ∀ n ∈ bs, n < 256) : rb (strOf bs) = rbits bs := by rw [rb, bytesN_strOf bs h]

/-- What works lays. -/
def worksL : List Bool := bitsOf 5 3 ++ varB 300 ++ varB (zig (-1))

theorem packed_lt (l : List Bool) : ∀ n ∈ packed l, n < 256 := by
  intro n hn
  simp [packed] at hn
  obtain ⟨i, _, rfl⟩ := hn
  exact byteAt_lt _ _


end Go.Proofs.YtenhippcjnemcaaDoor
