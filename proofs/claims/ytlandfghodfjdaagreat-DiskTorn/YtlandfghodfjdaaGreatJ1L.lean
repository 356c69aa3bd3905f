/- A new disk. -/
import Derived.Test.YtlandfghodfjdaaGreatJ1K
import Derived.Carry
namespace Go.Proofs.YtlandfghodfjdaaGreat
open Go.RowKit
set_option linter.unusedVariables false
set_option linter.unusedSimpArgs false

set_option maxRecDepth 100000 in
theorem new_ok (w : World) (B : Nat) (hB : B ≤ w.heap.size) (room : Nat) (h1 : 1 ≤ room) (h2 : room ≤ 268435456) :
    Calls Tryz.prog 6 #[.int .i64 (room : Int)] w fun e w' => ∃ S : DS, e = .returned (.tuple #[.pointer (some ⟨S.d, 0, none⟩), .int .i64 0]) ∧ Dk B w' 0 S ∧ S.ps = { con := [], room := room, off := false, ain := 0, keep := 0, lose := 0, wr := 0 } ∧ Below w.heap.size w w' ∧ ∀ k, Fp S k → w.heap.size ≤ k := by
  have hmm := @run_makeMap Tryz.prog
  have k1 : ¬ (room : Int) < 1 := by omega
  have k2 : ¬ (268435456 : Int) < (room : Int) := by omega
  go_enter Tryz.func6, Tryz.ntmps6
  go_wp2
  go_ret2
  refine ⟨{ d := w.heap.size + 1, m := w.heap.size, L := [], clock := 0, room := room, off := false, ain := 0, keep := 0, lose := 0, wr := 0 }, rfl, ?_, rfl, ((Below.refl _ _).alloc (Nat.le_refl _) _).alloc (by simp) _, ?_⟩
  · refine ⟨?_, new_kept (heap_alloc_new w _) _, by simp, by simp, by simp, by simp, by simp, by simp, by simp, ⟨by simp; omega, hB, by simp⟩, by simp, ⟨by simp [tot], h2⟩, by simp, by simp⟩
    have e : (w.alloc (.map #[] 0)).heap.size = w.heap.size + 1 := by simp
    have := heap_alloc_new (w.alloc (.map #[] 0)) (.cells (DS.cells { d := w.heap.size + 1, m := w.heap.size, L := [], clock := 0, room := room, off := false, ain := 0, keep := 0, lose := 0, wr := 0 } 0) 68)
    rw [e] at this
    exact this
  · rintro k (rfl | rfl | ⟨x, hx, _⟩)
    · simp
    · exact Nat.le_refl _
    · simp at hx

end Go.Proofs.YtlandfghodfjdaaGreat
