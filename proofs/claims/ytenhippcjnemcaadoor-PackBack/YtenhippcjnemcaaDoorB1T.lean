/- Slices of bytes, wherever they lie. -/
import Derived.Test.YtenhippcjnemcaaDoorB1U
namespace Go.Proofs.YtenhippcjnemcaaDoor
open Go.RowKit
open M
set_option linter.unusedVariables false

/-- As IsBytes; or a slice of none, wherever it lies. -/
def IsBy (w : World) (v : Value) (bs : List Nat) : Prop := IsBytes w v bs ∨ ∃ ad cap, v = .slice (some ad) 0 cap ∧ bs = []

theorem convert_by (w : World) (v : Value) (bs : List Nat) (h : IsBy w v bs) : (convert 34 9 v).run Tryd.prog w = .ok (.string (strOf bs)) w := by
  rcases h with h | ⟨ad, cap, rfl, rfl⟩
  · exact convert_bytes w v bs h
  · rw [run_convert_bytes_string w 34 9 5 _ 0 cap Tryd.underlying34 Tryd.underlying5 Tryd.underlying9, run_bytesToString w ad 0 cap [] (by simp [loadCells, loadCellsFrom])]; rfl

theorem from_by (w : World) (v : Value) (bs : List Nat) (h : IsBy w v bs) :
    Calls Tryd.prog 19 #[v] w fun e w' => e = .returned (.pointer (some ⟨w.heap.size, 0, none⟩)) ∧ w' = w.alloc (.cells #[.string (strOf bs), .int .i64 0, .int .i64 0] 69) := by
  rcases h with h | ⟨ad, cap, rfl, rfl⟩
  · exact from_any w v bs h
  · have hcv := convert_by w (.slice (some ad) 0 cap) [] (.inr ⟨ad, cap, rfl, rfl⟩)
    go_enter Tryd.func19, Tryd.ntmps19
    go_wp2
    go_ret
    exact ⟨rfl, rfl⟩

theorem isBy_below {w w' : World} {v : Value} {bs : List Nat} (h : IsBy w v bs) (hB : Below w.heap.size w w') : IsBy w' v bs := by
  rcases h with h | h
  · exact .inl (isBytes_below h hB)
  · exact .inr h

end Go.Proofs.YtenhippcjnemcaaDoor
