/- The contracts of a Reader's ones and Unary. -/
import Derived.Test.YtenhippcjnemcaaDoorB1U
namespace Go.Proofs.YtenhippcjnemcaaDoor
open Go.RowKit
open M
set_option linter.unusedVariables false

theorem bit_of (l : List Bool) (j : Nat) (h : j < l.length) : num ((l.drop j).take 1) = if l[j] then 1 else 0 := by
  have e : (l.drop j).take 1 = [l[j]] := by
    rw [List.drop_eq_getElem_cons h]; rfl
  rw [e]; simp [num]

/-- How many ones stand in front: k of them, at most 65; behind them the end, a nought, or too many. -/
def OnesAt (r : List Bool) (k : Nat) : Prop := k ≤ 65 ∧ k ≤ r.length ∧ (∀ j, j < k → r[j]? = some true) ∧ (k = 65 ∨ k = r.length ∨ r[k]? = some false)




end Go.Proofs.YtenhippcjnemcaaDoor
