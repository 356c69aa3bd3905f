/- What comes in: a Two. -/
import Derived.Test.YtpecgmcalbojcaaDoorJ3O
import Derived.Test.YtpecgmcalbojcaaDoorJ4O
import Derived.Test.YtpecgmcalbojcaaDoorJ5D
import Derived.Test.YtpecgmcalbojcaaDoorCards
import Derived.Test.YtpecgmcalbojcaaDoorTie
import Derived.LaidMore
import Derived.Lay
import Derived.SevenTiedAt
import Derived.ProofKit
import Derived.OpenShut
import Derived.Deep.Slices
import Derived.Lib.SmallJoins
import Derived.Deep.MidRow
import Derived.SizedLaws
namespace Go.Proofs.YtpecgmcalbojcaaDoor
open Go.ChangeShapes Go.WideShapes Go.Deep Go.Joins
open Go.RowKit (Below)
set_option linter.unusedVariables false
set_option linter.unusedSimpArgs false

section
variable {H : Type} {enc : TypeId × Value → H} {w : World} {base : Nat} {spare : Nat → Bool} {held : Bool}
set_option maxRecDepth 100000 in
theorem open_two11 {r : Reach} {b0 : Nat} {v : Value} {d : DataW H} {p : List MemPlace} (hv : Value.okWide Tryd.prog w r b0 68 v) (h : DataW.Trod enc Tryd.prog w base spare held 68 v d p) (hz : Sz 68 d) :
    ∃ pA nA cA pB nB cB pC nC cC, v = .agg #[.slice pA nA cA, .slice pB nB cB, .slice pC nC cC] ∧ (nA ≤ 140737488355328 ∧ nB ≤ 140737488355328 ∧ nC ≤ 140737488355328) ∧ RowsIn w pA nA ∧ RowsIn w pB nB ∧ IntsIn w pC nC := by
  obtain ⟨v0, v1, v2, y0, y1, y2, n, rfl, hd, _, h0, h1, h2⟩ := open_agg3 Tryd.underlying68 (by kernel_rfl) (by kernel_rfl) hv h
  subst hd
  have z0 : Sz 22 y0.1 := fun n hn => hz n (by
    simp only [DataW.weights, Tryd.underlying68]
    exact DataW.weights_mem_each (j := 0) rfl rfl n hn)
  have z1 : Sz 22 y1.1 := fun n hn => hz n (by
    simp only [DataW.weights, Tryd.underlying68]
    exact DataW.weights_mem_each (j := 1) rfl rfl n hn)
  have z2 : Sz 23 y2.1 := fun n hn => hz n (by
    simp only [DataW.weights, Tryd.underlying68]
    exact DataW.weights_mem_each (j := 2) rfl rfl n hn)
  obtain ⟨pA, nA, cA, rfl, a1, a2⟩ := open_rrr h0 z0
  obtain ⟨pB, nB, cB, rfl, b1, b2⟩ := open_rrr h1 z1
  obtain ⟨pC, nC, cC, rfl, c1, c2⟩ := open_ins h2 z2
  exact ⟨pA, nA, cA, pB, nB, cB, pC, nC, cC, rfl, ⟨a1, b1, c1⟩, a2, b2, c2⟩
end

end Go.Proofs.YtpecgmcalbojcaaDoor
