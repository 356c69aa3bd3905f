/- What comes in: a Spoilt. -/
import Derived.Test.YtpjinakhgfpafaaDoorJ3O
import Derived.Test.YtpjinakhgfpafaaDoorJ4O
import Derived.Test.YtpjinakhgfpafaaDoorCards
import Derived.Test.YtpjinakhgfpafaaDoorTie
import Derived.LaidMore
import Derived.Lay
import Derived.SevenTiedAt
import Derived.ProofKit
import Derived.OpenShut
import Derived.Deep.Slices
import Derived.Lib.SmallJoins
import Derived.Deep.MidRow
import Derived.SizedLaws
namespace Go.Proofs.YtpjinakhgfpafaaDoor
open Go.ChangeShapes Go.WideShapes Go.Deep Go.Joins
open Go.RowKit (Below)
set_option linter.unusedVariables false
set_option linter.unusedSimpArgs false

section
variable {H : Type} {enc : TypeId × Value → H} {w : World} {base : Nat} {spare : Nat → Bool} {held : Bool}
set_option maxRecDepth 100000 in
theorem open_spoilt11 {r : Reach} {b0 : Nat} {v : Value} {d : DataW H} {p : List MemPlace} (hv : Value.okWide Tryd.prog w r b0 24 v) (h : DataW.Trod enc Tryd.prog w base spare held 24 v d p) (hz : Sz 24 d) :
    ∃ pL nL cL zA zC zB, v = .agg #[.slice pL nL cL, .int .i64 zA, .int .i64 zC, .int .u8 zB] ∧ nL ≤ 140737488355328 ∧ RowsIn w pL nL ∧ (-9223372036854775808 ≤ zA ∧ zA ≤ 9223372036854775807) ∧ (-9223372036854775808 ≤ zC ∧ zC ≤ 9223372036854775807) ∧ 0 ≤ zB ∧ zB < 256 := by
  obtain ⟨v0, v1, v2, v3, y0, y1, y2, y3, n, rfl, hd, _, h0, h1, h2, h3⟩ := open_agg4 Tryd.underlying24 (by kernel_rfl) (by kernel_rfl) hv h
  subst hd
  have z0 : Sz 22 y0.1 := fun n hn => hz n (by
    simp only [DataW.weights, Tryd.underlying24]
    exact DataW.weights_mem_each (j := 0) rfl rfl n hn)
  obtain ⟨pL, nL, cL, rfl, a1, a2⟩ := open_rrr h0 z0
  obtain ⟨zA, e1, _, w1⟩ := DataW.trod_int Tryd.underlying3 h1
  obtain ⟨zC, e2, _, w2⟩ := DataW.trod_int Tryd.underlying3 h2
  obtain ⟨q, rfl, hq⟩ := open_n8 h3
  simp only [List.cons.injEq, and_true] at e1 e2
  subst e1
  subst e2
  have k1 : -9223372036854775808 ≤ zA ∧ zA ≤ 9223372036854775807 := by simpa [Lit.wf, IntKind.min, IntKind.max, IntKind.signed, IntKind.bits] using w1
  have k2 : -9223372036854775808 ≤ zC ∧ zC ≤ 9223372036854775807 := by simpa [Lit.wf, IntKind.min, IntKind.max, IntKind.signed, IntKind.bits] using w2
  exact ⟨pL, nL, cL, zA, zC, (q : Int), rfl, a1, a2, k1, k2, by omega, by omega⟩
end

end Go.Proofs.YtpjinakhgfpafaaDoor
