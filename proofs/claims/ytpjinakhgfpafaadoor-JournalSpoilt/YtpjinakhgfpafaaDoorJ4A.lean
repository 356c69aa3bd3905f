/- A log is cleared; what it tells of itself. -/
import Derived.Test.YtpjinakhgfpafaaDoorJ2M
namespace Go.Proofs.YtpjinakhgfpafaaDoor
open Go.RowKit
set_option linter.unusedVariables false
set_option linter.unusedSimpArgs false

set_option maxRecDepth 100000 in
theorem lsize_any {l d : Nat} {nm : ByteArray} {sz ct : Nat} (w : World) (hg : Lg w l d nm sz ct) : Calls Tryd.prog 20 #[.pointer (some ⟨l, 0, none⟩)] w fun e w' => e = .returned (.int .i64 (sz : Int)) ∧ w' = w := by
  have c := hg.cell 2 (.int .i64 (sz : Int)) rfl
  clear hg
  go_enter Tryd.func20, Tryd.ntmps20
  go_wp2_with fail
  go_ret
  exact ⟨rfl, rfl⟩





end Go.Proofs.YtpjinakhgfpafaaDoor
