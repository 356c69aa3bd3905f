/- value, Cmp: of 64 bits. -/
import Derived.Test.YtmkploknoohliaaFG
namespace Go.Proofs.Ytmkploknoohliaa
open Go.RowKit
set_option linter.unusedVariables false
set_option linter.unusedSimpArgs false

theorem frombits64 (b : Nat) (w : World) : (callFunc 36 #[.int .u64 b]).run Try.prog w = .ok (.value (.float .f64 b)) w := by
  rw [run_callFunc_extern Try.func36 (by kernel_rfl) (by kernel_rfl) (by kernel_rfl) (e := Extern.MathFloatBits.float64frombits) (by kernel_rfl)]
  rfl

set_option maxRecDepth 100000 in
theorem value64_any (b : Nat) (w : World) : Calls Try.prog 18 #[.int .u64 b] w fun e w' => e = .returned (.float .f64 b) ∧ w' = w := by
  have hf := frombits64 b
  go_enter Try.func18, Try.ntmps18
  go_wp2_with fail
  refine (wide64_any _).mono ?_
  rintro e w1 ⟨rfl, rfl⟩
  go_wp2_with (simp only [hf])
  go_ret
  exact ⟨rfl, rfl⟩

end Go.Proofs.Ytmkploknoohliaa
