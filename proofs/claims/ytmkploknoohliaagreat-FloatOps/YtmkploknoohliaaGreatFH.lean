/- value, Cmp: of 64 bits. -/
import Derived.Test.YtmkploknoohliaaGreatFG
namespace Go.Proofs.YtmkploknoohliaaGreat
open Go.RowKit
set_option linter.unusedVariables false
set_option linter.unusedSimpArgs false

theorem frombits64 (b : Nat) (w : World) : (callFunc 44 #[.int .u64 b]).run Tryz.prog w = .ok (.value (.float .f64 b)) w := by
  rw [run_callFunc_extern Tryz.func44 (by kernel_rfl) (by kernel_rfl) (by kernel_rfl) (e := Extern.MathFloatBits.float64frombits) (by kernel_rfl)]
  rfl

set_option maxRecDepth 100000 in
theorem value64_any (b : Nat) (w : World) : Calls Tryz.prog 9 #[.int .u64 b] w fun e w' => e = .returned (.float .f64 b) ∧ w' = w := by
  have hf := frombits64 b
  go_enter Tryz.func9, Tryz.ntmps9
  go_wp2_with fail
  refine (wide64_any _).mono ?_
  rintro e w1 ⟨rfl, rfl⟩
  go_wp2_with (simp only [hf])
  go_ret
  exact ⟨rfl, rfl⟩

/-- What Cmp tells. -/
def cmpI : Option Ordering → Int
  | some .lt => -1
  | some .gt => 1
  | _ => 0

set_option maxRecDepth 100000 in
set_option maxHeartbeats 1000000 in
theorem Cmp64_any (a b : Nat) (w : World) : Calls Tryz.prog 73 #[.int .u64 a, .int .u64 b] w fun e w' => e = .returned (.tuple #[.int .i64 (cmpI (Ieee.double.order a b)), .bool (Ieee.double.order a b).isSome]) ∧ w' = w := by
  have hk : ∀ o : Option Ordering, o = none ∨ o = some .lt ∨ o = some .eq ∨ o = some .gt := by
    rintro (_ | _ | _ | _) <;> simp
  have hk := hk (Ieee.double.order a b)
  have hd : FloatKind.f64.format.order a b = Ieee.double.order a b := rfl
  generalize Ieee.double.order a b = o at *
  rcases hk with rfl | rfl | rfl | rfl
  all_goals
    go_enter Tryz.func73, Tryz.ntmps73
    go_wp2_with fail
    refine (value64_any _ _).mono ?_
    rintro e w1 ⟨rfl, rfl⟩
    go_wp2_with fail
    refine (value64_any _ _).mono ?_
    rintro e w1 ⟨rfl, rfl⟩
    go_wp2_with (simp only [hd])
    go_ret2
    exact ⟨rfl, rfl⟩
end Go.Proofs.YtmkploknoohliaaGreat
