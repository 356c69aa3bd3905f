/- Root of 64 bits. -/
import Derived.Test.YtmkploknoohliaaGreatFQ
namespace Go.Proofs.YtmkploknoohliaaGreat
open Go.RowKit
open Flt
set_option linter.unusedVariables false
set_option linter.unusedSimpArgs false

def sqrtOf (o : Option Nat) (a : Nat) : Sem Value := match o with | some r => pure (Value.float .f64 r) | none => (do pure (.float .f64 (← choose (.nanBits .f64 a a))))
theorem sqrt_is (a : Nat) : Extern.MathSqrt.sqrt #[.float .f64 a] = sqrtOf (Ieee.double.sqrt a) a := rfl
theorem run_sqrt_yes (a r : Nat) (w : World) (h : Ieee.double.sqrt a = some r) : (callFunc 80 #[.float .f64 a]).run Tryz.prog w = .ok (.value (.float .f64 r)) w := by
  rw [run_callFunc_extern Tryz.func80 (by kernel_rfl) (by kernel_rfl) (by kernel_rfl) (e := Extern.MathSqrt.sqrt) (by kernel_rfl), sqrt_is, h]
  simp [sqrtOf, Result.andThen]
theorem run_sqrt_no (a : Nat) (w : World) (h : Ieee.double.sqrt a = none) : ∃ nb, IsNan64 nb ∧ (callFunc 80 #[.float .f64 a]).run Tryz.prog w = .ok (.value (.float .f64 nb)) w.drew := by
  refine ⟨Question.cut (.nanBits .f64 a a) (w.tape w.drawn (.nanBits .f64 a a)), cut_nan _ _ _, ?_⟩
  rw [run_callFunc_extern Tryz.func80 (by kernel_rfl) (by kernel_rfl) (by kernel_rfl) (e := Extern.MathSqrt.sqrt) (by kernel_rfl), sqrt_is, h]
  simp [sqrtOf, Result.andThen, Question.forced]
theorem sqrt_num {a r : Nat} (h : Ieee.double.sqrt a = some r) : r % 9223372036854775808 ≤ 9218868437227405312 ∧ r < 18446744073709551616 := by
  unfold Ieee.Format.sqrt at h
  exact map_num h fun d => root_num
set_option maxRecDepth 100000 in
theorem Root64_any (a : Nat) (w : World) : Calls Tryz.prog 12 #[.int .u64 a] w fun e w' => e = .returned (.int .u64 (told64 (Ieee.double.sqrt a) : Nat)) ∧ Below w.heap.size w w' := by
  cases ho : Ieee.double.sqrt a with
  | none =>
    obtain ⟨nb, hnb, hs⟩ := run_sqrt_no a w ho
    have HS : Hid (Calls Tryz.prog 50 #[.float .f64 a] w fun e w' => e = .returned (.float .f64 nb) ∧ w' = w.drew) := by
      show Calls _ _ _ _ _
      go_enter Tryz.func50, Tryz.ntmps50
      go_wp2_with (simp only [hs])
      go_ret
      exact ⟨rfl, rfl⟩
    go_enter Tryz.func12, Tryz.ntmps12
    go_wp2_with fail
    refine (value64_any a _).mono ?_
    rintro e w1 ⟨rfl, hw1⟩
    have hw1 := hw1.symm
    subst hw1
    go_wp2_with fail
    refine HS.out.mono ?_
    rintro e w2 ⟨rfl, rfl⟩
    go_wp2_with fail
    refine (pattern64_any nb _ hnb.2).mono ?_
    rintro e w3 ⟨rfl, hb3⟩
    rw [pat64_nan nb hnb.1]
    go_wp2_with fail
    go_ret
    exact ⟨rfl, (Below.refl _ _).drew.trans hb3⟩
  | some r =>
    obtain ⟨hr1, hr2⟩ := sqrt_num ho
    have hs := fun w : World => run_sqrt_yes a r w ho
    have HS : Hid (Calls Tryz.prog 50 #[.float .f64 a] w fun e w' => e = .returned (.float .f64 r) ∧ w' = w) := by
      show Calls _ _ _ _ _
      go_enter Tryz.func50, Tryz.ntmps50
      go_wp2_with (simp only [hs])
      go_ret
      exact ⟨rfl, rfl⟩
    go_enter Tryz.func12, Tryz.ntmps12
    go_wp2_with fail
    refine (value64_any a _).mono ?_
    rintro e w1 ⟨rfl, hw1⟩
    have hw1 := hw1.symm
    subst hw1
    go_wp2_with fail
    refine HS.out.mono ?_
    rintro e w2 ⟨rfl, hw1⟩
    have hw1 := hw1.symm
    subst hw1
    go_wp2_with fail
    refine (pattern64_any r _ hr2).mono ?_
    rintro e w3 ⟨rfl, hb3⟩
    rw [pat64_num r hr1]
    go_wp2_with fail
    go_ret
    exact ⟨rfl, hb3⟩

end Go.Proofs.YtmkploknoohliaaGreat
