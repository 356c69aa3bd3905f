/- Root of any number; slices of triples. -/
import Derived.Test.YtdiinhccfifiaabFN
import Derived.Test.YtdiinhccfifiaabFQ
import Derived.ProofKit
import Derived.OpenShut
import Derived.Deep.Slices
import Derived.Lib.SmallJoins
import Derived.Deep.MidRow
import Derived.Deep.Strs
namespace Go.Proofs.Ytdiinhccfifiaab
open Go.RowKit
open Flt
set_option linter.unusedVariables false
set_option linter.unusedSimpArgs false

def sqrtOf (o : Option Nat) (a : Nat) : Sem Value := match o with | some r => pure (Value.float .f64 r) | none => (do pure (.float .f64 (← choose (.nanBits .f64 a a))))
theorem sqrt_is (a : Nat) : Extern.MathSqrt.sqrt #[.float .f64 a] = sqrtOf (Ieee.double.sqrt a) a := rfl
theorem run_sqrt_yes (a r : Nat) (w : World) (h : Ieee.double.sqrt a = some r) : (callFunc 90 #[.float .f64 a]).run Try.prog w = .ok (.value (.float .f64 r)) w := by
  rw [run_callFunc_extern Try.func90 (by kernel_rfl) (by kernel_rfl) (by kernel_rfl) (e := Extern.MathSqrt.sqrt) (by kernel_rfl), sqrt_is, h]
  simp [sqrtOf, Result.andThen]
theorem run_sqrt_no (a : Nat) (w : World) (h : Ieee.double.sqrt a = none) : ∃ nb, IsNan64 nb ∧ (callFunc 90 #[.float .f64 a]).run Try.prog w = .ok (.value (.float .f64 nb)) w.drew := by
  refine ⟨Question.cut (.nanBits .f64 a a) (w.tape w.drawn (.nanBits .f64 a a)), cut_nan _ _ _, ?_⟩
  rw [run_callFunc_extern Try.func90 (by kernel_rfl) (by kernel_rfl) (by kernel_rfl) (e := Extern.MathSqrt.sqrt) (by kernel_rfl), sqrt_is, h]
  simp [sqrtOf, Result.andThen, Question.forced]
theorem sqrt_num {a r : Nat} (h : Ieee.double.sqrt a = some r) : r % 9223372036854775808 ≤ 9218868437227405312 ∧ r < 18446744073709551616 := by
  unfold Ieee.Format.sqrt at h
  exact map_num h fun d => root_num
set_option maxRecDepth 100000 in
theorem Root64_any (a : Nat) (w : World) : Calls Try.prog 32 #[.int .u64 a] w fun e w' => e = .returned (.int .u64 (told64 (Ieee.double.sqrt a) : Nat)) ∧ Below w.heap.size w w' := by
  cases ho : Ieee.double.sqrt a with
  | none =>
    obtain ⟨nb, hnb, hs⟩ := run_sqrt_no a w ho
    have HS : Hid (Calls Try.prog 59 #[.float .f64 a] w fun e w' => e = .returned (.float .f64 nb) ∧ w' = w.drew) := by
      show Calls _ _ _ _ _
      go_enter Try.func59, Try.ntmps59
      go_wp2_with (simp only [hs])
      go_ret
      exact ⟨rfl, rfl⟩
    go_enter Try.func32, Try.ntmps32
    go_wp2_with fail
    refine (value64_any a _).mono ?_
    rintro e w1 ⟨rfl, hw1⟩
    have hw1 := hw1.symm
    subst hw1
    go_wp2_with fail
    refine HS.out.mono ?_
    rintro e w2 ⟨rfl, rfl⟩
    go_wp2_with fail
    refine (pattern64_any nb _ hnb.2).mono ?_
    rintro e w3 ⟨rfl, hb3⟩
    rw [pat64_nan nb hnb.1]
    go_wp2_with fail
    go_ret
    exact ⟨rfl, (Below.refl _ _).drew.trans hb3⟩
  | some r =>
    obtain ⟨hr1, hr2⟩ := sqrt_num ho
    have hs := fun w : World => run_sqrt_yes a r w ho
    have HS : Hid (Calls Try.prog 59 #[.float .f64 a] w fun e w' => e = .returned (.float .f64 r) ∧ w' = w) := by
      show Calls _ _ _ _ _
      go_enter Try.func59, Try.ntmps59
      go_wp2_with (simp only [hs])
      go_ret
      exact ⟨rfl, rfl⟩
    go_enter Try.func32, Try.ntmps32
    go_wp2_with fail
    refine (value64_any a _).mono ?_
    rintro e w1 ⟨rfl, hw1⟩
    have hw1 := hw1.symm
    subst hw1
    go_wp2_with fail
    refine HS.out.mono ?_
    rintro e w2 ⟨rfl, hw1⟩
    have hw1 := hw1.symm
    subst hw1
    go_wp2_with fail
    refine (pattern64_any r _ hr2).mono ?_
    rintro e w3 ⟨rfl, hb3⟩
    rw [pat64_num r hr1]
    go_wp2_with fail
    go_ret
    exact ⟨rfl, hb3⟩

open Go.ChangeShapes Go.WideShapes Go.Deep Go.Joins
def IsThrees (w : World) (a : Option Addr) (len : Nat) : Prop :=
  len ≤ 9223372036854775807 ∧ (0 < len → ∃ g o, a = some ⟨g, o, none⟩ ∧ g < w.heap.size ∧ ∀ i, i < len → ∃ A B C : Nat, A < 18446744073709551616 ∧ B < 18446744073709551616 ∧ C < 18446744073709551616 ∧ w.cell? ⟨g, o + i * 3, none⟩ = some (.int .u64 A) ∧ w.cell? ⟨g, o + i * 3 + 1, none⟩ = some (.int .u64 B) ∧ w.cell? ⟨g, o + i * 3 + 2, none⟩ = some (.int .u64 C))

theorem cells_three : Try.prog.cellsOf 40 = 3 := by kernel_rfl

section
variable {H : Type} {enc : TypeId × Value → H} {w : World} {base : Nat} {spare : Nat → Bool} {held : Bool}
theorem three_cells {n : Nat} {cs : List Value} {y : DataW H × List MemPlace} (h : DataW.trod enc Try.prog w base spare held n 40 cs = some y) :
    ∃ (A : Nat) (B : Nat) (C : Nat), cs = [.int .u64 (A : Int), .int .u64 (B : Int), .int .u64 (C : Int)] ∧ A < 18446744073709551616 ∧ B < 18446744073709551616 ∧ C < 18446744073709551616 := by
  obtain ⟨y0, y1, y2, k, hx, hl, h0, h1, h2⟩ := trod_struct3 Try.underlying40 h
  have cu : Try.prog.cellsOf 24 = 1 := by kernel_rfl
  have ci : Try.prog.cellsOf 3 = 1 := by kernel_rfl
  rw [cells_three] at hl
  obtain ⟨v0, v1, v2, rfl⟩ := list3' hl
  simp only [cu, ci, List.drop_zero, List.drop_succ_cons, List.take_succ_cons, List.take_zero] at h0 h1 h2
  obtain ⟨d0, e0, _, w0⟩ := DataW.trod_int Try.underlying24 h0
  have b0 := bounds_u64 w0
  obtain ⟨d1, e1, _, w1⟩ := DataW.trod_int Try.underlying24 h1
  have b1 := bounds_u64 w1
  obtain ⟨d2, e2, _, w2⟩ := DataW.trod_int Try.underlying24 h2
  have b2 := bounds_u64 w2
  simp only [List.cons.injEq, and_true] at e0 e1 e2
  subst e0 e1 e2
  refine ⟨d0.toNat, d1.toNat, d2.toNat, ?_, by omega, by omega, by omega⟩
  rw [Int.toNat_of_nonneg b0.1, Int.toNat_of_nonneg b1.1, Int.toNat_of_nonneg b2.1]

theorem open_three {fuel : Nat} {v : Value} {y : DataW H × List MemPlace} (h : DataW.trod enc Try.prog w base spare held fuel 38 [v] = some y) : ∃ a len cap, v = .slice a len cap ∧ IsThrees w a len := by
  rcases open_slice Try.underlying38 h with ⟨h0, _⟩ | ⟨ad, len, cap, mm, n', D, Pl, hcs, _, hlc, hcm, hmm, _, hx⟩
  · simp only [List.cons.injEq, and_true] at h0
    exact ⟨none, 0, 0, h0, by omega, fun h => by omega⟩
  · simp only [List.cons.injEq, and_true] at hcs
    unfold maxLen at hcm
    refine ⟨some ad, len, cap, hcs, by omega, fun h0 => ?_⟩
    have hlm : len ≤ mm := by rw [hmm]; split <;> omega
    have one : ∀ i, i < len → ∃ (A : Nat) (B : Nat) (C : Nat), (w.cell? ((ad.add (i * 3)).add 0) = some (.int .u64 (A : Int)) ∧ w.cell? ((ad.add (i * 3)).add 1) = some (.int .u64 (B : Int)) ∧ w.cell? ((ad.add (i * 3)).add 2) = some (.int .u64 (C : Int))) ∧ A < 18446744073709551616 ∧ B < 18446744073709551616 ∧ C < 18446744073709551616 := by
      intro i hi
      obtain ⟨cs', hc, ht⟩ := hx i (by omega)
      obtain ⟨A, B, C, rfl, hb⟩ := three_cells ht
      rw [cells_three] at hc
      refine ⟨A, B, C, ?_, hb⟩
      have hc := cells_some hc
      rw [show List.range 3 = [0, 1, 2] from rfl] at hc
      simp only [List.mapM_cons, List.mapM_nil, Option.bind_eq_bind, Option.bind_eq_some_iff, Option.pure_def, Option.some.injEq, List.cons.injEq, exists_eq_left'] at hc
      obtain ⟨a0, h0, l0, ⟨a1, h1, l1, ⟨a2, h2, l2, hl2, rfl⟩, rfl⟩, e0, hr⟩ := hc
      simp only [List.cons.injEq] at hr
      obtain ⟨e1, e2, _⟩ := hr
      subst e0 e1 e2
      exact ⟨h0, h1, h2⟩
    obtain ⟨b, off, spot⟩ := ad
    obtain ⟨_, _, _, ⟨h00, _⟩, _⟩ := one 0 h0
    have hspot : spot = none := by simpa [Addr.add] using World.cell?_spot h00
    subst hspot
    refine ⟨b, off, rfl, ?_, fun j hj => ?_⟩
    · have := block_lt_of_cell h00
      simpa [Addr.add] using this
    · obtain ⟨A, B, C, ⟨k0, k1, k2⟩, q0, q1, q2⟩ := one j hj
      simp only [Addr.add_mid, Nat.add_zero] at k0 k1 k2
      exact ⟨A, B, C, q0, q1, q2, k0, k1, k2⟩
end

end Go.Proofs.Ytdiinhccfifiaab
