/- What comes in: a slice of words. -/
import Derived.Test.YtdiinhccfifiaaaFN
import Derived.Test.YtdiinhccfifiaaaFV
namespace Go.Proofs.Ytdiinhccfifiaaa
open Go.ChangeShapes Go.WideShapes Go.Deep Go.Joins
set_option linter.unusedVariables false
set_option linter.unusedSimpArgs false

section
variable {H : Type} {enc : TypeId × Value → H} {w : World} {base : Nat} {spare : Nat → Bool} {held : Bool}
theorem open_words {fuel : Nat} {v : Value} {y : DataW H × List MemPlace} (h : DataW.trod enc Try.prog w base spare held fuel 22 [v] = some y) : ∃ a len cap, v = .slice a len cap ∧ IsWords w a len := by
  have cu : Try.prog.cellsOf 23 = 1 := by kernel_rfl
  rcases open_slice Try.underlying22 h with ⟨h0, _⟩ | ⟨ad, len, cap, mm, n', D, Pl, hcs, _, hlc, hcm, hmm, _, hx⟩
  · simp only [List.cons.injEq, and_true] at h0
    exact ⟨none, 0, 0, h0, by omega, fun h => by omega⟩
  · simp only [List.cons.injEq, and_true] at hcs
    unfold maxLen at hcm
    refine ⟨some ad, len, cap, hcs, by omega, fun h0 => ?_⟩
    have hlm : len ≤ mm := by rw [hmm]; split <;> omega
    have one : ∀ i, i < len → ∃ A : Nat, w.cell? (ad.add i) = some (.int .u64 (A : Int)) ∧ A < 18446744073709551616 := by
      intro i hi
      obtain ⟨cs', hc, ht⟩ := hx i (by omega)
      rw [cu, Nat.mul_one] at hc
      have hc := cells_some hc
      rw [show List.range 1 = [0] from rfl] at hc
      simp only [List.mapM_cons, List.mapM_nil, Option.bind_eq_bind, Option.bind_eq_some_iff, Option.pure_def, Option.some.injEq] at hc
      obtain ⟨a0, hc0, l0, rfl, rfl⟩ := hc
      obtain ⟨z, e0, _, w0⟩ := DataW.trod_int Try.underlying23 ht
      simp only [List.cons.injEq, and_true] at e0
      have b := bounds_u64 w0
      subst e0
      refine ⟨z.toNat, ?_, by omega⟩
      rw [Int.toNat_of_nonneg b.1]
      simpa [Addr.add] using hc0
    obtain ⟨b, off, spot⟩ := ad
    obtain ⟨_, h00, _⟩ := one 0 h0
    have hspot : spot = none := by simpa [Addr.add] using World.cell?_spot h00
    subst hspot
    refine ⟨b, off, rfl, ?_, fun j hj => ?_⟩
    · have := block_lt_of_cell h00
      simpa [Addr.add] using this
    · obtain ⟨A, k0, q0⟩ := one j hj
      rw [Addr.add_mid] at k0
      exact ⟨A, q0, k0⟩
end
end Go.Proofs.Ytdiinhccfifiaaa
