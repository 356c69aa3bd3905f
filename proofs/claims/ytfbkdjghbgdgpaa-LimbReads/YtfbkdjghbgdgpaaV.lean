/- What comes in: a slice of rows of limbs. -/
import Derived.Test.YtfbkdjghbgdgpaaT
import Derived.ProofKit
import Derived.OpenShut
import Derived.Deep.Slices
import Derived.Lib.SmallJoins
import Derived.Deep.MidRow
namespace Go.Proofs.Ytfbkdjghbgdgpaa
open Go.ChangeShapes Go.WideShapes Go.Deep Go.Joins
open M
set_option linter.unusedVariables false
set_option linter.unusedSimpArgs false

theorem cellsU32 : Try.prog.cellsOf 58 = 1 := by kernel_rfl
theorem cellsU32s : Try.prog.cellsOf 27 = 1 := by kernel_rfl

theorem cells_one {w : World} {base : Nat} {a : Addr} {cs : List Value} (h : w.cells? base a 1 = some cs) : ∃ v, cs = [v] ∧ w.cell? a = some v := by
  unfold World.cells? at h
  split at h
  · have e : List.range 1 = [0] := rfl
    rw [e] at h
    simp only [List.mapM_cons, List.mapM_nil, Option.bind_eq_bind, Option.bind_eq_some_iff, Option.pure_def, Option.some.injEq] at h
    obtain ⟨a0, h0, l0, rfl, rfl⟩ := h
    exact ⟨a0, rfl, by simpa [Addr.add] using h0⟩
  · cases h

section
variable {H : Type} {enc : TypeId × Value → H} {w : World} {base : Nat} {spare : Nat → Bool} {held : Bool}

theorem open_row {n : Nat} {v : Value} {y : DataW H × List MemPlace} (h : DataW.trod enc Try.prog w base spare held n 27 [v] = some y) : ∃ k N, RowL w v k N := by
  rcases open_slice Try.underlying27 h with ⟨h0, _⟩ | ⟨ad, len, cap, mm, n', D, Pl, hcs, _, hlc, hcm, hmm, _, hx⟩
  · simp only [List.cons.injEq, and_true] at h0
    subst h0
    exact ⟨0, 0, by simp, by omega, none, 0, rfl, Nat.le_refl _, fun h => by omega⟩
  · simp only [List.cons.injEq, and_true] at hcs
    subst hcs
    unfold maxLen at hcm
    have hlm : len ≤ mm := by rw [hmm]; split <;> omega
    have one : ∀ i, i < len → ∃ q : Nat, w.cell? (ad.add i) = some (.int .u32 (q : Int)) ∧ q < 4294967296 := by
      intro i hi
      obtain ⟨cs', hc, ht⟩ := hx i (by omega)
      rw [cellsU32, Nat.mul_one] at hc
      obtain ⟨u, rfl, hcell⟩ := cells_one hc
      obtain ⟨z, e0, _, w0⟩ := DataW.trod_int Try.underlying58 ht
      simp only [List.cons.injEq, and_true] at e0
      have b := bounds_u32 w0
      exact ⟨z.toNat, by rw [hcell, e0, Int.toNat_of_nonneg b.1], by omega⟩
    obtain ⟨q, hq⟩ := choose_lt one
    obtain ⟨N, hN, hd⟩ := of_limbs q len (fun j hj => (hq j hj).2)
    refine ⟨len, N, hN, by omega, some ad, cap, rfl, hlc, fun h0 => ?_⟩
    obtain ⟨b, off, spot⟩ := ad
    have h00 := (hq 0 h0).1
    have hspot : spot = none := by simpa [Addr.add] using World.cell?_spot h00
    subst hspot
    refine ⟨b, off, rfl, ?_, fun j hj => ?_⟩
    · have := block_lt_of_cell h00
      simpa [Addr.add] using this
    · have := (hq j hj).1
      rw [Addr.add_mid] at this
      rw [this, hd j hj]

theorem open_rows {fuel : Nat} {v : Value} {y : DataW H × List MemPlace} (h : DataW.trod enc Try.prog w base spare held fuel 40 [v] = some y) : ∃ a len cap, v = .slice a len cap ∧ IsRows w a len := by
  rcases open_slice Try.underlying40 h with ⟨h0, _⟩ | ⟨ad, len, cap, mm, n', D, Pl, hcs, _, hlc, hcm, hmm, _, hx⟩
  · simp only [List.cons.injEq, and_true] at h0
    exact ⟨none, 0, 0, h0, by omega, fun h => by omega⟩
  · simp only [List.cons.injEq, and_true] at hcs
    unfold maxLen at hcm
    refine ⟨some ad, len, cap, hcs, by omega, fun h0 => ?_⟩
    have hlm : len ≤ mm := by rw [hmm]; split <;> omega
    have one : ∀ i, i < len → ∃ u, w.cell? (ad.add i) = some u ∧ ∃ k N, RowL w u k N := by
      intro i hi
      obtain ⟨cs', hc, ht⟩ := hx i (by omega)
      rw [cellsU32s, Nat.mul_one] at hc
      obtain ⟨u, rfl, hcell⟩ := cells_one hc
      exact ⟨u, hcell, open_row ht⟩
    obtain ⟨b, off, spot⟩ := ad
    obtain ⟨u0, h00, _⟩ := one 0 h0
    have hspot : spot = none := by simpa [Addr.add] using World.cell?_spot h00
    subst hspot
    refine ⟨b, off, rfl, ?_, fun j hj => ?_⟩
    · have := block_lt_of_cell h00
      simpa [Addr.add] using this
    · obtain ⟨u, hu, k, N, hr⟩ := one j hj
      rw [Addr.add_mid] at hu
      exact ⟨u, k, N, hu, hr⟩

theorem cellsNats : Try.prog.cellsOf 43 = 2 := by kernel_rfl

theorem slice_of {n : Nat} {v : Value} {y : DataW H × List MemPlace} (h : DataW.trod enc Try.prog w base spare held n 41 [v] = some y) : ∃ a len cap, v = .slice a len cap := by
  rcases open_slice Try.underlying41 h with ⟨h0, _⟩ | ⟨ad, len, cap, mm, n', D, Pl, hcs, _⟩
  · simp only [List.cons.injEq, and_true] at h0
    exact ⟨none, 0, 0, h0⟩
  · simp only [List.cons.injEq, and_true] at hcs
    exact ⟨some ad, len, cap, hcs⟩

set_option maxRecDepth 100000 in
theorem open_nats {r : Reach} {b0 : Nat} {v : Value} {d : DataW H} {p : List MemPlace} (hv : Value.okWide Try.prog w r b0 43 v) (h : DataW.Trod enc Try.prog w base spare held 43 v d p) :
    ∃ aL nL cL aN nN cN, v = .agg #[.slice aL nL cL, .slice aN nN cN] ∧ IsRows w aL nL := by
  obtain ⟨v0, v1, y0, y1, n, rfl, _, _, h0, h1⟩ := open_agg2 Try.underlying43 (by kernel_rfl) cellsNats hv h
  obtain ⟨aL, nL, cL, rfl, hr⟩ := open_rows h0
  obtain ⟨aN, nN, cN, rfl⟩ := slice_of h1
  exact ⟨aL, nL, cL, aN, nN, cN, rfl, hr⟩
end
end Go.Proofs.Ytfbkdjghbgdgpaa
