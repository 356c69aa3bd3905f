/- What comes in: a row of limbs (V's beginning). -/
import Derived.Test.YtmfimhpbdbbpoaaDoorS
import Derived.ProofKit
import Derived.OpenShut
import Derived.Deep.Slices
import Derived.Lib.SmallJoins
import Derived.Deep.MidRow
namespace Go.Proofs.YtmfimhpbdbbpoaaDoor
open Go.ChangeShapes Go.WideShapes Go.Deep Go.Joins
open M
set_option linter.unusedVariables false
set_option linter.unusedSimpArgs false

theorem cellsU32 : Tryd.prog.cellsOf 24 = 1 := by kernel_rfl
theorem cellsU32s : Tryd.prog.cellsOf 23 = 1 := by kernel_rfl

theorem cells_one {w : World} {base : Nat} {a : Addr} {cs : List Value} (h : w.cells? base a 1 = some cs) : ∃ v, cs = [v] ∧ w.cell? a = some v := by
  unfold World.cells? at h
  split at h
  · have e : List.range 1 = [0] := rfl
    rw [e] at h
    simp only [List.mapM_cons, List.mapM_nil, Option.bind_eq_bind, Option.bind_eq_some_iff, Option.pure_def, Option.some.injEq] at h
    obtain ⟨a0, h0, l0, rfl, rfl⟩ := h
    exact ⟨a0, rfl, by simpa [Addr.add] using h0⟩
  · cases h

section
variable {H : Type} {enc : TypeId × Value → H} {w : World} {base : Nat} {spare : Nat → Bool} {held : Bool}

theorem open_row {n : Nat} {v : Value} {y : DataW H × List MemPlace} (h : DataW.trod enc Tryd.prog w base spare held n 23 [v] = some y) : ∃ k N, RowL w v k N := by
  rcases open_slice Tryd.underlying23 h with ⟨h0, _⟩ | ⟨ad, len, cap, mm, n', D, Pl, hcs, _, hlc, hcm, hmm, _, hx⟩
  · simp only [List.cons.injEq, and_true] at h0
    subst h0
    exact ⟨0, 0, by simp, by omega, none, 0, rfl, Nat.le_refl _, fun h => by omega⟩
  · simp only [List.cons.injEq, and_true] at hcs
    subst hcs
    unfold maxLen at hcm
    have hlm : len ≤ mm := by rw [hmm]; split <;> omega
    have one : ∀ i, i < len → ∃ q : Nat, w.cell? (ad.add i) = some (.int .u32 (q : Int)) ∧ q < 4294967296 := by
      intro i hi
      obtain ⟨cs', hc, ht⟩ := hx i (by omega)
      rw [cellsU32, Nat.mul_one] at hc
      obtain ⟨u, rfl, hcell⟩ := cells_one hc
      obtain ⟨z, e0, _, w0⟩ := DataW.trod_int Tryd.underlying24 ht
      simp only [List.cons.injEq, and_true] at e0
      have b := bounds_u32 w0
      exact ⟨z.toNat, by rw [hcell, e0, Int.toNat_of_nonneg b.1], by omega⟩
    obtain ⟨q, hq⟩ := choose_lt one
    obtain ⟨N, hN, hd⟩ := of_limbs q len (fun j hj => (hq j hj).2)
    refine ⟨len, N, hN, by omega, some ad, cap, rfl, hlc, fun h0 => ?_⟩
    obtain ⟨b, off, spot⟩ := ad
    have h00 := (hq 0 h0).1
    have hspot : spot = none := by simpa [Addr.add] using World.cell?_spot h00
    subst hspot
    refine ⟨b, off, rfl, ?_, fun j hj => ?_⟩
    · have := block_lt_of_cell h00
      simpa [Addr.add] using this
    · have := (hq j hj).1
      rw [Addr.add_mid] at this
      rw [this, hd j hj]
end
end Go.Proofs.YtmfimhpbdbbpoaaDoor
