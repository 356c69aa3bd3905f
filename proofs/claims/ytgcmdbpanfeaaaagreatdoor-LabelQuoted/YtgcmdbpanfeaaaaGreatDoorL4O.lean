/- What comes in: a Quotes. -/
import Derived.Test.YtgcmdbpanfeaaaaGreatDoorL4Q
import Derived.Test.YtgcmdbpanfeaaaaGreatDoorL4T
import Derived.ShutString
import Derived.SliceStrings
import Derived.ChangeArms
import Derived.Lib.SmallJoins
namespace Go.Proofs.YtgcmdbpanfeaaaaGreatDoor
open Go.ChangeShapes Go.WideShapes Go.Deep Go.Joins
open Go.RowKit
set_option linter.unusedVariables false
set_option linter.unusedSimpArgs false
set_option maxRecDepth 100000

section
variable {H : Type} {enc : TypeId × Value → H} {w : World} {base : Nat} {spare : Nat → Bool} {held : Bool}

theorem open_text {m : Nat} {u : Value} {y : DataW H × List MemPlace} (h : DataW.trod enc Tryz.prog w base spare held m 9 [u] = some y) : ∃ s : ByteArray, u = .string s ∧ s.size ≤ 9223372036854775807 := by
  obtain ⟨s, e, _, h2⟩ := DataW.trod_string Tryz.underlying9 h
  simp only [List.cons.injEq, and_true] at e
  unfold maxLen at h2
  exact ⟨s, e, by omega⟩

theorem open_texts {m : Nat} {u : Value} {y : DataW H × List MemPlace} (h : DataW.trod enc Tryz.prog w base spare held m 27 [u] = some y) :
    ∃ p n c f, u = .slice p n c ∧ n ≤ 9223372036854775807 ∧ SR w p n f ∧ ∀ i, i < n → (f i).size ≤ 9223372036854775807 := by
  rcases open_strings Tryz.underlying27 Tryz.underlying9 (by kernel_rfl) h with ⟨h0, _⟩ | ⟨a, len, cap, ss, h0, _, hlc, hcm, hl, _, hc, hs⟩
  · simp only [List.cons.injEq, and_true] at h0
    exact ⟨none, 0, 0, fun _ => ByteArray.empty, h0, by omega, fun h => by omega, fun i hi => by omega⟩
  · simp only [List.cons.injEq, and_true] at h0
    unfold maxLen at hcm hs
    have hls : len ≤ ss.length := by rw [hl]; split <;> omega
    refine ⟨some a, len, cap, fun i => ss.getD i ByteArray.empty, h0, by omega, fun hz => ?_, fun i hi => ?_⟩
    · obtain ⟨b, o, spot⟩ := a
      have h1 := hc 0 (by omega)
      have hspot : spot = none := by simpa [Addr.add] using World.cell?_spot h1
      subst hspot
      refine ⟨b, o, rfl, fun i hi => ?_⟩
      have h2 := hc i (by omega)
      rw [Addr.add_mid] at h2
      exact h2
    · have h2 := hs (ss.getD i ByteArray.empty) (by
        rw [List.getD_eq_getElem?_getD, List.getElem?_eq_getElem (by omega)]
        exact List.getElem_mem _)
      show (ss.getD i ByteArray.empty).size ≤ _
      omega

theorem open_quotes {r : Reach} {b0 : Nat} {v : Value} {d : DataW H} {p : List MemPlace} (hv : Value.okWide Tryz.prog w r b0 78 v) (h : DataW.Trod enc Tryz.prog w base spare held 78 v d p) :
    ∃ q n c f tail, v = .agg #[.slice q n c, .string tail] ∧ (n ≤ 9223372036854775807 ∧ SR w q n f ∧ ∀ i, i < n → (f i).size ≤ 9223372036854775807) ∧ tail.size ≤ 9223372036854775807 := by
  obtain ⟨v0, v1, y0, y1, n, rfl, _, _, h0, h1⟩ := open_agg2 Tryz.underlying78 (by kernel_rfl) (by kernel_rfl) hv h
  obtain ⟨q, n, c, f, rfl, h2, h3, h4⟩ := open_texts h0
  obtain ⟨tail, rfl, h5⟩ := open_text h1
  exact ⟨q, n, c, f, tail, rfl, ⟨h2, h3, h4⟩, h5⟩
end

end Go.Proofs.YtgcmdbpanfeaaaaGreatDoor
