/- What comes in: rows of times, rows of bytes, numbers. -/
import Derived.Test.YthdolmhbmbgdpaaT1I
import Derived.ProofKit
import Derived.OpenShut
import Derived.Deep.Slices
import Derived.Lib.SmallJoins
import Derived.Deep.MidRow
namespace Go.Proofs.Ythdolmhbmbgdpaa
open Go.ChangeShapes Go.WideShapes Go.Deep Go.Joins
open M
set_option linter.unusedVariables false
set_option linter.unusedSimpArgs false

theorem cells_one {w : World} {base : Nat} {a : Addr} {cs : List Value} (h : w.cells? base a 1 = some cs) : ∃ v, cs = [v] ∧ w.cell? a = some v := by
  unfold World.cells? at h
  split at h
  · have e : List.range 1 = [0] := rfl
    rw [e] at h
    simp only [List.mapM_cons, List.mapM_nil, Option.bind_eq_bind, Option.bind_eq_some_iff, Option.pure_def, Option.some.injEq] at h
    obtain ⟨a0, h0, l0, rfl, rfl⟩ := h
    exact ⟨a0, rfl, by simpa [Addr.add] using h0⟩
  · cases h

section
variable {H : Type} {enc : TypeId × Value → H} {w : World} {base : Nat} {spare : Nat → Bool} {held : Bool}

theorem open_rowsOf {S : World → Value → Prop} {ty el : TypeId} (hu : Try.prog.underlying ty = some (.slice el)) (h1 : Try.prog.cellsOf el = 1) (hS : ∀ {m : Nat} {u : Value} {y : DataW H × List MemPlace}, DataW.trod enc Try.prog w base spare held m el [u] = some y → S w u)
    {fuel : Nat} {v : Value} {y : DataW H × List MemPlace} (h : DataW.trod enc Try.prog w base spare held fuel ty [v] = some y) : ∃ a len cap, v = .slice a len cap ∧ len ≤ cap ∧ RowsOf S w a len := by
  rcases open_slice hu h with ⟨h0, _⟩ | ⟨ad, len, cap, mm, n', D, Pl, hcs, _, hlc, hcm, hmm, _, hx⟩
  · simp only [List.cons.injEq, and_true] at h0
    exact ⟨none, 0, 0, h0, Nat.le_refl _, by omega, fun h => by omega⟩
  · simp only [List.cons.injEq, and_true] at hcs
    unfold maxLen at hcm
    refine ⟨some ad, len, cap, hcs, hlc, by omega, fun h0 => ?_⟩
    have hlm : len ≤ mm := by rw [hmm]; split <;> omega
    have one : ∀ i, i < len → ∃ u, w.cell? (ad.add i) = some u ∧ S w u := by
      intro i hi
      obtain ⟨cs', hc, ht⟩ := hx i (by omega)
      rw [h1, Nat.mul_one] at hc
      obtain ⟨u, rfl, hcell⟩ := cells_one hc
      exact ⟨u, hcell, hS ht⟩
    obtain ⟨b, off, spot⟩ := ad
    obtain ⟨u0, h00, _⟩ := one 0 h0
    have hspot : spot = none := by simpa [Addr.add] using World.cell?_spot h00
    subst hspot
    refine ⟨b, off, rfl, fun j hj => ?_⟩
    obtain ⟨u, hu, hr⟩ := one j hj
    rw [Addr.add_mid] at hu
    exact ⟨u, hu, hr⟩

theorem open_n {m : Nat} {u : Value} {y : DataW H × List MemPlace} (h : DataW.trod enc Try.prog w base spare held m 3 [u] = some y) : IsN w u := by
  obtain ⟨z, e0, _, w0⟩ := DataW.trod_int Try.underlying3 h
  simp only [List.cons.injEq, and_true] at e0
  have b := bounds_i64 w0
  exact ⟨z, e0, by unfold I64; omega⟩

theorem open_n64 {m : Nat} {u : Value} {y : DataW H × List MemPlace} (h : DataW.trod enc Try.prog w base spare held m 2 [u] = some y) : IsN w u := by
  obtain ⟨z, e0, _, w0⟩ := DataW.trod_int Try.underlying2 h
  simp only [List.cons.injEq, and_true] at e0
  have b := bounds_i64 w0
  exact ⟨z, e0, by unfold I64; omega⟩

theorem open_n8 {m : Nat} {u : Value} {y : DataW H × List MemPlace} (h : DataW.trod enc Try.prog w base spare held m 5 [u] = some y) : ∃ q : Nat, u = .int .u8 (q : Int) ∧ q < 256 := by
  obtain ⟨z, e0, _, w0⟩ := DataW.trod_int Try.underlying5 h
  simp only [List.cons.injEq, and_true] at e0
  have b := bounds_u8 w0
  exact ⟨z.toNat, by rw [e0, Int.toNat_of_nonneg b.1], by omega⟩

theorem open_t {m : Nat} {u : Value} {y : DataW H × List MemPlace} (h : DataW.trod enc Try.prog w base spare held m 27 [u] = some y) : IsT w u := by
  obtain ⟨a, len, cap, rfl, hlc, hl, hr⟩ := open_rowsOf (S := IsN) Try.underlying27 (by kernel_rfl) (fun h => open_n64 h) h
  by_cases h0 : len = 0
  · subst h0; exact ⟨a, 0, cap, fun _ => 0, rfl, ⟨hl, hlc⟩, TRow.nil _ _ _, fun i hi => by omega⟩
  obtain ⟨b, o, ha, hc⟩ := hr (by omega)
  have : ∀ i, i < len → ∃ z : Int, w.cell? ⟨b, o + i, none⟩ = some (.int .i64 z) ∧ I64 z := fun i hi => by
    obtain ⟨v, h1, z, rfl, h2⟩ := hc i hi
    exact ⟨z, h1, h2⟩
  obtain ⟨f, hf⟩ := choose_lt this
  exact ⟨a, len, cap, f, rfl, ⟨hl, hlc⟩, fun _ => ⟨b, o, ha, fun i hi => (hf i hi).1⟩, fun i hi => (hf i hi).2⟩

theorem open_b {m : Nat} {u : Value} {y : DataW H × List MemPlace} (h : DataW.trod enc Try.prog w base spare held m 28 [u] = some y) : IsB w u := by
  rcases open_slice Try.underlying28 h with ⟨h0, _⟩ | _
  · simp only [List.cons.injEq, and_true] at h0
    exact ⟨none, 0, 0, [], h0, by omega, .inl (.inl ⟨rfl, rfl⟩), rfl, by simp⟩
  obtain ⟨a, len, cap, rfl, hlc, hl, hr⟩ := open_rowsOf (S := fun w v => ∃ q : Nat, v = .int .u8 (q : Int) ∧ q < 256) Try.underlying28 (by kernel_rfl) (fun h => open_n8 h) h
  by_cases h0 : len = 0
  · subst h0
    refine ⟨a, 0, cap, [], rfl, ⟨hl, hlc⟩, ?_, rfl, by simp⟩
    cases a with
    | none =>
      rcases open_slice Try.underlying28 h with ⟨h0, _⟩ | ⟨ad, len, cap, mm, n', D, Pl, hcs, _⟩
      · simp only [List.cons.injEq, and_true] at h0
        rw [h0]; exact .inl (.inl ⟨rfl, rfl⟩)
      · simp only [List.cons.injEq, and_true, Value.slice.injEq] at hcs
        cases hcs.1
    | some ad => exact .inr ⟨ad, cap, rfl, rfl⟩
  obtain ⟨b, o, ha, hc⟩ := hr (by omega)
  have : ∀ i, i < len → ∃ q : Nat, w.cell? ⟨b, o + i, none⟩ = some (.int .u8 (q : Int)) ∧ q < 256 := fun i hi => by
    obtain ⟨v, h1, q, rfl, h2⟩ := hc i hi
    exact ⟨q, h1, h2⟩
  obtain ⟨f, hf⟩ := choose_lt this
  have hll : ((List.range len).map f).length = len := by simp
  refine ⟨a, len, cap, (List.range len).map f, rfl, ⟨hl, hlc⟩, .inl (.inr ⟨b, o, cap, by rw [ha, hll], fun i hi => ?_⟩), hll, fun x hx => ?_⟩
  · rw [hll] at hi
    rw [(hf i hi).1]
    simp [List.getD, hi]
  · simp only [List.mem_map, List.mem_range] at hx
    obtain ⟨i, hi, rfl⟩ := hx
    exact (hf i hi).2

set_option maxRecDepth 100000 in
theorem open_param {r : Reach} {b0 : Nat} {v : Value} {d : DataW H} {p : List MemPlace} (hv : Value.okWide Try.prog w r b0 26 v) (h : DataW.Trod enc Try.prog w base spare held 26 v d p) :
    ∃ aL nL cL aB nB cB aN nN cN, v = .agg #[.slice aL nL cL, .slice aB nB cB, .slice aN nN cN] ∧ RowsOf IsT w aL nL ∧ RowsOf IsB w aB nB ∧ RowsOf IsN w aN nN := by
  obtain ⟨v0, v1, v2, y0, y1, y2, n, rfl, _, _, h0, h1, h2⟩ := open_agg3 Try.underlying26 (by kernel_rfl) (by kernel_rfl) hv h
  obtain ⟨aL, nL, cL, rfl, _, hL⟩ := open_rowsOf (S := IsT) Try.underlying22 (by kernel_rfl) (fun h => open_t h) h0
  obtain ⟨aB, nB, cB, rfl, _, hB⟩ := open_rowsOf (S := IsB) Try.underlying23 (by kernel_rfl) (fun h => open_b h) h1
  obtain ⟨aN, nN, cN, rfl, _, hN⟩ := open_rowsOf (S := IsN) Try.underlying24 (by kernel_rfl) (fun h => open_n h) h2
  exact ⟨aL, nL, cL, aB, nB, cB, aN, nN, cN, rfl, hL, hB, hN⟩
end
end Go.Proofs.Ythdolmhbmbgdpaa
