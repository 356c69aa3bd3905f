/- What comes in: a slice of Powers. -/
import Derived.Test.YtfbkdjghbgdgpabV
import Derived.Test.YtfbkdjghbgdgpabAI
import Derived.Deep.Strs
namespace Go.Proofs.Ytfbkdjghbgdgpab
open Go.ChangeShapes Go.WideShapes Go.Deep Go.Joins
open M
set_option linter.unusedVariables false
set_option linter.unusedSimpArgs false

theorem cellsPowers : Try.prog.cellsOf 60 = 3 := by kernel_rfl

theorem list3 {α : Type} {l : List α} (h : l.length = 3) : ∃ a b c, l = [a, b, c] := by
  match l, h with
  | [a, b, c], _ => exact ⟨a, b, c, rfl⟩

section
variable {H : Type} {enc : TypeId × Value → H} {w : World} {base : Nat} {spare : Nat → Bool} {held : Bool}

theorem pow_cells {n : Nat} {cs : List Value} {y : DataW H × List MemPlace} (h : DataW.trod enc Try.prog w base spare held n 60 cs = some y) :
    ∃ (B : Nat) (M N : Int), cs = [.int .u32 (B : Int), .int .i64 M, .int .i64 N] ∧ B < 4294967296 ∧ (-9223372036854775808 ≤ M ∧ M ≤ 9223372036854775807) ∧ (-9223372036854775808 ≤ N ∧ N ≤ 9223372036854775807) := by
  obtain ⟨y0, y1, y2, k, hx, hl, h0, h1, h2⟩ := trod_struct3 Try.underlying60 h
  have c3 : Try.prog.cellsOf 3 = 1 := by kernel_rfl
  rw [cellsPowers] at hl
  obtain ⟨v0, v1, v2, rfl⟩ := list3 hl
  simp only [c3, cellsU32, List.drop_zero, List.drop_succ_cons, List.take_succ_cons, List.take_zero] at h0 h1 h2
  obtain ⟨d, e0, _, w0⟩ := DataW.trod_int Try.underlying52 h0
  obtain ⟨o, e1, _, w1⟩ := DataW.trod_int Try.underlying3 h1
  obtain ⟨m, e2, _, w2⟩ := DataW.trod_int Try.underlying3 h2
  have b0 := bounds_u32 w0
  have b1 := bounds_i64 w1
  have b2 := bounds_i64 w2
  simp only [List.cons.injEq, and_true] at e0 e1 e2
  subst e0 e1 e2
  refine ⟨d.toNat, o, m, ?_, by omega, by omega, by omega⟩
  rw [Int.toNat_of_nonneg b0.1]

theorem open_pows {fuel : Nat} {v : Value} {y : DataW H × List MemPlace} (h : DataW.trod enc Try.prog w base spare held fuel 58 [v] = some y) : ∃ a len cap, v = .slice a len cap ∧ IsPows w a len := by
  rcases open_slice Try.underlying58 h with ⟨h0, _⟩ | ⟨ad, len, cap, mm, n', D, Pl, hcs, _, hlc, hcm, hmm, _, hx⟩
  · simp only [List.cons.injEq, and_true] at h0
    exact ⟨none, 0, 0, h0, by omega, fun h => by omega⟩
  · simp only [List.cons.injEq, and_true] at hcs
    unfold maxLen at hcm
    refine ⟨some ad, len, cap, hcs, by omega, fun h0 => ?_⟩
    have hlm : len ≤ mm := by rw [hmm]; split <;> omega
    have one : ∀ i, i < len → ∃ (B : Nat) (M N : Int), (w.cell? ((ad.add (i * 3)).add 0) = some (.int .u32 (B : Int)) ∧ w.cell? ((ad.add (i * 3)).add 1) = some (.int .i64 M) ∧ w.cell? ((ad.add (i * 3)).add 2) = some (.int .i64 N)) ∧
        B < 4294967296 ∧ (-9223372036854775808 ≤ M ∧ M ≤ 9223372036854775807) ∧ (-9223372036854775808 ≤ N ∧ N ≤ 9223372036854775807) := by
      intro i hi
      obtain ⟨cs', hc, ht⟩ := hx i (by omega)
      obtain ⟨B, M, N, rfl, hb⟩ := pow_cells ht
      rw [cellsPowers] at hc
      refine ⟨B, M, N, ?_, hb⟩
      unfold World.cells? at hc
      split at hc
      · have e : List.range 3 = [0, 1, 2] := rfl
        rw [e] at hc
        simp only [List.mapM_cons, List.mapM_nil, Option.bind_eq_bind, Option.bind_eq_some_iff, Option.pure_def, Option.some.injEq, List.cons.injEq, exists_eq_left'] at hc
        obtain ⟨a0, h0, l0, ⟨a1, h1, l1, ⟨a2, h2, l2, hl2, rfl⟩, rfl⟩, e0, hr⟩ := hc
        simp only [List.cons.injEq] at hr
        obtain ⟨e1, e2, _⟩ := hr
        subst e0 e1 e2
        exact ⟨h0, h1, h2⟩
      · cases hc
    obtain ⟨b, off, spot⟩ := ad
    obtain ⟨_, _, _, ⟨h00, _⟩, _⟩ := one 0 h0
    have hspot : spot = none := by simpa [Addr.add] using World.cell?_spot h00
    subst hspot
    refine ⟨b, off, rfl, ?_, fun j hj => ?_⟩
    · have := block_lt_of_cell h00
      simpa [Addr.add] using this
    · obtain ⟨B, M, N, ⟨k0, k1, k2⟩, h1, h2, h3⟩ := one j hj
      simp only [Addr.add_mid, Nat.add_zero] at k0 k1 k2
      exact ⟨B, M, N, h1, h2, h3, k0, k1, k2⟩
end
end Go.Proofs.Ytfbkdjghbgdgpab
