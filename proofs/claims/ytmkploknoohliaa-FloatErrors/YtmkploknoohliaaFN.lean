/- What comes in: slices of pairs, of triples. -/
import Derived.Test.YtmkploknoohliaaFL
import Derived.ProofKit
import Derived.OpenShut
import Derived.Deep.Slices
import Derived.Lib.SmallJoins
import Derived.Deep.MidRow
import Derived.Deep.Strs
namespace Go.Proofs.Ytmkploknoohliaa
open Go.ChangeShapes Go.WideShapes Go.Deep Go.Joins
set_option linter.unusedVariables false
set_option linter.unusedSimpArgs false

theorem list2' {α : Type} {l : List α} (h : l.length = 2) : ∃ a b, l = [a, b] := by
  match l, h with
  | [a, b], _ => exact ⟨a, b, rfl⟩
theorem list3' {α : Type} {l : List α} (h : l.length = 3) : ∃ a b c, l = [a, b, c] := by
  match l, h with
  | [a, b, c], _ => exact ⟨a, b, c, rfl⟩

theorem cells_some {w : World} {base : Nat} {a : Addr} {k : Nat} {cs : List Value} (h : w.cells? base a k = some cs) : (List.range k).mapM (fun j => w.cell? (a.add j)) = some cs := by
  unfold World.cells? at h
  split at h
  · exact h
  · cases h

theorem cells_two : Try.prog.cellsOf 25 = 2 := by kernel_rfl

section
variable {H : Type} {enc : TypeId × Value → H} {w : World} {base : Nat} {spare : Nat → Bool} {held : Bool}
theorem two_cells {n : Nat} {cs : List Value} {y : DataW H × List MemPlace} (h : DataW.trod enc Try.prog w base spare held n 25 cs = some y) :
    ∃ (A : Nat) (B : Nat), cs = [.int .u64 (A : Int), .int .u64 (B : Int)] ∧ A < 18446744073709551616 ∧ B < 18446744073709551616 := by
  obtain ⟨y0, y1, k, hx, hl, h0, h1⟩ := trod_struct2 Try.underlying25 h
  have cu : Try.prog.cellsOf 23 = 1 := by kernel_rfl
  have ci : Try.prog.cellsOf 3 = 1 := by kernel_rfl
  rw [cells_two] at hl
  obtain ⟨v0, v1, rfl⟩ := list2' hl
  simp only [cu, ci, List.drop_zero, List.drop_succ_cons, List.take_succ_cons, List.take_zero] at h0 h1
  obtain ⟨d0, e0, _, w0⟩ := DataW.trod_int Try.underlying23 h0
  have b0 := bounds_u64 w0
  obtain ⟨d1, e1, _, w1⟩ := DataW.trod_int Try.underlying23 h1
  have b1 := bounds_u64 w1
  simp only [List.cons.injEq, and_true] at e0 e1
  subst e0 e1
  refine ⟨d0.toNat, d1.toNat, ?_, by omega, by omega⟩
  rw [Int.toNat_of_nonneg b0.1, Int.toNat_of_nonneg b1.1]

theorem open_two {fuel : Nat} {v : Value} {y : DataW H × List MemPlace} (h : DataW.trod enc Try.prog w base spare held fuel 22 [v] = some y) : ∃ a len cap, v = .slice a len cap ∧ IsTwos w a len := by
  rcases open_slice Try.underlying22 h with ⟨h0, _⟩ | ⟨ad, len, cap, mm, n', D, Pl, hcs, _, hlc, hcm, hmm, _, hx⟩
  · simp only [List.cons.injEq, and_true] at h0
    exact ⟨none, 0, 0, h0, by omega, fun h => by omega⟩
  · simp only [List.cons.injEq, and_true] at hcs
    unfold maxLen at hcm
    refine ⟨some ad, len, cap, hcs, by omega, fun h0 => ?_⟩
    have hlm : len ≤ mm := by rw [hmm]; split <;> omega
    have one : ∀ i, i < len → ∃ (A : Nat) (B : Nat), (w.cell? ((ad.add (i * 2)).add 0) = some (.int .u64 (A : Int)) ∧ w.cell? ((ad.add (i * 2)).add 1) = some (.int .u64 (B : Int))) ∧ A < 18446744073709551616 ∧ B < 18446744073709551616 := by
      intro i hi
      obtain ⟨cs', hc, ht⟩ := hx i (by omega)
      obtain ⟨A, B, rfl, hb⟩ := two_cells ht
      rw [cells_two] at hc
      refine ⟨A, B, ?_, hb⟩
      have hc := cells_some hc
      rw [show List.range 2 = [0, 1] from rfl] at hc
      simp only [List.mapM_cons, List.mapM_nil, Option.bind_eq_bind, Option.bind_eq_some_iff, Option.pure_def, Option.some.injEq, List.cons.injEq, exists_eq_left'] at hc
      obtain ⟨a0, h0, l0, ⟨a1, h1, l1, hl1, rfl⟩, e0, hr⟩ := hc
      simp only [List.cons.injEq] at hr
      obtain ⟨e1, _⟩ := hr
      subst e0 e1
      exact ⟨h0, h1⟩
    obtain ⟨b, off, spot⟩ := ad
    obtain ⟨_, _, ⟨h00, _⟩, _⟩ := one 0 h0
    have hspot : spot = none := by simpa [Addr.add] using World.cell?_spot h00
    subst hspot
    refine ⟨b, off, rfl, ?_, fun j hj => ?_⟩
    · have := block_lt_of_cell h00
      simpa [Addr.add] using this
    · obtain ⟨A, B, ⟨k0, k1⟩, q0, q1⟩ := one j hj
      simp only [Addr.add_mid, Nat.add_zero] at k0 k1
      exact ⟨A, B, q0, q1, k0, k1⟩
end

end Go.Proofs.Ytmkploknoohliaa
