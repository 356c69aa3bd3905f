/- A slice of Ops that came in: its cells, number by number. -/
import Derived.Test.YtpiiagjfimdflaaProg
import Derived.ProofKit
import Derived.OpenShut
import Derived.Deep.Slices
import Derived.Lib.SmallJoins
import Derived.Deep.MidRow
namespace Go.Proofs.Ytpiiagjfimdflaa
open Go.ChangeShapes Go.WideShapes Go.Deep Go.Joins
set_option linter.unusedVariables false

/-- One Op's four cells. -/
def OpAt (w : World) (b o : Nat) (d n m : Int) (x : Nat) : Prop :=
  w.cell? ⟨b, o, none⟩ = some (.int .i64 d) ∧ w.cell? ⟨b, o + 1, none⟩ = some (.int .i64 n) ∧ w.cell? ⟨b, o + 2, none⟩ = some (.int .u64 (x : Int)) ∧ w.cell? ⟨b, o + 3, none⟩ = some (.int .i64 m) ∧
  (-9223372036854775808 ≤ d ∧ d ≤ 9223372036854775807) ∧ (-9223372036854775808 ≤ n ∧ n ≤ 9223372036854775807) ∧ x < 18446744073709551616 ∧ (-9223372036854775808 ≤ m ∧ m ≤ 9223372036854775807)

/-- A slice of Ops: of no element, or a row of them. -/
def IsOps (w : World) (a : Option Addr) (len : Nat) (d n m : Nat → Int) (x : Nat → Nat) : Prop :=
  len ≤ 9223372036854775807 ∧ (len = 0 ∨ ∃ b off, a = some ⟨b, off, none⟩ ∧ b < w.heap.size ∧ ∀ i, i < len → OpAt w b (off + i * 4) (d i) (n i) (m i) (x i))

theorem list4 {α : Type} {l : List α} (h : l.length = 4) : ∃ a b c d, l = [a, b, c, d] := by
  match l, h with
  | [a, b, c, d], _ => exact ⟨a, b, c, d, rfl⟩

theorem cells65 : Try.prog.cellsOf 65 = 4 := by kernel_rfl

section
variable {H : Type} {enc : TypeId × Value → H} {w : World} {base : Nat} {spare : Nat → Bool} {held : Bool}

theorem op_cells {n : Nat} {cs : List Value} {y : DataW H × List MemPlace} (h : DataW.trod enc Try.prog w base spare held n 65 cs = some y) :
    ∃ (d o m : Int) (x : Nat), cs = [.int .i64 d, .int .i64 o, .int .u64 (x : Int), .int .i64 m] ∧
      (-9223372036854775808 ≤ d ∧ d ≤ 9223372036854775807) ∧ (-9223372036854775808 ≤ o ∧ o ≤ 9223372036854775807) ∧ x < 18446744073709551616 ∧ (-9223372036854775808 ≤ m ∧ m ≤ 9223372036854775807) := by
  obtain ⟨y0, y1, y2, y3, k, hx, hl, h0, h1, h2, h3⟩ := trod_struct4 Try.underlying65 h
  have c3 : Try.prog.cellsOf 3 = 1 := by kernel_rfl
  have c63 : Try.prog.cellsOf 63 = 1 := by kernel_rfl
  rw [cells65] at hl
  obtain ⟨v0, v1, v2, v3, rfl⟩ := list4 hl
  simp only [c3, c63, List.drop_zero, List.drop_succ_cons, List.take_succ_cons, List.take_zero] at h0 h1 h2 h3
  obtain ⟨d, e0, _, w0⟩ := DataW.trod_int Try.underlying3 h0
  obtain ⟨o, e1, _, w1⟩ := DataW.trod_int Try.underlying3 h1
  obtain ⟨x, e2, _, w2⟩ := DataW.trod_int Try.underlying63 h2
  obtain ⟨m, e3, _, w3⟩ := DataW.trod_int Try.underlying3 h3
  have b0 := bounds_i64 w0
  have b1 := bounds_i64 w1
  have b2 := bounds_u64 w2
  have b3 := bounds_i64 w3
  simp only [List.cons.injEq, and_true] at e0 e1 e2 e3
  subst e0 e1 e2 e3
  refine ⟨d, o, m, x.toNat, ?_, by omega, by omega, by omega, by omega⟩
  rw [Int.toNat_of_nonneg b2.1]

theorem open_ops {fuel : Nat} {a : Option Addr} {len cap : Nat} {y : DataW H × List MemPlace} (h : DataW.trod enc Try.prog w base spare held fuel 22 [.slice a len cap] = some y) :
    ∃ (d n m : Nat → Int) (x : Nat → Nat), IsOps w a len d n m x := by
  rcases open_slice Try.underlying22 h with ⟨h0, _⟩ | ⟨ad, len', cap', mm, n, D, Pl, hcs, _, hlc, hcm, hmm, _, hx⟩
  · simp only [List.cons.injEq, Value.slice.injEq, and_true] at h0
    obtain ⟨_, rfl, _⟩ := h0
    exact ⟨fun _ => 0, fun _ => 0, fun _ => 0, fun _ => 0, by omega, .inl rfl⟩
  · simp only [List.cons.injEq, Value.slice.injEq, and_true] at hcs
    obtain ⟨rfl, rfl, rfl⟩ := hcs
    unfold maxLen at hcm
    by_cases hz : len = 0
    · exact ⟨fun _ => 0, fun _ => 0, fun _ => 0, fun _ => 0, by omega, .inl hz⟩
    have hlm : len ≤ mm := by rw [hmm]; split <;> omega
    have one : ∀ i, i < len → ∃ q : Int × Int × Int × Nat, w.cell? ((ad.add (i * 4)).add 0) = some (.int .i64 q.1) ∧ w.cell? ((ad.add (i * 4)).add 1) = some (.int .i64 q.2.1) ∧ w.cell? ((ad.add (i * 4)).add 2) = some (.int .u64 (q.2.2.2 : Int)) ∧ w.cell? ((ad.add (i * 4)).add 3) = some (.int .i64 q.2.2.1) ∧
        (-9223372036854775808 ≤ q.1 ∧ q.1 ≤ 9223372036854775807) ∧ (-9223372036854775808 ≤ q.2.1 ∧ q.2.1 ≤ 9223372036854775807) ∧ q.2.2.2 < 18446744073709551616 ∧ (-9223372036854775808 ≤ q.2.2.1 ∧ q.2.2.1 ≤ 9223372036854775807) := by
      intro i hi
      obtain ⟨cs', hc, ht⟩ := hx i (by omega)
      obtain ⟨d, o, m, x, rfl, hb⟩ := op_cells ht
      rw [cells65] at hc
      refine ⟨(d, o, m, x), ?_⟩
      unfold World.cells? at hc
      split at hc
      · have e : List.range 4 = [0, 1, 2, 3] := rfl
        rw [e] at hc
        simp only [List.mapM_cons, List.mapM_nil, Option.bind_eq_bind, Option.bind_eq_some_iff, Option.pure_def, Option.some.injEq, List.cons.injEq, exists_eq_left'] at hc
        obtain ⟨a0, h0, l0, ⟨a1, h1, l1, ⟨a2, h2, l2, ⟨a3, h3, l3, hl3, rfl⟩, rfl⟩, rfl⟩, e0, hr⟩ := hc
        simp only [List.cons.injEq] at hr
        obtain ⟨e1, e2, e3, _⟩ := hr
        subst e0 e1 e2 e3
        exact ⟨h0, h1, h2, h3, hb⟩
      · cases hc
    obtain ⟨q, hq⟩ := choose_lt one
    obtain ⟨b, off, spot⟩ := ad
    have h00 := (hq 0 (by omega)).1
    have hspot : spot = none := by simpa [Addr.add] using World.cell?_spot h00
    subst hspot
    refine ⟨fun i => (q i).1, fun i => (q i).2.1, fun i => (q i).2.2.1, fun i => (q i).2.2.2, by omega, .inr ⟨b, off, rfl, ?_, fun i hi => ?_⟩⟩
    · have := block_lt_of_cell h00
      simpa [Addr.add] using this
    · obtain ⟨k0, k1, k2, k3, hb⟩ := hq i hi
      simp only [Addr.add_mid, Nat.add_zero] at k0 k1 k2 k3
      exact ⟨k0, k1, k2, k3, hb⟩
end
end Go.Proofs.Ytpiiagjfimdflaa
