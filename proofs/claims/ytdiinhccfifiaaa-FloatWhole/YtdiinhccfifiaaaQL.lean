/- ToInt and Round of any mode, the program's and the document's; slices of Turns. -/
import Derived.Test.YtdiinhccfifiaaaQK
import Derived.Test.YtdiinhccfifiaaaFN
namespace Go.Proofs.Ytdiinhccfifiaaa
open Go.RowKit
set_option linter.unusedVariables false
set_option linter.unusedSimpArgs false

/-- What ToInt tells. -/
def toI (T : Nat) (mode : Int) (a : Nat) : Int × Int :=
  if mode < 0 ∨ 4 < mode then (0, 31) else if a % 9223372036854775808 < 9218868437227405312 ∧ -9223372036854775808 ≤ wz T mode.toNat a ∧ wz T mode.toNat a < 9223372036854775808 then (wz T mode.toNat a, 0) else (0, 30)
/-- What Round tells. -/
def rdI (T : Nat) (mode : Int) (a : Nat) : Nat × Int := if mode < 0 ∨ 4 < mode then (0, 31) else (rndv T mode.toNat a, 0)

theorem ToInt_all (T : Nat) (hT : T = 1074) (a : Nat) (mode : Int) (w : World) (ha : a < 18446744073709551616) : Calls Try.prog 40 #[.int .u64 a, .int .i64 mode] w fun e w' => e = .returned (.tuple #[.int .i64 (toI T mode a).1, .int .i64 (toI T mode a).2]) ∧ Below w.heap.size w w' := by
  unfold toI
  by_cases h : mode < 0 ∨ 4 < mode
  · rw [if_pos h]
    refine (ToInt_bad a mode w h).mono ?_
    rintro e w' ⟨rfl, rfl⟩
    exact ⟨rfl, Below.refl _ _⟩
  · rw [if_neg h]
    obtain ⟨m, rfl⟩ : ∃ m : Nat, mode = (m : Int) := ⟨mode.toNat, by omega⟩
    rw [Int.toNat_natCast]
    split
    · rename_i h2
      exact ToInt_in T hT a m w ha (by omega) h2.1 h2.2.1 h2.2.2
    · rename_i h2
      exact ToInt_out T hT a m w ha (by omega) h2

theorem RoundM_all (T : Nat) (hT : T = 1074) (a : Nat) (mode : Int) (w : World) (ha : a < 18446744073709551616) : Calls Try.prog 43 #[.int .u64 a, .int .i64 mode] w fun e w' => e = .returned (.tuple #[.int .u64 ((rdI T mode a).1 : Nat), .int .i64 (rdI T mode a).2]) ∧ Below w.heap.size w w' := by
  unfold rdI
  by_cases h : mode < 0 ∨ 4 < mode
  · rw [if_pos h]
    refine (RoundM_bad a mode w h).mono ?_
    rintro e w' ⟨rfl, rfl⟩
    exact ⟨rfl, Below.refl _ _⟩
  · rw [if_neg h]
    obtain ⟨m, rfl⟩ : ∃ m : Nat, mode = (m : Int) := ⟨mode.toNat, by omega⟩
    rw [Int.toNat_natCast]
    exact RoundM_any T hT a m w ha (by omega)

theorem rToInt_all (T : Nat) (hT : T = 1074) (a : Nat) (mode : Int) (w : World) (ha : a < 18446744073709551616) : Calls Try.prog 41 #[.int .u64 a, .int .i64 mode] w fun e w' => e = .returned (.tuple #[.int .i64 (toI T mode a).1, .int .i64 (toI T mode a).2]) ∧ Below w.heap.size w w' := by
  unfold toI
  by_cases h : mode < 0 ∨ 4 < mode
  · rw [if_pos h]
    refine (rToInt_bad a mode w h).mono ?_
    rintro e w' ⟨rfl, rfl⟩
    exact ⟨rfl, Below.refl _ _⟩
  · rw [if_neg h]
    obtain ⟨m, rfl⟩ : ∃ m : Nat, mode = (m : Int) := ⟨mode.toNat, by omega⟩
    rw [Int.toNat_natCast]
    by_cases hf : a % 9223372036854775808 < 9218868437227405312
    · by_cases hb : -9223372036854775808 ≤ wz T m a ∧ wz T m a < 9223372036854775808
      · rw [if_pos ⟨hf, hb⟩]
        refine (rToInt_fin T hT a m w ha (by omega) hf).mono ?_
        rintro e w' ⟨h1, h2⟩
        rw [if_pos hb] at h1
        exact ⟨h1, h2⟩
      · rw [if_neg (fun h => hb h.2)]
        refine (rToInt_fin T hT a m w ha (by omega) hf).mono ?_
        rintro e w' ⟨h1, h2⟩
        rw [if_neg hb] at h1
        exact ⟨h1, h2⟩
    · rw [if_neg (fun h => hf h.1)]
      exact rToInt_inf a m w ha (by omega) hf

theorem rRoundM_all (T : Nat) (hT : T = 1074) (a : Nat) (mode : Int) (w : World) (ha : a < 18446744073709551616) : Calls Try.prog 44 #[.int .u64 a, .int .i64 mode] w fun e w' => e = .returned (.tuple #[.int .u64 ((rdI T mode a).1 : Nat), .int .i64 (rdI T mode a).2]) ∧ Below w.heap.size w w' := by
  unfold rdI
  by_cases h : mode < 0 ∨ 4 < mode
  · rw [if_pos h]
    refine (rRoundM_bad a mode w h).mono ?_
    rintro e w' ⟨rfl, rfl⟩
    exact ⟨rfl, Below.refl _ _⟩
  · rw [if_neg h]
    obtain ⟨m, rfl⟩ : ∃ m : Nat, mode = (m : Int) := ⟨mode.toNat, by omega⟩
    rw [Int.toNat_natCast]
    exact rRoundM_any T hT a m w ha (by omega)

open Go.ChangeShapes Go.WideShapes Go.Deep Go.Joins
def IsTurns (w : World) (a : Option Addr) (len : Nat) : Prop :=
  len ≤ 9223372036854775807 ∧ (0 < len → ∃ g o, a = some ⟨g, o, none⟩ ∧ g < w.heap.size ∧ ∀ i, i < len → ∃ (A : Nat) (B : Int), A < 18446744073709551616 ∧ (-9223372036854775808 ≤ B ∧ B ≤ 9223372036854775807) ∧ w.cell? ⟨g, o + i * 2, none⟩ = some (.int .u64 (A : Int)) ∧ w.cell? ⟨g, o + i * 2 + 1, none⟩ = some (.int .i64 B))

theorem cells_turn : Try.prog.cellsOf 49 = 2 := by kernel_rfl

section
variable {H : Type} {enc : TypeId × Value → H} {w : World} {base : Nat} {spare : Nat → Bool} {held : Bool}
theorem turn_cells {n : Nat} {cs : List Value} {y : DataW H × List MemPlace} (h : DataW.trod enc Try.prog w base spare held n 49 cs = some y) :
    ∃ (A : Nat) (B : Int), cs = [.int .u64 (A : Int), .int .i64 B] ∧ A < 18446744073709551616 ∧ (-9223372036854775808 ≤ B ∧ B ≤ 9223372036854775807) := by
  obtain ⟨y0, y1, k, hx, hl, h0, h1⟩ := trod_struct2 Try.underlying49 h
  have cu : Try.prog.cellsOf 23 = 1 := by kernel_rfl
  have ci : Try.prog.cellsOf 3 = 1 := by kernel_rfl
  rw [cells_turn] at hl
  obtain ⟨v0, v1, rfl⟩ := list2' hl
  simp only [cu, ci, List.drop_zero, List.drop_succ_cons, List.take_succ_cons, List.take_zero] at h0 h1
  obtain ⟨d0, e0, _, w0⟩ := DataW.trod_int Try.underlying23 h0
  have b0 := bounds_u64 w0
  obtain ⟨d1, e1, _, w1⟩ := DataW.trod_int Try.underlying3 h1
  have b1 := bounds_i64 w1
  simp only [List.cons.injEq, and_true] at e0 e1
  subst e0 e1
  refine ⟨d0.toNat, d1, ?_, by omega, by omega⟩
  rw [Int.toNat_of_nonneg b0.1]

theorem open_turn {fuel : Nat} {v : Value} {y : DataW H × List MemPlace} (h : DataW.trod enc Try.prog w base spare held fuel 47 [v] = some y) : ∃ a len cap, v = .slice a len cap ∧ IsTurns w a len := by
  rcases open_slice Try.underlying47 h with ⟨h0, _⟩ | ⟨ad, len, cap, mm, n', D, Pl, hcs, _, hlc, hcm, hmm, _, hx⟩
  · simp only [List.cons.injEq, and_true] at h0
    exact ⟨none, 0, 0, h0, by omega, fun h => by omega⟩
  · simp only [List.cons.injEq, and_true] at hcs
    unfold maxLen at hcm
    refine ⟨some ad, len, cap, hcs, by omega, fun h0 => ?_⟩
    have hlm : len ≤ mm := by rw [hmm]; split <;> omega
    have one : ∀ i, i < len → ∃ (A : Nat) (B : Int), (w.cell? ((ad.add (i * 2)).add 0) = some (.int .u64 (A : Int)) ∧ w.cell? ((ad.add (i * 2)).add 1) = some (.int .i64 B)) ∧ A < 18446744073709551616 ∧ (-9223372036854775808 ≤ B ∧ B ≤ 9223372036854775807) := by
      intro i hi
      obtain ⟨cs', hc, ht⟩ := hx i (by omega)
      obtain ⟨A, B, rfl, hb⟩ := turn_cells ht
      rw [cells_turn] at hc
      refine ⟨A, B, ?_, hb⟩
      have hc := cells_some hc
      rw [show List.range 2 = [0, 1] from rfl] at hc
      simp only [List.mapM_cons, List.mapM_nil, Option.bind_eq_bind, Option.bind_eq_some_iff, Option.pure_def, Option.some.injEq, List.cons.injEq, exists_eq_left'] at hc
      obtain ⟨a0, h0, l0, ⟨a1, h1, l1, hl1, rfl⟩, e0, hr⟩ := hc
      simp only [List.cons.injEq] at hr
      obtain ⟨e1, _⟩ := hr
      subst e0 e1
      exact ⟨h0, h1⟩
    obtain ⟨b, off, spot⟩ := ad
    obtain ⟨_, _, ⟨h00, _⟩, _⟩ := one 0 h0
    have hspot : spot = none := by simpa [Addr.add] using World.cell?_spot h00
    subst hspot
    refine ⟨b, off, rfl, ?_, fun j hj => ?_⟩
    · have := block_lt_of_cell h00
      simpa [Addr.add] using this
    · obtain ⟨A, B, ⟨k0, k1⟩, q0, q1⟩ := one j hj
      simp only [Addr.add_mid, Nat.add_zero] at k0 k1
      exact ⟨A, B, q0, q1, k0, k1⟩
end

end Go.Proofs.Ytdiinhccfifiaaa
