/- FloatQuotients: what it calls. -/
import Derived.Test.YtmkploknoohliaaNE
import Derived.Test.YtmkploknoohliaaNF
import Derived.Test.YtmkploknoohliaaFL
namespace Go.Proofs.Ytmkploknoohliaa
open Go.RowKit
open Flt
set_option linter.unusedVariables false
set_option linter.unusedSimpArgs false

/-- A number's row, of at most B limbs. -/
def LimB (B : Nat) (w : World) (v : Value) (N : Nat) : Prop := ∃ k, Row w v k N ∧ M.Nrm k N ∧ k ≤ B
theorem LimB.below {B : Nat} {w w' : World} {v : Value} {N : Nat} (h : LimB B w v N) (hb : Below w.heap.size w w') : LimB B w' v N := by
  obtain ⟨k, h1, h2, h3⟩ := h
  exact ⟨k, h1.below hb, h2, h3⟩
theorem lSum {B1 B2 : Nat} {v u : Value} {A C : Nat} {w : World} (h : LimB B1 w v A) (h' : LimB B2 w u C) (h1 : B1 ≤ 10000) (h2 : B2 ≤ 10000) :
    Calls Try.prog 19 #[v, u] w fun e w' => ∃ r, e = .returned r ∧ LimB (max B1 B2 + 1) w' r (A + C) ∧ Below w.heap.size w w' := by
  obtain ⟨k, r1, n1, b1⟩ := h
  obtain ⟨m, r2, n2, b2⟩ := h'
  refine (nSum v u k A m C w r1 r2 (by omega) (by omega)).mono ?_
  rintro e w' ⟨r, rfl, n, hr, hn, hk, hb⟩
  exact ⟨r, rfl, ⟨n, hr, hn, by omega⟩, hb⟩
theorem lTimes {B1 B2 : Nat} {v u : Value} {A C : Nat} {w : World} (h : LimB B1 w v A) (h' : LimB B2 w u C) (h1 : B1 ≤ 10000) (h2 : B2 ≤ 10000) :
    Calls Try.prog 12 #[v, u] w fun e w' => ∃ r, e = .returned r ∧ LimB (B1 + B2) w' r (A * C) ∧ Below w.heap.size w w' := by
  obtain ⟨k, r1, n1, b1⟩ := h
  obtain ⟨m, r2, n2, b2⟩ := h'
  refine (nTimes v u k A m C w r1 r2 (by omega)).mono ?_
  rintro e w' ⟨r, rfl, n, hr, hn, hk, hb⟩
  exact ⟨r, rfl, ⟨n, hr, hn, by omega⟩, hb⟩
theorem lUp2 {B n : Nat} {v : Value} {A : Nat} {w : World} (h : LimB B w v A) (h1 : B ≤ 10000) (hn : n ≤ 10000) :
    Calls Try.prog 15 #[v, .int .i64 n] w fun e w' => ∃ r, e = .returned r ∧ LimB (n / 32 + B + 1) w' r (A * 2 ^ n) ∧ Below w.heap.size w w' := by
  obtain ⟨k, r1, n1, b1⟩ := h
  refine (nUp2 v k A n w r1 (by omega) (by omega)).mono ?_
  rintro e w' ⟨r, rfl, n, hr, hn, hk, hb⟩
  exact ⟨r, rfl, ⟨n, hr, hn, by omega⟩, hb⟩
theorem lCmp {B1 B2 : Nat} {v u : Value} {A C : Nat} {w : World} (h : LimB B1 w v A) (h' : LimB B2 w u C) :
    Calls Try.prog 20 #[v, u] w fun e w' => e = .returned (.int .i64 (M.cmpI A C)) ∧ Below w.heap.size w w' := by
  obtain ⟨k, r1, n1, b1⟩ := h
  obtain ⟨m, r2, n2, b2⟩ := h'
  refine (nCmp v u k A m C w r1 r2 n1 n2).mono ?_
  rintro e w' ⟨rfl, n, rfl⟩
  exact ⟨rfl, ⟨rfl, rfl, rfl, Nat.le_refl _, fun _ _ => rfl⟩⟩
theorem cmp_le {A C : Nat} (h : A ≤ C) : ¬ (0 : Int) < M.cmpI A C := by
  unfold M.cmpI
  split
  · omega
  · rw [if_neg (by omega)]; omega
theorem lUnits (b : Nat) (w : World) (hb : b < 9223372036854775808) : Calls Try.prog 13 #[.int .u64 b] w fun e w' => ∃ r, e = .returned r ∧ LimB 100 w' r (V Ieee.double b) ∧ Below w.heap.size w w' := by
  refine (units_any b w (by omega)).mono ?_
  rw [Nat.mod_eq_of_lt hb]
  rintro e w' ⟨r, rfl, hr, hb⟩
  exact ⟨r, rfl, hr, hb⟩

end Go.Proofs.Ytmkploknoohliaa
