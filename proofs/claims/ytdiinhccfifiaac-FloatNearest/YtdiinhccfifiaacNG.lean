/- FloatQuotients: what it calls. -/
import Derived.Test.YtdiinhccfifiaacNE
import Derived.Test.YtdiinhccfifiaacNF
import Derived.Test.YtdiinhccfifiaacFL
namespace Go.Proofs.Ytdiinhccfifiaac
open Go.RowKit
open Flt
set_option linter.unusedVariables false
set_option linter.unusedSimpArgs false

/-- A number's row, of at most B limbs. -/
def LimB (B : Nat) (w : World) (v : Value) (N : Nat) : Prop := ∃ k, Row w v k N ∧ M.Nrm k N ∧ k ≤ B
theorem LimB.below {B : Nat} {w w' : World} {v : Value} {N : Nat} (h : LimB B w v N) (hb : Below w.heap.size w w') : LimB B w' v N := by
  obtain ⟨k, h1, h2, h3⟩ := h
  exact ⟨k, h1.below hb, h2, h3⟩
theorem lSum {B1 B2 : Nat} {v u : Value} {A C : Nat} {w : World} (h : LimB B1 w v A) (h' : LimB B2 w u C) (h1 : B1 ≤ 10000) (h2 : B2 ≤ 10000) :
    Calls Try.prog 13 #[v, u] w fun e w' => ∃ r, e = .returned r ∧ LimB (max B1 B2 + 1) w' r (A + C) ∧ Below w.heap.size w w' := by
  obtain ⟨k, r1, n1, b1⟩ := h
  obtain ⟨m, r2, n2, b2⟩ := h'
  refine (nSum v u k A m C w r1 r2 (by omega) (by omega)).mono ?_
  rintro e w' ⟨r, rfl, n, hr, hn, hk, hb⟩
  exact ⟨r, rfl, ⟨n, hr, hn, by omega⟩, hb⟩
theorem lTimes {B1 B2 : Nat} {v u : Value} {A C : Nat} {w : World} (h : LimB B1 w v A) (h' : LimB B2 w u C) (h1 : B1 ≤ 10000) (h2 : B2 ≤ 10000) :
    Calls Try.prog 12 #[v, u] w fun e w' => ∃ r, e = .returned r ∧ LimB (B1 + B2) w' r (A * C) ∧ Below w.heap.size w w' := by
  obtain ⟨k, r1, n1, b1⟩ := h
  obtain ⟨m, r2, n2, b2⟩ := h'
  refine (nTimes v u k A m C w r1 r2 (by omega)).mono ?_
  rintro e w' ⟨r, rfl, n, hr, hn, hk, hb⟩
  exact ⟨r, rfl, ⟨n, hr, hn, by omega⟩, hb⟩
theorem lUp2 {B n : Nat} {v : Value} {A : Nat} {w : World} (h : LimB B w v A) (h1 : B ≤ 10000) (hn : n ≤ 10000) :
    Calls Try.prog 9 #[v, .int .i64 n] w fun e w' => ∃ r, e = .returned r ∧ LimB (n / 32 + B + 1) w' r (A * 2 ^ n) ∧ Below w.heap.size w w' := by
  obtain ⟨k, r1, n1, b1⟩ := h
  refine (nUp2 v k A n w r1 (by omega) (by omega)).mono ?_
  rintro e w' ⟨r, rfl, n, hr, hn, hk, hb⟩
  exact ⟨r, rfl, ⟨n, hr, hn, by omega⟩, hb⟩
theorem lCmp {B1 B2 : Nat} {v u : Value} {A C : Nat} {w : World} (h : LimB B1 w v A) (h' : LimB B2 w u C) :
    Calls Try.prog 11 #[v, u] w fun e w' => e = .returned (.int .i64 (M.cmpI A C)) ∧ Below w.heap.size w w' := by
  obtain ⟨k, r1, n1, b1⟩ := h
  obtain ⟨m, r2, n2, b2⟩ := h'
  refine (nCmp v u k A m C w r1 r2 n1 n2).mono ?_
  rintro e w' ⟨rfl, n, rfl⟩
  exact ⟨rfl, ⟨rfl, rfl, rfl, Nat.le_refl _, fun _ _ => rfl⟩⟩
theorem cmp_le {A C : Nat} (h : A ≤ C) : ¬ (0 : Int) < M.cmpI A C := by
  unfold M.cmpI
  split
  · omega
  · rw [if_neg (by omega)]; omega
theorem lUnits (b : Nat) (w : World) (hb : b < 9223372036854775808) : Calls Try.prog 10 #[.int .u64 b] w fun e w' => ∃ r, e = .returned r ∧ LimB 100 w' r (V Ieee.double b) ∧ Below w.heap.size w w' := by
  refine (units_any b w (by omega)).mono ?_
  rw [Nat.mod_eq_of_lt hb]
  rintro e w' ⟨r, rfl, hr, hb⟩
  exact ⟨r, rfl, hr, hb⟩
theorem lTop (b : Nat) (w : World) (hb : b < 9223372036854775808) : Calls Try.prog 14 #[.int .u64 b] w fun e w' => ∃ r, e = .returned r ∧ LimB 100 w' r (V Ieee.double b) ∧ Below w.heap.size w w' := by
  refine (top_any b w hb).mono ?_
  rintro e w' ⟨r, rfl, hr, hb⟩
  exact ⟨r, rfl, hr, hb⟩
theorem div_mid64 (a b T : Nat) (ha : a < 9218868437227405312) (hb : b < 9218868437227405312) (ha0 : a ≠ 0) (hb0 : b ≠ 0) (hT : T = 1075) :
    ∃ R, R ≤ 9218868437227405312 ∧ Ieee.double.div a b = some R ∧ (R ≠ 0 → (V Ieee.double R + V Ieee.double (R - 1)) * V Ieee.double b ≤ V Ieee.double a * 2 ^ T) ∧ (R ≠ 9218868437227405312 → V Ieee.double a * 2 ^ T ≤ (V Ieee.double R + V Ieee.double (R + 1)) * V Ieee.double b) := by
  have e1 : rg Ieee.double a = a := by rw [rg64]; omega
  have e2 : rg Ieee.double b = b := by rw [rg64]; omega
  have s1 : sg Ieee.double a = false := by
    show (a / 9223372036854775808 % 2 == 1) = false
    rw [show a / 9223372036854775808 = 0 by omega]; rfl
  have s2 : sg Ieee.double b = false := by
    show (b / 9223372036854775808 % 2 == 1) = false
    rw [show b / 9223372036854775808 = 0 by omega]; rfl
  have := div_mid a b T (by rw [e1, inf64]; exact ha) (by rw [e2, inf64]; exact hb) (by rw [e1]; exact ha0) (by rw [e2]; exact hb0) s1 s2 hT
  rw [e1, e2, inf64] at this
  exact this

end Go.Proofs.Ytdiinhccfifiaac
