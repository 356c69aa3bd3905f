/- What the laws' walks share. -/
import Derived.Test.YtfbkdjghbgdgpaaDoorT
import Derived.Test.YtfbkdjghbgdgpaaDoorAF
namespace Go.Proofs.YtfbkdjghbgdgpaaDoor
open Go.RowKit
open M
set_option linter.unusedVariables false
set_option linter.unusedSimpArgs false

theorem IsRows.below {w w' : World} {aL : Option Addr} {nL : Nat} (h : IsRows w aL nL) (hb : Below w.heap.size w w') : IsRows w' aL nL := by
  refine ⟨h.1, fun hn => ?_⟩
  obtain ⟨g, o, ha, hg, hj⟩ := h.2 hn
  refine ⟨g, o, ha, Nat.lt_of_lt_of_le hg hb.size, fun i hi => ?_⟩
  obtain ⟨v, k, N, h1, h2⟩ := hj i hi
  exact ⟨v, k, N, by rw [hb.cell (p := ⟨g, o + i, none⟩) hg]; exact h1, h2.belowB hb⟩

theorem eq_true {v u : Value} {A C : Nat} {w : World} (h : Num w v A) (h' : Num w u C) (hAC : A = C) :
    Calls Tryd.prog 21 #[v, u] w fun e w' => e = .returned (.bool true) ∧ Below w.heap.size w w' := by
  have := eq_num h h'; rwa [decide_eq_true hAC] at this

theorem eq_false {v u : Value} {A C : Nat} {w : World} (h : Num w v A) (h' : Num w u C) (hAC : A ≠ C) :
    Calls Tryd.prog 21 #[v, u] w fun e w' => e = .returned (.bool false) ∧ Below w.heap.size w w' := by
  have := eq_num h h'; rwa [decide_eq_false hAC] at this

theorem cmp_is {v u : Value} {A C : Nat} {w : World} (h : Num w v A) (h' : Num w u C) (c : Int) (hc : cmpI A C = c) :
    Calls Tryd.prog 41 #[v, u] w fun e w' => e = .returned (.int .i64 c) ∧ Below w.heap.size w w' :=
  (Cmp_ok h h').mono fun e w' ⟨h1, n, h2⟩ => ⟨by rw [h1, hc], by rw [h2]; exact below_drewN (Below.refl _ _) n⟩

theorem from_num (n : Nat) (w : World) (hn : n < 18446744073709551616) :
    Calls Tryd.prog 14 #[.int .u64 n] w fun e w' => ∃ r, e = .returned r ∧ Num w' r n ∧ Below w.heap.size w w' :=
  (From_any n w hn).mono fun e w' ⟨r, h1, k, h2, h3, h4, h5⟩ => ⟨r, h1, ⟨k, h2.row, h3, by omega⟩, h5⟩

theorem add_lt_pow {a b i : Nat} (h : a < 4294967296 ^ i) (h' : b < 4294967296 ^ i) : a + b < 4294967296 ^ (i + 1) := by rw [pw_succ]; omega

theorem lt_pow_succ {a i : Nat} (h : a < 4294967296 ^ i) : a < 4294967296 ^ (i + 1) := by rw [pw_succ]; omega

theorem num_len {v : Value} {N : Nat} {w : World} (h : Num w v N) : ∃ ad k cap, v = .slice ad k cap ∧ (k = 0 ↔ N = 0) ∧ k ≤ 8192 := by
  obtain ⟨k, h1, h2, h3⟩ := h
  obtain ⟨_, _, ad, cap, hv, _⟩ := h1
  exact ⟨ad, k, cap, hv, h2.zero_iff, h3⟩

theorem num_below (e : Int) (w : World) : Calls Tryd.prog 13 #[.int .i64 e] w fun r w' => r = .returned (.int .i64 e) ∧ Below w.heap.size w w' :=
  (num_any e w).mono fun r w' ⟨h1, h2⟩ => ⟨h1, by rw [h2]; exact Below.refl _ _⟩

theorem DivMod_zero_b {v u : Value} {A : Nat} {w : World} (h : Num w v A) (h' : Num w u 0) :
    Calls Tryd.prog 25 #[v, u] w fun e w' => e = .returned (.tuple #[.slice none 0 0, .slice none 0 0, .int .i64 23]) ∧ Below w.heap.size w w' :=
  (DivMod_zero h h').mono fun r w' ⟨h1, h2⟩ => ⟨h1, by rw [h2]; exact Below.refl _ _⟩

theorem root_is {v : Value} {A S : Nat} {w : World} (h : Num w v A) (hS : Sq S A) (E : Bool) (hE : decide (S * S = A) = E) :
    Calls Tryd.prog 53 #[v] w fun e w' => ∃ r, e = .returned (.tuple #[r, .bool E, .int .i64 0]) ∧ Num w' r S ∧ Below w.heap.size w w' := by
  have hf := h.fits
  refine (Root_num h hS).mono ?_
  rintro e w' ⟨r, n, he, ho, hn, hb⟩
  exact ⟨r, by rw [he, hE], ho.num hn (hf.le (sq_le hS)), hb⟩

end Go.Proofs.YtfbkdjghbgdgpaaDoor
