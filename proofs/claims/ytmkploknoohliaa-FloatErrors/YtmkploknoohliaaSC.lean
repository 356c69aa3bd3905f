/- FloatErrors: what its walk needs. -/
import Derived.Test.YtmkploknoohliaaSB
namespace Go.Proofs.Ytmkploknoohliaa
open Go.RowKit
open Flt
set_option linter.unusedVariables false
set_option linter.unusedSimpArgs false

theorem sg64b (x : Nat) (hx : x < 18446744073709551616) : sg Ieee.double x = decide (9223372036854775808 ≤ x) := by
  show (x / 9223372036854775808 % 2 == 1) = _
  have h : x / 9223372036854775808 = 0 ∨ x / 9223372036854775808 = 1 := by omega
  rcases h with h | h
  · rw [h, decide_eq_false (by omega)]; rfl
  · rw [h, decide_eq_true (by omega)]; rfl

theorem sw2 : 2 * Ieee.double.signWeight = 18446744073709551616 := by decide +kernel

theorem err_case (A B : Nat) (fa : A % 9223372036854775808 < 9218868437227405312) (fb : B % 9223372036854775808 < 9218868437227405312) :
    ∃ s, Ieee.double.add A B = some s ∧ s < 18446744073709551616 ∧ (s % 9223372036854775808 < 9218868437227405312 → ∃ c, Ieee.double.sub s A = some c ∧ c < 18446744073709551616 ∧ (c % 9223372036854775808 < 9218868437227405312 → ∃ d, Ieee.double.sub s c = some d ∧ d < 18446744073709551616 ∧ (d % 9223372036854775808 < 9218868437227405312 →
      ∃ x y l, Ieee.double.sub A d = some x ∧ Ieee.double.sub B c = some y ∧ Ieee.double.add x y = some l ∧ l < 18446744073709551616 ∧ l % 9223372036854775808 < 9218868437227405312 ∧ sv Ieee.double A + sv Ieee.double B = sv Ieee.double s + sv Ieee.double l))) := by
  have ha : rg Ieee.double A < Ieee.double.infRung := by rw [rg64, inf64]; exact fa
  have hb : rg Ieee.double B < Ieee.double.infRung := by rw [rg64, inf64]; exact fb
  obtain ⟨s, h1, h2, _⟩ := add_fin Ieee.double A B ha hb
  rw [sw2] at h2
  refine ⟨s, h1, h2, fun hs => ?_⟩
  have hs : rg Ieee.double s < Ieee.double.infRung := by rw [rg64, inf64]; exact hs
  obtain ⟨c, c1, c2, _⟩ := sub_fin Ieee.double s A hs ha
  rw [sw2] at c2
  refine ⟨c, c1, c2, fun hc => ?_⟩
  have hc : rg Ieee.double c < Ieee.double.infRung := by rw [rg64, inf64]; exact hc
  obtain ⟨d, d1, d2, _⟩ := sub_fin Ieee.double s c hs hc
  rw [sw2] at d2
  refine ⟨d, d1, d2, fun hd => ?_⟩
  have hd : rg Ieee.double d < Ieee.double.infRung := by rw [rg64, inf64]; exact hd
  obtain ⟨x, y, l, e1, e2, e3, _, _, e4, e5, e6⟩ := errors_sum A B s c d ha hb h1 hs c1 hc d1 hd
  rw [sw2] at e4
  rw [rg64, inf64] at e5
  exact ⟨x, y, l, e1, e2, e3, e4, e5, e6.symm⟩

theorem xor_sign (A B : Nat) (hA : A < 18446744073709551616) (hB : B < 18446744073709551616) : ∃ x y : Nat, bits BinOp.xor IntKind.u64 (A : Int) (B : Int) = (x : Int) ∧ bits BinOp.and IntKind.u64 (x : Int) 9223372036854775808 = (y : Int) ∧ ((y : Int) != 0) = (decide (9223372036854775808 ≤ A) ^^ decide (9223372036854775808 ≤ B)) := by
  have hx : A ^^^ B < 18446744073709551616 := Nat.xor_lt_two_pow (n := 64) hA hB
  refine ⟨A ^^^ B, (A ^^^ B) / 9223372036854775808 * 9223372036854775808, u64_xor_nat A B hA hB, and_top64 _ hx, ?_⟩
  have e : (A ^^^ B) / 9223372036854775808 = A / 9223372036854775808 ^^^ B / 9223372036854775808 := by
    have := Nat.xor_div_two_pow (a := A) (b := B) (n := 63)
    exact this
  rw [e]
  have a1 : A / 9223372036854775808 = 0 ∨ A / 9223372036854775808 = 1 := by omega
  have b1 : B / 9223372036854775808 = 0 ∨ B / 9223372036854775808 = 1 := by omega
  rcases a1 with a1 | a1 <;> rcases b1 with b1 | b1
  · rw [a1, b1, decide_eq_false (by omega), decide_eq_false (by omega)]; rfl
  · rw [a1, b1, decide_eq_false (by omega), decide_eq_true (by omega)]; rfl
  · rw [a1, b1, decide_eq_true (by omega), decide_eq_false (by omega)]; rfl
  · rw [a1, b1, decide_eq_true (by omega), decide_eq_true (by omega)]; rfl

theorem sv_sW (b : Nat) (hb : b < 18446744073709551616) : sW (decide (9223372036854775808 ≤ b)) (V Ieee.double (b % 9223372036854775808)) = sv Ieee.double b := by
  unfold sW sv
  rw [sg64b b hb, rg64]

theorem prod_case (T A B : Nat) (hT : T = 1074) (hA : A < 18446744073709551616) (hB : B < 18446744073709551616) (fa : A % 9223372036854775808 < 9218868437227405312) (fb : B % 9223372036854775808 < 9218868437227405312) :
    ∃ p, Ieee.double.mul A B = some p ∧ p < 18446744073709551616 ∧ (p % 9223372036854775808 < 9218868437227405312 → 288230376151711744 ≤ p % 9223372036854775808 →
      ∃ c q Z : Nat, bits BinOp.xor IntKind.u64 (p : Int) 9223372036854775808 = (c : Int) ∧ Ieee.double.fma A B c = some q ∧ q < 18446744073709551616 ∧ q % 9223372036854775808 < 9218868437227405312 ∧ V Ieee.double (A % 9223372036854775808) * V Ieee.double (B % 9223372036854775808) = Z * 2 ^ T ∧
        sW (decide (9223372036854775808 ≤ p)) (V Ieee.double (p % 9223372036854775808)) + sW (decide (9223372036854775808 ≤ q)) (V Ieee.double (q % 9223372036854775808)) = sW (decide (9223372036854775808 ≤ p)) Z ∧ decide (9223372036854775808 ≤ p) = (decide (9223372036854775808 ≤ A) ^^ decide (9223372036854775808 ≤ B)) ∧
        (decide (9223372036854775808 ≤ p) = decide (9223372036854775808 ≤ q) ∨ V Ieee.double (q % 9223372036854775808) ≤ V Ieee.double (p % 9223372036854775808))) := by
  have ha : rg Ieee.double A < Ieee.double.infRung := by rw [rg64, inf64]; exact fa
  have hb : rg Ieee.double B < Ieee.double.infRung := by rw [rg64, inf64]; exact fb
  have hl : Ieee.double.leastPlace = -(T : Int) := by rw [hT]; decide
  have hm := mul_rnd Ieee.double T A B hl ha hb
  have hpl := (fb_num (op := .mul) hm).2
  generalize Ieee.double.word (sg Ieee.double A ^^ sg Ieee.double B) (min (rnd Ieee.double (V Ieee.double (rg Ieee.double A) * V Ieee.double (rg Ieee.double B)) (2 ^ T)) Ieee.double.infRung) = p at *
  refine ⟨p, hm, hpl, fun pf p58 => ?_⟩
  obtain ⟨c, hc, hcr, hcs, hcl⟩ : ∃ c : Nat, bits BinOp.xor IntKind.u64 (p : Int) 9223372036854775808 = (c : Int) ∧ rg Ieee.double c = rg Ieee.double p ∧ sg Ieee.double c = !sg Ieee.double p ∧ c < 18446744073709551616 := by
    by_cases h : p < 9223372036854775808
    · refine ⟨9223372036854775808 + p, b64_xor_lo p h, by rw [rg64, rg64]; omega, ?_, by omega⟩
      rw [sg64b _ (by omega), sg64b _ hpl, decide_eq_true (by omega), decide_eq_false (by omega)]; rfl
    · refine ⟨p - 9223372036854775808, b64_xor_hi p (by omega) hpl, by rw [rg64, rg64]; omega, ?_, by omega⟩
      rw [sg64b _ (by omega), sg64b _ hpl, decide_eq_false (by omega), decide_eq_true (by omega)]; rfl
  obtain ⟨g1, q, Z, g2, g3, g4, g5, g6, g7⟩ := errors_prod T A B p c hT ha hb hm (by rw [rg64, inf64]; exact pf) (by rw [rg64]; exact p58) hcr hcs
  rw [sw2] at g3
  rw [rg64, inf64] at g4
  rw [rg64, rg64] at g5 g7
  rw [sg64b _ hpl, sg64b _ hA, sg64b _ hB] at g1
  rw [sg64b _ hpl, sg64b _ g3] at g7
  rw [sg64b _ hpl] at g6
  exact ⟨c, q, Z, hc, g2, g3, g4, g5, by rw [sv_sW p hpl, sv_sW q g3]; exact g6, g1, g7⟩

theorem kAdd {a b y : Nat} (h : Ieee.double.add a b = some y) : Hid (∀ w : World, Calls Try.prog 4 #[.int .u64 a, .int .u64 b] w fun e w' => e = .returned (.int .u64 (y : Int)) ∧ Below w.heap.size w w') := fun w => by
  have := Add64_any a b w
  rw [h] at this; exact this
theorem kSub {a b y : Nat} (h : Ieee.double.sub a b = some y) : Hid (∀ w : World, Calls Try.prog 6 #[.int .u64 a, .int .u64 b] w fun e w' => e = .returned (.int .u64 (y : Int)) ∧ Below w.heap.size w w') := fun w => by
  have := Sub64_any a b w
  rw [h] at this; exact this
theorem kMul {a b y : Nat} (h : Ieee.double.mul a b = some y) : Hid (∀ w : World, Calls Try.prog 10 #[.int .u64 a, .int .u64 b] w fun e w' => e = .returned (.int .u64 (y : Int)) ∧ Below w.heap.size w w') := fun w => by
  have := Mul64_any a b w
  rw [h] at this; exact this
theorem kFma {a b c y : Nat} (h : Ieee.double.fma a b c = some y) : Hid (∀ w : World, Calls Try.prog 11 #[.int .u64 a, .int .u64 b, .int .u64 c] w fun e w' => e = .returned (.int .u64 (y : Int)) ∧ Below w.heap.size w w') := fun w => by
  have := Fma_any a b c w
  rw [h] at this; exact this
theorem kAny {a b : Nat} : ∃ y : Nat, Hid (∀ w : World, Calls Try.prog 4 #[.int .u64 a, .int .u64 b] w fun e w' => e = .returned (.int .u64 (y : Int)) ∧ Below w.heap.size w w') := ⟨_, fun w => Add64_any a b w⟩
theorem kAnyS {a b : Nat} : ∃ y : Nat, Hid (∀ w : World, Calls Try.prog 6 #[.int .u64 a, .int .u64 b] w fun e w' => e = .returned (.int .u64 (y : Int)) ∧ Below w.heap.size w w') := ⟨_, fun w => Sub64_any a b w⟩
theorem kFin {b : Nat} (hb : b < 18446744073709551616) (hf : b % 9223372036854775808 < 9218868437227405312) : Hid (∀ w : World, Calls Try.prog 5 #[.int .u64 b] w fun e w' => e = .returned (.bool true) ∧ w' = w) := fun w => by
  have := finite_any b w hb
  rwa [decide_eq_true hf] at this
theorem kNot {b : Nat} (hb : b < 18446744073709551616) (hf : ¬ b % 9223372036854775808 < 9218868437227405312) : Hid (∀ w : World, Calls Try.prog 5 #[.int .u64 b] w fun e w' => e = .returned (.bool false) ∧ w' = w) := fun w => by
  have := finite_any b w hb
  rwa [decide_eq_false hf] at this
theorem kUnits {b : Nat} (hb : b < 18446744073709551616) : Hid (∀ w : World, Calls Try.prog 13 #[.int .u64 b] w fun e w' => ∃ r, e = .returned r ∧ LimB 100 w' r (V Ieee.double (b % 9223372036854775808)) ∧ Below w.heap.size w w') := fun w => units_any b w hb

/-- A local place for a signed whole number. -/
theorem whole_local (w : World) (n : Bool) (a : Option Addr) (k p : Nat) (T : TypeId) : ∃ W : World, W = w.alloc (.cells #[.bool n, .slice a k p] T) ∧
    W.cell? ⟨w.heap.size, 0, none⟩ = some (.bool n) ∧ W.cell? ⟨w.heap.size, 1, none⟩ = some (.slice a k p) ∧ Below w.heap.size w W ∧ ∀ B u N, LimB B w u N → LimB B W u N := by
  obtain ⟨n0, n1, _⟩ := whole_new w (.bool n) (.slice a k p) T
  have b0 : Below w.heap.size w (w.alloc (.cells #[.bool n, .slice a k p] T)) := (Below.refl _ _).alloc (Nat.le_refl _) _
  exact ⟨_, rfl, n0, n1, b0, fun B u N h => h.below b0⟩
end Go.Proofs.Ytmkploknoohliaa
