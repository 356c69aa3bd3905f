/- math.normalize. -/
import Derived.Test.YtleeahigceppiaaDoorFK
import Derived.Test.YtleeahigceppiaaDoorRB
/- A number times a power of 2: by rungs. -/
namespace Go.Proofs.YtleeahigceppiaaDoor
namespace Flt
open Ieee
set_option linter.unusedVariables false
set_option linter.unusedSimpArgs false

theorem binade64 : double.binade = 4503599627370496 := by decide +kernel

theorem V_field (k t : Nat) (ht : t < 4503599627370496) : V double ((k + 1) * 4503599627370496 + t) = (4503599627370496 + t) * 2 ^ k := by
  unfold V
  rw [binade64, if_neg (by omega), show ((k + 1) * 4503599627370496 + t) / 4503599627370496 = k + 1 by omega, show ((k + 1) * 4503599627370496 + t) % 4503599627370496 = t by omega, Nat.add_sub_cancel]

/-- In the middle: nothing is lost. -/
theorem scale_mid (k t : Nat) (ht : t < 4503599627370496) : rnd double ((4503599627370496 + t) * 2 ^ k) 1 = (k + 1) * 4503599627370496 + t := by
  rw [← V_field k t ht, rnd_V]

/-- Beyond the greatest. -/
theorem scale_great (k t : Nat) (hk : 2046 ≤ k) : double.infRung ≤ rnd double ((4503599627370496 + t) * 2 ^ k) 1 := by
  refine le_rnd double (by decide) _ _ _ (by omega) ?_
  obtain ⟨q, hq⟩ : ∃ q : Nat, q = 2046 := ⟨_, rfl⟩
  have h1 : double.infRung = (q + 1) * 4503599627370496 + 0 := by
    rw [hq]; decide +kernel
  rw [h1, V_field q 0 (by omega), Nat.mul_one]
  exact Nat.mul_le_mul (by omega) (Nat.pow_le_pow_right (by omega) (by omega))

/-- Beneath half the least. -/
theorem scale_less (c t : Nat) (hc : 54 ≤ c) (ht : t < 4503599627370496) : rnd double (4503599627370496 + t) (2 ^ c) = 0 := by
  obtain ⟨r, h1, h2, h3⟩ := rnd_spec double (by decide) (4503599627370496 + t) (2 ^ c) (Nat.two_pow_pos _)
  have hd : 18014398509481984 ≤ 2 ^ c := by
    have := Nat.pow_le_pow_right (n := 2) (by omega) hc
    simpa using this
  generalize 2 ^ c = d at *
  have hr : r = 0 := by
    rcases Nat.eq_zero_or_pos r with h | h
    · exact h
    · exfalso
      have h4 : V double 0 < V double r := V_lt h
      have h5 : 1 * d ≤ V double r * d := Nat.mul_le_mul_right d (by omega)
      omega
  subst hr
  have v0 : V double 0 = 0 := by decide +kernel
  have v1 : V double (0 + 1) = 1 := by decide +kernel
  rw [h3, v0, v1, if_neg (by omega)]

/-- Between: by a product that is rounded once. -/
theorem scale_low (T c t : Nat) (hT : T = 1074) (h1 : 1 ≤ c) (h2 : c ≤ 53) (ht : t < 4503599627370496) :
    rnd double (V double ((53 - c + 1) * 4503599627370496 + t) * V double 4368491638549381120) (2 ^ T) = rnd double (4503599627370496 + t) (2 ^ c) := by
  obtain ⟨q, hq⟩ : ∃ q : Nat, q = 969 := ⟨_, rfl⟩
  obtain ⟨s, hs⟩ : ∃ s : Nat, s = 52 := ⟨_, rfl⟩
  have hz : V double 4368491638549381120 = 2 ^ s * 2 ^ q := by
    have := V_field q 0 (by omega)
    rw [show (q + 1) * 4503599627370496 + 0 = 4368491638549381120 by omega] at this
    rw [this, show 2 ^ s = 4503599627370496 by rw [hs]]
  rw [V_field _ t ht, hz]
  refine rnd_eq double (Nat.two_pow_pos _) (Nat.two_pow_pos _) ?_
  rw [Nat.mul_assoc, Nat.mul_assoc, ← Nat.pow_add, ← Nat.pow_add, ← Nat.pow_add]
  exact congrArg ((4503599627370496 + t) * 2 ^ ·) (by omega)

end Flt
end Go.Proofs.YtleeahigceppiaaDoor

namespace Go.Proofs.YtleeahigceppiaaDoor
open Go.RowKit
open Flt
set_option linter.unusedVariables false
set_option linter.unusedSimpArgs false

theorem norm_math (r : Nat) (h0 : 0 < r) (h : r < 4503599627370496) : ∃ f t : Nat, t < 4503599627370496 ∧ f ≤ 51 ∧ (4503599627370496 + t) * 2 ^ f = r * 4503599627370496 := by
  obtain ⟨l, hl⟩ : ∃ l, r.log2 = l := ⟨_, rfl⟩
  have h1 : 2 ^ l ≤ r := by rw [← hl]; exact Nat.log2_self_le (by omega)
  have h2 : r < 2 ^ (l + 1) := by rw [← hl]; exact Nat.lt_log2_self
  have h3 : l ≤ 51 := by
    rcases Nat.lt_or_ge 51 l with h4 | h4
    · exfalso
      have h5 := Nat.pow_le_pow_right (n := 2) (by omega) (show 52 ≤ l by omega)
      have h6 : 2 ^ 52 = 4503599627370496 := by decide
      rw [h6] at h5
      omega
    · exact h4
  obtain ⟨q, hq⟩ : ∃ q, l + q = 52 := ⟨52 - l, by omega⟩
  have hB : 2 ^ l * 2 ^ q = 4503599627370496 := by rw [← Nat.pow_add, hq]
  rw [Nat.pow_succ] at h2
  obtain ⟨d, hd⟩ : ∃ d, r = 2 ^ l + d := ⟨r - 2 ^ l, by omega⟩
  refine ⟨l, d * 2 ^ q, ?_, h3, ?_⟩
  · rw [← hB]; exact (Nat.mul_lt_mul_right (Nat.two_pow_pos q)).2 (by omega)
  · rw [hd, ← hB, ← Nat.add_mul, Nat.mul_assoc, Nat.mul_comm (2 ^ q)]

theorem sgQ (x : Nat) (hx : x < 18446744073709551616) : sg Ieee.double x = decide (9223372036854775808 ≤ x) := by
  show (x / 9223372036854775808 % 2 == 1) = _
  have h : x / 9223372036854775808 = 0 ∨ x / 9223372036854775808 = 1 := by omega
  rcases h with h | h
  · rw [h, decide_eq_false (by omega)]; rfl
  · rw [h, decide_eq_true (by omega)]; rfl

/-! A finite number that is not nought, made normal. -/
set_option maxRecDepth 100000 in
set_option maxHeartbeats 1000000 in
theorem normalize_any (a : Nat) (w : World) (ha : a < 18446744073709551616) (h0 : 0 < a % 9223372036854775808) (hf : a % 9223372036854775808 < 9218868437227405312) : Calls Tryd.prog 50 #[.float .f64 a] w fun e w' => ∃ f t u : Nat, e = .returned (.tuple #[.float .f64 (Ieee.double.word (sg Ieee.double a) ((f + 1) * 4503599627370496 + t)), .int .i64 (-(u : Int))]) ∧ t < 4503599627370496 ∧ f ≤ 2045 ∧ u ≤ 52 ∧ (4503599627370496 + t) * 2 ^ f = V Ieee.double (a % 9223372036854775808) * 2 ^ u ∧ w' = w := by
  have HA := fhide (fun w : World => Abs_any a w ha)
  have hr : rg Ieee.double (a % 9223372036854775808) = a % 9223372036854775808 := by rw [rg64]; omega
  have hsm : sv Ieee.double (a % 9223372036854775808) = ((V Ieee.double (a % 9223372036854775808) : Nat) : Int) := by
    unfold sv
    rw [hr, sgQ _ (by omega), decide_eq_false (by omega)]; rfl
  have hsn : sv Ieee.double 4503599627370496 = ((V Ieee.double 4503599627370496 : Nat) : Int) := by
    unfold sv
    rw [show sg Ieee.double 4503599627370496 = false by decide +kernel, show rg Ieee.double 4503599627370496 = 4503599627370496 by decide +kernel]; rfl
  have ho := order_all Ieee.double (by decide) (a % 9223372036854775808) 4503599627370496 (by rw [hr, inf64]; omega) (by rw [rg64, inf64]; omega)
  rw [hsm, hsn] at ho
  rcases Nat.lt_or_ge (a % 9223372036854775808) 4503599627370496 with c | c
  · rw [cmp_lt (Int.ofNat_lt.2 (V_lt c))] at ho
    have ho' : FloatKind.f64.format.order (a % 9223372036854775808) 4503599627370496 = some .lt := ho
    obtain ⟨f, t, ht, hfl, he⟩ := norm_math _ h0 c
    obtain ⟨T, hT⟩ : ∃ T : Nat, T = 1074 := ⟨_, rfl⟩
    have hl : Ieee.double.leastPlace = -(T : Int) := by rw [hT]; decide
    have hz : V Ieee.double 4841369599423283200 = 4503599627370496 * 2 ^ T := by
      have := V_field T 0 (by omega)
      rw [show (T + 1) * 4503599627370496 + 0 = 4841369599423283200 by omega] at this
      exact this
    have hV : V Ieee.double (a % 9223372036854775808) = a % 9223372036854775808 := by
      unfold V; rw [binade64, if_pos c]
    have hm := mul_rnd Ieee.double T a 4841369599423283200 hl (by rw [rg64, inf64]; exact hf) (by rw [rg64, inf64]; omega)
    rw [rg64, rg64, show 4841369599423283200 % 9223372036854775808 = 4841369599423283200 by omega, hz, hV, ← Nat.mul_assoc, ← he, show sg Ieee.double 4841369599423283200 = false by decide +kernel, Bool.xor_false,
      rnd_eq Ieee.double (n' := (4503599627370496 + t) * 2 ^ f) (d' := 1) (Nat.two_pow_pos T) (by omega) (by rw [Nat.mul_one]), scale_mid f t ht, inf64, Nat.min_eq_left (by omega)] at hm
    have hs : FloatKind.f64.format.mul a 4841369599423283200 = some (Ieee.double.word (sg Ieee.double a) ((f + 1) * 4503599627370496 + t)) := hm
    obtain ⟨y, hy⟩ : ∃ y : Nat, Ieee.double.word (sg Ieee.double a) ((f + 1) * 4503599627370496 + t) = y := ⟨_, rfl⟩
    rw [hy] at hs
    have hmul := fun w : World => run_float_arith (P := Tryd.prog) w .mul 70 .f64 a 4841369599423283200 y hs
    have HY := fhide hy
    have HE : Hid (t < 4503599627370496 ∧ f ≤ 2045 ∧ (52 : Nat) ≤ 52 ∧ (4503599627370496 + t) * 2 ^ f = V Ieee.double (a % 9223372036854775808) * 2 ^ 52) := ⟨ht, by omega, by omega, by rw [hV, he]⟩
    clear hm hs hy he hV hz hl hT ho hsm hsn hr h0 hf ha ht hfl c
    go_enter Tryd.func50, Tryd.ntmps50
    go_wp2_with fail
    refine (HA.out _).mono ?_
    rintro e w1 ⟨rfl, hw1⟩
    have hw1 := hw1.symm
    subst hw1
    go_wp2_with (simp only [ho', hmul])
    go_ret2
    exact ⟨f, t, 52, by rw [HY.out]; rfl, HE.out.1, HE.out.2.1, HE.out.2.2.1, HE.out.2.2.2, rfl⟩
  · obtain ⟨f, t, hft, ht⟩ : ∃ f t : Nat, a % 9223372036854775808 = (f + 1) * 4503599627370496 + t ∧ t < 4503599627370496 := ⟨a % 9223372036854775808 / 4503599627370496 - 1, a % 9223372036854775808 % 4503599627370496, by omega, by omega⟩
    have hV : V Ieee.double (a % 9223372036854775808) = (4503599627370496 + t) * 2 ^ f := by rw [hft, V_field f t ht]
    have hy : Ieee.double.word (sg Ieee.double a) ((f + 1) * 4503599627370496 + t) = a := by
      rw [← hft, sgQ a ha]
      by_cases h9 : 9223372036854775808 ≤ a
      · rw [decide_eq_true h9]
        show 9223372036854775808 + a % 9223372036854775808 = a
        omega
      · rw [decide_eq_false h9]
        show a % 9223372036854775808 = a
        omega
    have HY := fhide hy
    have HE : Hid (t < 4503599627370496 ∧ f ≤ 2045 ∧ (0 : Nat) ≤ 52 ∧ (4503599627370496 + t) * 2 ^ f = V Ieee.double (a % 9223372036854775808) * 2 ^ 0) := ⟨ht, by omega, by omega, by rw [hV]; omega⟩
    have ho' : FloatKind.f64.format.order (a % 9223372036854775808) 4503599627370496 = some .gt ∨ FloatKind.f64.format.order (a % 9223372036854775808) 4503599627370496 = some .eq := by
      rcases Nat.lt_or_ge 4503599627370496 (a % 9223372036854775808) with c2 | c2
      · left; rw [cmp_gt (Int.ofNat_lt.2 (V_lt c2))] at ho; exact ho
      · right
        have : a % 9223372036854775808 = 4503599627370496 := by omega
        rw [this, cmp_eq] at ho
        rw [this]; exact ho
    clear hy hV ho hsm hsn hr h0 hf ha ht hft c
    rcases ho' with ho' | ho'
    all_goals
      go_enter Tryd.func50, Tryd.ntmps50
      go_wp2_with fail
      refine (HA.out _).mono ?_
      rintro e w1 ⟨rfl, hw1⟩
      have hw1 := hw1.symm
      subst hw1
      go_wp2_with (simp only [ho'])
      go_ret2
      exact ⟨f, t, 0, by rw [HY.out]; rfl, HE.out.1, HE.out.2.1, HE.out.2.2.1, HE.out.2.2.2, rfl⟩

end Go.Proofs.YtleeahigceppiaaDoor
