/- A number times a power of 2: by rungs. -/
import Derived.Test.YtolaaemkcmiabaaDoorRB
import Derived.Test.YtolaaemkcmiabaaDoorFJ
/- Rounding keeps the order. -/
namespace Go.Proofs.YtolaaemkcmiabaaDoor
namespace Flt
set_option linter.unusedVariables false
set_option linter.unusedSimpArgs false
open Ieee

theorem rnd_mono (f : Format) (hf : 1 ≤ f.fractionBits) (n d n' d' : Nat) (hd : 0 < d) (hd' : 0 < d') (h : n * d' ≤ n' * d) : rnd f n d ≤ rnd f n' d' := by
  obtain ⟨r, a1, a2, a3⟩ := rnd_spec f hf n d hd
  obtain ⟨s, b1, b2, b3⟩ := rnd_spec f hf n' d' hd'
  rw [a3, b3]
  have hrs : r < s + 1 := by
    rw [← V_lt_iff (f := f)]
    refine Nat.lt_of_mul_lt_mul_right (a := d * d') ?_
    calc V f r * (d * d') = V f r * d * d' := by rw [Nat.mul_assoc]
      _ ≤ n * d' := Nat.mul_le_mul_right _ a1
      _ ≤ n' * d := h
      _ < V f (s + 1) * d' * d := Nat.mul_lt_mul_of_pos_right b2 hd
      _ = V f (s + 1) * (d * d') := by rw [Nat.mul_assoc, Nat.mul_comm d' d]
  rcases Nat.lt_or_ge r s with h1 | h1
  · split <;> split <;> omega
  · have : r = s := by omega
    subst this
    have key : ((V f r + V f (r + 1)) * d < 2 * n ∨ ((V f r + V f (r + 1)) * d = 2 * n ∧ r % 2 = 1)) → ((V f r + V f (r + 1)) * d' < 2 * n' ∨ ((V f r + V f (r + 1)) * d' = 2 * n' ∧ r % 2 = 1)) := by
      generalize V f r + V f (r + 1) = M
      rintro (h2 | ⟨h2, h3⟩)
      · left
        refine Nat.lt_of_mul_lt_mul_right (a := d) ?_
        have := Nat.mul_lt_mul_of_pos_right h2 hd'
        calc M * d' * d = M * d * d' := Nat.mul_right_comm ..
          _ < 2 * n * d' := this
          _ = 2 * (n * d') := Nat.mul_assoc ..
          _ ≤ 2 * (n' * d) := Nat.mul_le_mul_left _ h
          _ = 2 * n' * d := (Nat.mul_assoc ..).symm
      · have h4 : M * d' * d ≤ 2 * n' * d := by
          calc M * d' * d = M * d * d' := Nat.mul_right_comm ..
            _ = 2 * n * d' := by rw [h2]
            _ = 2 * (n * d') := Nat.mul_assoc ..
            _ ≤ 2 * (n' * d) := Nat.mul_le_mul_left _ h
            _ = 2 * n' * d := (Nat.mul_assoc ..).symm
        have h5 := Nat.le_of_mul_le_mul_right h4 hd
        rcases Nat.lt_or_ge (M * d') (2 * n') with h6 | h6
        · exact .inl h6
        · exact .inr ⟨by omega, h3⟩
    by_cases h2 : (V f r + V f (r + 1)) * d < 2 * n ∨ ((V f r + V f (r + 1)) * d = 2 * n ∧ r % 2 = 1)
    · rw [if_pos h2, if_pos (key h2)]; exact Nat.le_refl _
    · rw [if_neg h2]; split <;> omega

theorem rnd_le (f : Format) (hf : 1 ≤ f.fractionBits) (n d R : Nat) (hd : 0 < d) (h : n ≤ V f R * d) : rnd f n d ≤ R := by
  have := rnd_mono f hf n d (V f R) 1 hd (by omega) (by omega)
  rwa [rnd_V] at this
theorem le_rnd (f : Format) (hf : 1 ≤ f.fractionBits) (n d R : Nat) (hd : 0 < d) (h : V f R * d ≤ n) : R ≤ rnd f n d := by
  have := rnd_mono f hf (V f R) 1 n d (by omega) hd (by omega)
  rwa [rnd_V] at this

/-- Between the middles. -/
theorem rnd_mid (f : Format) (hf : 1 ≤ f.fractionBits) (n d : Nat) (hd : 0 < d) :
    (rnd f n d ≠ 0 → (V f (rnd f n d) + V f (rnd f n d - 1)) * d ≤ 2 * n) ∧ 2 * n ≤ (V f (rnd f n d) + V f (rnd f n d + 1)) * d := by
  obtain ⟨r, a1, a2, a3⟩ := rnd_spec f hf n d hd
  by_cases h : (V f r + V f (r + 1)) * d < 2 * n ∨ ((V f r + V f (r + 1)) * d = 2 * n ∧ r % 2 = 1)
  · rw [if_pos h] at a3
    rw [a3]
    refine ⟨fun _ => ?_, ?_⟩
    · rw [Nat.add_sub_cancel, Nat.add_comm (V f (r + 1))]
      rcases h with h | h
      · exact Nat.le_of_lt h
      · exact Nat.le_of_eq h.1
    · have := Nat.mul_le_mul_right d (V_le (f := f) (show r + 1 ≤ r + 1 + 1 by omega))
      rw [Nat.add_mul]; omega
  · rw [if_neg h, Nat.add_zero] at a3
    rw [a3]
    refine ⟨fun _ => ?_, ?_⟩
    · have := Nat.mul_le_mul_right d (V_le (f := f) (show r - 1 ≤ r by omega))
      rw [Nat.add_mul]; omega
    · exact Nat.le_of_not_lt fun e => h (.inl e)
end Flt
end Go.Proofs.YtolaaemkcmiabaaDoor

/- What wakes asks. -/
namespace Go.Proofs.YtolaaemkcmiabaaDoor
open Go.RowKit
open Flt
set_option linter.unusedVariables false
set_option linter.unusedSimpArgs false

set_option maxRecDepth 100000 in
theorem Abs_any (x : Nat) (w : World) (hx : x < 18446744073709551616) : Calls Tryd.prog 50 #[.float .f64 x] w fun e w' => e = .returned (.float .f64 (x % 9223372036854775808)) ∧ w' = w := by
  have ht := tobits64 x
  have hab := b64_abs x hx
  have hf := frombits64 (x % 9223372036854775808)
  generalize x % 9223372036854775808 = r at *
  clear hx
  go_enter Tryd.func50, Tryd.ntmps50
  go_wp2_with (simp only [ht, hab, hf])
  go_ret
  exact ⟨rfl, rfl⟩

theorem and_top64 (x : Nat) (hx : x < 18446744073709551616) : bits BinOp.and IntKind.u64 (x : Int) 9223372036854775808 = ((x / 9223372036854775808 * 9223372036854775808 : Nat) : Int) := by
  by_cases h : x < 9223372036854775808
  · rw [b64_and_lo x h]; have : x / 9223372036854775808 = 0 := by omega
    rw [this]; rfl
  · rw [b64_and_hi x (by omega) hx]; have : x / 9223372036854775808 = 1 := by omega
    rw [this]; rfl
theorem or_top64 (q y : Nat) (hq : q < 2) (hy : y < 9223372036854775808) : bits BinOp.or IntKind.u64 (y : Int) ((q * 9223372036854775808 : Nat) : Int) = ((q * 9223372036854775808 + y : Nat) : Int) := by
  have h : q = 0 ∨ q = 1 := by omega
  rcases h with rfl | rfl
  · have := u64_or_nat y 0 (by omega) (by omega)
    rw [Nat.or_zero] at this
    rw [Nat.zero_mul, Nat.zero_add]; exact this
  · have := b64_or_lo y hy
    rw [Nat.one_mul]; exact this
theorem and_top32' (f : Nat) (hf : f < 4294967296) : bits BinOp.and IntKind.u32 (f : Int) 2147483648 = ((f / 2147483648 * 2147483648 : Nat) : Int) := by
  by_cases h : f < 2147483648
  · rw [b32_and_lo f h]; have : f / 2147483648 = 0 := by omega
    rw [this]; rfl
  · rw [b32_and_hi f (by omega) hf]; have : f / 2147483648 = 1 := by omega
    rw [this]; rfl


/-- How two numbers without a sign stand to each other. -/
theorem order_pos (a b : Nat) (ha : a ≤ 9218868437227405312) (hb : b ≤ 9218868437227405312) : Ieee.double.order a b = some (if a < b then .lt else if b < a then .gt else .eq) := by
  have ra : rg Ieee.double a = a := by rw [rg64]; omega
  have rb : rg Ieee.double b = b := by rw [rg64]; omega
  have sa : ∀ x, x ≤ 9218868437227405312 → sg Ieee.double x = false := by
    intro x hx
    show (x / 9223372036854775808 % 2 == 1) = false
    rw [show x / 9223372036854775808 = 0 by omega]; rfl
  rw [order_all _ (by decide) _ _ (by rw [ra, inf64]; exact ha) (by rw [rb, inf64]; exact hb)]
  unfold sv
  rw [sa a ha, sa b hb, ra, rb]
  simp only [Bool.false_eq_true, if_false]
  rcases Nat.lt_trichotomy a b with h | h | h
  · rw [if_pos h, cmp_lt (by have := V_lt (f := Ieee.double) h; omega)]
  · subst h; rw [if_neg (by omega), if_neg (by omega), cmp_eq]
  · rw [if_neg (by omega), if_pos h, cmp_gt (by have := V_lt (f := Ieee.double) h; omega)]

/-- The nearest binary32, of a number. -/
def nar32 (x : Nat) : Nat := x / 9223372036854775808 * 2147483648 + min (rnd Ieee.single (V Ieee.double (x % 9223372036854775808)) (2 ^ gapE)) 2139095040

theorem rnd_max : rnd Ieee.single (V Ieee.double 5183643170566569984) (2 ^ gapE) = 2139095039 := by decide +kernel
theorem rnd_last : rnd Ieee.single (V Ieee.double 5183643170835005439) (2 ^ gapE) = 2139095039 := by decide +kernel
theorem rnd_beyond : rnd Ieee.single (V Ieee.double 5183643170835005440) (2 ^ gapE) = 2139095040 := by decide +kernel
theorem rnd32_mono {r s : Nat} (h : r ≤ s) : rnd Ieee.single (V Ieee.double r) (2 ^ gapE) ≤ rnd Ieee.single (V Ieee.double s) (2 ^ gapE) :=
  rnd_mono _ (by decide) _ _ _ _ (Nat.two_pow_pos _) (Nat.two_pow_pos _) (Nat.mul_le_mul_right _ (V_le h))

theorem word32 (s : Bool) (R : Nat) (h : R < 2147483648) : Ieee.single.word s R = s.toNat * 2147483648 + R := by
  cases s
  · show R = 0 * 2147483648 + R; omega
  · show 2147483648 + R = 1 * 2147483648 + R; omega

theorem f2f_narrow (x : Nat) (hx : x < 18446744073709551616) (h : x % 9223372036854775808 ≤ 5183643170566569984) : floatToFloatBits .f64 x .f32 = some (nar32 x) := by
  have hu : ∀ (s d : FloatKind) (b : Nat), s ≠ d → floatToFloatBits s b d = match s.decode b with
      | .nan _ _ => none
      | .infinity s => some (d.encode (.infinity s))
      | .number s m e => if (d.decode (d.encode (.number s m e))).isInfinity then none else some (d.encode (.number s m e)) := by
    intro s d b hne
    unfold floatToFloatBits
    rw [if_neg hne]
    cases s.decode b <;> rfl
  have hr : rg Ieee.double x < Ieee.double.infRung := by rw [rg64, inf64]; omega
  obtain ⟨m, k, e1, e2, _⟩ := read_fin Ieee.double x hr
  have e3 := narrow_rnd x hr _ _ _ e1
  rw [rg64, inf32] at e3
  have hle : rnd Ieee.single (V Ieee.double (x % 9223372036854775808)) (2 ^ gapE) ≤ 2139095039 := by rw [← rnd_max]; exact rnd32_mono h
  unfold nar32
  generalize rnd Ieee.single (V Ieee.double (x % 9223372036854775808)) (2 ^ gapE) = R at *
  obtain ⟨R', hR', hRl⟩ : ∃ R', min R 2139095040 = R' ∧ R' < 2139095040 := ⟨_, rfl, by omega⟩
  rw [hR'] at e3 ⊢
  have hw := word32 (sg Ieee.double x) R' (by omega)
  have hs : (sg Ieee.double x).toNat = x / 9223372036854775808 := by
    show (x / 9223372036854775808 % 2 == 1).toNat = _
    have h : x / 9223372036854775808 = 0 ∨ x / 9223372036854775808 = 1 := by omega
    rcases h with h | h <;> rw [h] <;> rfl
  rw [hs] at hw
  have hr2 : rg Ieee.single (Ieee.single.word (sg Ieee.double x) R') < Ieee.single.infRung := by
    have hsw : R' < Ieee.single.signWeight := by show R' < 2147483648; omega
    rw [rg_word _ _ _ hsw, inf32]; exact hRl
  obtain ⟨m', k', g1, _⟩ := read_fin Ieee.single _ hr2
  have hd : FloatKind.f64.decode x = .number (sg Ieee.double x) m (Ieee.double.leastPlace + (k : Int)) := e1
  have he : FloatKind.f32.encode (.number (sg Ieee.double x) m (Ieee.double.leastPlace + (k : Int))) = Ieee.single.word (sg Ieee.double x) R' := e3
  have hf : FloatKind.f32.decode (Ieee.single.word (sg Ieee.double x) R') = _ := g1
  rw [hu _ _ _ (by decide), hd]
  simp only [he, hf, Ieee.Datum.isInfinity]
  rw [hw]
  rfl

theorem run_min64 (w : World) (a b : Nat) (ts : Array TypeId) (t : TypeId) (ha : a ≤ 9218868437227405312) (hb : b ≤ 9218868437227405312) : (Builtin.min_ ts t #[.float .f64 a, .float .f64 b]).run Tryd.prog w = .ok (.float .f64 (min a b)) w := by
  have h : FloatKind.f64.format.order a b = _ := order_pos a b ha hb
  have hd : (FloatKind.f64.decode a).neg = sg Ieee.double a ∨ a = b := by
    by_cases e : a = b
    · exact .inr e
    · left
      rcases Nat.lt_or_ge a 9218868437227405312 with h1 | h1
      · obtain ⟨m, k, e1, _⟩ := read_fin Ieee.double a (by rw [rg64, inf64]; omega)
        rw [show FloatKind.f64.decode a = _ from e1]; rfl
      · rw [show FloatKind.f64.decode a = _ from read_inf Ieee.double a (by decide) (by rw [rg64, inf64]; omega)]; rfl
  unfold Builtin.min_
  simp only [List.foldlM, Builtin.min2, h]
  rcases Nat.lt_trichotomy a b with h1 | h1 | h1
  · simp [h1, Nat.min_eq_left (Nat.le_of_lt h1)]
  · subst h1; simp
  · simp [Nat.lt_asymm h1, h1, Nat.min_eq_right (Nat.le_of_lt h1)]








end Go.Proofs.YtolaaemkcmiabaaDoor

namespace Go.Proofs.YtolaaemkcmiabaaDoor
namespace Flt
open Ieee
set_option linter.unusedVariables false
set_option linter.unusedSimpArgs false

theorem binade64 : double.binade = 4503599627370496 := by decide +kernel

theorem V_field (k t : Nat) (ht : t < 4503599627370496) : V double ((k + 1) * 4503599627370496 + t) = (4503599627370496 + t) * 2 ^ k := by
  unfold V
  rw [binade64, if_neg (by omega), show ((k + 1) * 4503599627370496 + t) / 4503599627370496 = k + 1 by omega, show ((k + 1) * 4503599627370496 + t) % 4503599627370496 = t by omega, Nat.add_sub_cancel]

/-- In the middle: nothing is lost. -/
theorem scale_mid (k t : Nat) (ht : t < 4503599627370496) : rnd double ((4503599627370496 + t) * 2 ^ k) 1 = (k + 1) * 4503599627370496 + t := by
  rw [← V_field k t ht, rnd_V]

/-- Beyond the greatest. -/
theorem scale_great (k t : Nat) (hk : 2046 ≤ k) : double.infRung ≤ rnd double ((4503599627370496 + t) * 2 ^ k) 1 := by
  refine le_rnd double (by decide) _ _ _ (by omega) ?_
  obtain ⟨q, hq⟩ : ∃ q : Nat, q = 2046 := ⟨_, rfl⟩
  have h1 : double.infRung = (q + 1) * 4503599627370496 + 0 := by
    rw [hq]; decide +kernel
  rw [h1, V_field q 0 (by omega), Nat.mul_one]
  exact Nat.mul_le_mul (by omega) (Nat.pow_le_pow_right (by omega) (by omega))

/-- Beneath half the least. -/
theorem scale_less (c t : Nat) (hc : 54 ≤ c) (ht : t < 4503599627370496) : rnd double (4503599627370496 + t) (2 ^ c) = 0 := by
  obtain ⟨r, h1, h2, h3⟩ := rnd_spec double (by decide) (4503599627370496 + t) (2 ^ c) (Nat.two_pow_pos _)
  have hd : 18014398509481984 ≤ 2 ^ c := by
    have := Nat.pow_le_pow_right (n := 2) (by omega) hc
    simpa using this
  generalize 2 ^ c = d at *
  have hr : r = 0 := by
    rcases Nat.eq_zero_or_pos r with h | h
    · exact h
    · exfalso
      have h4 : V double 0 < V double r := V_lt h
      have h5 : 1 * d ≤ V double r * d := Nat.mul_le_mul_right d (by omega)
      omega
  subst hr
  have v0 : V double 0 = 0 := by decide +kernel
  have v1 : V double (0 + 1) = 1 := by decide +kernel
  rw [h3, v0, v1, if_neg (by omega)]

/-- Between: by a product that is rounded once. -/
theorem scale_low (T c t : Nat) (hT : T = 1074) (h1 : 1 ≤ c) (h2 : c ≤ 53) (ht : t < 4503599627370496) :
    rnd double (V double ((53 - c + 1) * 4503599627370496 + t) * V double 4368491638549381120) (2 ^ T) = rnd double (4503599627370496 + t) (2 ^ c) := by
  obtain ⟨q, hq⟩ : ∃ q : Nat, q = 969 := ⟨_, rfl⟩
  obtain ⟨s, hs⟩ : ∃ s : Nat, s = 52 := ⟨_, rfl⟩
  have hz : V double 4368491638549381120 = 2 ^ s * 2 ^ q := by
    have := V_field q 0 (by omega)
    rw [show (q + 1) * 4503599627370496 + 0 = 4368491638549381120 by omega] at this
    rw [this, show 2 ^ s = 4503599627370496 by rw [hs]]
  rw [V_field _ t ht, hz]
  refine rnd_eq double (Nat.two_pow_pos _) (Nat.two_pow_pos _) ?_
  rw [Nat.mul_assoc, Nat.mul_assoc, ← Nat.pow_add, ← Nat.pow_add, ← Nat.pow_add]
  exact congrArg ((4503599627370496 + t) * 2 ^ ·) (by omega)

end Flt
end Go.Proofs.YtolaaemkcmiabaaDoor
