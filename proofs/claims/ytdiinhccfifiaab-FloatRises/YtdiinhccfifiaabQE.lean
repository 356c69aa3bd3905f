/- Rounding to whole numbers, narrowing and widening keep the order; notAbove. -/
import Derived.Test.YtdiinhccfifiaabQD
import Derived.Test.YtdiinhccfifiaabNW
import Derived.Test.YtdiinhccfifiaabPK
namespace Go.Proofs.Ytdiinhccfifiaab
open Go.RowKit
open Flt
set_option linter.unusedVariables false
set_option linter.unusedSimpArgs false

theorem e64 : 1 ≤ Ieee.double.exponentBits := by decide
theorem f64' : 1 ≤ Ieee.double.fractionBits := by decide

/-- The whole number to which a number is rounded, as a float. -/
def evn (a : Nat) : Nat := Ieee.double.write ((Ieee.double.read a).integral .even)

theorem evn_fin (T a : Nat) (hT : T = 1074) (ha : rg Ieee.double a < Ieee.double.infRung) : evn a = Ieee.double.word (sg Ieee.double a) (min (rnd Ieee.double (cutE (V Ieee.double (rg Ieee.double a)) (2 ^ T) * 2 ^ T) 1) Ieee.double.infRung) := by
  obtain ⟨m, k, e1, e2, _⟩ := read_fin Ieee.double a ha
  have hl : Ieee.double.leastPlace = -1074 := by decide
  unfold evn
  rw [e1]
  simp only [Ieee.Datum.integral, Ieee.Format.write]
  rw [cut_even, nearest_rnd, Nat.shiftLeft_eq, hl]
  rw [show (0 - (-1074) : Int).toNat = T by omega, show (-1074 - 0 : Int).toNat = 0 by omega, Nat.pow_zero]
  refine congrArg _ (congrArg (min · _) (congrArg (rnd _ · 1) (congrArg (· * _) ?_)))
  refine cutE_eq (Nat.two_pow_pos _) (Nat.two_pow_pos _) ?_
  rw [← e2, Nat.mul_assoc, Nat.mul_assoc, ← Nat.pow_add, ← Nat.pow_add]
  congr 2; omega
theorem evn_inf (a : Nat) (ha : rg Ieee.double a = Ieee.double.infRung) : evn a = Ieee.double.word (sg Ieee.double a) Ieee.double.infRung := by
  unfold evn
  rw [read_inf Ieee.double a (by decide) ha]
  rfl
theorem evn_num (a : Nat) (ha : rg Ieee.double a ≤ Ieee.double.infRung) : rg Ieee.double (evn a) ≤ Ieee.double.infRung ∧ evn a < 18446744073709551616 := by
  refine ⟨rg_write _ _ ?_, Ieee.double.write_lt _⟩
  rcases Nat.lt_or_ge (rg Ieee.double a) Ieee.double.infRung with h | h
  · obtain ⟨m, k, e1, _⟩ := read_fin Ieee.double a h
    rw [e1]; rfl
  · rw [read_inf Ieee.double a (by decide) (by omega)]; rfl
theorem evn_mono (a b : Nat) (ha : rg Ieee.double a ≤ Ieee.double.infRung) (hb : rg Ieee.double b ≤ Ieee.double.infRung) (h : sv Ieee.double a ≤ sv Ieee.double b) : sv Ieee.double (evn a) ≤ sv Ieee.double (evn b) := by
  have ba := sv_bound _ _ (evn_num a ha).1
  have bb := sv_bound _ _ (evn_num b hb).1
  rcases sv_cases e64 ha hb h with ⟨h1, h2⟩ | ⟨h1, h2⟩ | ⟨h1, h2⟩
  · rw [evn_inf a h1, h2, sv_word_inf]; exact bb.1
  · rw [evn_inf b h1, h2, sv_word_inf]; exact ba.2
  · obtain ⟨T, hT⟩ : ∃ T : Nat, T = 1074 := ⟨_, rfl⟩
    rw [evn_fin T a hT h1, evn_fin T b hT h2, sv_word, sv_word]
    have z : ∀ n : Nat, n = 0 → rnd Ieee.double (cutE n (2 ^ T) * 2 ^ T) 1 = 0 := by
      intro n hn
      rw [hn]
      have : cutE 0 (2 ^ T) = 0 := by unfold cutE; simp
      rw [this, Nat.zero_mul, rnd_zero]
    have m : ∀ n n' : Nat, n ≤ n' → rnd Ieee.double (cutE n (2 ^ T) * 2 ^ T) 1 ≤ rnd Ieee.double (cutE n' (2 ^ T) * 2 ^ T) 1 := by
      intro n n' hn
      refine rnd_mono _ f64' _ _ _ _ (by omega) (by omega) ?_
      rw [Nat.mul_one, Nat.mul_one]
      exact Nat.mul_le_mul_right _ (cutE_mono n n' _ (Nat.two_pow_pos _) hn)
    exact mI_mono _ _ _ _ _ _ _ h (m _ _) (m _ _) (z _) (z _)

theorem toInt_is (name : String) (way : Ieee.Toward) (a : Nat) : Extern.MathFloor.toIntegral name way #[.float .f64 a] = (match FloatKind.f64.decode a with
    | .nan s t =>
      if FloatKind.f64.format.quiet t = t then pure (.float .f64 a) else do
      let kept ← choose (.extern "math.Floor,Ceil,Trunc,RoundToEven.signallingNaN kept" 2)
      pure (.float .f64 (if kept == 1 then a else FloatKind.f64.encode (.nan s (FloatKind.f64.format.quiet t))))
    | d => pure (.float .f64 (FloatKind.f64.encode (d.integral way)))) := rfl
theorem run_even (a : Nat) (w : World) (ha : rg Ieee.double a ≤ Ieee.double.infRung) : (callFunc 93 #[.float .f64 a]).run Try.prog w = .ok (.value (.float .f64 (evn a))) w := by
  rw [run_callFunc_extern Try.func93 (by kernel_rfl) (by kernel_rfl) (by kernel_rfl) (e := Extern.MathFloor.toIntegral "math.RoundToEven" .even) (by kernel_rfl), toInt_is]
  rcases Nat.lt_or_ge (rg Ieee.double a) Ieee.double.infRung with h | h
  · obtain ⟨m, k, e1, _⟩ := read_fin Ieee.double a h
    have hd : FloatKind.f64.decode a = _ := e1
    have he : evn a = FloatKind.f64.encode ((Ieee.Datum.number (sg Ieee.double a) m (Ieee.double.leastPlace + (k : Int))).integral .even) := by
      unfold evn; rw [e1]; rfl
    rw [he, hd]
    rfl
  · have e1 := read_inf Ieee.double a (by decide) (by omega)
    have hd : FloatKind.f64.decode a = _ := e1
    have he : evn a = FloatKind.f64.encode ((Ieee.Datum.infinity (sg Ieee.double a)).integral .even) := by
      unfold evn; rw [e1]; rfl
    rw [he, hd]
    rfl

set_option maxRecDepth 100000 in
theorem whole_even (a : Nat) (w : World) (ha : rg Ieee.double a ≤ Ieee.double.infRung) : Calls Try.prog 68 #[.float .f64 a, .int .i64 0] w fun e w' => e = .returned (.tuple #[.float .f64 (evn a), .bool true]) ∧ w' = w := by
  have hs := fun w : World => run_even a w ha
  clear ha
  generalize evn a = r at *
  go_enter Try.func68, Try.ntmps68
  go_wp2_with (simp only [hs])
  go_ret2
  exact ⟨rfl, rfl⟩

set_option maxRecDepth 100000 in
theorem Round_even (a : Nat) (w : World) (ha : rg Ieee.double a ≤ Ieee.double.infRung) : Calls Try.prog 25 #[.int .u64 a, .int .i64 0] w fun e w' => e = .returned (.tuple #[.int .u64 (evn a : Nat), .int .i64 0]) ∧ Below w.heap.size w w' := by
  have HW := fhide (fun w : World => whole_even a w ha)
  have HP := fhide (fun w : World => pattern64_any (evn a) w (evn_num a ha).2)
  rw [pat64_num (evn a) (by have := (evn_num a ha).1; rwa [rg64, inf64] at this)] at HP
  clear ha
  generalize evn a = r at *
  go_enter Try.func25, Try.ntmps25
  go_wp2_with fail
  refine (value64_any a _).mono ?_
  rintro e w1 ⟨rfl, hw1⟩
  have hw1 := hw1.symm
  subst hw1
  go_wp2_with fail
  refine (HW.out _).mono ?_
  rintro e w1 ⟨rfl, hw1⟩
  have hw1 := hw1.symm
  subst hw1
  go_wp2_with fail
  refine (HP.out _).mono ?_
  rintro e w1 ⟨rfl, hb1⟩
  go_wp2_with fail
  go_ret2
  exact ⟨rfl, hb1⟩

/-- Not above, or one of them a NaN. -/
def NotAb (x y : Nat) : Prop := 9218868437227405312 < x % 9223372036854775808 ∨ 9218868437227405312 < y % 9223372036854775808 ∨ sv Ieee.double x ≤ sv Ieee.double y

set_option maxRecDepth 100000 in
theorem notAbove_any (x y : Nat) (w : World) (h : NotAb x y) : Calls Try.prog 27 #[.int .u64 x, .int .u64 y] w fun e w' => e = .returned (.bool true) ∧ Below w.heap.size w w' := by
  have HC := fhide (fun w : World => Cmp64_any x y w)
  have ho : Ieee.double.order x y = none ∨ Ieee.double.order x y = some .lt ∨ Ieee.double.order x y = some .eq := by
    by_cases hn : 9218868437227405312 < x % 9223372036854775808 ∨ 9218868437227405312 < y % 9223372036854775808
    · left
      exact order_nan _ (by decide) _ _ (by rw [rg64, rg64, inf64]; exact hn)
    · right
      have hle : sv Ieee.double x ≤ sv Ieee.double y := by
        rcases h with h | h | h
        · exact absurd (Or.inl h) hn
        · exact absurd (Or.inr h) hn
        · exact h
      rw [order_all _ (by decide) _ _ (by rw [rg64, inf64]; omega) (by rw [rg64, inf64]; omega)]
      rcases Int.lt_or_eq_of_le hle with h1 | h1
      · left; rw [cmp_lt h1]
      · right; rw [h1, cmp_eq]
  clear h
  generalize Ieee.double.order x y = o at *
  rcases ho with rfl | rfl | rfl
  all_goals
    go_enter Try.func27, Try.ntmps27
    go_wp2_with fail
    refine (HC.out _).mono ?_
    rintro e w1 ⟨rfl, hw1⟩
    have hw1 := hw1.symm
    subst hw1
    go_wp2_with (simp only [cmpI])
    go_ret
    exact ⟨rfl, Below.refl _ _⟩

/-- What is told of two operations. -/
theorem notAb_told {o p : Option Nat} (h : ∀ r s, o = some r → p = some s → sv Ieee.double r ≤ sv Ieee.double s) : NotAb (told64 o) (told64 p) := by
  cases o with
  | none => left; show 9218868437227405312 < 9221120237041090560 % 9223372036854775808; omega
  | some r =>
    cases p with
    | none => right; left; show 9218868437227405312 < 9221120237041090560 % 9223372036854775808; omega
    | some s => right; right; exact h r s rfl rfl

theorem sv_nar (a : Nat) (ha : a < 18446744073709551616) : sv Ieee.single (nar32 a) = mI Ieee.single (sg Ieee.double a) (rnd Ieee.single (V Ieee.double (rg Ieee.double a)) (2 ^ gapE)) ∧ nar32 a % 2147483648 ≤ 2139095040 := by
  have hs : (sg Ieee.double a).toNat = a / 9223372036854775808 := by
    show (a / 9223372036854775808 % 2 == 1).toNat = _
    have h : a / 9223372036854775808 = 0 ∨ a / 9223372036854775808 = 1 := by omega
    rcases h with h | h <;> rw [h] <;> rfl
  have e : nar32 a = Ieee.single.word (sg Ieee.double a) (min (rnd Ieee.single (V Ieee.double (rg Ieee.double a)) (2 ^ gapE)) Ieee.single.infRung) := by
    rw [inf32, word32 _ _ (by omega), hs]; rfl
  refine ⟨by rw [e, sv_word], ?_⟩
  unfold nar32
  generalize rnd Ieee.single (V Ieee.double (a % 9223372036854775808)) (2 ^ gapE) = R
  omega

theorem wid_ends (f : Nat) (hf : f < 4294967296) (h : f % 2147483648 ≤ 2139095040) : wid f < 18446744073709551616 ∧ rg Ieee.double (wid f) ≤ Ieee.double.infRung ∧ sg Ieee.double (wid f) = sg Ieee.single f ∧ (f % 2147483648 = 2139095040 → rg Ieee.double (wid f) = Ieee.double.infRung) ∧ (f % 2147483648 < 2139095040 → V Ieee.double (rg Ieee.double (wid f)) = V Ieee.single (rg Ieee.single f) * 2 ^ gapE) := by
  obtain ⟨x, x1, x2, x3, x4, x5, x6, x7⟩ := f2f_wide f hf (by omega)
  rw [wid_of f x hf (by omega) x5 x6 x7]
  refine ⟨x2, by rw [rg64, inf64]; omega, ?_, fun h => by rw [rg64, inf64]; exact x6.2 h, fun h => by rw [rg64, rg32]; exact x7 h⟩
  show (x / 9223372036854775808 % 2 == 1) = (f / 2147483648 % 2 == 1)
  rw [x5]

theorem wid_mono (f g : Nat) (hf : f < 4294967296) (hg : g < 4294967296) (nf : f % 2147483648 ≤ 2139095040) (ng : g % 2147483648 ≤ 2139095040) (h : sv Ieee.single f ≤ sv Ieee.single g) : sv Ieee.double (wid f) ≤ sv Ieee.double (wid g) := by
  obtain ⟨_, rf, sf, f1, f2⟩ := wid_ends f hf nf
  obtain ⟨_, rg', sg', g1, g2⟩ := wid_ends g hg ng
  have bf := sv_bound _ _ rf
  have bg := sv_bound _ _ rg'
  have hi : ∀ x, rg Ieee.double x = Ieee.double.infRung → sv Ieee.double x = if sg Ieee.double x then -((V Ieee.double Ieee.double.infRung : Nat) : Int) else ((V Ieee.double Ieee.double.infRung : Nat) : Int) := by
    intro x hx; unfold sv; rw [hx]
  rcases sv_cases (f := Ieee.single) (by decide) (by rw [rg32, inf32]; exact nf) (by rw [rg32, inf32]; exact ng) h with ⟨h1, h2⟩ | ⟨h1, h2⟩ | ⟨h1, h2⟩
  · rw [rg32, inf32] at h1
    rw [hi _ (f1 h1), sf, h2]; exact bg.1
  · rw [rg32, inf32] at h1
    rw [hi _ (g1 h1), sg', h2]; exact bf.2
  · rw [rg32, inf32] at h1 h2
    have e : ∀ x, x % 2147483648 < 2139095040 → sg Ieee.double (wid x) = sg Ieee.single x → V Ieee.double (rg Ieee.double (wid x)) = V Ieee.single (rg Ieee.single x) * 2 ^ gapE → sv Ieee.double (wid x) = sv Ieee.single x * ((2 ^ gapE : Nat) : Int) := by
      intro x _ hs hv
      rw [sv_signed, sv_signed, hs, hv, signed_scale, Nat.zero_add]
    rw [e f h1 sf (f2 h1), e g h2 sg' (g2 h2)]
    exact Int.mul_le_mul_of_nonneg_right h (Int.natCast_nonneg _)

theorem narrow_mono (a b : Nat) (ha : a < 18446744073709551616) (hb : b < 18446744073709551616) (na : a % 9223372036854775808 ≤ 9218868437227405312) (nb : b % 9223372036854775808 ≤ 9218868437227405312) (h : sv Ieee.double a ≤ sv Ieee.double b) : NotAb (wid (narr a)) (wid (narr b)) := by
  right; right
  unfold narr
  rw [if_neg (by omega), if_neg (by omega)]
  obtain ⟨s1, n1⟩ := sv_nar a ha
  obtain ⟨s2, n2⟩ := sv_nar b hb
  refine wid_mono _ _ (nar32_lt a ha) (nar32_lt b hb) n1 n2 ?_
  rw [s1, s2]
  have m : ∀ n n' : Nat, n ≤ n' → rnd Ieee.single n (2 ^ gapE) ≤ rnd Ieee.single n' (2 ^ gapE) := fun n n' hn => rnd_mono _ (by decide) _ _ _ _ (Nat.two_pow_pos _) (Nat.two_pow_pos _) (Nat.mul_le_mul_right _ hn)
  exact mI_mono _ _ _ _ _ _ _ h (m _ _) (m _ _) (fun h => by rw [h, rnd_zero]) (fun h => by rw [h, rnd_zero])

/-- By their places. -/
theorem sv_key (a b : Nat) (ha : a < 18446744073709551616) (hb : b < 18446744073709551616) (na : a % 9223372036854775808 ≤ 9218868437227405312) (nb : b % 9223372036854775808 ≤ 9218868437227405312) (h : key64 a ≤ key64 b) : sv Ieee.double a ≤ sv Ieee.double b := by
  have hm := fun {r s : Nat} (h : r ≤ s) => V_le (f := Ieee.double) h
  rw [sv_signed, sv_signed]
  have sga : ∀ x, x < 18446744073709551616 → sg Ieee.double x = decide (9223372036854775808 ≤ x) := fun x hx => sg64 x hx
  rw [sga a ha, sga b hb, rg64, rg64]
  unfold key64 at h
  unfold Ieee.signed
  simp only [Nat.shiftLeft_eq, Nat.pow_zero, Nat.mul_one]
  by_cases h1 : a < 9223372036854775808
  · by_cases h2 : b < 9223372036854775808
    · rw [if_pos h1, if_pos h2] at h
      rw [decide_eq_false (by omega), decide_eq_false (by omega)]
      have := hm (show a % 9223372036854775808 ≤ b % 9223372036854775808 by omega)
      simp only [Bool.false_eq_true, if_false]; omega
    · rw [if_pos h1, if_neg h2] at h; omega
  · by_cases h2 : b < 9223372036854775808
    · rw [decide_eq_true (by omega), decide_eq_false (by omega)]
      simp only [Bool.false_eq_true, if_false, if_true]; omega
    · rw [if_neg h1, if_neg h2] at h
      rw [decide_eq_true (by omega), decide_eq_true (by omega)]
      have := hm (show b % 9223372036854775808 ≤ a % 9223372036854775808 by omega)
      simp only [if_true]; omega
end Go.Proofs.Ytdiinhccfifiaab
