/- Numbers made whole: the program's whole, Round, ToInt. -/
import Derived.Test.YtmkploknoohliaaGreatRI
import Derived.Test.YtmkploknoohliaaGreatFQ
namespace Go.Proofs.YtmkploknoohliaaGreat
open Go.RowKit
open Flt
set_option linter.unusedVariables false
set_option linter.unusedSimpArgs false

/-- What is told of a float64 that is made whole. -/
def IsWhole (T mode a x : Nat) : Prop := x < 18446744073709551616 ∧ (9218868437227405312 < a % 9223372036854775808 → 9218868437227405312 < x % 9223372036854775808) ∧ (a % 9223372036854775808 = 9218868437227405312 → x = a) ∧
  (a % 9223372036854775808 < 9218868437227405312 → x = ent T (sg Ieee.double a) (whl mode (sg Ieee.double a) (V Ieee.double (rg Ieee.double a)) (2 ^ T)))

theorem ent_lt (T : Nat) (s : Bool) (K : Nat) : ent T s K < 18446744073709551616 ∧ ent T s K % 9223372036854775808 ≤ 9218868437227405312 := by
  unfold ent
  rw [inf64]
  obtain ⟨w1, w2, _⟩ := word64 s (min (rnd Ieee.double (K * 2 ^ T) 1) 9218868437227405312) (by omega)
  exact ⟨w1, by omega⟩

theorem toInt_as (name : String) (way : Ieee.Toward) (a : Nat) : Extern.MathFloor.toIntegral name way #[.float .f64 a] = (match FloatKind.f64.decode a with
    | .nan s t =>
      if FloatKind.f64.format.quiet t = t then pure (.float .f64 a) else do
      let kept ← choose (.extern "math.Floor,Ceil,Trunc,RoundToEven.signallingNaN kept" 2)
      pure (.float .f64 (if kept == 1 then a else FloatKind.f64.encode (.nan s (FloatKind.f64.format.quiet t))))
    | d => pure (.float .f64 (FloatKind.f64.encode (d.integral way)))) := rfl

theorem quiet_nan (s : Bool) (t : Nat) (h : t < 4503599627370496) : FloatKind.f64.encode (.nan s (FloatKind.f64.format.quiet t)) < 18446744073709551616 ∧ 9218868437227405312 < FloatKind.f64.encode (.nan s (FloatKind.f64.format.quiet t)) % 9223372036854775808 := by
  have hq : FloatKind.f64.format.quiet t = t ||| 2 ^ 51 := rfl
  have h1 : 2 ^ 51 ≤ t ||| 2 ^ 51 := Nat.right_le_or
  have h2 : t ||| 2 ^ 51 < 2 ^ 52 := Nat.or_lt_two_pow (by omega) (by omega)
  rw [hq]
  have hB : Ieee.double.binade = 4503599627370496 := by decide
  show Ieee.double.word s (Ieee.double.infRung + (t ||| 2 ^ 51) % Ieee.double.binade) < _ ∧ _ < Ieee.double.word s (Ieee.double.infRung + (t ||| 2 ^ 51) % Ieee.double.binade) % _
  rw [hB, inf64, Nat.mod_eq_of_lt (by omega)]
  generalize t ||| 2 ^ 51 = q at *
  obtain ⟨w1, w2, _⟩ := word64 s (9218868437227405312 + q) (by omega)
  exact ⟨w1, by omega⟩

theorem toInt_run (T : Nat) (hT : T = 1074) (name : String) (mode a : Nat) (hm : mode = 0 ∨ mode = 2 ∨ mode = 3 ∨ mode = 4) (ha : a < 18446744073709551616) (w : World) : ∃ x w', IsWhole T mode a x ∧ (w' = w ∨ w' = w.drew) ∧ (Extern.MathFloor.toIntegral name (wayOf mode) #[.float .f64 a]).run Tryz.prog w = .ok (.float .f64 x) w' := by
  rw [toInt_as]
  rcases Nat.lt_trichotomy (a % 9223372036854775808) 9218868437227405312 with h | h | h
  · have hr : rg Ieee.double a < Ieee.double.infRung := by rw [rg64, inf64]; exact h
    obtain ⟨m, k, e1, _⟩ := read_fin Ieee.double a hr
    have hd : FloatKind.f64.decode a = _ := e1
    have hi := integral_fin T hT mode a hm hr
    rw [e1] at hi
    have hl := ent_lt T (sg Ieee.double a) (whl mode (sg Ieee.double a) (V Ieee.double (rg Ieee.double a)) (2 ^ T))
    refine ⟨_, w, ⟨hl.1, fun h' => by omega, fun h' => by omega, fun _ => rfl⟩, .inl rfl, ?_⟩
    rw [hd, ← hi]
    rfl
  · have e1 := read_inf Ieee.double a (by decide) (by rw [rg64, inf64]; exact h)
    have hd : FloatKind.f64.decode a = _ := e1
    have hself := word_self Ieee.double a (show a < 2 * 9223372036854775808 by omega)
    rw [rg64, h] at hself
    refine ⟨a, w, ⟨ha, fun h' => by omega, fun _ => rfl, fun h' => by omega⟩, .inl rfl, ?_⟩
    rw [hd]
    show Result.ok (Value.float .f64 (Ieee.double.word (sg Ieee.double a) Ieee.double.infRung)) w = _
    rw [inf64, hself]
  · have e1 := read_nan Ieee.double a (by decide) (by rw [rg64, inf64]; exact h)
    have hd : FloatKind.f64.decode a = _ := e1
    rw [hd]
    have ht : rg Ieee.double a - Ieee.double.infRung < 4503599627370496 := by rw [rg64, inf64]; omega
    generalize rg Ieee.double a - Ieee.double.infRung = t at *
    by_cases hq : FloatKind.f64.format.quiet t = t
    · refine ⟨a, w, ⟨ha, fun _ => h, fun h' => by omega, fun h' => by omega⟩, .inl rfl, ?_⟩
      simp [hq]
    · obtain ⟨q1, q2⟩ := quiet_nan (sg Ieee.double a) t ht
      obtain ⟨kp, hkp⟩ : ∃ kp : Nat, Question.cut (.extern "math.Floor,Ceil,Trunc,RoundToEven.signallingNaN kept" 2) (w.tape w.drawn (.extern "math.Floor,Ceil,Trunc,RoundToEven.signallingNaN kept" 2)) = kp := ⟨_, rfl⟩
      refine ⟨if kp == 1 then a else FloatKind.f64.encode (.nan (sg Ieee.double a) (FloatKind.f64.format.quiet t)), w.drew, ⟨?_, fun _ => ?_, fun h' => by omega, fun h' => by omega⟩, .inr rfl, ?_⟩
      · split
        · exact ha
        · exact q1
      · split
        · exact h
        · exact q2
      · simp [hq, Question.forced, hkp]

theorem run_evenW (T : Nat) (hT : T = 1074) (a : Nat) (ha : a < 18446744073709551616) (w : World) : ∃ x w', IsWhole T 0 a x ∧ (w' = w ∨ w' = w.drew) ∧ (callFunc 51 #[.float .f64 a]).run Tryz.prog w = .ok (.value (.float .f64 x)) w' := by
  obtain ⟨x, w', h1, h2, h3⟩ := toInt_run T hT "math.RoundToEven" 0 a (by simp) ha w
  refine ⟨x, w', h1, h2, ?_⟩
  rw [run_callFunc_extern Tryz.func51 (by kernel_rfl) (by kernel_rfl) (by kernel_rfl) (e := Extern.MathFloor.toIntegral "math.RoundToEven" .even) (by kernel_rfl)]
  rw [show Extern.MathFloor.toIntegral "math.RoundToEven" .even = Extern.MathFloor.toIntegral "math.RoundToEven" (wayOf 0) from rfl, h3]
  rfl
theorem run_truncW (T : Nat) (hT : T = 1074) (a : Nat) (ha : a < 18446744073709551616) (w : World) : ∃ x w', IsWhole T 2 a x ∧ (w' = w ∨ w' = w.drew) ∧ (callFunc 81 #[.float .f64 a]).run Tryz.prog w = .ok (.value (.float .f64 x)) w' := by
  obtain ⟨x, w', h1, h2, h3⟩ := toInt_run T hT "math.archTrunc" 2 a (by simp) ha w
  refine ⟨x, w', h1, h2, ?_⟩
  rw [run_callFunc_extern Tryz.func81 (by kernel_rfl) (by kernel_rfl) (by kernel_rfl) (e := Extern.MathFloor.toIntegral "math.archTrunc" .zero) (by kernel_rfl)]
  rw [show Extern.MathFloor.toIntegral "math.archTrunc" .zero = Extern.MathFloor.toIntegral "math.archTrunc" (wayOf 2) from rfl, h3]
  rfl
theorem run_floorW (T : Nat) (hT : T = 1074) (a : Nat) (ha : a < 18446744073709551616) (w : World) : ∃ x w', IsWhole T 3 a x ∧ (w' = w ∨ w' = w.drew) ∧ (callFunc 83 #[.float .f64 a]).run Tryz.prog w = .ok (.value (.float .f64 x)) w' := by
  obtain ⟨x, w', h1, h2, h3⟩ := toInt_run T hT "math.archFloor" 3 a (by simp) ha w
  refine ⟨x, w', h1, h2, ?_⟩
  rw [run_callFunc_extern Tryz.func83 (by kernel_rfl) (by kernel_rfl) (by kernel_rfl) (e := Extern.MathFloor.toIntegral "math.archFloor" .down) (by kernel_rfl)]
  rw [show Extern.MathFloor.toIntegral "math.archFloor" .down = Extern.MathFloor.toIntegral "math.archFloor" (wayOf 3) from rfl, h3]
  rfl
theorem run_ceilW (T : Nat) (hT : T = 1074) (a : Nat) (ha : a < 18446744073709551616) (w : World) : ∃ x w', IsWhole T 4 a x ∧ (w' = w ∨ w' = w.drew) ∧ (callFunc 85 #[.float .f64 a]).run Tryz.prog w = .ok (.value (.float .f64 x)) w' := by
  obtain ⟨x, w', h1, h2, h3⟩ := toInt_run T hT "math.archCeil" 4 a (by simp) ha w
  refine ⟨x, w', h1, h2, ?_⟩
  rw [run_callFunc_extern Tryz.func85 (by kernel_rfl) (by kernel_rfl) (by kernel_rfl) (e := Extern.MathFloor.toIntegral "math.archCeil" .up) (by kernel_rfl)]
  rw [show Extern.MathFloor.toIntegral "math.archCeil" .up = Extern.MathFloor.toIntegral "math.archCeil" (wayOf 4) from rfl, h3]
  rfl
set_option maxRecDepth 100000 in
theorem Trunc_any (T : Nat) (hT : T = 1074) (a : Nat) (w : World) (ha : a < 18446744073709551616) : Calls Tryz.prog 53 #[.float .f64 a] w fun e w' => ∃ x, IsWhole T 2 a x ∧ e = .returned (.float .f64 x) ∧ Below w.heap.size w w' := by
  obtain ⟨x, w', h1, h2, h3⟩ := run_truncW T hT a ha w
  have H1 := fhide h1
  have H2 : Hid (Below w.heap.size w w') := by
    show Below _ _ _
    rcases h2 with rfl | rfl
    · exact Below.refl _ _
    · exact (Below.refl _ _).drew
  clear h1 h2 ha hT
  go_enter Tryz.func53, Tryz.ntmps53
  go_wp2_with (simp only [h3])
  go_ret
  exact ⟨x, H1.out, rfl, H2.out⟩
set_option maxRecDepth 100000 in
theorem Floor_any (T : Nat) (hT : T = 1074) (a : Nat) (w : World) (ha : a < 18446744073709551616) : Calls Tryz.prog 54 #[.float .f64 a] w fun e w' => ∃ x, IsWhole T 3 a x ∧ e = .returned (.float .f64 x) ∧ Below w.heap.size w w' := by
  obtain ⟨x, w', h1, h2, h3⟩ := run_floorW T hT a ha w
  have H1 := fhide h1
  have H2 : Hid (Below w.heap.size w w') := by
    show Below _ _ _
    rcases h2 with rfl | rfl
    · exact Below.refl _ _
    · exact (Below.refl _ _).drew
  clear h1 h2 ha hT
  go_enter Tryz.func54, Tryz.ntmps54
  go_wp2_with (simp only [h3])
  go_ret
  exact ⟨x, H1.out, rfl, H2.out⟩
set_option maxRecDepth 100000 in
theorem Ceil_any (T : Nat) (hT : T = 1074) (a : Nat) (w : World) (ha : a < 18446744073709551616) : Calls Tryz.prog 55 #[.float .f64 a] w fun e w' => ∃ x, IsWhole T 4 a x ∧ e = .returned (.float .f64 x) ∧ Below w.heap.size w w' := by
  obtain ⟨x, w', h1, h2, h3⟩ := run_ceilW T hT a ha w
  have H1 := fhide h1
  have H2 : Hid (Below w.heap.size w w') := by
    show Below _ _ _
    rcases h2 with rfl | rfl
    · exact Below.refl _ _
    · exact (Below.refl _ _).drew
  clear h1 h2 ha hT
  go_enter Tryz.func55, Tryz.ntmps55
  go_wp2_with (simp only [h3])
  go_ret
  exact ⟨x, H1.out, rfl, H2.out⟩

theorem low_mask (g : Nat) (hg : g ≤ 52) (b : Nat) (hb : b < 18446744073709551616) : bits BinOp.andNot IntKind.u64 (b : Int) ((2 ^ g - 1 : Nat) : Int) = ((b / 2 ^ g * 2 ^ g : Nat) : Int) := by
  have hp := Nat.two_pow_pos g
  have hl : 2 ^ g ≤ 2 ^ 52 := Nat.pow_le_pow_right (by omega) hg
  have := u64_andNot_nat b (2 ^ g - 1) hb (by omega)
  rw [this]
  have e : b &&& (18446744073709551615 - (2 ^ g - 1)) = b / 2 ^ g * 2 ^ g := by
    have h1 : 18446744073709551615 - (2 ^ g - 1) = (2 ^ (64 - g) - 1) * 2 ^ g := by
      rw [Nat.sub_mul, ← Nat.pow_add, show 64 - g + g = 64 by omega]; omega
    rw [h1, n_mask b g (64 - g), Nat.mod_eq_of_lt]
    rw [Nat.div_lt_iff_lt_mul hp, ← Nat.pow_add, show 64 - g + g = 64 by omega]; exact hb
  rw [e]

set_option maxRecDepth 100000 in
set_option maxHeartbeats 1000000 in
theorem RoundAway_any (T : Nat) (hT : T = 1074) (a : Nat) (w : World) (ha : a < 18446744073709551616) : Calls Tryz.prog 52 #[.float .f64 a] w fun e w' => ∃ x, IsWhole T 1 a x ∧ e = .returned (.float .f64 x) ∧ Below w.heap.size w w' := by
  have ht := tobits64 a
  obtain ⟨r, hr, hrl⟩ : ∃ r, a % 9223372036854775808 = r ∧ r < 9223372036854775808 := ⟨_, rfl, by omega⟩
  obtain ⟨e, he, hel⟩ : ∃ e : Nat, r / 4503599627370496 = e ∧ e < 2048 := ⟨_, rfl, by omega⟩
  obtain ⟨f, hf, hfl⟩ : ∃ f : Nat, r % 4503599627370496 = f ∧ f < 4503599627370496 := ⟨_, rfl, by omega⟩
  have hre : r = e * 4503599627370496 + f := by omega
  have hF : bits BinOp.and IntKind.u64 ((a : Int) / 4503599627370496) 2047 = (e : Int) := by
    rw [show (a : Int) / 4503599627370496 = ((a / 4503599627370496 : Nat) : Int) by simp]
    have := u64_and_nat (a / 4503599627370496) 2047 (by omega) (by omega)
    rw [show a / 4503599627370496 &&& 2047 = a / 4503599627370496 % 2048 from Nat.and_two_pow_sub_one_eq_mod _ 11, show a / 4503599627370496 % 2048 = e by omega] at this
    exact this
  have hei : (e : Int) < 2048 := by omega
  have hsg : (sg Ieee.double a).toNat = a / 9223372036854775808 := by rw [sg64 a ha]; by_cases h : 9223372036854775808 ≤ a <;> simp [h] <;> omega
  have hwd : ∀ R, Ieee.double.word (sg Ieee.double a) R = a / 9223372036854775808 * 9223372036854775808 + R := by
    intro R
    rw [← hsg]
    cases sg Ieee.double a
    · show R = 0 * 9223372036854775808 + R; omega
    · show 9223372036854775808 + R = 1 * 9223372036854775808 + R; omega
  have hrg : rg Ieee.double a = r := by rw [rg64]; exact hr
  by_cases h1 : e < 1023
  · have h1' : (e : Int) < 1023 := by omega
    have hIs : IsWhole T 1 a (a / 9223372036854775808 * 9223372036854775808 + if 4602678819172646912 ≤ r then 4607182418800017408 else 0) := by
      refine ⟨by split <;> omega, fun h => by omega, fun h => by omega, fun _ => ?_⟩
      rw [hrg, away_low T r _ hT (by omega), hwd]
    have hand : bits BinOp.and IntKind.u64 (a : Int) 9223372036854775808 = ((a / 9223372036854775808 * 9223372036854775808 : Nat) : Int) := and_top64 a ha
    by_cases h2 : e = 1022
    · have h2' : ((e : Int) == 1022) = true := by simp; omega
      rw [if_pos (by omega)] at hIs
      have hor : bits BinOp.or IntKind.u64 ((a / 9223372036854775808 * 9223372036854775808 : Nat) : Int) 4607182418800017408 = ((a / 9223372036854775808 * 9223372036854775808 + 4607182418800017408 : Nat) : Int) := by
        have h : a / 9223372036854775808 = 0 ∨ a / 9223372036854775808 = 1 := by omega
        rcases h with h | h <;> rw [h] <;> decide +kernel
      have hfb := frombits64 (a / 9223372036854775808 * 9223372036854775808 + 4607182418800017408)
      obtain ⟨y, hy⟩ : ∃ y, a / 9223372036854775808 * 9223372036854775808 = y := ⟨_, rfl⟩
      rw [hy] at hIs hand hor hfb
      obtain ⟨x, hx⟩ : ∃ x, y + 4607182418800017408 = x := ⟨_, rfl⟩
      rw [hx] at hIs hor hfb
      have HIs := fhide hIs
      clear hx hy hT hIs hre hel hf hfl he hr hrl hsg hwd hrg h1 h2 ha
      go_enter Tryz.func52, Tryz.ntmps52
      go_wp2_with (simp only [ht, hF, hand, hor, hfb])
      go_ret
      exact ⟨x, HIs.out, rfl, Below.refl _ _⟩
    · have h2' : ((e : Int) == 1022) = false := by simp; omega
      rw [if_neg (by omega), Nat.add_zero] at hIs
      have hfb := frombits64 (a / 9223372036854775808 * 9223372036854775808)
      obtain ⟨y, hy⟩ : ∃ y, a / 9223372036854775808 * 9223372036854775808 = y := ⟨_, rfl⟩
      rw [hy] at hIs hand hfb
      have HIs := fhide hIs
      clear hy hT hIs hre hel hf hfl he hr hrl hsg hwd hrg h1 h2 ha
      go_enter Tryz.func52, Tryz.ntmps52
      go_wp2_with (simp only [ht, hF, hand, hfb])
      go_ret
      exact ⟨y, HIs.out, rfl, Below.refl _ _⟩
  · have h1' : ¬ (e : Int) < 1023 := by omega
    by_cases h2 : e < 1075
    · have h2' : (e : Int) < 1075 := by omega
      obtain ⟨g, hg⟩ : ∃ g, e + g = 1075 := ⟨1075 - e, by omega⟩
      obtain ⟨c, hc, hc1⟩ : ∃ c : Nat, e - 1023 = c ∧ (e : Int) - 1023 = (c : Int) := ⟨_, rfl, by omega⟩
      obtain ⟨am1, am2⟩ := away_mid T e f g (sg Ieee.double a) hT hfl (by omega) hg (by omega)
      have hhalf : (2251799813685248 : Int) / ((2 ^ c : Nat) : Int) = ((2 ^ (g - 1) : Nat) : Int) := by
        rw [show (2251799813685248 : Int) = ((2 ^ 51 : Nat) : Int) by decide, ← Int.natCast_ediv]
        congr 1
        rw [show 51 = (g - 1) + c by omega, Nat.pow_add]; exact Nat.mul_div_cancel _ (Nat.two_pow_pos c)
      have hfull : (4503599627370495 : Int) / ((2 ^ c : Nat) : Int) = ((2 ^ g - 1 : Nat) : Int) := by
        rw [show (4503599627370495 : Int) = ((2 ^ 52 - 1 : Nat) : Int) by decide, ← Int.natCast_ediv]
        congr 1
        have hp := Nat.two_pow_pos c
        rw [Nat.div_eq_iff hp]
        have hpe : 2 ^ 52 = 2 ^ g * 2 ^ c := by rw [← Nat.pow_add, show g + c = 52 by omega]
        have hgp := Nat.two_pow_pos g
        rw [hpe, Nat.sub_mul, Nat.one_mul]
        have : 2 ^ c ≤ 2 ^ g * 2 ^ c := Nat.le_mul_of_pos_left _ hgp
        omega
      obtain ⟨P, hP⟩ : ∃ P, 2 ^ (g - 1) = P := ⟨_, rfl⟩
      have hPl : P ≤ 2251799813685248 := by rw [← hP]; exact Nat.le_trans (Nat.pow_le_pow_right (by omega) (show g - 1 ≤ 51 by omega)) (by decide)
      obtain ⟨b, hb, hb1⟩ : ∃ b : Nat, a + P = b ∧ (a : Int) + (P : Int) = (b : Int) := ⟨_, rfl, by omega⟩
      have hbl : b < 18446744073709551616 := by omega
      have hmask := low_mask g (by omega) b hbl
      -- what is left
      have hbits : b / 2 ^ g * 2 ^ g = a / 9223372036854775808 * 9223372036854775808 + (e * 4503599627370496 + (f + P) / 2 ^ g * 2 ^ g) := by
        have hgp := Nat.two_pow_pos g
        have hs52 : 4503599627370496 = 2 ^ (52 - g) * 2 ^ g := by rw [← Nat.pow_add, show 52 - g + g = 52 by omega]
        have e1 : b = (f + P) + (a / 9223372036854775808 * 2048 + e) * 4503599627370496 := by omega
        rw [e1, hs52, ← Nat.mul_assoc, Nat.add_mul_div_right _ _ hgp, Nat.add_mul, Nat.mul_assoc _ (2 ^ (52 - g)), ← hs52]
        omega
      rw [hP] at am1 am2 hhalf
      have hIs : IsWhole T 1 a (b / 2 ^ g * 2 ^ g) := by
        refine ⟨by omega, fun h => by omega, fun h => by omega, fun _ => ?_⟩
        rw [hrg, hre, am1, hwd, hbits]
      have hfb := frombits64 (b / 2 ^ g * 2 ^ g)
      obtain ⟨M, hM⟩ : ∃ M, 2 ^ g - 1 = M := ⟨_, rfl⟩
      rw [hM] at hmask hfull
      have HIs := fhide hIs
      generalize b / 2 ^ g * 2 ^ g = x at *
      obtain ⟨C, hC⟩ : ∃ C, 2 ^ c = C := ⟨_, rfl⟩
      rw [hC] at hhalf hfull
      have hCi : (2 : Int) ^ c = (C : Int) := by rw [← hC]; simp
      have hcl : (c : Int) < 52 := by omega
      have hbi : (b : Int) < 18446744073709551616 := by omega
      have hbw : IntKind.u64.wrap (b : Int) = (b : Int) := by rw [IntKind.wrap_u64]; omega
      have hbm : (b : Int) % 18446744073709551616 = (b : Int) := by omega
      clear hT hIs hre hel hf hfl he hr hrl hsg hwd hrg h1 h2 ha am1 am2 hP hPl hb hbl hbits hM hC hg hc
      go_enter Tryz.func52, Tryz.ntmps52
      go_wp2_with (simp only [ht, hF, hc1, hCi, hhalf, hfull, hb1, hbw, hbm, hmask, hfb])
      go_ret
      exact ⟨x, HIs.out, rfl, Below.refl _ _⟩
    · have h2' : ¬ (e : Int) < 1075 := by omega
      have hIs : IsWhole T 1 a a := by
        refine ⟨ha, fun h => h, fun _ => rfl, fun h => ?_⟩
        rw [hrg, away_high T r _ hT (by omega) (by rw [inf64]; omega), hwd]; omega
      have hfb := frombits64 a
      have HIs := fhide hIs
      clear hT hIs hre hel hf hfl he hr hrl hsg hwd hrg h1 h2 ha
      go_enter Tryz.func52, Tryz.ntmps52
      go_wp2_with (simp only [ht, hF, hfb])
      go_ret
      exact ⟨a, HIs.out, rfl, Below.refl _ _⟩
end Go.Proofs.YtmkploknoohliaaGreat
