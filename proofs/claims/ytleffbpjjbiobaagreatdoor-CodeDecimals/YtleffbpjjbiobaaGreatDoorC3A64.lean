/- The contracts of code's scales (64 bits). -/
import Derived.Test.YtleffbpjjbiobaaGreatDoorFQ
import Derived.Test.YtleffbpjjbiobaaGreatDoorB1W
import Derived.Test.YtleffbpjjbiobaaGreatDoorNF
import Derived.Test.YtleffbpjjbiobaaGreatDoorFP
import Derived.Laws.Rows
/- Numbers made whole: the program's whole, Round, ToInt. -/
namespace Go.Proofs.YtleffbpjjbiobaaGreatDoor
open Go.RowKit
open Flt
set_option linter.unusedVariables false
set_option linter.unusedSimpArgs false

/-- What is told of a float64 that is made whole. -/
def IsWhole (T mode a x : Nat) : Prop := x < 18446744073709551616 ∧ (9218868437227405312 < a % 9223372036854775808 → 9218868437227405312 < x % 9223372036854775808) ∧ (a % 9223372036854775808 = 9218868437227405312 → x = a) ∧
  (a % 9223372036854775808 < 9218868437227405312 → x = ent T (sg Ieee.double a) (whl mode (sg Ieee.double a) (V Ieee.double (rg Ieee.double a)) (2 ^ T)))

theorem ent_lt (T : Nat) (s : Bool) (K : Nat) : ent T s K < 18446744073709551616 ∧ ent T s K % 9223372036854775808 ≤ 9218868437227405312 := by
  unfold ent
  rw [inf64]
  obtain ⟨w1, w2, _⟩ := word64 s (min (rnd Ieee.double (K * 2 ^ T) 1) 9218868437227405312) (by omega)
  exact ⟨w1, by omega⟩

theorem toInt_as (name : String) (way : Ieee.Toward) (a : Nat) : Extern.MathFloor.toIntegral name way #[.float .f64 a] = (match FloatKind.f64.decode a with
    | .nan s t =>
      if FloatKind.f64.format.quiet t = t then pure (.float .f64 a) else do
      let kept ← choose (.extern "math.Floor,Ceil,Trunc,RoundToEven.signallingNaN kept" 2)
      pure (.float .f64 (if kept == 1 then a else FloatKind.f64.encode (.nan s (FloatKind.f64.format.quiet t))))
    | d => pure (.float .f64 (FloatKind.f64.encode (d.integral way)))) := rfl

theorem quiet_nan (s : Bool) (t : Nat) (h : t < 4503599627370496) : FloatKind.f64.encode (.nan s (FloatKind.f64.format.quiet t)) < 18446744073709551616 ∧ 9218868437227405312 < FloatKind.f64.encode (.nan s (FloatKind.f64.format.quiet t)) % 9223372036854775808 := by
  have hq : FloatKind.f64.format.quiet t = t ||| 2 ^ 51 := rfl
  have h1 : 2 ^ 51 ≤ t ||| 2 ^ 51 := Nat.right_le_or
  have h2 : t ||| 2 ^ 51 < 2 ^ 52 := Nat.or_lt_two_pow (by omega) (by omega)
  rw [hq]
  have hB : Ieee.double.binade = 4503599627370496 := by decide
  show Ieee.double.word s (Ieee.double.infRung + (t ||| 2 ^ 51) % Ieee.double.binade) < _ ∧ _ < Ieee.double.word s (Ieee.double.infRung + (t ||| 2 ^ 51) % Ieee.double.binade) % _
  rw [hB, inf64, Nat.mod_eq_of_lt (by omega)]
  generalize t ||| 2 ^ 51 = q at *
  obtain ⟨w1, w2, _⟩ := word64 s (9218868437227405312 + q) (by omega)
  exact ⟨w1, by omega⟩

theorem toInt_run (T : Nat) (hT : T = 1074) (name : String) (mode a : Nat) (hm : mode = 0 ∨ mode = 2 ∨ mode = 3 ∨ mode = 4) (ha : a < 18446744073709551616) (w : World) : ∃ x w', IsWhole T mode a x ∧ (w' = w ∨ w' = w.drew) ∧ (Extern.MathFloor.toIntegral name (wayOf mode) #[.float .f64 a]).run Tryz.prog w = .ok (.float .f64 x) w' := by
  rw [toInt_as]
  rcases Nat.lt_trichotomy (a % 9223372036854775808) 9218868437227405312 with h | h | h
  · have hr : rg Ieee.double a < Ieee.double.infRung := by rw [rg64, inf64]; exact h
    obtain ⟨m, k, e1, _⟩ := read_fin Ieee.double a hr
    have hd : FloatKind.f64.decode a = _ := e1
    have hi := integral_fin T hT mode a hm hr
    rw [e1] at hi
    have hl := ent_lt T (sg Ieee.double a) (whl mode (sg Ieee.double a) (V Ieee.double (rg Ieee.double a)) (2 ^ T))
    refine ⟨_, w, ⟨hl.1, fun h' => by omega, fun h' => by omega, fun _ => rfl⟩, .inl rfl, ?_⟩
    rw [hd, ← hi]
    rfl
  · have e1 := read_inf Ieee.double a (by decide) (by rw [rg64, inf64]; exact h)
    have hd : FloatKind.f64.decode a = _ := e1
    have hself := word_self Ieee.double a (show a < 2 * 9223372036854775808 by omega)
    rw [rg64, h] at hself
    refine ⟨a, w, ⟨ha, fun h' => by omega, fun _ => rfl, fun h' => by omega⟩, .inl rfl, ?_⟩
    rw [hd]
    show Result.ok (Value.float .f64 (Ieee.double.word (sg Ieee.double a) Ieee.double.infRung)) w = _
    rw [inf64, hself]
  · have e1 := read_nan Ieee.double a (by decide) (by rw [rg64, inf64]; exact h)
    have hd : FloatKind.f64.decode a = _ := e1
    rw [hd]
    have ht : rg Ieee.double a - Ieee.double.infRung < 4503599627370496 := by rw [rg64, inf64]; omega
    generalize rg Ieee.double a - Ieee.double.infRung = t at *
    by_cases hq : FloatKind.f64.format.quiet t = t
    · refine ⟨a, w, ⟨ha, fun _ => h, fun h' => by omega, fun h' => by omega⟩, .inl rfl, ?_⟩
      simp [hq]
    · obtain ⟨q1, q2⟩ := quiet_nan (sg Ieee.double a) t ht
      obtain ⟨kp, hkp⟩ : ∃ kp : Nat, Question.cut (.extern "math.Floor,Ceil,Trunc,RoundToEven.signallingNaN kept" 2) (w.tape w.drawn (.extern "math.Floor,Ceil,Trunc,RoundToEven.signallingNaN kept" 2)) = kp := ⟨_, rfl⟩
      refine ⟨if kp == 1 then a else FloatKind.f64.encode (.nan (sg Ieee.double a) (FloatKind.f64.format.quiet t)), w.drew, ⟨?_, fun _ => ?_, fun h' => by omega, fun h' => by omega⟩, .inr rfl, ?_⟩
      · split
        · exact ha
        · exact q1
      · split
        · exact h
        · exact q2
      · simp [hq, Question.forced, hkp]

theorem run_evenW (T : Nat) (hT : T = 1074) (a : Nat) (ha : a < 18446744073709551616) (w : World) : ∃ x w', IsWhole T 0 a x ∧ (w' = w ∨ w' = w.drew) ∧ (callFunc 193 #[.float .f64 a]).run Tryz.prog w = .ok (.value (.float .f64 x)) w' := by
  obtain ⟨x, w', h1, h2, h3⟩ := toInt_run T hT "math.RoundToEven" 0 a (by simp) ha w
  refine ⟨x, w', h1, h2, ?_⟩
  rw [run_callFunc_extern Tryz.func193 (by kernel_rfl) (by kernel_rfl) (by kernel_rfl) (e := Extern.MathFloor.toIntegral "math.RoundToEven" .even) (by kernel_rfl)]
  rw [show Extern.MathFloor.toIntegral "math.RoundToEven" .even = Extern.MathFloor.toIntegral "math.RoundToEven" (wayOf 0) from rfl, h3]
  rfl
theorem run_truncW (T : Nat) (hT : T = 1074) (a : Nat) (ha : a < 18446744073709551616) (w : World) : ∃ x w', IsWhole T 2 a x ∧ (w' = w ∨ w' = w.drew) ∧ (callFunc 198 #[.float .f64 a]).run Tryz.prog w = .ok (.value (.float .f64 x)) w' := by
  obtain ⟨x, w', h1, h2, h3⟩ := toInt_run T hT "math.archTrunc" 2 a (by simp) ha w
  refine ⟨x, w', h1, h2, ?_⟩
  rw [run_callFunc_extern Tryz.func198 (by kernel_rfl) (by kernel_rfl) (by kernel_rfl) (e := Extern.MathFloor.toIntegral "math.archTrunc" .zero) (by kernel_rfl)]
  rw [show Extern.MathFloor.toIntegral "math.archTrunc" .zero = Extern.MathFloor.toIntegral "math.archTrunc" (wayOf 2) from rfl, h3]
  rfl
theorem run_floorW (T : Nat) (hT : T = 1074) (a : Nat) (ha : a < 18446744073709551616) (w : World) : ∃ x w', IsWhole T 3 a x ∧ (w' = w ∨ w' = w.drew) ∧ (callFunc 200 #[.float .f64 a]).run Tryz.prog w = .ok (.value (.float .f64 x)) w' := by
  obtain ⟨x, w', h1, h2, h3⟩ := toInt_run T hT "math.archFloor" 3 a (by simp) ha w
  refine ⟨x, w', h1, h2, ?_⟩
  rw [run_callFunc_extern Tryz.func200 (by kernel_rfl) (by kernel_rfl) (by kernel_rfl) (e := Extern.MathFloor.toIntegral "math.archFloor" .down) (by kernel_rfl)]
  rw [show Extern.MathFloor.toIntegral "math.archFloor" .down = Extern.MathFloor.toIntegral "math.archFloor" (wayOf 3) from rfl, h3]
  rfl
theorem run_ceilW (T : Nat) (hT : T = 1074) (a : Nat) (ha : a < 18446744073709551616) (w : World) : ∃ x w', IsWhole T 4 a x ∧ (w' = w ∨ w' = w.drew) ∧ (callFunc 202 #[.float .f64 a]).run Tryz.prog w = .ok (.value (.float .f64 x)) w' := by
  obtain ⟨x, w', h1, h2, h3⟩ := toInt_run T hT "math.archCeil" 4 a (by simp) ha w
  refine ⟨x, w', h1, h2, ?_⟩
  rw [run_callFunc_extern Tryz.func202 (by kernel_rfl) (by kernel_rfl) (by kernel_rfl) (e := Extern.MathFloor.toIntegral "math.archCeil" .up) (by kernel_rfl)]
  rw [show Extern.MathFloor.toIntegral "math.archCeil" .up = Extern.MathFloor.toIntegral "math.archCeil" (wayOf 4) from rfl, h3]
  rfl
set_option maxRecDepth 100000 in
theorem Trunc_any (T : Nat) (hT : T = 1074) (a : Nat) (w : World) (ha : a < 18446744073709551616) : Calls Tryz.prog 195 #[.float .f64 a] w fun e w' => ∃ x, IsWhole T 2 a x ∧ e = .returned (.float .f64 x) ∧ Below w.heap.size w w' := by
  obtain ⟨x, w', h1, h2, h3⟩ := run_truncW T hT a ha w
  have H1 := fhide h1
  have H2 : Hid (Below w.heap.size w w') := by
    show Below _ _ _
    rcases h2 with rfl | rfl
    · exact Below.refl _ _
    · exact (Below.refl _ _).drew
  clear h1 h2 ha hT
  go_enter Tryz.func195, Tryz.ntmps195
  go_wp2_with (simp only [h3])
  go_ret
  exact ⟨x, H1.out, rfl, H2.out⟩
set_option maxRecDepth 100000 in
theorem Floor_any (T : Nat) (hT : T = 1074) (a : Nat) (w : World) (ha : a < 18446744073709551616) : Calls Tryz.prog 196 #[.float .f64 a] w fun e w' => ∃ x, IsWhole T 3 a x ∧ e = .returned (.float .f64 x) ∧ Below w.heap.size w w' := by
  obtain ⟨x, w', h1, h2, h3⟩ := run_floorW T hT a ha w
  have H1 := fhide h1
  have H2 : Hid (Below w.heap.size w w') := by
    show Below _ _ _
    rcases h2 with rfl | rfl
    · exact Below.refl _ _
    · exact (Below.refl _ _).drew
  clear h1 h2 ha hT
  go_enter Tryz.func196, Tryz.ntmps196
  go_wp2_with (simp only [h3])
  go_ret
  exact ⟨x, H1.out, rfl, H2.out⟩
set_option maxRecDepth 100000 in
theorem Ceil_any (T : Nat) (hT : T = 1074) (a : Nat) (w : World) (ha : a < 18446744073709551616) : Calls Tryz.prog 197 #[.float .f64 a] w fun e w' => ∃ x, IsWhole T 4 a x ∧ e = .returned (.float .f64 x) ∧ Below w.heap.size w w' := by
  obtain ⟨x, w', h1, h2, h3⟩ := run_ceilW T hT a ha w
  have H1 := fhide h1
  have H2 : Hid (Below w.heap.size w w') := by
    show Below _ _ _
    rcases h2 with rfl | rfl
    · exact Below.refl _ _
    · exact (Below.refl _ _).drew
  clear h1 h2 ha hT
  go_enter Tryz.func197, Tryz.ntmps197
  go_wp2_with (simp only [h3])
  go_ret
  exact ⟨x, H1.out, rfl, H2.out⟩

theorem low_mask (g : Nat) (hg : g ≤ 52) (b : Nat) (hb : b < 18446744073709551616) : bits BinOp.andNot IntKind.u64 (b : Int) ((2 ^ g - 1 : Nat) : Int) = ((b / 2 ^ g * 2 ^ g : Nat) : Int) := by
  have hp := Nat.two_pow_pos g
  have hl : 2 ^ g ≤ 2 ^ 52 := Nat.pow_le_pow_right (by omega) hg
  have := u64_andNot_nat b (2 ^ g - 1) hb (by omega)
  rw [this]
  have e : b &&& (18446744073709551615 - (2 ^ g - 1)) = b / 2 ^ g * 2 ^ g := by
    have h1 : 18446744073709551615 - (2 ^ g - 1) = (2 ^ (64 - g) - 1) * 2 ^ g := by
      rw [Nat.sub_mul, ← Nat.pow_add, show 64 - g + g = 64 by omega]; omega
    rw [h1, n_mask b g (64 - g), Nat.mod_eq_of_lt]
    rw [Nat.div_lt_iff_lt_mul hp, ← Nat.pow_add, show 64 - g + g = 64 by omega]; exact hb
  rw [e]

set_option maxRecDepth 100000 in
set_option maxHeartbeats 1000000 in
theorem RoundAway_any (T : Nat) (hT : T = 1074) (a : Nat) (w : World) (ha : a < 18446744073709551616) : Calls Tryz.prog 194 #[.float .f64 a] w fun e w' => ∃ x, IsWhole T 1 a x ∧ e = .returned (.float .f64 x) ∧ Below w.heap.size w w' := by
  have ht := tobits64 a
  obtain ⟨r, hr, hrl⟩ : ∃ r, a % 9223372036854775808 = r ∧ r < 9223372036854775808 := ⟨_, rfl, by omega⟩
  obtain ⟨e, he, hel⟩ : ∃ e : Nat, r / 4503599627370496 = e ∧ e < 2048 := ⟨_, rfl, by omega⟩
  obtain ⟨f, hf, hfl⟩ : ∃ f : Nat, r % 4503599627370496 = f ∧ f < 4503599627370496 := ⟨_, rfl, by omega⟩
  have hre : r = e * 4503599627370496 + f := by omega
  have hF : bits BinOp.and IntKind.u64 ((a : Int) / 4503599627370496) 2047 = (e : Int) := by
    rw [show (a : Int) / 4503599627370496 = ((a / 4503599627370496 : Nat) : Int) by simp]
    have := u64_and_nat (a / 4503599627370496) 2047 (by omega) (by omega)
    rw [show a / 4503599627370496 &&& 2047 = a / 4503599627370496 % 2048 from Nat.and_two_pow_sub_one_eq_mod _ 11, show a / 4503599627370496 % 2048 = e by omega] at this
    exact this
  have hei : (e : Int) < 2048 := by omega
  have hsg : (sg Ieee.double a).toNat = a / 9223372036854775808 := by rw [sg64 a ha]; by_cases h : 9223372036854775808 ≤ a <;> simp [h] <;> omega
  have hwd : ∀ R, Ieee.double.word (sg Ieee.double a) R = a / 9223372036854775808 * 9223372036854775808 + R := by
    intro R
    rw [← hsg]
    cases sg Ieee.double a
    · show R = 0 * 9223372036854775808 + R; omega
    · show 9223372036854775808 + R = 1 * 9223372036854775808 + R; omega
  have hrg : rg Ieee.double a = r := by rw [rg64]; exact hr
  by_cases h1 : e < 1023
  · have h1' : (e : Int) < 1023 := by omega
    have hIs : IsWhole T 1 a (a / 9223372036854775808 * 9223372036854775808 + if 4602678819172646912 ≤ r then 4607182418800017408 else 0) := by
      refine ⟨by split <;> omega, fun h => by omega, fun h => by omega, fun _ => ?_⟩
      rw [hrg, away_low T r _ hT (by omega), hwd]
    have hand : bits BinOp.and IntKind.u64 (a : Int) 9223372036854775808 = ((a / 9223372036854775808 * 9223372036854775808 : Nat) : Int) := and_top64 a ha
    by_cases h2 : e = 1022
    · have h2' : ((e : Int) == 1022) = true := by simp; omega
      rw [if_pos (by omega)] at hIs
      have hor : bits BinOp.or IntKind.u64 ((a / 9223372036854775808 * 9223372036854775808 : Nat) : Int) 4607182418800017408 = ((a / 9223372036854775808 * 9223372036854775808 + 4607182418800017408 : Nat) : Int) := by
        have h : a / 9223372036854775808 = 0 ∨ a / 9223372036854775808 = 1 := by omega
        rcases h with h | h <;> rw [h] <;> decide +kernel
      have hfb := frombits64 (a / 9223372036854775808 * 9223372036854775808 + 4607182418800017408)
      obtain ⟨y, hy⟩ : ∃ y, a / 9223372036854775808 * 9223372036854775808 = y := ⟨_, rfl⟩
      rw [hy] at hIs hand hor hfb
      obtain ⟨x, hx⟩ : ∃ x, y + 4607182418800017408 = x := ⟨_, rfl⟩
      rw [hx] at hIs hor hfb
      have HIs := fhide hIs
      clear hx hy hT hIs hre hel hf hfl he hr hrl hsg hwd hrg h1 h2 ha
      go_enter Tryz.func194, Tryz.ntmps194
      go_wp2_with (simp only [ht, hF, hand, hor, hfb])
      go_ret
      exact ⟨x, HIs.out, rfl, Below.refl _ _⟩
    · have h2' : ((e : Int) == 1022) = false := by simp; omega
      rw [if_neg (by omega), Nat.add_zero] at hIs
      have hfb := frombits64 (a / 9223372036854775808 * 9223372036854775808)
      obtain ⟨y, hy⟩ : ∃ y, a / 9223372036854775808 * 9223372036854775808 = y := ⟨_, rfl⟩
      rw [hy] at hIs hand hfb
      have HIs := fhide hIs
      clear hy hT hIs hre hel hf hfl he hr hrl hsg hwd hrg h1 h2 ha
      go_enter Tryz.func194, Tryz.ntmps194
      go_wp2_with (simp only [ht, hF, hand, hfb])
      go_ret
      exact ⟨y, HIs.out, rfl, Below.refl _ _⟩
  · have h1' : ¬ (e : Int) < 1023 := by omega
    by_cases h2 : e < 1075
    · have h2' : (e : Int) < 1075 := by omega
      obtain ⟨g, hg⟩ : ∃ g, e + g = 1075 := ⟨1075 - e, by omega⟩
      obtain ⟨c, hc, hc1⟩ : ∃ c : Nat, e - 1023 = c ∧ (e : Int) - 1023 = (c : Int) := ⟨_, rfl, by omega⟩
      obtain ⟨am1, am2⟩ := away_mid T e f g (sg Ieee.double a) hT hfl (by omega) hg (by omega)
      have hhalf : (2251799813685248 : Int) / ((2 ^ c : Nat) : Int) = ((2 ^ (g - 1) : Nat) : Int) := by
        rw [show (2251799813685248 : Int) = ((2 ^ 51 : Nat) : Int) by decide, ← Int.natCast_ediv]
        congr 1
        rw [show 51 = (g - 1) + c by omega, Nat.pow_add]; exact Nat.mul_div_cancel _ (Nat.two_pow_pos c)
      have hfull : (4503599627370495 : Int) / ((2 ^ c : Nat) : Int) = ((2 ^ g - 1 : Nat) : Int) := by
        rw [show (4503599627370495 : Int) = ((2 ^ 52 - 1 : Nat) : Int) by decide, ← Int.natCast_ediv]
        congr 1
        have hp := Nat.two_pow_pos c
        rw [Nat.div_eq_iff hp]
        have hpe : 2 ^ 52 = 2 ^ g * 2 ^ c := by rw [← Nat.pow_add, show g + c = 52 by omega]
        have hgp := Nat.two_pow_pos g
        rw [hpe, Nat.sub_mul, Nat.one_mul]
        have : 2 ^ c ≤ 2 ^ g * 2 ^ c := Nat.le_mul_of_pos_left _ hgp
        omega
      obtain ⟨P, hP⟩ : ∃ P, 2 ^ (g - 1) = P := ⟨_, rfl⟩
      have hPl : P ≤ 2251799813685248 := by rw [← hP]; exact Nat.le_trans (Nat.pow_le_pow_right (by omega) (show g - 1 ≤ 51 by omega)) (by decide)
      obtain ⟨b, hb, hb1⟩ : ∃ b : Nat, a + P = b ∧ (a : Int) + (P : Int) = (b : Int) := ⟨_, rfl, by omega⟩
      have hbl : b < 18446744073709551616 := by omega
      have hmask := low_mask g (by omega) b hbl
      -- what is left
      have hbits : b / 2 ^ g * 2 ^ g = a / 9223372036854775808 * 9223372036854775808 + (e * 4503599627370496 + (f + P) / 2 ^ g * 2 ^ g) := by
        have hgp := Nat.two_pow_pos g
        have hs52 : 4503599627370496 = 2 ^ (52 - g) * 2 ^ g := by rw [← Nat.pow_add, show 52 - g + g = 52 by omega]
        have e1 : b = (f + P) + (a / 9223372036854775808 * 2048 + e) * 4503599627370496 := by omega
        rw [e1, hs52, ← Nat.mul_assoc, Nat.add_mul_div_right _ _ hgp, Nat.add_mul, Nat.mul_assoc _ (2 ^ (52 - g)), ← hs52]
        omega
      rw [hP] at am1 am2 hhalf
      have hIs : IsWhole T 1 a (b / 2 ^ g * 2 ^ g) := by
        refine ⟨by omega, fun h => by omega, fun h => by omega, fun _ => ?_⟩
        rw [hrg, hre, am1, hwd, hbits]
      have hfb := frombits64 (b / 2 ^ g * 2 ^ g)
      obtain ⟨M, hM⟩ : ∃ M, 2 ^ g - 1 = M := ⟨_, rfl⟩
      rw [hM] at hmask hfull
      have HIs := fhide hIs
      generalize b / 2 ^ g * 2 ^ g = x at *
      obtain ⟨C, hC⟩ : ∃ C, 2 ^ c = C := ⟨_, rfl⟩
      rw [hC] at hhalf hfull
      have hCi : (2 : Int) ^ c = (C : Int) := by rw [← hC]; simp
      have hcl : (c : Int) < 52 := by omega
      have hbi : (b : Int) < 18446744073709551616 := by omega
      have hbw : IntKind.u64.wrap (b : Int) = (b : Int) := by rw [IntKind.wrap_u64]; omega
      have hbm : (b : Int) % 18446744073709551616 = (b : Int) := by omega
      clear hT hIs hre hel hf hfl he hr hrl hsg hwd hrg h1 h2 ha am1 am2 hP hPl hb hbl hbits hM hC hg hc
      go_enter Tryz.func194, Tryz.ntmps194
      go_wp2_with (simp only [ht, hF, hc1, hCi, hhalf, hfull, hb1, hbw, hbm, hmask, hfb])
      go_ret
      exact ⟨x, HIs.out, rfl, Below.refl _ _⟩
    · have h2' : ¬ (e : Int) < 1075 := by omega
      have hIs : IsWhole T 1 a a := by
        refine ⟨ha, fun h => h, fun _ => rfl, fun h => ?_⟩
        rw [hrg, away_high T r _ hT (by omega) (by rw [inf64]; omega), hwd]; omega
      have hfb := frombits64 a
      have HIs := fhide hIs
      clear hT hIs hre hel hf hfl he hr hrl hsg hwd hrg h1 h2 ha
      go_enter Tryz.func194, Tryz.ntmps194
      go_wp2_with (simp only [ht, hF, hfb])
      go_ret
      exact ⟨a, HIs.out, rfl, Below.refl _ _⟩
end Go.Proofs.YtleffbpjjbiobaaGreatDoor

/- whole, Round, ToInt of any mode: the program's. -/
namespace Go.Proofs.YtleffbpjjbiobaaGreatDoor
open Go.RowKit
open Flt
set_option linter.unusedVariables false
set_option linter.unusedSimpArgs false

set_option maxRecDepth 100000 in
set_option maxHeartbeats 1000000 in
theorem whole_any (T : Nat) (hT : T = 1074) (a m : Nat) (w : World) (ha : a < 18446744073709551616) (hm : m ≤ 4) : Calls Tryz.prog 192 #[.float .f64 a, .int .i64 m] w fun e w' => ∃ x, IsWhole T m a x ∧ e = .returned (.tuple #[.float .f64 x, .bool true]) ∧ Below w.heap.size w w' := by
  have hc : m = 0 ∨ m = 1 ∨ m = 2 ∨ m = 3 ∨ m = 4 := by omega
  clear hm
  rcases hc with rfl | rfl | rfl | rfl | rfl
  · obtain ⟨x, w', h1, h2, h3⟩ := run_evenW T hT a ha w
    have H1 := fhide h1
    have H2 : Hid (Below w.heap.size w w') := by
      show Below _ _ _
      rcases h2 with rfl | rfl
      · exact Below.refl _ _
      · exact (Below.refl _ _).drew
    clear h1 h2 ha hT
    go_enter Tryz.func192, Tryz.ntmps192
    go_wp2_with (simp only [h3])
    go_ret2
    exact ⟨x, H1.out, rfl, H2.out⟩
  · have HC := fhide (fun w : World => RoundAway_any T hT a w ha)
    clear ha hT
    go_enter Tryz.func192, Tryz.ntmps192
    go_wp2_with fail
    refine (HC.out _).mono ?_
    rintro e w1 ⟨x, h1, rfl, hb⟩
    have H1 := fhide (And.intro h1 hb)
    clear h1 hb
    go_wp2_with fail
    go_ret2
    exact ⟨x, H1.out.1, rfl, H1.out.2⟩
  · have HC := fhide (fun w : World => Trunc_any T hT a w ha)
    clear ha hT
    go_enter Tryz.func192, Tryz.ntmps192
    go_wp2_with fail
    refine (HC.out _).mono ?_
    rintro e w1 ⟨x, h1, rfl, hb⟩
    have H1 := fhide (And.intro h1 hb)
    clear h1 hb
    go_wp2_with fail
    go_ret2
    exact ⟨x, H1.out.1, rfl, H1.out.2⟩
  · have HC := fhide (fun w : World => Floor_any T hT a w ha)
    clear ha hT
    go_enter Tryz.func192, Tryz.ntmps192
    go_wp2_with fail
    refine (HC.out _).mono ?_
    rintro e w1 ⟨x, h1, rfl, hb⟩
    have H1 := fhide (And.intro h1 hb)
    clear h1 hb
    go_wp2_with fail
    go_ret2
    exact ⟨x, H1.out.1, rfl, H1.out.2⟩
  · have HC := fhide (fun w : World => Ceil_any T hT a w ha)
    clear ha hT
    go_enter Tryz.func192, Tryz.ntmps192
    go_wp2_with fail
    refine (HC.out _).mono ?_
    rintro e w1 ⟨x, h1, rfl, hb⟩
    have H1 := fhide (And.intro h1 hb)
    clear h1 hb
    go_wp2_with fail
    go_ret2
    exact ⟨x, H1.out.1, rfl, H1.out.2⟩

set_option maxRecDepth 100000 in
theorem whole_bad (a : Nat) (mode : Int) (w : World) (hm : mode < 0 ∨ 4 < mode) : Calls Tryz.prog 192 #[.float .f64 a, .int .i64 mode] w fun e w' => e = .returned (.tuple #[.float .f64 0, .bool false]) ∧ w' = w := by
  have h0 : (mode == 0) = false := by simp; omega
  have h1 : (mode == 1) = false := by simp; omega
  have h2 : (mode == 2) = false := by simp; omega
  have h3 : (mode == 3) = false := by simp; omega
  have h4 : (mode == 4) = false := by simp; omega
  clear hm
  go_enter Tryz.func192, Tryz.ntmps192
  go_wp2_with fail
  go_ret2
  exact ⟨rfl, rfl⟩

/-- What Round tells. -/
def rndv (T m a : Nat) : Nat := if 9218868437227405312 < a % 9223372036854775808 then 9221120237041090560 else if a % 9223372036854775808 = 9218868437227405312 then a else ent T (sg Ieee.double a) (whl m (sg Ieee.double a) (V Ieee.double (rg Ieee.double a)) (2 ^ T))
theorem IsWhole.pat {T m a x : Nat} (h : IsWhole T m a x) : pat64 x = rndv T m a := by
  obtain ⟨h1, h2, h3, h4⟩ := h
  unfold rndv
  rcases Nat.lt_trichotomy (a % 9223372036854775808) 9218868437227405312 with c | c | c
  · rw [if_neg (by omega), if_neg (by omega), h4 c, pat64_num _ (ent_lt _ _ _).2]
  · rw [if_neg (by omega), if_pos c, h3 c, pat64_num a (by omega)]
  · rw [if_pos c, pat64_nan x (h2 c)]


/-- The whole number, with its sign. -/
def wz (T m a : Nat) : Int := if sg Ieee.double a then -((whl m (sg Ieee.double a) (V Ieee.double (rg Ieee.double a)) (2 ^ T) : Nat) : Int) else ((whl m (sg Ieee.double a) (V Ieee.double (rg Ieee.double a)) (2 ^ T) : Nat) : Int)

theorem V_63 (T n : Nat) (hT : T = 1074) (hn : n = 63) : V Ieee.double 4890909195324358656 = 2 ^ n * 2 ^ T := by
  obtain ⟨q, hq⟩ : ∃ q : Nat, q = 1085 := ⟨_, rfl⟩
  have h := (V_at Ieee.double q Ieee.double.binade (by decide) (.inr (Nat.le_refl _))).1
  rw [show q * Ieee.double.binade + Ieee.double.binade = 4890909195324358656 by rw [hq]; decide +kernel] at h
  rw [h, show Ieee.double.binade = 2 ^ 52 by decide, ← Nat.pow_add, ← Nat.pow_add, show 52 + q = n + T by omega]

theorem below_pos (s : Bool) (K W Z Q : Nat) (B : Int) (hB : B = (Q : Int)) (c1 : W < Z ↔ K < Q) (c2 : Z < W ↔ Q < K) (hpos : 0 < Z) (hq : 0 < Q) :
    if (if s then -(K : Int) else (K : Int)) < B then some (compare (if s then -(W : Int) else (W : Int)) (Z : Int)) = some Ordering.lt else some (compare (if s then -(W : Int) else (W : Int)) (Z : Int)) = some Ordering.gt ∨ some (compare (if s then -(W : Int) else (W : Int)) (Z : Int)) = some Ordering.eq := by
  subst hB
  cases s
  · simp only [Bool.false_eq_true, if_false]
    by_cases h : K < Q
    · rw [if_pos (by omega)]
      have h9 := c1.2 h
      rw [cmp_lt (by omega)]
    · rw [if_neg (by omega)]
      by_cases h1 : Z < W
      · left; rw [cmp_gt (by omega)]
      · right
        have h2 : ¬ W < Z := fun h2 => h (c1.1 h2)
        have h10 : W = Z := by omega
        rw [h10, cmp_eq]
  · simp only [if_true]
    rw [if_pos (by omega), cmp_lt (by omega)]

set_option maxRecDepth 100000 in
/-- How a whole number stands to the bounds; and as an int64. -/
theorem whole_int (T m a x : Nat) (hT : T = 1074) (hm : m ≤ 4) (hx : IsWhole T m a x) (hfin : a % 9223372036854775808 < 9218868437227405312) :
    (if -9223372036854775808 ≤ wz T m a then Ieee.double.order x 14114281232179134464 = some .gt ∨ Ieee.double.order x 14114281232179134464 = some .eq else Ieee.double.order x 14114281232179134464 = some .lt) ∧
    (if wz T m a < 9223372036854775808 then Ieee.double.order x 4890909195324358656 = some .lt else Ieee.double.order x 4890909195324358656 = some .gt ∨ Ieee.double.order x 4890909195324358656 = some .eq) ∧
    (-9223372036854775808 ≤ wz T m a → wz T m a < 9223372036854775808 → floatToIntVal .f64 x .i64 = some (wz T m a)) := by
  obtain ⟨R, hR, _⟩ := whl_repr T m (sg Ieee.double a) (rg Ieee.double a) hm (by omega)
  have hxe := hx.2.2.2 hfin
  rw [ent_exact T _ _ R hR] at hxe
  obtain ⟨n, hn⟩ : ∃ n : Nat, n = 63 := ⟨_, rfl⟩
  have h63 := V_63 T n hT hn
  have hpT := Nat.two_pow_pos T
  unfold wz
  generalize hK : whl m (sg Ieee.double a) (V Ieee.double (rg Ieee.double a)) (2 ^ T) = K at *
  generalize sg Ieee.double a = s at *
  have hxl : min R Ieee.double.infRung < Ieee.double.signWeight := Nat.lt_of_le_of_lt (Nat.min_le_right ..) Ieee.double.infRung_lt
  have hxr : rg Ieee.double x = min R Ieee.double.infRung := by rw [hxe, rg_word _ _ _ hxl]
  have hxs : sg Ieee.double x = s := by rw [hxe, sg_word _ _ _ hxl]
  have hxn : rg Ieee.double x ≤ Ieee.double.infRung := by rw [hxr]; exact Nat.min_le_right ..
  -- against 2 ^ 63, by rungs
  have hcmp : (V Ieee.double (min R Ieee.double.infRung) < V Ieee.double 4890909195324358656 ↔ K < 2 ^ n) ∧ (V Ieee.double 4890909195324358656 < V Ieee.double (min R Ieee.double.infRung) ↔ 2 ^ n < K) := by
    have hi : 4890909195324358656 < Ieee.double.infRung := by rw [inf64]; omega
    have k1 : K < 2 ^ n ↔ K * 2 ^ T < 2 ^ n * 2 ^ T := (Nat.mul_lt_mul_right hpT).symm
    have k2 : 2 ^ n < K ↔ 2 ^ n * 2 ^ T < K * 2 ^ T := (Nat.mul_lt_mul_right hpT).symm
    constructor
    · rw [k1, ← hR, ← h63, V_lt_iff, V_lt_iff]; omega
    · rw [k2, ← hR, ← h63, V_lt_iff, V_lt_iff]; omega
  obtain ⟨c1, c2⟩ := hcmp
  have hpn : 2 ^ n = 9223372036854775808 := by rw [hn]
  obtain ⟨Q, hQ⟩ : ∃ Q, 2 ^ n = Q := ⟨_, rfl⟩
  rw [hQ] at c1 c2 hpn
  have hbigR : Ieee.double.infRung ≤ R → Q < K := fun h => c2.1 (by rw [Nat.min_eq_right h]; exact V_lt (by rw [inf64]; omega))
  have sx : sv Ieee.double x = if s then -((V Ieee.double (min R Ieee.double.infRung) : Nat) : Int) else ((V Ieee.double (min R Ieee.double.infRung) : Nat) : Int) := by
    unfold sv; rw [hxs, hxr]
  have sneg : sv Ieee.double 14114281232179134464 = -((V Ieee.double 4890909195324358656 : Nat) : Int) := by
    unfold sv
    rw [show sg Ieee.double 14114281232179134464 = true by decide +kernel, show rg Ieee.double 14114281232179134464 = 4890909195324358656 by decide +kernel]
    rfl
  have spos : sv Ieee.double 4890909195324358656 = ((V Ieee.double 4890909195324358656 : Nat) : Int) := by
    unfold sv
    rw [show sg Ieee.double 4890909195324358656 = false by decide +kernel, show rg Ieee.double 4890909195324358656 = 4890909195324358656 by decide +kernel]
    rfl
  have o1 := order_all Ieee.double (by decide) x 14114281232179134464 hxn (by rw [rg64, inf64]; omega)
  have o2 := order_all Ieee.double (by decide) x 4890909195324358656 hxn (by rw [rg64, inf64]; omega)
  rw [sx, sneg] at o1
  rw [sx, spos] at o2
  have hpos : 0 < V Ieee.double 4890909195324358656 := by rw [h63]; exact Nat.mul_pos (Nat.two_pow_pos _) hpT
  generalize V Ieee.double 4890909195324358656 = Z at *
  generalize hW : V Ieee.double (min R Ieee.double.infRung) = W at *
  refine ⟨?_, ?_, ?_⟩
  · rw [o1]
    cases s
    · simp only [Bool.false_eq_true, if_false]
      rw [if_pos (by omega)]
      left; rw [cmp_gt (by omega)]
    · simp only [if_true]
      by_cases h : K ≤ Q
      · rw [if_pos (by omega)]
        rcases Nat.lt_or_ge W Z with h1 | h1
        · left; rw [cmp_gt (by omega)]
        · right
          have : W = Z := by
            rcases Nat.lt_or_ge Z W with h2 | h2
            · have := c2.1 h2; omega
            · omega
          rw [this, cmp_eq]
      · rw [if_neg (by omega)]
        have := c2.2 (by omega)
        rw [cmp_lt (by omega)]
  · rw [o2]
    exact below_pos s K W Z Q 9223372036854775808 (by rw [hpn]; rfl) c1 c2 hpos (by rw [hpn]; decide)
  · intro b1 b2
    have hKl : K ≤ 9223372036854775808 := by
      cases s
      · simp only [Bool.false_eq_true, if_false] at b1 b2; omega
      · simp only [if_true] at b1 b2; omega
    have hRi : R < Ieee.double.infRung := by
      rcases Nat.lt_or_ge R Ieee.double.infRung with h | h
      · exact h
      · have := hbigR h; omega
    have hrx : rg Ieee.double x = R := by rw [hxr]; exact Nat.min_eq_left (Nat.le_of_lt hRi)
    obtain ⟨m', k', e1, e2, _⟩ := read_fin Ieee.double x (by rw [hrx]; exact hRi)
    rw [hxs] at e1
    rw [hrx, hR] at e2
    have hl : Ieee.double.leastPlace = -1074 := by decide
    have hcut : Ieee.Toward.zero.cut s (m' <<< (Ieee.double.leastPlace + (k' : Int)).toNat) (-(Ieee.double.leastPlace + (k' : Int))).toNat = K := by
      have := cut_ways s (m' <<< (Ieee.double.leastPlace + (k' : Int)).toNat) (-(Ieee.double.leastPlace + (k' : Int))).toNat 2 (by simp)
      rw [show Ieee.Toward.zero = wayOf 2 from rfl, this, Nat.shiftLeft_eq, hl]
      show m' * 2 ^ (-1074 + (k' : Int)).toNat / 2 ^ (-(-1074 + (k' : Int))).toNat = K
      have h5 : m' * 2 ^ (-1074 + (k' : Int)).toNat = K * 2 ^ (-(-1074 + (k' : Int))).toNat := by
        refine Nat.eq_of_mul_eq_mul_right hpT ?_
        rw [Nat.mul_right_comm K, ← e2, Nat.mul_assoc, Nat.mul_assoc, ← Nat.pow_add, ← Nat.pow_add]
        exact congrArg (m' * 2 ^ ·) (by omega)
      rw [h5]; exact Nat.mul_div_cancel _ (Nat.two_pow_pos _)
    have hto : (FloatKind.f64.decode x).toInt .zero = some (Ieee.signed s K 0) := by
      rw [show FloatKind.f64.decode x = _ from e1]
      show some (Ieee.signed s (Ieee.Toward.zero.cut s (m' <<< (Ieee.double.leastPlace + (k' : Int)).toNat) (-(Ieee.double.leastPlace + (k' : Int))).toNat) 0) = _
      rw [hcut]
    have hsg : Ieee.signed s K 0 = if s then -(K : Int) else (K : Int) := by unfold Ieee.signed; simp
    unfold floatToIntVal
    rw [hto, hsg]
    have hmn : IntKind.i64.min = -9223372036854775808 := by decide
    have hmx : IntKind.i64.max = 9223372036854775807 := by decide
    simp only [hmn, hmx]
    rw [if_pos ⟨b1, by omega⟩]

set_option maxRecDepth 100000 in
set_option maxHeartbeats 1000000 in
theorem ToInt_in (T : Nat) (hT : T = 1074) (a m : Nat) (w : World) (ha : a < 18446744073709551616) (hm : m ≤ 4) (hf : a % 9223372036854775808 < 9218868437227405312) (b1 : -9223372036854775808 ≤ wz T m a) (b2 : wz T m a < 9223372036854775808) : Calls Tryz.prog 187 #[.int .u64 a, .int .i64 m] w fun e w' => e = .returned (.tuple #[.int .i64 (wz T m a), .int .i64 0]) ∧ Below w.heap.size w w' := by
  have HW := fhide (fun w : World => whole_any T hT a m w ha hm)
  have HI : Hid (∀ x, IsWhole T m a x → (Ieee.double.order x 14114281232179134464 = some .gt ∨ Ieee.double.order x 14114281232179134464 = some .eq) ∧ Ieee.double.order x 4890909195324358656 = some .lt ∧ floatToIntVal .f64 x .i64 = some (wz T m a)) := by
    intro x hx
    obtain ⟨h1, h2, h3⟩ := whole_int T m a x hT hm hx hf
    exact ⟨by rw [if_pos b1] at h1; exact h1, by rw [if_pos b2] at h2; exact h2, h3 b1 b2⟩
  have HB := fhide (And.intro b1 b2)
  clear ha hm hT hf b1 b2
  generalize wz T m a = z at *
  go_enter Tryz.func187, Tryz.ntmps187
  go_wp2_with fail
  refine (value64_any a _).mono ?_
  rintro e w1 ⟨rfl, hw1⟩
  have hw1 := hw1.symm
  subst hw1
  go_wp2_with fail
  refine (HW.out _).mono ?_
  rintro e w1 ⟨x, hx, rfl, hb1⟩
  obtain ⟨i1, i2, i3⟩ := HI.out x hx
  have h2 : FloatKind.f64.format.order x 4890909195324358656 = some .lt := i2
  have hcv := fun w : World => run_convert_float_int (P := Tryz.prog) w 51 2 .f64 .i64 x z (by kernel_rfl) (by kernel_rfl) i3
  have HX := fhide hb1
  clear hx hb1 i2 i3 HI HW HB
  rcases i1 with i1 | i1
  all_goals
    have h1 : FloatKind.f64.format.order x 14114281232179134464 = _ := i1
    clear i1
    go_wp2_with (simp only [h1, h2, hcv])
    go_ret2
    exact ⟨rfl, HX.out⟩

set_option maxRecDepth 100000 in
set_option maxHeartbeats 1000000 in
theorem ToInt_out (T : Nat) (hT : T = 1074) (a m : Nat) (w : World) (ha : a < 18446744073709551616) (hm : m ≤ 4) (hb : ¬ (a % 9223372036854775808 < 9218868437227405312 ∧ -9223372036854775808 ≤ wz T m a ∧ wz T m a < 9223372036854775808)) : Calls Tryz.prog 187 #[.int .u64 a, .int .i64 m] w fun e w' => e = .returned (.tuple #[.int .i64 0, .int .i64 30]) ∧ Below w.heap.size w w' := by
  have HW := fhide (fun w : World => whole_any T hT a m w ha hm)
  have HI : Hid (∀ x, IsWhole T m a x → (Ieee.double.order x 14114281232179134464 = some .lt ∨ Ieee.double.order x 14114281232179134464 = none) ∨ ((Ieee.double.order x 14114281232179134464 = some .gt ∨ Ieee.double.order x 14114281232179134464 = some .eq) ∧ (Ieee.double.order x 4890909195324358656 = some .gt ∨ Ieee.double.order x 4890909195324358656 = some .eq))) := by
    intro x hx
    rcases Nat.lt_trichotomy (a % 9223372036854775808) 9218868437227405312 with c | c | c
    · obtain ⟨i1, i2, _⟩ := whole_int T m a x hT hm hx c
      by_cases b1 : -9223372036854775808 ≤ wz T m a
      · rw [if_pos b1] at i1
        rw [if_neg (fun h => hb ⟨c, b1, h⟩)] at i2
        exact .inr ⟨i1, i2⟩
      · rw [if_neg b1] at i1; exact .inl (.inl i1)
    · rw [hx.2.2.1 c]
      have hn : rg Ieee.double a = Ieee.double.infRung := by rw [rg64, inf64]; exact c
      have o1 := order_all Ieee.double (by decide) a 14114281232179134464 (by rw [hn]; exact Nat.le_refl _) (by rw [rg64, inf64]; omega)
      have o2 := order_all Ieee.double (by decide) a 4890909195324358656 (by rw [hn]; exact Nat.le_refl _) (by rw [rg64, inf64]; omega)
      have hv : V Ieee.double 4890909195324358656 < V Ieee.double Ieee.double.infRung := V_lt (by rw [inf64]; omega)
      have sneg : sv Ieee.double 14114281232179134464 = -((V Ieee.double 4890909195324358656 : Nat) : Int) := by
        unfold sv
        rw [show sg Ieee.double 14114281232179134464 = true by decide +kernel, show rg Ieee.double 14114281232179134464 = 4890909195324358656 by decide +kernel]
        rfl
      have spos : sv Ieee.double 4890909195324358656 = ((V Ieee.double 4890909195324358656 : Nat) : Int) := by
        unfold sv
        rw [show sg Ieee.double 4890909195324358656 = false by decide +kernel, show rg Ieee.double 4890909195324358656 = 4890909195324358656 by decide +kernel]
        rfl
      rw [sneg] at o1
      rw [spos] at o2
      have sa : sv Ieee.double a = if sg Ieee.double a then -((V Ieee.double Ieee.double.infRung : Nat) : Int) else ((V Ieee.double Ieee.double.infRung : Nat) : Int) := by unfold sv; rw [hn]
      rw [sa] at o1 o2
      generalize V Ieee.double 4890909195324358656 = Z at *
      generalize V Ieee.double Ieee.double.infRung = I at *
      cases hs : sg Ieee.double a
      · rw [hs] at o1 o2
        simp only [Bool.false_eq_true, if_false] at o1 o2
        rw [cmp_gt (by omega)] at o1 o2
        exact .inr ⟨.inl o1, .inl o2⟩
      · rw [hs] at o1 o2
        simp only [if_true] at o1 o2
        rw [cmp_lt (by omega)] at o1
        exact .inl (.inl o1)
    · exact .inl (.inr (order_nan _ (by decide) _ _ (.inl (by rw [rg64, inf64]; exact hx.2.1 c))))
  clear ha hm hT hb
  go_enter Tryz.func187, Tryz.ntmps187
  go_wp2_with fail
  refine (value64_any a _).mono ?_
  rintro e w1 ⟨rfl, hw1⟩
  have hw1 := hw1.symm
  subst hw1
  go_wp2_with fail
  refine (HW.out _).mono ?_
  rintro e w1 ⟨x, hx, rfl, hb1⟩
  have i1 := HI.out x hx
  have HX := fhide hb1
  clear hx hb1 HI HW
  rcases i1 with (i1 | i1) | ⟨i1 | i1, i2 | i2⟩
  · have h1 : FloatKind.f64.format.order x 14114281232179134464 = _ := i1
    clear i1
    go_wp2_with (simp only [h1])
    go_ret2
    exact ⟨rfl, HX.out⟩
  · have h1 : FloatKind.f64.format.order x 14114281232179134464 = _ := i1
    clear i1
    go_wp2_with (simp only [h1])
    go_ret2
    exact ⟨rfl, HX.out⟩
  all_goals
    have h1 : FloatKind.f64.format.order x 14114281232179134464 = _ := i1
    have h2 : FloatKind.f64.format.order x 4890909195324358656 = _ := i2
    clear i1 i2
    go_wp2_with (simp only [h1, h2])
    go_ret2
    exact ⟨rfl, HX.out⟩

set_option maxRecDepth 100000 in
theorem ToInt_bad (a : Nat) (mode : Int) (w : World) (hm : mode < 0 ∨ 4 < mode) : Calls Tryz.prog 187 #[.int .u64 a, .int .i64 mode] w fun e w' => e = .returned (.tuple #[.int .i64 0, .int .i64 31]) ∧ w' = w := by
  have HW := fhide (fun w : World => whole_bad a mode w hm)
  clear hm
  go_enter Tryz.func187, Tryz.ntmps187
  go_wp2_with fail
  refine (value64_any a _).mono ?_
  rintro e w1 ⟨rfl, hw1⟩
  have hw1 := hw1.symm
  subst hw1
  go_wp2_with fail
  refine (HW.out _).mono ?_
  rintro e w1 ⟨rfl, hw1⟩
  have hw1 := hw1.symm
  subst hw1
  go_wp2_with fail
  go_ret2
  exact ⟨rfl, rfl⟩
end Go.Proofs.YtleffbpjjbiobaaGreatDoor

namespace Go.Proofs.YtleffbpjjbiobaaGreatDoor
open Go.RowKit
open M
set_option linter.unusedVariables false
set_option linter.unusedSimpArgs false

/-- The nearest whole number, if it is one of 64 bits. -/
def near64 (v : Nat) : Option Int := if v % 9223372036854775808 < 9218868437227405312 ∧ -9223372036854775808 ≤ wz 1074 0 v ∧ wz 1074 0 v < 9223372036854775808 then some (wz 1074 0 v) else none

def F64 : Dm := ⟨fun a b => told64 (Ieee.double.mul a b), fun a b => told64 (Ieee.double.div a b), fun k => floatOfInt .f64 k, near64, 22, 999999999999999⟩

theorem near64_range {v : Nat} {k : Int} (h : near64 v = some k) : -9223372036854775808 ≤ k ∧ k ≤ 9223372036854775807 := by
  unfold near64 at h
  split at h
  · rename_i hh
    simp only [Option.some.injEq] at h
    rw [← h]
    obtain ⟨_, h1, h2⟩ := hh
    generalize wz 1074 0 v = z at *
    omega
  · cases h

theorem told64_lt (x : Option Nat) (h : ∀ r, x = some r → r < 18446744073709551616) : told64 x < 18446744073709551616 := by
  cases x with
  | none => show 9221120237041090560 < 18446744073709551616; omega
  | some r => exact h r rfl

theorem F64_mul_lt (a b : Nat) : F64.mul a b < 18446744073709551616 := told64_lt _ fun r hr => (fb_num (op := .mul) (a := a) (b := b) (show floatBits .mul .f64 a b = some r from hr)).2
theorem F64_div_lt (a b : Nat) : F64.div a b < 18446744073709551616 := told64_lt _ fun r hr => (fb_num (op := .quo) (a := a) (b := b) (show floatBits .quo .f64 a b = some r from hr)).2

theorem near_lt64 (s : Bool) (m : Nat) (p : Int) : Ieee.double.nearest s m p < 18446744073709551616 := by
  rw [Flt.nearest_rnd]
  have h : ∀ r, r ≤ 9218868437227405312 → Ieee.double.word s r < 18446744073709551616 := fun r hr => by
    cases s
    · show r < _; omega
    · show Ieee.double.signWeight + r < _; rw [show Ieee.double.signWeight = 9223372036854775808 from by decide +kernel]; omega
  refine h _ ?_
  rw [show Ieee.double.infRung = 9218868437227405312 from by decide +kernel]
  exact Nat.min_le_right _ _

theorem F64_int_lt (n : Int) : F64.int n < 18446744073709551616 := by
  show floatOfInt .f64 n < 18446744073709551616
  have h : ∃ s m p, floatOfInt .f64 n = Ieee.double.nearest s m p := ⟨_, _, _, rfl⟩
  obtain ⟨s, m, p, h⟩ := h
  rw [h]
  exact near_lt64 s m p

theorem F64_pow_lt (p : Nat) : F64.pow p < 18446744073709551616 := by
  cases p with
  | zero => exact F64_int_lt 1
  | succ p => exact F64_mul_lt _ _

theorem fromInt64_any (n : Int) (w : World) : Calls Tryz.prog 148 #[.int .i64 n] w fun e w' => e = .returned (.int .u64 (floatOfInt .f64 n : Nat)) ∧ w' = w := by
  have hcv := fun w : World => run_convert_int_float (P := Tryz.prog) w 2 51 .i64 .f64 n (by kernel_rfl) (by kernel_rfl)
  generalize floatOfInt .f64 n = x at *
  have ht := tobits64 x
  go_enter Tryz.func148, Tryz.ntmps148
  go_wp2_with (simp only [hcv, ht])
  go_ret
  exact ⟨rfl, rfl⟩

theorem floatOf64_any (n : Int) (w : World) : Calls Tryz.prog 113 #[.int .i64 n] w fun e w' => e = .returned (.int .u64 (F64.int n : Nat)) ∧ w' = w := by
  have HF := hide (fromInt64_any n w)
  change Calls _ _ _ _ fun e w' => e = .returned (.int .u64 (floatOfInt .f64 n : Nat)) ∧ w' = w
  generalize floatOfInt .f64 n = x at *
  go_enter Tryz.func113, Tryz.ntmps113
  go_wp2_with fail
  refine (cwide64_any _).mono ?_
  rintro e w1 ⟨rfl, rfl⟩
  go_wp2_with fail
  refine HF.out.mono ?_
  rintro e w2 ⟨rfl, rfl⟩
  go_wp2_with fail
  go_ret
  exact ⟨rfl, rfl⟩

/-- What nearestWhole tells. -/
def nwV (o : Option Int) : Value := match o with
  | some k => .tuple #[.int .i64 k, .bool true]
  | none => .tuple #[.int .i64 0, .bool false]

theorem nearestWhole64_any (v : Nat) (w : World) (hv : v < 18446744073709551616) : Calls Tryz.prog 163 #[.int .u64 v] w fun e w' => e = .returned (nwV (near64 v)) ∧ Below w.heap.size w w' := by
  by_cases h : v % 9223372036854775808 < 9218868437227405312 ∧ -9223372036854775808 ≤ wz 1074 0 v ∧ wz 1074 0 v < 9223372036854775808
  · have e0 : near64 v = some (wz 1074 0 v) := by unfold near64; rw [if_pos h]
    have HT := hide (fun w : World => ToInt_in 1074 rfl v 0 w hv (by omega) h.1 h.2.1 h.2.2)
    rw [e0]
    clear e0 h
    generalize wz 1074 0 v = z at *
    go_enter Tryz.func163, Tryz.ntmps163
    go_wp2_with fail
    refine (cwide64_any _).mono ?_
    rintro e w1 ⟨rfl, rfl⟩
    go_wp2_with fail
    refine (HT.out _).mono ?_
    rintro e w2 ⟨rfl, B2⟩
    have HB := hide B2
    clear B2
    go_wp2_with fail
    go_ret2
    exact ⟨rfl, HB.out⟩
  · have e0 : near64 v = none := by unfold near64; rw [if_neg h]
    have HT := hide (fun w : World => ToInt_out 1074 rfl v 0 w hv (by omega) h)
    rw [e0]
    clear e0 h
    go_enter Tryz.func163, Tryz.ntmps163
    go_wp2_with fail
    refine (cwide64_any _).mono ?_
    rintro e w1 ⟨rfl, rfl⟩
    go_wp2_with fail
    refine (HT.out _).mono ?_
    rintro e w2 ⟨rfl, B2⟩
    have HB := hide B2
    clear B2
    go_wp2_with fail
    go_ret2
    exact ⟨rfl, HB.out⟩

theorem mostWhole64_any (w : World) : Calls Tryz.prog 164 #[] w fun e w' => e = .returned (.int .i64 999999999999999) ∧ w' = w := by
  go_enter Tryz.func164, Tryz.ntmps164
  go_wp2_with fail
  refine (cwide64_any _).mono ?_
  rintro e w1 ⟨rfl, rfl⟩
  go_wp2_with fail
  go_ret
  exact ⟨rfl, rfl⟩

theorem mostPoint64_any (w : World) : Calls Tryz.prog 129 #[] w fun e w' => e = .returned (.int .i64 22) ∧ w' = w := by
  go_enter Tryz.func129, Tryz.ntmps129
  go_wp2_with fail
  refine (cwide64_any _).mono ?_
  rintro e w1 ⟨rfl, rfl⟩
  go_wp2_with fail
  go_ret
  exact ⟨rfl, rfl⟩

/-- The scale of a p. -/
def scV64 (p : Nat) : Value := .agg #[.int .i64 (p : Int), .int .u64 (F64.pow p : Int)]

set_option maxRecDepth 100000 in
theorem scaleAt64_any (p : Nat) (w : World) (hp : p ≤ 1000) : Calls Tryz.prog 73 #[.int .i64 p] w fun e w' => e = .returned (scV64 p) ∧ Below w.heap.size w w' := by
  have HM := hide (fun (a b : Nat) (w : World) => Mul64_any a b w)
  have hI1 := floatOf64_any 1
  have hI10 := floatOf64_any 10
  obtain ⟨g, hg⟩ : ∃ g, w.heap.size = g := ⟨_, rfl⟩
  have HG := hide hg
  have HI := hide (And.intro hI1 hI10)
  clear hI1 hI10
  have HA : Hid (Below g w (w.alloc (.cells #[.int .i64 0, .int .u64 0] 103)) ∧ (w.alloc (.cells #[.int .i64 0, .int .u64 0] 103)).heap[g]? = some (.cells #[.int .i64 0, .int .u64 0] 103 (0, 0))) := by
    rw [← hg]; exact ⟨(Below.refl _ w).alloc (Nat.le_refl _) _, heap_alloc_new w _⟩
  go_enter Tryz.func73, Tryz.ntmps73
  go_upto_region 1 with fail
  (try rw [hg])
  clear hg
  generalize w.alloc (.cells #[.int .i64 0, .int .u64 0] 103) = W1 at *
  go_wp2_with fail
  refine (HI.out.1 _).mono ?_
  rintro e w1 ⟨rfl, h1⟩
  have h1 := h1.symm
  subst h1
  go_wp2_with fail
  refine (HI.out.2 _).mono ?_
  rintro e w1 ⟨rfl, h1⟩
  have h1 := h1.symm
  subst h1
  obtain ⟨TEN, hTEN⟩ : ∃ t, F64.int 10 = t := ⟨_, rfl⟩
  rw [hTEN]
  have HTEN := hide hTEN
  clear hTEN
  go_wp2_with fail
  go_loopw [3, 8] (fun t3 t8 wr => ∃ k : Nat, t8 = .int .i64 (k : Int) ∧ t3 = .int .u64 ((F64.pow k : Nat) : Int) ∧ Hid (k ≤ p ∧ Below g w wr ∧ wr.heap[g]? = some (.cells #[.int .i64 0, .int .u64 0] 103 (0, 0)))) (fun _ t8 _ => p - (intOf t8).toNat)
  case atStart => exact ⟨0, rfl, rfl, Nat.zero_le _, HA.out.1, HA.out.2⟩
  case round =>
    obtain ⟨k, rfl, rfl, hI⟩ := hrel
    by_cases hlt : k < p
    · have HE : Hid (told64 (Ieee.double.mul (F64.pow k) TEN) = F64.pow (k + 1)) := by rw [← HTEN.out]; rfl
      obtain ⟨P, hP⟩ : ∃ P, F64.pow k = P := ⟨_, rfl⟩
      rw [hP] at HE ⊢
      clear hP
      go_wp2_with fail
      refine (HM.out P TEN wr).mono ?_
      rintro e w2 ⟨rfl, B2⟩
      rw [HE.out]
      have HB2 : Hid (Below g w w2 ∧ w2.heap[g]? = some (.cells #[.int .i64 0, .int .u64 0] 103 (0, 0))) := by
        have h1 := size_lt_of_row hI.out.2.2
        exact ⟨hI.out.2.1.trans (B2.mono (by omega)), by rw [B2.block g h1]; exact hI.out.2.2⟩
      clear B2
      go_wp2_with fail
      go_roundw
      case rel => exact ⟨k + 1, by simp, rfl, hlt, HB2.out.1, HB2.out.2⟩
      case measure => simp [intOf]; omega
    · have hk : k = p := by have := hI.out.1; omega
      subst hk
      have c0 : wr.cell? ⟨g, 0, none⟩ = some (.int .i64 0) := cell_of_row _ _ 0 _ _ _ hI.out.2.2
      have c1 : wr.cell? ⟨g, 1, none⟩ = some (.int .u64 0) := cell_of_row _ _ 1 _ _ _ hI.out.2.2
      have f0 : wr.frozen? ⟨g, 0, none⟩ = false := frozen_of_row _ _ _ _ _ hI.out.2.2
      have f1 : wr.frozen? ⟨g, 1, none⟩ = false := frozen_of_row _ _ _ _ _ hI.out.2.2
      obtain ⟨P, hP⟩ : ∃ P, F64.pow k = P := ⟨_, rfl⟩
      rw [hP]
      have HP := hide hP
      clear hP
      go_wp2_with fail
      obtain ⟨fs, hu⟩ := is_struct (show Tryz.prog.underlying 103 = Tryz.prog.underlying 103 from rfl) (by kernel_rfl)
      have hrow : ((wr.setCell ⟨g, 0, none⟩ (.int .i64 (k : Int))).setCell ⟨g, 1, none⟩ (.int .u64 (P : Int))).heap[g]? = some (.cells #[.int .i64 (k : Int), .int .u64 (P : Int)] 103 (0, 0)) := by
        have h1 := heap_setCell_same wr g 0 _ _ (.int .i64 (k : Int)) hI.out.2.2
        have h2 := heap_setCell_same _ g 1 _ _ (.int .u64 (P : Int)) h1
        exact h2
      refine bodyPost_ret (results_cell_row rfl _ _ g _ _ (0, 0) (.struct fs) rfl hrow hu rfl (by kernel_rfl)) rfl ?_
      refine ⟨by rw [scV64, HP.out], ?_⟩
      have h1 := hI.out.2.1
      rw [HG.out]
      exact (h1.setCell (p := ⟨g, 0, none⟩) (Nat.le_refl _) _).setCell (p := ⟨g, 1, none⟩) (Nat.le_refl _) _

theorem valueOf64_any (p : Nat) (k : Int) (w : World) : Calls Tryz.prog 75 #[scV64 p, .int .i64 k] w fun e w' => e = .returned (.int .u64 (F64.val p k : Nat)) ∧ Below w.heap.size w w' := by
  have HD := hide (fun (w : World) => Div64_any (F64.int k) (F64.pow p) w (F64_int_lt k) (F64_pow_lt p))
  have HF := hide (fun (w : World) => floatOf64_any k w)
  have ev : told64 (Ieee.double.div (F64.int k) (F64.pow p)) = F64.val p k := rfl
  rw [ev] at HD
  clear ev
  unfold scV64
  generalize F64.val p k = out at *
  generalize F64.int k = I at *
  generalize F64.pow p = P at *
  obtain ⟨g, hg⟩ : ∃ g, w.heap.size = g := ⟨_, rfl⟩
  obtain ⟨W1, hW1⟩ : ∃ W1, W1 = w.alloc (.cells #[.int .i64 (p : Int), .int .u64 (P : Int)] 103) := ⟨_, rfl⟩
  have hB1 : Below g w W1 := by rw [hW1, ← hg]; exact (Below.refl _ w).alloc (Nat.le_refl _) _
  have hr1 : W1.heap[g]? = some (.cells #[.int .i64 (p : Int), .int .u64 (P : Int)] 103 (0, 0)) := by rw [hW1, ← hg]; exact heap_alloc_new w _
  have c0 : W1.drew.cell? ⟨g, 1, none⟩ = some (.int .u64 (P : Int)) := cell_of_row W1.drew g 1 _ _ _ hr1
  have HB : Hid (Below g w W1.drew) := ⟨hB1.os, hB1.tape, hB1.output, hB1.size, hB1.block⟩
  have HGG := hide hg
  have HS : Hid (g ≤ W1.drew.heap.size) := by have := size_lt_of_row hr1; exact Nat.le_of_lt this
  clear hB1 hr1
  go_enter Tryz.func75, Tryz.ntmps75
  go_wp2_with fail
  (try rw [hg])
  (try rw [← hW1])
  clear hW1 hg
  go_region_held3 (fun w' => w'.cell? ⟨g, 1, none⟩ = some (.int .u64 (P : Int))) (exact c0)
    (first | (go_at_call 113; go_must (refine (HF.out _).mono ?_); rintro _ w5 ⟨rfl, hw5⟩; have hw5 := hw5.symm; subst hw5) | (go_at_call 115; go_must (refine (HD.out _).mono ?_); rintro _ w6 ⟨rfl, B6⟩; have HB6 : Hid (Below g w w6) := (HB.out.trans (B6.mono HS.out)); have c0 : w6.cell? ⟨g, 1, none⟩ = some (.int .u64 (P : Int)) := (by rw [B6.cell (p := ⟨g, 1, none⟩) (block_lt_of_cell c0)]; exact c0); clear B6))
  all_goals
    go_wp2_with fail
    go_ret
    exact ⟨rfl, by rw [HGG.out]; exact HB6.out⟩

end Go.Proofs.YtleffbpjjbiobaaGreatDoor
