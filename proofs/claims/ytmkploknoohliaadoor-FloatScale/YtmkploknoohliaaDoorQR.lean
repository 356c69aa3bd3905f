/- math.ldexp. -/
import Derived.Test.YtmkploknoohliaaDoorQQ
namespace Go.Proofs.YtmkploknoohliaaDoor
open Go.RowKit
open Flt
set_option linter.unusedVariables false
set_option linter.unusedSimpArgs false

/-- A finite number times a power of 2, rounded once. -/
def scw (c : Int) (b : Nat) : Nat := Ieee.double.word (sg Ieee.double b) (min (rnd Ieee.double (V Ieee.double (b % 9223372036854775808) * 2 ^ c.toNat) (2 ^ (-c).toNat)) 9218868437227405312)

theorem scw_rnd (W t f u : Nat) (n X : Int) (h : (4503599627370496 + t) * 2 ^ f = W * 2 ^ u) (hX : X = n - u + f) :
    rnd Ieee.double (W * 2 ^ n.toNat) (2 ^ (-n).toNat) = rnd Ieee.double ((4503599627370496 + t) * 2 ^ X.toNat) (2 ^ (-X).toNat) := by
  refine rnd_eq _ (Nat.two_pow_pos _) (Nat.two_pow_pos _) ?_
  refine Nat.eq_of_mul_eq_mul_right (Nat.two_pow_pos u) ?_
  generalize hm : 4503599627370496 + t = m at *
  have e : W * 2 ^ n.toNat * 2 ^ (-X).toNat * 2 ^ u = m * 2 ^ f * (2 ^ n.toNat * 2 ^ (-X).toNat) := by
    rw [h]; simp only [Nat.mul_assoc, Nat.mul_left_comm, Nat.mul_comm]
  rw [e]
  simp only [Nat.mul_assoc, ← Nat.pow_add]
  exact congrArg (m * 2 ^ ·) (by omega)

theorem word_put (s : Bool) (r : Nat) : Ieee.double.word s r = 9223372036854775808 * s.toNat + r := by
  cases s
  · show r = 9223372036854775808 * 0 + r; omega
  · show 9223372036854775808 + r = 9223372036854775808 * 1 + r; omega

theorem inf_word (s : Bool) : Ieee.double.word s 9218868437227405312 = if s then 18442240474082181120 else 9218868437227405312 := by
  cases s <;> rfl

/-- A product with 1. -/
theorem mul_one64 (T y : Nat) (hT : T = 1074) (hy : y < 18446744073709551616) (hf : y % 9223372036854775808 < 9218868437227405312) : FloatKind.f64.format.mul 4607182418800017408 y = some y := by
  have hl : Ieee.double.leastPlace = -(T : Int) := by rw [hT]; decide
  have hm := mul_rnd Ieee.double T 4607182418800017408 y hl (by rw [rg64, inf64]; omega) (by rw [rg64, inf64]; exact hf)
  have hz : V Ieee.double 4607182418800017408 = 2 ^ T := by
    obtain ⟨k, hk⟩ : ∃ k : Nat, k = 1022 := ⟨_, rfl⟩
    have := V_field k 0 (by omega)
    rw [show (k + 1) * 4503599627370496 + 0 = 4607182418800017408 by omega] at this
    rw [this, show T = 52 + k by omega, Nat.pow_add]
  rw [rg64, rg64, show 4607182418800017408 % 9223372036854775808 = 4607182418800017408 by omega, hz, show sg Ieee.double 4607182418800017408 = false by decide +kernel, Bool.false_xor,
    rnd_eq Ieee.double (n' := V Ieee.double (y % 9223372036854775808)) (d' := 1) (Nat.two_pow_pos T) (by omega) (by rw [Nat.mul_one, Nat.mul_comm]), rnd_V, inf64, Nat.min_eq_left (by omega)] at hm
  have hw := word_self Ieee.double y (by show y < 2 * 9223372036854775808; omega)
  rw [rg64] at hw
  rw [hw] at hm
  exact hm

/-- A product with 2^-53. -/
theorem mul_low64 (T c t : Nat) (s : Bool) (hT : T = 1074) (h1 : 1 ≤ c) (h2 : c ≤ 53) (ht : t < 4503599627370496) : FloatKind.f64.format.mul 4368491638549381120 (Ieee.double.word s ((53 - c + 1) * 4503599627370496 + t)) = some (Ieee.double.word s (min (rnd Ieee.double (4503599627370496 + t) (2 ^ c)) 9218868437227405312)) := by
  have hl : Ieee.double.leastPlace = -(T : Int) := by rw [hT]; decide
  have hr : (53 - c + 1) * 4503599627370496 + t < 9218868437227405312 := by omega
  have e1 : rg Ieee.double (Ieee.double.word s ((53 - c + 1) * 4503599627370496 + t)) = (53 - c + 1) * 4503599627370496 + t := rg_word _ _ _ (by show _ < 9223372036854775808; omega)
  have e2 : sg Ieee.double (Ieee.double.word s ((53 - c + 1) * 4503599627370496 + t)) = s := sg_word _ _ _ (by show _ < 9223372036854775808; omega)
  have hm := mul_rnd Ieee.double T 4368491638549381120 _ hl (by rw [rg64, inf64]; omega) (by rw [e1, inf64]; exact hr)
  rw [e1, e2, rg64, show 4368491638549381120 % 9223372036854775808 = 4368491638549381120 by omega, show sg Ieee.double 4368491638549381120 = false by decide +kernel, Bool.false_xor, Nat.mul_comm (V Ieee.double 4368491638549381120), scale_low T c t hT h1 h2 ht, inf64] at hm
  exact hm

theorem field_out (s : Bool) (f t : Nat) (ht : t < 4503599627370496) (hf : f ≤ 2045) : ∃ g : Nat, ((Ieee.double.word s ((f + 1) * 4503599627370496 + t) : Nat) : Int) / 4503599627370496 = (g : Int) ∧ g ≤ 4095 ∧ bits .and .i64 (g : Int) 2047 = ((f + 1 : Nat) : Int) := by
  refine ⟨2048 * s.toNat + (f + 1), ?_, ?_, ?_⟩
  · rw [word_put]; cases s <;> simp only [Bool.toNat_false, Bool.toNat_true] <;> omega
  · cases s <;> simp only [Bool.toNat_false, Bool.toNat_true] <;> omega
  · rw [i64_and2047]; cases s <;> simp only [Bool.toNat_false, Bool.toNat_true] <;> omega

theorem field_cut (s : Bool) (f t : Nat) (ht : t < 4503599627370496) (hf : f ≤ 2045) : bits BinOp.andNot IntKind.u64 ((Ieee.double.word s ((f + 1) * 4503599627370496 + t) : Nat) : Int) 9218868437227405312 = ((9223372036854775808 * s.toNat + t : Nat) : Int) := by
  have hs := Bool.toNat_le s
  rw [b64_ends _ (by rw [word_put]; omega), word_put, show (9223372036854775808 * s.toNat + ((f + 1) * 4503599627370496 + t)) / 9223372036854775808 = s.toNat by omega, show (9223372036854775808 * s.toNat + ((f + 1) * 4503599627370496 + t)) % 4503599627370496 = t by omega, show s.toNat % 2 = s.toNat by omega]

theorem order_fin0 (a : Nat) (h0 : 0 < a % 9223372036854775808) (hf : a % 9223372036854775808 < 9218868437227405312) : Ieee.double.order a 0 = if sg Ieee.double a then some .lt else some .gt := by
  rw [order_all Ieee.double (by decide) a 0 (by rw [rg64, inf64]; omega) (by rw [rg64, inf64]; omega)]
  have e0 : sv Ieee.double 0 = 0 := by
    unfold sv
    rw [show rg Ieee.double 0 = 0 by decide +kernel, V_zero]; split <;> rfl
  have hv : 0 < V Ieee.double (rg Ieee.double a) := by
    rw [rg64, ← V_zero Ieee.double]; exact V_lt h0
  rw [e0]
  unfold sv
  cases sg Ieee.double a
  · show some (compare (_ : Int) 0) = _
    rw [cmp_gt (by simp only [Bool.false_eq_true, if_false]; omega)]; rfl
  · show some (compare (_ : Int) 0) = _
    rw [cmp_lt (by simp only [if_true]; omega)]; rfl

set_option maxRecDepth 100000 in
theorem iInf_up (w : World) : Calls Tryd.prog 60 #[.int .i64 1] w fun e w' => e = .returned (.float .f64 9218868437227405312) ∧ w' = w := by
  have h := frombits64 9218868437227405312
  have h2 : ∀ w : World, (callFunc 32 #[.int .u64 9218868437227405312]).run Tryd.prog w = .ok (.value (.float .f64 9218868437227405312)) w := h
  go_enter Tryd.func60, Tryd.ntmps60
  go_wp2_with (simp only [h2])
  go_ret
  exact ⟨rfl, rfl⟩
set_option maxRecDepth 100000 in
theorem iInf_down (w : World) : Calls Tryd.prog 60 #[.int .i64 (-1)] w fun e w' => e = .returned (.float .f64 18442240474082181120) ∧ w' = w := by
  have h := frombits64 18442240474082181120
  have h2 : ∀ w : World, (callFunc 32 #[.int .u64 18442240474082181120]).run Tryd.prog w = .ok (.value (.float .f64 18442240474082181120)) w := h
  go_enter Tryd.func60, Tryd.ntmps60
  go_wp2_with (simp only [h2])
  go_ret
  exact ⟨rfl, rfl⟩
set_option maxRecDepth 100000 in
set_option maxHeartbeats 2000000 in
theorem ldexp_num (a : Nat) (n : Int) (w : World) (ha : a < 18446744073709551616) (h0 : 0 < a % 9223372036854775808) (hf : a % 9223372036854775808 < 9218868437227405312) (hn1 : -2200 ≤ n) (hn2 : n ≤ 2200) : Calls Tryd.prog 46 #[.float .f64 a, .int .i64 n] w fun e w' => e = .returned (.float .f64 (scw n a)) ∧ w' = w := by
  obtain ⟨out, ho⟩ : ∃ out : Nat, scw n a = out := ⟨_, rfl⟩
  rw [ho]
  have HI := fhide (fun w : World => IsInf_fin a w ha hf)
  have HN := fhide (fun w : World => IsNaN_any a w)
  rw [decide_eq_false (by omega)] at HN
  have HM := fhide (fun w : World => normalize_any a w ha h0 hf)
  have ord := order_fin0 a h0 hf
  obtain ⟨s, hs⟩ : ∃ s, sg Ieee.double a = s := ⟨_, rfl⟩
  rw [hs] at ord HM
  have HO := fhide (And.intro ho (And.intro hs (And.intro ha (And.intro h0 hf))))
  have ord' : FloatKind.f64.format.order a 0 = if s then some .lt else some .gt := ord
  clear ho hs ha h0 hf ord
  generalize hV : V Ieee.double (a % 9223372036854775808) = W at HM
  have HV := fhide hV
  clear hV
  have key : ∀ f t u : Nat, ∀ X : Int, (4503599627370496 + t) * 2 ^ f = W * 2 ^ u → X = n - u + f → Ieee.double.word s (min (rnd Ieee.double ((4503599627370496 + t) * 2 ^ X.toNat) (2 ^ (-X).toNat)) 9218868437227405312) = out := by
    intro f t u X h1 h2
    rw [← HO.out.1]
    unfold scw
    rw [HV.out, HO.out.2.1, scw_rnd W t f u n X h1 h2]
  have HK := fhide key
  clear key
  obtain ⟨o0, ord0⟩ : ∃ o0, FloatKind.f64.format.order a 0 = some o0 ∧ (o0 = .lt ∨ o0 = .gt) := by
    rw [ord']; cases s
    · exact ⟨.gt, rfl, .inr rfl⟩
    · exact ⟨.lt, rfl, .inl rfl⟩
  obtain ⟨ord0, ho0⟩ := ord0
  clear ord'
  rcases ho0 with rfl | rfl
  all_goals
    go_enter Tryd.func46, Tryd.ntmps46
    go_wp2_with (simp only [ord0])
    refine (HI.out _).mono ?_
    rintro e w1 ⟨rfl, hw1⟩
    have hw1 := hw1.symm
    subst hw1
    go_wp2_with fail
    refine (HN.out _).mono ?_
    rintro e w1 ⟨rfl, hw1⟩
    have hw1 := hw1.symm
    subst hw1
    go_wp2_with fail
    refine (HM.out _).mono ?_
    rintro e w1 ⟨f, t, u, rfl, ht, hf, hu, he, hw1⟩
    have hw1 := hw1.symm
    subst hw1
    obtain ⟨g, hg, hg2, hand⟩ := field_out s f t ht hf
    have hcut := field_cut s f t ht hf
    have hyb : Ieee.double.word s ((f + 1) * 4503599627370496 + t) < 18446744073709551616 ∧ Ieee.double.word s ((f + 1) * 4503599627370496 + t) % 9223372036854775808 = (f + 1) * 4503599627370496 + t ∧ Ieee.double.word s ((f + 1) * 4503599627370496 + t) / 9223372036854775808 = s.toNat := by
      have := Bool.toNat_le s
      rw [word_put]; omega
    have hys : sg Ieee.double (Ieee.double.word s ((f + 1) * 4503599627370496 + t)) = s := sg_word _ _ _ (by show _ < 9223372036854775808; omega)
    have hto := tobits64 (Ieee.double.word s ((f + 1) * 4503599627370496 + t))
    generalize hy : Ieee.double.word s ((f + 1) * 4503599627370496 + t) = y at *
    obtain ⟨X, hX⟩ : ∃ X : Int, X = n - u + f := ⟨_, rfl⟩
    have HX := fhide (HK.out f t u X he hX)
    obtain ⟨q, hq⟩ : ∃ q : Nat, f + 1 = q := ⟨_, rfl⟩
    rw [hq] at hand
    obtain ⟨z, hz⟩ : ∃ z : Nat, 9223372036854775808 * s.toNat + t = z := ⟨_, rfl⟩
    rw [hz] at hcut
    obtain ⟨e1, hE1, hb1⟩ : ∃ e1 : Int, n + -(u : Int) = e1 ∧ (-3000 ≤ e1 ∧ e1 ≤ 3000) := ⟨_, rfl, by omega⟩
    obtain ⟨e2, hE2, hb2⟩ : ∃ e2 : Int, (q : Int) - 1023 = e2 ∧ (-3000 ≤ e2 ∧ e2 ≤ 3000) := ⟨_, rfl, by omega⟩
    obtain ⟨x, hE3, hb3⟩ : ∃ x : Int, e1 + e2 = x ∧ (-6000 ≤ x ∧ x ≤ 6000) := ⟨_, rfl, by omega⟩
    have hxX : x = X - 1022 := by omega
    have hq2 : q ≤ 2046 := by omega
    have HYY := fhide (And.intro hyb (And.intro hys (And.intro ht (And.intro hxX (And.intro hz hf)))))
    clear hy hyb hys ht hf hu he hX hxX HK HV hq hz
    have HCs := fhide (fun w : World => Copysign_any 0 y w (by omega) HYY.out.1.1)
    rw [HYY.out.1.2.2] at HCs
    have hyo : FloatKind.f64.format.order y 0 = if s then some .lt else some .gt := by
      have := order_fin0 y (by rw [HYY.out.1.2.1]; omega) (by rw [HYY.out.1.2.1]; have := HYY.out.2.2.1; have := HYY.out.2.2.2.2.2; omega)
      rw [HYY.out.2.1] at this; exact this
    by_cases c1 : x < -1075
    · have hout : s.toNat * 9223372036854775808 + 0 = out := by
        rw [← HX.out]
        have h4 := HYY.out.2.2.2.1
        obtain ⟨c, hc⟩ : ∃ c : Nat, X = -(c : Int) := ⟨(-X).toNat, by omega⟩
        rw [hc, show (-(c : Int)).toNat = 0 by omega, show (- -(c : Int)).toNat = c by omega, Nat.pow_zero, Nat.mul_one, scale_less c t (by omega) HYY.out.2.2.1, Nat.zero_min, word_put]
        omega
      rw [hout] at HCs
      clear hyo HX HYY hcut
      go_wp2_with (simp only [hto, hg, hand, hE1, hE2, hE3])
      refine (HCs.out _).mono ?_
      rintro e w1 ⟨rfl, hw1⟩
      have hw1 := hw1.symm
      subst hw1
      go_wp2_with fail
      go_ret
      exact ⟨rfl, rfl⟩
    by_cases c2 : 1023 < x
    · have hout : (if s then 18442240474082181120 else 9218868437227405312) = out := by
        rw [← HX.out]
        have h4 := HYY.out.2.2.2.1
        obtain ⟨c, hc⟩ : ∃ c : Nat, X = (c : Int) := ⟨X.toNat, by omega⟩
        rw [hc, show (-(c : Int)).toNat = 0 by omega, show ((c : Int)).toNat = c by omega, Nat.pow_zero]
        have h5 := scale_great c t (by omega)
        rw [inf64] at h5
        rw [Nat.min_eq_right h5, inf_word]
      clear HX HYY hcut HCs
      cases s
      · have hy1 : FloatKind.f64.format.order y 0 = some .gt := hyo
        have ho1 : (9218868437227405312 : Nat) = out := hout
        subst ho1
        clear hyo hout
        go_wp2_with (simp only [hto, hg, hand, hE1, hE2, hE3, hy1])
        refine (iInf_up _).mono ?_
        rintro e w1 ⟨rfl, hw1⟩
        have hw1 := hw1.symm
        subst hw1
        go_wp2_with fail
        go_ret
        exact ⟨rfl, rfl⟩
      · have hy1 : FloatKind.f64.format.order y 0 = some .lt := hyo
        have ho1 : (18442240474082181120 : Nat) = out := hout
        subst ho1
        clear hyo hout
        go_wp2_with (simp only [hto, hg, hand, hE1, hE2, hE3, hy1])
        refine (iInf_down _).mono ?_
        rintro e w1 ⟨rfl, hw1⟩
        have hw1 := hw1.symm
        subst hw1
        go_wp2_with fail
        go_ret
        exact ⟨rfl, rfl⟩
    clear hyo HCs
    by_cases c3 : x < -1022
    · obtain ⟨x5, hx5, hx5b⟩ : ∃ x5 : Int, x + 53 = x5 ∧ (-1023 < x5 ∧ x5 ≤ -970) := ⟨_, rfl, by omega⟩
      obtain ⟨p, hp, hpb⟩ : ∃ p : Nat, x5 + 1023 = (p : Int) ∧ p ≤ 53 ∧ 1 ≤ p := ⟨(x5 + 1023).toNat, by omega, by omega⟩
      obtain ⟨c, hc, hcp⟩ : ∃ c : Nat, X = -(c : Int) ∧ (1 ≤ c ∧ c ≤ 53 ∧ 53 - c + 1 = p) := by
        have h4 := HYY.out.2.2.2.1
        exact ⟨(-X).toNat, by omega, by omega⟩
      have hmul0 := mul_low64 1074 c t s rfl hcp.1 hcp.2.1 HYY.out.2.2.1
      rw [hcp.2.2] at hmul0
      have hx := HX.out
      rw [hc, show (-(c : Int)).toNat = 0 by omega, show (- -(c : Int)).toNat = c by omega, Nat.pow_zero, Nat.mul_one] at hx
      rw [hx] at hmul0
      have hor : bits BinOp.or IntKind.u64 (z : Int) ((p : Int) * 4503599627370496) = ((Ieee.double.word s (p * 4503599627370496 + t) : Nat) : Int) := by
        have := b64_put s.toNat p t (Bool.toNat_le s) (by omega) HYY.out.2.2.1
        rw [HYY.out.2.2.2.2.1] at this
        rw [show (p : Int) * 4503599627370496 = ((4503599627370496 * p : Nat) : Int) by omega, this, word_put]
        omega
      generalize Ieee.double.word s (p * 4503599627370496 + t) = y2 at *
      have hfr := frombits64 y2
      have hmul := fun w : World => run_float_arith (P := Tryd.prog) w .mul 31 .f64 4368491638549381120 y2 out hmul0
      clear HX HYY hmul0 hx hc hcp
      go_wp2_with (simp only [hto, hg, hand, hE1, hE2, hE3, hcut, hx5, hp, hor, hfr, hmul])
      go_ret
      exact ⟨rfl, rfl⟩
    · obtain ⟨p, hp, hpb⟩ : ∃ p : Nat, x + 1023 = (p : Int) ∧ p ≤ 2046 ∧ 1 ≤ p := ⟨(x + 1023).toNat, by omega, by omega⟩
      obtain ⟨c, hc, hcp⟩ : ∃ c : Nat, X = (c : Int) ∧ (c + 1 = p) := by
        have h4 := HYY.out.2.2.2.1
        exact ⟨X.toNat, by omega, by omega⟩
      have hx := HX.out
      rw [hc, show (-(c : Int)).toNat = 0 by omega, show ((c : Int)).toNat = c by omega, Nat.pow_zero, scale_mid c t HYY.out.2.2.1, hcp, Nat.min_eq_left (by have := HYY.out.2.2.1; omega)] at hx
      have hor : bits BinOp.or IntKind.u64 (z : Int) ((p : Int) * 4503599627370496) = (out : Int) := by
        have := b64_put s.toNat p t (Bool.toNat_le s) (by omega) HYY.out.2.2.1
        rw [HYY.out.2.2.2.2.1] at this
        rw [show (p : Int) * 4503599627370496 = ((4503599627370496 * p : Nat) : Int) by omega, this, ← hx, word_put]
        omega
      have hob : out < 18446744073709551616 ∧ out % 9223372036854775808 < 9218868437227405312 := by
        have := Bool.toNat_le s
        have := HYY.out.2.2.1
        rw [← hx, word_put]
        omega
      have hmul0 := mul_one64 1074 out rfl hob.1 hob.2
      have hfr := frombits64 out
      have hmul := fun w : World => run_float_arith (P := Tryd.prog) w .mul 31 .f64 4607182418800017408 out out hmul0
      clear HX HYY hmul0 hx hc hcp hob
      go_wp2_with (simp only [hto, hg, hand, hE1, hE2, hE3, hcut, hp, hor, hfr, hmul])
      go_ret
      exact ⟨rfl, rfl⟩

end Go.Proofs.YtmkploknoohliaaDoor
