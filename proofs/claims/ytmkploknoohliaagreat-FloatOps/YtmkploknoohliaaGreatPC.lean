/- The document's Add, Sub, of width 64. -/
import Derived.Test.YtmkploknoohliaaGreatPA
import Derived.Test.YtmkploknoohliaaGreatPB
namespace Go.Proofs.YtmkploknoohliaaGreat
open Go.RowKit
open M
set_option linter.unusedVariables false
set_option linter.unusedSimpArgs false

/-- What is told of an operation's bits, of this width. -/
def tldW64 : Option Nat → Nat
  | some r => r
  | none => 9221120237041090560
theorem wd_word64 (s : Bool) (R : Nat) : wd64 s R = Ieee.double.word s R := by cases s <;> rfl
theorem rgW64 (x : Nat) : Flt.rg Ieee.double x = x % 9223372036854775808 := rfl
theorem infW64 : Ieee.double.infRung = 9218868437227405312 := by decide +kernel
theorem sgW64 (x : Nat) (hx : x < 18446744073709551616) : Flt.sg Ieee.double x = decide (9223372036854775808 ≤ x) := by
  show (x / 9223372036854775808 % 2 == 1) = _
  have h : x / 9223372036854775808 = 0 ∨ x / 9223372036854775808 = 1 := by omega
  rcases h with h | h
  · rw [h, decide_eq_false (by omega)]; rfl
  · rw [h, decide_eq_true (by omega)]; rfl
theorem selfW64 (a : Nat) (ha : a < 18446744073709551616) (h : a % 9223372036854775808 = 9218868437227405312) : Ieee.double.word (Flt.sg Ieee.double a) 9218868437227405312 = a := by
  have := Flt.word_self Ieee.double a (show a < 2 * 9223372036854775808 by omega)
  rwa [rgW64, h] at this
theorem leastW64 : Ieee.double.leastPlace = -((1074 : Nat) : Int) := by decide
theorem svW64 (a : Nat) (ha : a < 18446744073709551616) : Flt.sv Ieee.double a = Ieee.signed (decide (9223372036854775808 ≤ a)) (Flt.V Ieee.double (a % 9223372036854775808)) 0 := by
  rw [Flt.sv_signed, sgW64 a ha, rgW64]

/-- A sum in units, as Nearest tells it. -/
theorem tog_add64 (a b m1 j1 m2 j2 : Nat) (neg : Bool) (z : Int) (ha : a < 18446744073709551616) (hb : b < 18446744073709551616) (fa : a % 9223372036854775808 < 9218868437227405312) (fb : b % 9223372036854775808 < 9218868437227405312) (h1 : m1 * 2 ^ j1 = Flt.V Ieee.double (a % 9223372036854775808)) (h2 : m2 * 2 ^ j2 = Flt.V Ieee.double (b % 9223372036854775808))
    (ht : Tog (decide (9223372036854775808 ≤ a)) (decide (9223372036854775808 ≤ b)) (m1 * 2 ^ (((j1 : Int) - 1074) - min ((j1 : Int) - 1074) ((j2 : Int) - 1074)).toNat) (m2 * 2 ^ (((j2 : Int) - 1074) - min ((j1 : Int) - 1074) ((j2 : Int) - 1074)).toNat) neg z) :
    (z = 0 → tldW64 (Ieee.double.add a b) = wd64 (decide (9223372036854775808 ≤ a) && decide (9223372036854775808 ≤ b)) 0) ∧ (z ≠ 0 → tldW64 (Ieee.double.add a b) = nrst64 neg z.natAbs 1 (min ((j1 : Int) - 1074) ((j2 : Int) - 1074))) := by
  rw [Flt.add_rnd Ieee.double a b (by rw [rgW64, infW64]; exact fa) (by rw [rgW64, infW64]; exact fb), svW64 a ha, svW64 b hb, sgW64 a ha, sgW64 b hb, infW64, ← h1, ← h2]
  obtain ⟨hz, hneg⟩ := ht
  obtain ⟨c, hc⟩ : ∃ c : Nat, min ((j1 : Int) - 1074) ((j2 : Int) - 1074) = (c : Int) - 1074 := ⟨min j1 j2, by omega⟩
  rw [hc] at hz ⊢
  obtain ⟨d1, hd1⟩ : ∃ d1 : Nat, j1 = d1 + c := ⟨j1 - c, by omega⟩
  obtain ⟨d2, hd2⟩ : ∃ d2 : Nat, j2 = d2 + c := ⟨j2 - c, by omega⟩
  rw [show ((j1 : Int) - 1074 - ((c : Int) - 1074)).toNat = d1 by omega, show ((j2 : Int) - 1074 - ((c : Int) - 1074)).toNat = d2 by omega] at hz
  have key : Ieee.signed (decide (9223372036854775808 ≤ a)) (m1 * 2 ^ j1) 0 + Ieee.signed (decide (9223372036854775808 ≤ b)) (m2 * 2 ^ j2) 0 = z * ((2 ^ c : Nat) : Int) := by
    rw [hz, Int.add_mul, Flt.signed_scale, Flt.signed_scale, hd1, hd2, Nat.pow_add, Nat.pow_add, Nat.zero_add]
    simp only [Nat.mul_assoc]
  rw [key]
  have hp : (0 : Int) < ((2 ^ c : Nat) : Int) := by exact_mod_cast Nat.two_pow_pos c
  rw [Flt.sgn2_scale _ _ _ _ hp, Flt.natAbs_scale]
  constructor
  · intro h0
    subst h0
    rw [Int.natAbs_zero, Nat.zero_mul, Flt.rnd_zero]
    unfold Flt.sgn2
    rw [if_pos rfl, ← wd_word64]
    show wd64 _ (min 0 9218868437227405312) = _
    rw [Nat.zero_min]
  · intro h0
    rw [hneg h0]
    unfold Flt.sgn2 nrst64
    rw [if_neg h0, wd_word64]
    show Ieee.double.word _ (min _ 9218868437227405312) = _
    rw [show ((c : Int) - 1074 + 1074).toNat = c by omega, show (-1074 - ((c : Int) - 1074)).toNat = 0 by omega]

set_option maxRecDepth 100000 in
set_option maxHeartbeats 1000000 in
theorem rAdd64 (a b : Nat) (w : World) (ha : a < 18446744073709551616) (hb : b < 18446744073709551616) : Calls Tryz.prog 32 #[.int .u64 a, .int .u64 b, .int .i64 64] w fun e w' => e = .returned (.int .u64 (tldW64 (Ieee.double.add a b) : Nat)) ∧ Below w.heap.size w w' := by
  have HNa := fhide (fun w : World => rIsNan64 a w ha)
  have HNb := fhide (fun w : World => rIsNan64 b w hb)
  have HIa := fhide (fun w : World => rIsInf64 a w ha)
  have HIb := fhide (fun w : World => rIsInf64 b w hb)
  have HPa := fhide (fun w : World => rParts64 a w ha)
  have HPb := fhide (fun w : World => rParts64 b w hb)
  by_cases na : 9218868437227405312 < a % 9223372036854775808
  · rw [decide_eq_true na] at HNa
    have ho : tldW64 (Ieee.double.add a b) = 9221120237041090560 := by rw [Flt.add_nan2 Ieee.double (by decide) a b (.inl (by rw [rgW64, infW64]; exact na))]; rfl
    rw [ho]
    clear ho na ha hb
    go_enter Tryz.func32, Tryz.ntmps32
    go_wp2_with fail
    refine (HNa.out _).mono ?_
    rintro e w1 ⟨rfl, hw1⟩
    have hw1 := hw1.symm
    subst hw1
    go_wp2_with fail
    refine (rNan64 _).mono ?_
    rintro e w1 ⟨rfl, hw1⟩
    have hw1 := hw1.symm
    subst hw1
    go_wp2_with fail
    go_ret
    exact ⟨rfl, Below.refl _ _⟩
  · rw [decide_eq_false na] at HNa
    by_cases nb : 9218868437227405312 < b % 9223372036854775808
    · rw [decide_eq_true nb] at HNb
      have ho : tldW64 (Ieee.double.add a b) = 9221120237041090560 := by rw [Flt.add_nan2 Ieee.double (by decide) a b (.inr (by rw [rgW64, infW64]; exact nb))]; rfl
      rw [ho]
      clear ho na nb ha hb
      go_enter Tryz.func32, Tryz.ntmps32
      go_wp2_with fail
      refine (HNa.out _).mono ?_
      rintro e w1 ⟨rfl, hw1⟩
      have hw1 := hw1.symm
      subst hw1
      go_wp2_with fail
      refine (HNb.out _).mono ?_
      rintro e w1 ⟨rfl, hw1⟩
      have hw1 := hw1.symm
      subst hw1
      go_wp2_with fail
      refine (rNan64 _).mono ?_
      rintro e w1 ⟨rfl, hw1⟩
      have hw1 := hw1.symm
      subst hw1
      go_wp2_with fail
      go_ret
      exact ⟨rfl, Below.refl _ _⟩
    · rw [decide_eq_false nb] at HNb
      by_cases ia : a % 9223372036854775808 = 9218868437227405312
      · rw [decide_eq_true ia] at HIa
        by_cases ib : b % 9223372036854775808 = 9218868437227405312
        · rw [decide_eq_true ib] at HIb
          have hadd := Flt.add_inf_inf Ieee.double (by decide) a b (by rw [rgW64, infW64]; exact ia) (by rw [rgW64, infW64]; exact ib)
          by_cases hab : a = b
          · have ho : tldW64 (Ieee.double.add a b) = a := by
              rw [hadd, if_pos (by rw [hab]), infW64, selfW64 a ha ia]; rfl
            have hne : ((a : Int) != (b : Int)) = false := by simp; omega
            have hne2 : ((a : Int) == (b : Int)) = true := by simp; omega
            rw [ho]
            clear ho na nb ha hb ia ib hadd hab
            go_enter Tryz.func32, Tryz.ntmps32
            go_wp2_with fail
            refine (HNa.out _).mono ?_
            rintro e w1 ⟨rfl, hw1⟩
            have hw1 := hw1.symm
            subst hw1
            go_wp2_with fail
            refine (HNb.out _).mono ?_
            rintro e w1 ⟨rfl, hw1⟩
            have hw1 := hw1.symm
            subst hw1
            go_wp2_with fail
            refine (HIa.out _).mono ?_
            rintro e w1 ⟨rfl, hw1⟩
            have hw1 := hw1.symm
            subst hw1
            go_wp2_with fail
            refine (HIb.out _).mono ?_
            rintro e w1 ⟨rfl, hw1⟩
            have hw1 := hw1.symm
            subst hw1
            go_wp2_with (simp only [hne, hne2])
            refine (HIa.out _).mono ?_
            rintro e w1 ⟨rfl, hw1⟩
            have hw1 := hw1.symm
            subst hw1
            go_wp2_with fail
            go_ret
            exact ⟨rfl, Below.refl _ _⟩
          · have ho : tldW64 (Ieee.double.add a b) = 9221120237041090560 := by
              rw [hadd, if_neg]
              · rfl
              · rw [sgW64 a ha, sgW64 b hb]
                intro h
                rw [decide_eq_decide] at h
                omega
            have hne : ((a : Int) != (b : Int)) = true := by simp; omega
            have hne2 : ((a : Int) == (b : Int)) = false := by simp; omega
            rw [ho]
            clear ho na nb ha hb ia ib hadd hab
            go_enter Tryz.func32, Tryz.ntmps32
            go_wp2_with fail
            refine (HNa.out _).mono ?_
            rintro e w1 ⟨rfl, hw1⟩
            have hw1 := hw1.symm
            subst hw1
            go_wp2_with fail
            refine (HNb.out _).mono ?_
            rintro e w1 ⟨rfl, hw1⟩
            have hw1 := hw1.symm
            subst hw1
            go_wp2_with fail
            refine (HIa.out _).mono ?_
            rintro e w1 ⟨rfl, hw1⟩
            have hw1 := hw1.symm
            subst hw1
            go_wp2_with fail
            refine (HIb.out _).mono ?_
            rintro e w1 ⟨rfl, hw1⟩
            have hw1 := hw1.symm
            subst hw1
            go_wp2_with (simp only [hne, hne2])
            refine (rNan64 _).mono ?_
            rintro e w1 ⟨rfl, hw1⟩
            have hw1 := hw1.symm
            subst hw1
            go_wp2_with fail
            go_ret
            exact ⟨rfl, Below.refl _ _⟩
        · rw [decide_eq_false ib] at HIb
          have ho : tldW64 (Ieee.double.add a b) = a := by
            rw [Flt.add_inf_fin Ieee.double (by decide) a b (by rw [rgW64, infW64]; exact ia) (by rw [rgW64, infW64]; omega), infW64, selfW64 a ha ia]; rfl
          rw [ho]
          clear ho na nb ha hb ia ib
          go_enter Tryz.func32, Tryz.ntmps32
          go_wp2_with fail
          refine (HNa.out _).mono ?_
          rintro e w1 ⟨rfl, hw1⟩
          have hw1 := hw1.symm
          subst hw1
          go_wp2_with fail
          refine (HNb.out _).mono ?_
          rintro e w1 ⟨rfl, hw1⟩
          have hw1 := hw1.symm
          subst hw1
          go_wp2_with fail
          refine (HIa.out _).mono ?_
          rintro e w1 ⟨rfl, hw1⟩
          have hw1 := hw1.symm
          subst hw1
          go_wp2_with fail
          refine (HIb.out _).mono ?_
          rintro e w1 ⟨rfl, hw1⟩
          have hw1 := hw1.symm
          subst hw1
          go_wp2_with fail
          refine (HIa.out _).mono ?_
          rintro e w1 ⟨rfl, hw1⟩
          have hw1 := hw1.symm
          subst hw1
          go_wp2_with fail
          go_ret
          exact ⟨rfl, Below.refl _ _⟩
      · rw [decide_eq_false ia] at HIa
        by_cases ib : b % 9223372036854775808 = 9218868437227405312
        · rw [decide_eq_true ib] at HIb
          have ho : tldW64 (Ieee.double.add a b) = b := by
            rw [Flt.add_fin_inf Ieee.double (by decide) a b (by rw [rgW64, infW64]; omega) (by rw [rgW64, infW64]; exact ib), infW64, selfW64 b hb ib]; rfl
          rw [ho]
          clear ho na nb ha hb ia ib
          go_enter Tryz.func32, Tryz.ntmps32
          go_wp2_with fail
          refine (HNa.out _).mono ?_
          rintro e w1 ⟨rfl, hw1⟩
          have hw1 := hw1.symm
          subst hw1
          go_wp2_with fail
          refine (HNb.out _).mono ?_
          rintro e w1 ⟨rfl, hw1⟩
          have hw1 := hw1.symm
          subst hw1
          go_wp2_with fail
          refine (HIa.out _).mono ?_
          rintro e w1 ⟨rfl, hw1⟩
          have hw1 := hw1.symm
          subst hw1
          go_wp2_with fail
          refine (HIa.out _).mono ?_
          rintro e w1 ⟨rfl, hw1⟩
          have hw1 := hw1.symm
          subst hw1
          go_wp2_with fail
          refine (HIb.out _).mono ?_
          rintro e w1 ⟨rfl, hw1⟩
          have hw1 := hw1.symm
          subst hw1
          go_wp2_with fail
          go_ret
          exact ⟨rfl, Below.refl _ _⟩
        · rw [decide_eq_false ib] at HIb
          have HT := fhide (fun m1 j1 m2 j2 neg z h1 h2 => tog_add64 a b m1 j1 m2 j2 neg z ha hb (by omega) (by omega) h1 h2)
          have HSg := fhide (fun w : World => rsigned64 (decide (9223372036854775808 ≤ a) && decide (9223372036854775808 ≤ b)) 0 w (by omega))
          generalize tldW64 (Ieee.double.add a b) = out at *
          generalize decide (9223372036854775808 ≤ a) = sa at *
          generalize decide (9223372036854775808 ≤ b) = sb at *
          clear na nb ha hb ia ib
          go_enter Tryz.func32, Tryz.ntmps32
          go_wp2_with fail
          refine (HNa.out _).mono ?_
          rintro e w1 ⟨rfl, hw1⟩
          have hw1 := hw1.symm
          subst hw1
          go_wp2_with fail
          refine (HNb.out _).mono ?_
          rintro e w1 ⟨rfl, hw1⟩
          have hw1 := hw1.symm
          subst hw1
          go_wp2_with fail
          refine (HIa.out _).mono ?_
          rintro e w1 ⟨rfl, hw1⟩
          have hw1 := hw1.symm
          subst hw1
          go_wp2_with fail
          refine (HIa.out _).mono ?_
          rintro e w1 ⟨rfl, hw1⟩
          have hw1 := hw1.symm
          subst hw1
          go_wp2_with fail
          refine (HIb.out _).mono ?_
          rintro e w1 ⟨rfl, hw1⟩
          have hw1 := hw1.symm
          subst hw1
          go_wp2_with fail
          refine (HPa.out _).mono ?_
          rintro e w2 ⟨r1, m1, j1, rfl, ⟨k1, a1, a2, a3⟩, hV1, hm1, hj1, hb2⟩
          have H2 := hide (And.intro a1 (And.intro a2 (And.intro a3 (And.intro hV1 (And.intro hj1 hb2)))))
          clear a1 a2 a3 hV1 hm1 hj1 hb2
          obtain ⟨e1, he1⟩ : ∃ e1 : Int, (j1 : Int) - 1074 = e1 := ⟨_, rfl⟩
          rw [he1]
          go_wp2_with fail
          refine (HPb.out _).mono ?_
          rintro e w3 ⟨r2, m2, j2, rfl, ⟨k2, a1, a2, a3⟩, hV2, hm2, hj2, hb3⟩
          have H3 := hide (And.intro a1 (And.intro a2 (And.intro a3 (And.intro hV2 (And.intro hj2 hb3)))))
          clear a1 a2 a3 hV2 hm2 hj2 hb3
          obtain ⟨e2, he2⟩ : ∃ e2 : Int, (j2 : Int) - 1074 = e2 := ⟨_, rfl⟩
          rw [he2]
          have B1 : -10000 ≤ e1 ∧ e1 ≤ 10000 := by have := H2.out.2.2.2.2.1; omega
          have B2 : -10000 ≤ e2 ∧ e2 ≤ 10000 := by have := H3.out.2.2.2.2.1; omega
          have HTg := hide (rtogether sa sb r1 r2 k1 m1 k2 m2 e1 e2 w3 (H2.out.1.below H3.out.2.2.2.2.2) H3.out.1 H2.out.2.1 H3.out.2.1 (by have := H2.out.2.2.1; omega) (by have := H3.out.2.2.1; omega) B1 B2)
          have HE := hide (And.intro he1 he2)
          clear he1 he2
          go_wp2_with fail
          refine HTg.out.mono ?_
          rintro e w4 ⟨neg, r4, z, rfl, htog, ⟨k4, c1, c2, c3⟩, hb4⟩
          have hT2 := HT.out m1 j1 m2 j2 neg z H2.out.2.2.2.1 H3.out.2.2.2.1
          rw [HE.out.1, HE.out.2] at hT2
          have hT3 := hT2 htog
          clear hT2 htog
          obtain ⟨_, _, ad4, cap4, hr4, _⟩ := id c1
          have BB := H2.out.2.2.2.2.2.trans (H3.out.2.2.2.2.2.mono H2.out.2.2.2.2.2.size)
          have HB4 := hide (BB.trans (hb4.mono BB.size))
          have H4 := hide (And.intro c1 (And.intro c2 c3))
          clear hb4 BB
          subst hr4
          obtain ⟨e4, he4, B4⟩ : ∃ e4 : Int, min e1 e2 = e4 ∧ (-10000 ≤ e4 ∧ e4 ≤ 10000) := ⟨_, rfl, by omega⟩
          rw [he4] at hT3 ⊢
          clear B1 B2 he4 HT HTg HE
          by_cases hz : z = 0
          · have hk4 : k4 = 0 := c2.zero_iff.2 (by rw [hz]; rfl)
            have HOut := hide (hT3.1 hz)
            subst hk4
            clear hT3 c1 c2 c3 hz
            cases sa <;> cases sb
            all_goals
              go_wp2_with fail
              refine (HSg.out _).mono ?_
              rintro e w1 ⟨rfl, hw1⟩
              have hw1 := hw1.symm
              subst hw1
              go_wp2_with fail
              go_ret
              exact ⟨by rw [HOut.out]; rfl, HB4.out⟩
          · have hk4 : k4 ≠ 0 := fun hk => hz (by have := c2.zero_iff.1 hk; omega)
            have HOut := hide (hT3.2 hz)
            have hk5 : ((k4 : Int) == 0) = false := by simp; omega
            have hk6 : (0 : Int) < (k4 : Int) := by omega
            clear hT3 c1 c2 c3 hz hk4
            go_wp2_with (simp only [hk5])
            refine (nOf 1 _ (by omega)).mono ?_
            rintro e w5 ⟨r5, rfl, kq, q1, q2, q3, hb5⟩
            have HNr := fhide (rNearest64 neg _ r5 k4 z.natAbs kq 1 e4 w5 (H4.out.1.below hb5) q1 H4.out.2.1 q2 (by omega) (by have := H4.out.2.2; omega) (by omega) (by omega))
            have HB5 := fhide (HB4.out.trans (hb5.mono HB4.out.size))
            clear q1 q2 q3 hb5
            generalize nrst64 neg z.natAbs 1 e4 = out2 at *
            go_wp2_with (simp only [hk5])
            refine HNr.out.mono ?_
            rintro e w6 ⟨rfl, hb6⟩
            have HB6 := fhide (HB5.out.trans (hb6.mono HB5.out.size))
            clear hb6
            go_wp2_with fail
            go_ret
            exact ⟨by rw [HOut.out]; rfl, HB6.out⟩

/-- With the other sign. -/
def flpW64 (b : Nat) : Nat := if b < 9223372036854775808 then 9223372036854775808 + b else b - 9223372036854775808
theorem flp_lt64 (b : Nat) (hb : b < 18446744073709551616) : flpW64 b < 18446744073709551616 := by unfold flpW64; split <;> omega
theorem flp_bits64 (b : Nat) (hb : b < 18446744073709551616) : bits BinOp.xor IntKind.u64 (b : Int) 9223372036854775808 = ((flpW64 b : Nat) : Int) := by
  have := u64_xor_nat b 9223372036854775808 (by omega) (by omega)
  unfold flpW64
  by_cases h : b < 9223372036854775808
  · rw [if_pos h]
    rw [show b ^^^ 9223372036854775808 = 9223372036854775808 + b from n_xor_lo 63 b h] at this; exact this
  · rw [if_neg h]
    obtain ⟨r, rfl⟩ : ∃ r, b = 9223372036854775808 + r := ⟨b - 9223372036854775808, by omega⟩
    rw [show (9223372036854775808 + r) ^^^ 9223372036854775808 = r from n_xor_hi 63 r (show r < 9223372036854775808 by omega)] at this
    rw [Nat.add_sub_cancel_left]; exact this
theorem sub_flp64 (a b : Nat) (hb : b < 18446744073709551616) : Ieee.double.sub a b = Ieee.double.add a (flpW64 b) := by
  refine Flt.sub_add Ieee.double a b _ ?_ ?_
  · rw [rgW64, rgW64]; unfold flpW64; split <;> omega
  · rw [sgW64 _ (flp_lt64 b hb), sgW64 b hb]
    unfold flpW64
    by_cases h : b < 9223372036854775808
    · rw [if_pos h, decide_eq_true (by omega), decide_eq_false (by omega)]; rfl
    · rw [if_neg h, decide_eq_false (by omega), decide_eq_true (by omega)]; rfl

set_option maxRecDepth 100000 in
set_option maxHeartbeats 1000000 in
theorem rSub64 (a b : Nat) (w : World) (ha : a < 18446744073709551616) (hb : b < 18446744073709551616) : Calls Tryz.prog 33 #[.int .u64 a, .int .u64 b, .int .i64 64] w fun e w' => e = .returned (.int .u64 (tldW64 (Ieee.double.sub a b) : Nat)) ∧ Below w.heap.size w w' := by
  have HNb := fhide (fun w : World => rIsNan64 b w hb)
  have hfl := flp_bits64 b hb
  have HA := fhide (fun w : World => rAdd64 a (flpW64 b) w ha (flp_lt64 b hb))
  rw [sub_flp64 a b hb]
  by_cases nb : 9218868437227405312 < b % 9223372036854775808
  · rw [decide_eq_true nb] at HNb
    have ho : tldW64 (Ieee.double.add a (flpW64 b)) = 9221120237041090560 := by
      rw [Flt.add_nan2 Ieee.double (by decide) a _ (.inr (by rw [rgW64, infW64]; unfold flpW64; split <;> omega))]; rfl
    rw [ho]
    clear ho nb ha hb
    go_enter Tryz.func33, Tryz.ntmps33
    go_wp2_with fail
    refine (HNb.out _).mono ?_
    rintro e w1 ⟨rfl, hw1⟩
    have hw1 := hw1.symm
    subst hw1
    go_wp2_with fail
    refine (rNan64 _).mono ?_
    rintro e w1 ⟨rfl, hw1⟩
    have hw1 := hw1.symm
    subst hw1
    go_wp2_with fail
    go_ret
    exact ⟨rfl, Below.refl _ _⟩
  · rw [decide_eq_false nb] at HNb
    generalize tldW64 (Ieee.double.add a (flpW64 b)) = out at *
    generalize flpW64 b = b' at *
    clear nb ha hb
    go_enter Tryz.func33, Tryz.ntmps33
    go_wp2_with fail
    refine (HNb.out _).mono ?_
    rintro e w1 ⟨rfl, hw1⟩
    have hw1 := hw1.symm
    subst hw1
    go_wp2_with fail
    refine (rSign64 _).mono ?_
    rintro e w1 ⟨rfl, hw1⟩
    have hw1 := hw1.symm
    subst hw1
    go_wp2_with (simp only [hfl])
    refine (HA.out _).mono ?_
    rintro e w2 ⟨rfl, hb2⟩
    go_wp2_with fail
    go_ret
    exact ⟨rfl, hb2⟩

end Go.Proofs.YtmkploknoohliaaGreat
