/- The document's Fma. -/
import Derived.Test.YtdiinhccfifiaaaPE
namespace Go.Proofs.Ytdiinhccfifiaaa
open Go.RowKit
open M
set_option linter.unusedVariables false
set_option linter.unusedSimpArgs false

theorem tog_fma (a b c m1 j1 m2 j2 m3 j3 : Nat) (neg : Bool) (z : Int) (ha : a < 18446744073709551616) (hb : b < 18446744073709551616) (hc : c < 18446744073709551616) (fa : a % 9223372036854775808 < 9218868437227405312) (fb : b % 9223372036854775808 < 9218868437227405312) (fc : c % 9223372036854775808 < 9218868437227405312) (h1 : m1 * 2 ^ j1 = Flt.V Ieee.double (a % 9223372036854775808)) (h2 : m2 * 2 ^ j2 = Flt.V Ieee.double (b % 9223372036854775808)) (h3 : m3 * 2 ^ j3 = Flt.V Ieee.double (c % 9223372036854775808)) (e1 e2 e3 e : Int) (he1 : (j1 : Int) - 1074 = e1) (he2 : (j2 : Int) - 1074 = e2) (he3 : (j3 : Int) - 1074 = e3) (he : min (e1 + e2) e3 = e)
    (ht : Tog (decide (9223372036854775808 ≤ a) ^^ decide (9223372036854775808 ≤ b)) (decide (9223372036854775808 ≤ c)) (m1 * m2 * 2 ^ (e1 + e2 - e).toNat) (m3 * 2 ^ (e3 - e).toNat) neg z) :
    (z = 0 → tldW64 (Ieee.double.fma a b c) = wd64 ((decide (9223372036854775808 ≤ a) ^^ decide (9223372036854775808 ≤ b)) && decide (9223372036854775808 ≤ c)) 0) ∧ (z ≠ 0 → tldW64 (Ieee.double.fma a b c) = nrst64 neg z.natAbs 1 e) := by
  obtain ⟨T, hT⟩ : ∃ T : Nat, T = 1074 := ⟨_, rfl⟩
  rw [Flt.fma_rnd Ieee.double T a b c (by rw [hT]; exact leastW64) (by rw [rgW64, infW64]; exact fa) (by rw [rgW64, infW64]; exact fb) (by rw [rgW64, infW64]; exact fc), sgW64 a ha, sgW64 b hb, sgW64 c hc, infW64, rgW64, rgW64, rgW64, ← h1, ← h2, ← h3]
  obtain ⟨hz, hneg⟩ := ht
  obtain ⟨g, hg⟩ : ∃ g : Nat, e + 2 * 1074 = (g : Int) := ⟨(e + 2 * 1074).toNat, by omega⟩
  have key : Ieee.signed (decide (9223372036854775808 ≤ a) ^^ decide (9223372036854775808 ≤ b)) (m1 * 2 ^ j1 * (m2 * 2 ^ j2)) 0 + Ieee.signed (decide (9223372036854775808 ≤ c)) (m3 * 2 ^ j3 * 2 ^ T) 0 = z * ((2 ^ g : Nat) : Int) := by
    rw [hz, Int.add_mul, Flt.signed_scale, Flt.signed_scale, Nat.zero_add]
    have q1 : m1 * 2 ^ j1 * (m2 * 2 ^ j2) = m1 * m2 * 2 ^ (e1 + e2 - e).toNat * 2 ^ g := by
      rw [show m1 * 2 ^ j1 * (m2 * 2 ^ j2) = m1 * m2 * (2 ^ j1 * 2 ^ j2) by simp only [Nat.mul_assoc, Nat.mul_left_comm, Nat.mul_comm], Nat.mul_assoc (m1 * m2), ← Nat.pow_add, ← Nat.pow_add]
      congr 2; omega
    have q2 : m3 * 2 ^ j3 * 2 ^ T = m3 * 2 ^ (e3 - e).toNat * 2 ^ g := by
      rw [Nat.mul_assoc, Nat.mul_assoc, ← Nat.pow_add, ← Nat.pow_add]
      congr 2; omega
    rw [q1, q2]
  rw [key]
  have hp : (0 : Int) < ((2 ^ g : Nat) : Int) := by exact_mod_cast Nat.two_pow_pos g
  rw [Flt.sgn2_scale _ _ _ _ hp, Flt.natAbs_scale]
  constructor
  · intro h0
    subst h0
    rw [Int.natAbs_zero, Nat.zero_mul, Flt.rnd_zero]
    unfold Flt.sgn2
    rw [if_pos rfl, ← wd_word64]
    show wd64 _ (min 0 9218868437227405312) = _
    rw [Nat.zero_min]
  · intro h0
    rw [hneg h0]
    unfold Flt.sgn2 nrst64
    rw [if_neg h0]
    refine ofW64 (Nat.two_pow_pos _) (by rw [Nat.one_mul]; exact Nat.two_pow_pos _) ?_
    rw [Nat.one_mul, Nat.mul_assoc, Nat.mul_assoc, ← Nat.pow_add, ← Nat.pow_add]
    congr 2; omega

set_option maxRecDepth 100000 in
set_option maxHeartbeats 1000000 in
theorem rFma (a b c : Nat) (w : World) (ha : a < 18446744073709551616) (hb : b < 18446744073709551616) (hc : c < 18446744073709551616) : Calls Try.prog 56 #[.int .u64 a, .int .u64 b, .int .u64 c] w fun e w' => e = .returned (.int .u64 (tldW64 (Ieee.double.fma a b c) : Nat)) ∧ Below w.heap.size w w' := by
  have HNa := fhide (fun w : World => rIsNan64 a w ha)
  have HNb := fhide (fun w : World => rIsNan64 b w hb)
  have HIa := fhide (fun w : World => rIsInf64 a w ha)
  have HIb := fhide (fun w : World => rIsInf64 b w hb)
  have HZa := fhide (fun w : World => rIsZero64 a w ha)
  have HZb := fhide (fun w : World => rIsZero64 b w hb)
  have HPa := fhide (fun w : World => rParts64 a w ha)
  have HPb := fhide (fun w : World => rParts64 b w hb)
  have HGa := fhide (fun w : World => rNeg64 a w ha)
  have HGb := fhide (fun w : World => rNeg64 b w hb)
  have HNc := fhide (fun w : World => rIsNan64 c w hc)
  have HIc := fhide (fun w : World => rIsInf64 c w hc)
  have HPc := fhide (fun w : World => rParts64 c w hc)
  by_cases na : 9218868437227405312 < a % 9223372036854775808
  · rw [decide_eq_true na] at HNa
    have ho : tldW64 (Ieee.double.fma a b c) = 9221120237041090560 := by rw [Flt.fma_nan2 Ieee.double (by decide) a b c (.inl (by rw [rgW64, infW64]; exact na))]; rfl
    rw [ho]
    clear ho
    generalize decide (9223372036854775808 ≤ a) = sa at *
    generalize decide (9223372036854775808 ≤ b) = sb at *
    clear na ha hb hc
    cases sa <;> cases sb
    all_goals
      go_enter Try.func56, Try.ntmps56
      go_wp2_with fail
      refine (HGa.out _).mono ?_
      rintro e w1 ⟨rfl, hw1⟩
      have hw1 := hw1.symm
      subst hw1
      go_wp2_with fail
      refine (HGb.out _).mono ?_
      rintro e w1 ⟨rfl, hw1⟩
      have hw1 := hw1.symm
      subst hw1
      go_wp2_with fail
      refine (HNa.out _).mono ?_
      rintro e w1 ⟨rfl, hw1⟩
      have hw1 := hw1.symm
      subst hw1
      go_wp2_with fail
      go_ret
      exact ⟨rfl, Below.refl _ _⟩
  · rw [decide_eq_false na] at HNa
    by_cases nb : 9218868437227405312 < b % 9223372036854775808
    · rw [decide_eq_true nb] at HNb
      have ho : tldW64 (Ieee.double.fma a b c) = 9221120237041090560 := by rw [Flt.fma_nan2 Ieee.double (by decide) a b c (.inr (.inl (by rw [rgW64, infW64]; exact nb)))]; rfl
      rw [ho]
      clear ho
      generalize decide (9223372036854775808 ≤ a) = sa at *
      generalize decide (9223372036854775808 ≤ b) = sb at *
      clear na nb ha hb hc
      cases sa <;> cases sb
      all_goals
        go_enter Try.func56, Try.ntmps56
        go_wp2_with fail
        refine (HGa.out _).mono ?_
        rintro e w1 ⟨rfl, hw1⟩
        have hw1 := hw1.symm
        subst hw1
        go_wp2_with fail
        refine (HGb.out _).mono ?_
        rintro e w1 ⟨rfl, hw1⟩
        have hw1 := hw1.symm
        subst hw1
        go_wp2_with fail
        refine (HNa.out _).mono ?_
        rintro e w1 ⟨rfl, hw1⟩
        have hw1 := hw1.symm
        subst hw1
        go_wp2_with fail
        refine (HNb.out _).mono ?_
        rintro e w1 ⟨rfl, hw1⟩
        have hw1 := hw1.symm
        subst hw1
        go_wp2_with fail
        go_ret
        exact ⟨rfl, Below.refl _ _⟩
    · rw [decide_eq_false nb] at HNb
      by_cases nc : 9218868437227405312 < c % 9223372036854775808
      · rw [decide_eq_true nc] at HNc
        have ho : tldW64 (Ieee.double.fma a b c) = 9221120237041090560 := by rw [Flt.fma_nan2 Ieee.double (by decide) a b c (.inr (.inr (by rw [rgW64, infW64]; exact nc)))]; rfl
        rw [ho]
        clear ho
        generalize decide (9223372036854775808 ≤ a) = sa at *
        generalize decide (9223372036854775808 ≤ b) = sb at *
        clear na nb nc ha hb hc
        cases sa <;> cases sb
        all_goals
          go_enter Try.func56, Try.ntmps56
          go_wp2_with fail
          refine (HGa.out _).mono ?_
          rintro e w1 ⟨rfl, hw1⟩
          have hw1 := hw1.symm
          subst hw1
          go_wp2_with fail
          refine (HGb.out _).mono ?_
          rintro e w1 ⟨rfl, hw1⟩
          have hw1 := hw1.symm
          subst hw1
          go_wp2_with fail
          refine (HNa.out _).mono ?_
          rintro e w1 ⟨rfl, hw1⟩
          have hw1 := hw1.symm
          subst hw1
          go_wp2_with fail
          refine (HNb.out _).mono ?_
          rintro e w1 ⟨rfl, hw1⟩
          have hw1 := hw1.symm
          subst hw1
          go_wp2_with fail
          refine (HNc.out _).mono ?_
          rintro e w1 ⟨rfl, hw1⟩
          have hw1 := hw1.symm
          subst hw1
          go_wp2_with fail
          go_ret
          exact ⟨rfl, Below.refl _ _⟩
      · rw [decide_eq_false nc] at HNc
        by_cases ia : a % 9223372036854775808 = 9218868437227405312
        · rw [decide_eq_true ia] at HIa
          rw [decide_eq_false (by omega)] at HZa
          by_cases zb : b % 9223372036854775808 = 0
          · rw [decide_eq_true zb] at HZb
            have ho : tldW64 (Ieee.double.fma a b c) = 9221120237041090560 := by rw [Flt.fma_none Ieee.double a b c (by rw [Flt.mul_inf_fin Ieee.double (by decide) a b (by rw [rgW64, infW64]; exact ia) (by rw [rgW64, infW64]; omega), rgW64, if_pos zb])]; rfl
            rw [ho]
            clear ho
            generalize decide (9223372036854775808 ≤ a) = sa at *
            generalize decide (9223372036854775808 ≤ b) = sb at *
            clear na nb nc ha hb hc ia zb
            cases sa <;> cases sb
            all_goals
              go_enter Try.func56, Try.ntmps56
              go_wp2_with fail
              refine (HGa.out _).mono ?_
              rintro e w1 ⟨rfl, hw1⟩
              have hw1 := hw1.symm
              subst hw1
              go_wp2_with fail
              refine (HGb.out _).mono ?_
              rintro e w1 ⟨rfl, hw1⟩
              have hw1 := hw1.symm
              subst hw1
              go_wp2_with fail
              refine (HNa.out _).mono ?_
              rintro e w1 ⟨rfl, hw1⟩
              have hw1 := hw1.symm
              subst hw1
              go_wp2_with fail
              refine (HNb.out _).mono ?_
              rintro e w1 ⟨rfl, hw1⟩
              have hw1 := hw1.symm
              subst hw1
              go_wp2_with fail
              refine (HNc.out _).mono ?_
              rintro e w1 ⟨rfl, hw1⟩
              have hw1 := hw1.symm
              subst hw1
              go_wp2_with fail
              refine (HIa.out _).mono ?_
              rintro e w1 ⟨rfl, hw1⟩
              have hw1 := hw1.symm
              subst hw1
              go_wp2_with fail
              refine (HZb.out _).mono ?_
              rintro e w1 ⟨rfl, hw1⟩
              have hw1 := hw1.symm
              subst hw1
              go_wp2_with fail
              go_ret
              exact ⟨rfl, Below.refl _ _⟩
          · rw [decide_eq_false zb] at HZb
            have hadd := Flt.fma_inf Ieee.double (by decide) a b c (Flt.prod_inf Ieee.double (by decide) a b (by rw [rgW64, rgW64, infW64]; omega))
            rw [sgW64 a ha, sgW64 b hb, infW64, ← wd_word64] at hadd
            have HSg := fhide (fun w : World => rsigned64 (decide (9223372036854775808 ≤ a) ^^ decide (9223372036854775808 ≤ b)) 9218868437227405312 w (by omega))
            have HAd := fhide (fun w : World => rAdd64 (wd64 (decide (9223372036854775808 ≤ a) ^^ decide (9223372036854775808 ≤ b)) 9218868437227405312) c w (by unfold wd64; split <;> omega) hc)
            rw [← hadd] at HAd
            generalize tldW64 (Ieee.double.fma a b c) = out at *
            clear hadd
            generalize decide (9223372036854775808 ≤ a) = sa at *
            generalize decide (9223372036854775808 ≤ b) = sb at *
            clear na nb nc ha hb hc ia zb
            cases sa <;> cases sb
            all_goals
              go_enter Try.func56, Try.ntmps56
              go_wp2_with fail
              refine (HGa.out _).mono ?_
              rintro e w1 ⟨rfl, hw1⟩
              have hw1 := hw1.symm
              subst hw1
              go_wp2_with fail
              refine (HGb.out _).mono ?_
              rintro e w1 ⟨rfl, hw1⟩
              have hw1 := hw1.symm
              subst hw1
              go_wp2_with fail
              refine (HNa.out _).mono ?_
              rintro e w1 ⟨rfl, hw1⟩
              have hw1 := hw1.symm
              subst hw1
              go_wp2_with fail
              refine (HNb.out _).mono ?_
              rintro e w1 ⟨rfl, hw1⟩
              have hw1 := hw1.symm
              subst hw1
              go_wp2_with fail
              refine (HNc.out _).mono ?_
              rintro e w1 ⟨rfl, hw1⟩
              have hw1 := hw1.symm
              subst hw1
              go_wp2_with fail
              refine (HIa.out _).mono ?_
              rintro e w1 ⟨rfl, hw1⟩
              have hw1 := hw1.symm
              subst hw1
              go_wp2_with fail
              refine (HZb.out _).mono ?_
              rintro e w1 ⟨rfl, hw1⟩
              have hw1 := hw1.symm
              subst hw1
              go_wp2_with fail
              refine (HZa.out _).mono ?_
              rintro e w1 ⟨rfl, hw1⟩
              have hw1 := hw1.symm
              subst hw1
              go_wp2_with fail
              refine (HIa.out _).mono ?_
              rintro e w1 ⟨rfl, hw1⟩
              have hw1 := hw1.symm
              subst hw1
              go_wp2_with fail
              refine (HSg.out _).mono ?_
              rintro e w1 ⟨rfl, hw1⟩
              have hw1 := hw1.symm
              subst hw1
              go_wp2_with fail
              refine (HAd.out _).mono ?_
              rintro e w2 ⟨rfl, hb2⟩
              go_wp2_with fail
              go_ret
              exact ⟨rfl, hb2⟩
        · rw [decide_eq_false ia] at HIa
          by_cases ib : b % 9223372036854775808 = 9218868437227405312
          · rw [decide_eq_true ib] at HIb
            by_cases za : a % 9223372036854775808 = 0
            · rw [decide_eq_true za] at HZa
              have ho : tldW64 (Ieee.double.fma a b c) = 9221120237041090560 := by rw [Flt.fma_none Ieee.double a b c (by rw [Flt.mul_fin_inf Ieee.double (by decide) a b (by rw [rgW64, infW64]; omega) (by rw [rgW64, infW64]; exact ib), rgW64, if_pos za])]; rfl
              rw [ho]
              clear ho
              generalize decide (9223372036854775808 ≤ a) = sa at *
              generalize decide (9223372036854775808 ≤ b) = sb at *
              clear na nb nc ha hb hc ia ib za
              cases sa <;> cases sb
              all_goals
                go_enter Try.func56, Try.ntmps56
                go_wp2_with fail
                refine (HGa.out _).mono ?_
                rintro e w1 ⟨rfl, hw1⟩
                have hw1 := hw1.symm
                subst hw1
                go_wp2_with fail
                refine (HGb.out _).mono ?_
                rintro e w1 ⟨rfl, hw1⟩
                have hw1 := hw1.symm
                subst hw1
                go_wp2_with fail
                refine (HNa.out _).mono ?_
                rintro e w1 ⟨rfl, hw1⟩
                have hw1 := hw1.symm
                subst hw1
                go_wp2_with fail
                refine (HNb.out _).mono ?_
                rintro e w1 ⟨rfl, hw1⟩
                have hw1 := hw1.symm
                subst hw1
                go_wp2_with fail
                refine (HNc.out _).mono ?_
                rintro e w1 ⟨rfl, hw1⟩
                have hw1 := hw1.symm
                subst hw1
                go_wp2_with fail
                refine (HIa.out _).mono ?_
                rintro e w1 ⟨rfl, hw1⟩
                have hw1 := hw1.symm
                subst hw1
                go_wp2_with fail
                refine (HZa.out _).mono ?_
                rintro e w1 ⟨rfl, hw1⟩
                have hw1 := hw1.symm
                subst hw1
                go_wp2_with fail
                refine (HIb.out _).mono ?_
                rintro e w1 ⟨rfl, hw1⟩
                have hw1 := hw1.symm
                subst hw1
                go_wp2_with fail
                go_ret
                exact ⟨rfl, Below.refl _ _⟩
            · rw [decide_eq_false za] at HZa
              have hadd := Flt.fma_inf Ieee.double (by decide) a b c (Flt.prod_inf Ieee.double (by decide) a b (by rw [rgW64, rgW64, infW64]; omega))
              rw [sgW64 a ha, sgW64 b hb, infW64, ← wd_word64] at hadd
              have HSg := fhide (fun w : World => rsigned64 (decide (9223372036854775808 ≤ a) ^^ decide (9223372036854775808 ≤ b)) 9218868437227405312 w (by omega))
              have HAd := fhide (fun w : World => rAdd64 (wd64 (decide (9223372036854775808 ≤ a) ^^ decide (9223372036854775808 ≤ b)) 9218868437227405312) c w (by unfold wd64; split <;> omega) hc)
              rw [← hadd] at HAd
              generalize tldW64 (Ieee.double.fma a b c) = out at *
              clear hadd
              generalize decide (9223372036854775808 ≤ a) = sa at *
              generalize decide (9223372036854775808 ≤ b) = sb at *
              clear na nb nc ha hb hc ia ib za
              cases sa <;> cases sb
              all_goals
                go_enter Try.func56, Try.ntmps56
                go_wp2_with fail
                refine (HGa.out _).mono ?_
                rintro e w1 ⟨rfl, hw1⟩
                have hw1 := hw1.symm
                subst hw1
                go_wp2_with fail
                refine (HGb.out _).mono ?_
                rintro e w1 ⟨rfl, hw1⟩
                have hw1 := hw1.symm
                subst hw1
                go_wp2_with fail
                refine (HNa.out _).mono ?_
                rintro e w1 ⟨rfl, hw1⟩
                have hw1 := hw1.symm
                subst hw1
                go_wp2_with fail
                refine (HNb.out _).mono ?_
                rintro e w1 ⟨rfl, hw1⟩
                have hw1 := hw1.symm
                subst hw1
                go_wp2_with fail
                refine (HNc.out _).mono ?_
                rintro e w1 ⟨rfl, hw1⟩
                have hw1 := hw1.symm
                subst hw1
                go_wp2_with fail
                refine (HIa.out _).mono ?_
                rintro e w1 ⟨rfl, hw1⟩
                have hw1 := hw1.symm
                subst hw1
                go_wp2_with fail
                refine (HZa.out _).mono ?_
                rintro e w1 ⟨rfl, hw1⟩
                have hw1 := hw1.symm
                subst hw1
                go_wp2_with fail
                refine (HIa.out _).mono ?_
                rintro e w1 ⟨rfl, hw1⟩
                have hw1 := hw1.symm
                subst hw1
                go_wp2_with fail
                refine (HIb.out _).mono ?_
                rintro e w1 ⟨rfl, hw1⟩
                have hw1 := hw1.symm
                subst hw1
                go_wp2_with fail
                refine (HSg.out _).mono ?_
                rintro e w1 ⟨rfl, hw1⟩
                have hw1 := hw1.symm
                subst hw1
                go_wp2_with fail
                refine (HAd.out _).mono ?_
                rintro e w2 ⟨rfl, hb2⟩
                go_wp2_with fail
                go_ret
                exact ⟨rfl, hb2⟩
          · rw [decide_eq_false ib] at HIb
            by_cases ic : c % 9223372036854775808 = 9218868437227405312
            · rw [decide_eq_true ic] at HIc
              by_cases za : a % 9223372036854775808 = 0
              · rw [decide_eq_true za] at HZa
                have ho : tldW64 (Ieee.double.fma a b c) = c := by rw [Flt.fma_fin_inf Ieee.double (by decide) a b c (by rw [rgW64, infW64]; omega) (by rw [rgW64, infW64]; omega) (by rw [rgW64, infW64]; exact ic), infW64, selfW64 c hc ic]; rfl
                rw [ho]
                clear ho
                generalize decide (9223372036854775808 ≤ a) = sa at *
                generalize decide (9223372036854775808 ≤ b) = sb at *
                clear na nb nc ha hb hc ia ib ic za
                cases sa <;> cases sb
                all_goals
                  go_enter Try.func56, Try.ntmps56
                  go_wp2_with fail
                  refine (HGa.out _).mono ?_
                  rintro e w1 ⟨rfl, hw1⟩
                  have hw1 := hw1.symm
                  subst hw1
                  go_wp2_with fail
                  refine (HGb.out _).mono ?_
                  rintro e w1 ⟨rfl, hw1⟩
                  have hw1 := hw1.symm
                  subst hw1
                  go_wp2_with fail
                  refine (HNa.out _).mono ?_
                  rintro e w1 ⟨rfl, hw1⟩
                  have hw1 := hw1.symm
                  subst hw1
                  go_wp2_with fail
                  refine (HNb.out _).mono ?_
                  rintro e w1 ⟨rfl, hw1⟩
                  have hw1 := hw1.symm
                  subst hw1
                  go_wp2_with fail
                  refine (HNc.out _).mono ?_
                  rintro e w1 ⟨rfl, hw1⟩
                  have hw1 := hw1.symm
                  subst hw1
                  go_wp2_with fail
                  refine (HIa.out _).mono ?_
                  rintro e w1 ⟨rfl, hw1⟩
                  have hw1 := hw1.symm
                  subst hw1
                  go_wp2_with fail
                  refine (HZa.out _).mono ?_
                  rintro e w1 ⟨rfl, hw1⟩
                  have hw1 := hw1.symm
                  subst hw1
                  go_wp2_with fail
                  refine (HIb.out _).mono ?_
                  rintro e w1 ⟨rfl, hw1⟩
                  have hw1 := hw1.symm
                  subst hw1
                  go_wp2_with fail
                  refine (HIa.out _).mono ?_
                  rintro e w1 ⟨rfl, hw1⟩
                  have hw1 := hw1.symm
                  subst hw1
                  go_wp2_with fail
                  refine (HIb.out _).mono ?_
                  rintro e w1 ⟨rfl, hw1⟩
                  have hw1 := hw1.symm
                  subst hw1
                  go_wp2_with fail
                  refine (HIc.out _).mono ?_
                  rintro e w1 ⟨rfl, hw1⟩
                  have hw1 := hw1.symm
                  subst hw1
                  go_wp2_with fail
                  go_ret
                  exact ⟨rfl, Below.refl _ _⟩
              · rw [decide_eq_false za] at HZa
                have ho : tldW64 (Ieee.double.fma a b c) = c := by rw [Flt.fma_fin_inf Ieee.double (by decide) a b c (by rw [rgW64, infW64]; omega) (by rw [rgW64, infW64]; omega) (by rw [rgW64, infW64]; exact ic), infW64, selfW64 c hc ic]; rfl
                rw [ho]
                clear ho
                generalize decide (9223372036854775808 ≤ a) = sa at *
                generalize decide (9223372036854775808 ≤ b) = sb at *
                clear na nb nc ha hb hc ia ib ic za
                cases sa <;> cases sb
                all_goals
                  go_enter Try.func56, Try.ntmps56
                  go_wp2_with fail
                  refine (HGa.out _).mono ?_
                  rintro e w1 ⟨rfl, hw1⟩
                  have hw1 := hw1.symm
                  subst hw1
                  go_wp2_with fail
                  refine (HGb.out _).mono ?_
                  rintro e w1 ⟨rfl, hw1⟩
                  have hw1 := hw1.symm
                  subst hw1
                  go_wp2_with fail
                  refine (HNa.out _).mono ?_
                  rintro e w1 ⟨rfl, hw1⟩
                  have hw1 := hw1.symm
                  subst hw1
                  go_wp2_with fail
                  refine (HNb.out _).mono ?_
                  rintro e w1 ⟨rfl, hw1⟩
                  have hw1 := hw1.symm
                  subst hw1
                  go_wp2_with fail
                  refine (HNc.out _).mono ?_
                  rintro e w1 ⟨rfl, hw1⟩
                  have hw1 := hw1.symm
                  subst hw1
                  go_wp2_with fail
                  refine (HIa.out _).mono ?_
                  rintro e w1 ⟨rfl, hw1⟩
                  have hw1 := hw1.symm
                  subst hw1
                  go_wp2_with fail
                  refine (HZa.out _).mono ?_
                  rintro e w1 ⟨rfl, hw1⟩
                  have hw1 := hw1.symm
                  subst hw1
                  go_wp2_with fail
                  refine (HIa.out _).mono ?_
                  rintro e w1 ⟨rfl, hw1⟩
                  have hw1 := hw1.symm
                  subst hw1
                  go_wp2_with fail
                  refine (HIb.out _).mono ?_
                  rintro e w1 ⟨rfl, hw1⟩
                  have hw1 := hw1.symm
                  subst hw1
                  go_wp2_with fail
                  refine (HIc.out _).mono ?_
                  rintro e w1 ⟨rfl, hw1⟩
                  have hw1 := hw1.symm
                  subst hw1
                  go_wp2_with fail
                  go_ret
                  exact ⟨rfl, Below.refl _ _⟩
            · rw [decide_eq_false ic] at HIc
              by_cases za : a % 9223372036854775808 = 0
              · rw [decide_eq_true za] at HZa
                have HT := fhide (fun m1 j1 m2 j2 m3 j3 neg z h1 h2 h3 e1 e2 e3 e q1 q2 q3 q4 => tog_fma a b c m1 j1 m2 j2 m3 j3 neg z ha hb hc (by omega) (by omega) (by omega) h1 h2 h3 e1 e2 e3 e q1 q2 q3 q4)
                have HSg := fhide (fun w : World => rsigned64 ((decide (9223372036854775808 ≤ a) ^^ decide (9223372036854775808 ≤ b)) && decide (9223372036854775808 ≤ c)) 0 w (by omega))
                generalize tldW64 (Ieee.double.fma a b c) = out at *
                generalize decide (9223372036854775808 ≤ c) = sc at *
                generalize decide (9223372036854775808 ≤ a) = sa at *
                generalize decide (9223372036854775808 ≤ b) = sb at *
                clear na nb nc ha hb hc ia ib ic za
                cases sa <;> cases sb
                all_goals
                  go_enter Try.func56, Try.ntmps56
                  go_wp2_with fail
                  refine (HGa.out _).mono ?_
                  rintro e w1 ⟨rfl, hw1⟩
                  have hw1 := hw1.symm
                  subst hw1
                  go_wp2_with fail
                  refine (HGb.out _).mono ?_
                  rintro e w1 ⟨rfl, hw1⟩
                  have hw1 := hw1.symm
                  subst hw1
                  go_wp2_with fail
                  refine (HNa.out _).mono ?_
                  rintro e w1 ⟨rfl, hw1⟩
                  have hw1 := hw1.symm
                  subst hw1
                  go_wp2_with fail
                  refine (HNb.out _).mono ?_
                  rintro e w1 ⟨rfl, hw1⟩
                  have hw1 := hw1.symm
                  subst hw1
                  go_wp2_with fail
                  refine (HNc.out _).mono ?_
                  rintro e w1 ⟨rfl, hw1⟩
                  have hw1 := hw1.symm
                  subst hw1
                  go_wp2_with fail
                  refine (HIa.out _).mono ?_
                  rintro e w1 ⟨rfl, hw1⟩
                  have hw1 := hw1.symm
                  subst hw1
                  go_wp2_with fail
                  refine (HZa.out _).mono ?_
                  rintro e w1 ⟨rfl, hw1⟩
                  have hw1 := hw1.symm
                  subst hw1
                  go_wp2_with fail
                  refine (HIb.out _).mono ?_
                  rintro e w1 ⟨rfl, hw1⟩
                  have hw1 := hw1.symm
                  subst hw1
                  go_wp2_with fail
                  refine (HIa.out _).mono ?_
                  rintro e w1 ⟨rfl, hw1⟩
                  have hw1 := hw1.symm
                  subst hw1
                  go_wp2_with fail
                  refine (HIb.out _).mono ?_
                  rintro e w1 ⟨rfl, hw1⟩
                  have hw1 := hw1.symm
                  subst hw1
                  go_wp2_with fail
                  refine (HIc.out _).mono ?_
                  rintro e w1 ⟨rfl, hw1⟩
                  have hw1 := hw1.symm
                  subst hw1
                  go_wp2_with fail
                  refine (HPa.out _).mono ?_
                  rintro e w2 ⟨r1, m1, j1, rfl, ⟨k1, a1, a2, a3⟩, hV, hm, hj, hbb⟩
                  have H2 := hide (And.intro a1 (And.intro a2 (And.intro a3 (And.intro hV (And.intro hj hbb)))))
                  clear a1 a2 a3 hV hm hj hbb
                  obtain ⟨e1, he1⟩ : ∃ e1 : Int, (j1 : Int) - 1074 = e1 := ⟨_, rfl⟩
                  rw [he1]
                  have Be1 : -2000 ≤ e1 ∧ e1 ≤ 2000 := by have := H2.out.2.2.2.2.1; omega
                  have Ge1 := hide he1
                  clear he1
                  go_wp2_with fail
                  refine (HPb.out _).mono ?_
                  rintro e w3 ⟨r2, m2, j2, rfl, ⟨k2, a1, a2, a3⟩, hV, hm, hj, hbb⟩
                  have H3 := hide (And.intro a1 (And.intro a2 (And.intro a3 (And.intro hV (And.intro hj hbb)))))
                  clear a1 a2 a3 hV hm hj hbb
                  obtain ⟨e2, he2⟩ : ∃ e2 : Int, (j2 : Int) - 1074 = e2 := ⟨_, rfl⟩
                  rw [he2]
                  have Be2 : -2000 ≤ e2 ∧ e2 ≤ 2000 := by have := H3.out.2.2.2.2.1; omega
                  have Ge2 := hide he2
                  clear he2
                  go_wp2_with fail
                  refine (HPc.out _).mono ?_
                  rintro e w4 ⟨r3, m3, j3, rfl, ⟨k3, a1, a2, a3⟩, hV, hm, hj, hbb⟩
                  have H4 := hide (And.intro a1 (And.intro a2 (And.intro a3 (And.intro hV (And.intro hj hbb)))))
                  clear a1 a2 a3 hV hm hj hbb
                  obtain ⟨e3, he3⟩ : ∃ e3 : Int, (j3 : Int) - 1074 = e3 := ⟨_, rfl⟩
                  rw [he3]
                  have Be3 : -2000 ≤ e3 ∧ e3 ≤ 2000 := by have := H4.out.2.2.2.2.1; omega
                  have Ge3 := hide he3
                  clear he3
                  have BB := H2.out.2.2.2.2.2.trans (H3.out.2.2.2.2.2.mono H2.out.2.2.2.2.2.size)
                  have HB4 := hide (BB.trans (H4.out.2.2.2.2.2.mono BB.size))
                  clear BB
                  have R1 := hide ((H2.out.1.below H3.out.2.2.2.2.2).below H4.out.2.2.2.2.2)
                  have R2 := hide (H3.out.1.below H4.out.2.2.2.2.2)
                  have HTm := hide (nTimes r1 r2 k1 m1 k2 m2 w4 R1.out R2.out (by have := H2.out.2.2.1; have := H3.out.2.2.1; omega))
                  go_wp2_with fail
                  refine HTm.out.mono ?_
                  rintro e w5 ⟨r5, rfl, k5, c1, c2, c3, hb5⟩
                  have H5 := hide (And.intro c1 (And.intro c2 (And.intro (show k5 ≤ 4 by have := H2.out.2.2.1; have := H3.out.2.2.1; omega) (And.intro (H4.out.1.below hb5) (HB4.out.trans (hb5.mono HB4.out.size))))))
                  clear c1 c2 c3 hb5 HTm R1 R2
                  obtain ⟨e4, he4, Be4⟩ : ∃ e4 : Int, e1 + e2 = e4 ∧ (-4000 ≤ e4 ∧ e4 ≤ 4000) := ⟨_, rfl, by omega⟩
                  have HTg := fun sn => hide (rtogether sn sc r5 r3 k5 (m1 * m2) k3 m3 e4 e3 w5 H5.out.1 H5.out.2.2.2.1 H5.out.2.1 H4.out.2.1 (by have := H5.out.2.2.1; omega) (by have := H4.out.2.2.1; omega) (by omega) (by omega))
                  go_wp2_with (simp only [he4])
                  refine (HTg _).out.mono ?_
                  rintro e w6 ⟨neg, r6, z, rfl, htog, ⟨k6, c1, c2, c3⟩, hb6⟩
                  have hT3 := HT.out m1 j1 m2 j2 m3 j3 neg z H2.out.2.2.2.1 H3.out.2.2.2.1 H4.out.2.2.2.1 e1 e2 e3 (min e4 e3) Ge1.out Ge2.out Ge3.out (by rw [he4]) (by rw [he4]; exact htog)
                  clear htog HTg HT
                  obtain ⟨_, _, ad6, cap6, hr6, _⟩ := id c1
                  have HB6 := hide (H5.out.2.2.2.2.trans (hb6.mono H5.out.2.2.2.2.size))
                  have H6 := hide (And.intro c1 (And.intro c2 c3))
                  clear hb6
                  subst hr6
                  obtain ⟨e5, he5, B5⟩ : ∃ e5 : Int, min e4 e3 = e5 ∧ (-10000 ≤ e5 ∧ e5 ≤ 10000) := ⟨_, rfl, by omega⟩
                  rw [he5] at hT3 ⊢
                  clear he5 Be1 Be2 Be3 Be4
                  by_cases hz : z = 0
                  · have hk6 : k6 = 0 := c2.zero_iff.2 (by rw [hz]; rfl)
                    have HOut := hide (hT3.1 hz)
                    subst hk6
                    clear hT3 c1 c2 c3 hz
                    cases sc
                    all_goals
                      go_wp2_with fail
                      refine (HSg.out _).mono ?_
                      rintro e w1 ⟨rfl, hw1⟩
                      have hw1 := hw1.symm
                      subst hw1
                      go_wp2_with fail
                      go_ret
                      exact ⟨by rw [HOut.out]; rfl, HB6.out⟩
                  · have hk6 : k6 ≠ 0 := fun hk => hz (by have := c2.zero_iff.1 hk; omega)
                    have HOut := hide (hT3.2 hz)
                    have hk7 : ((k6 : Int) == 0) = false := by simp; omega
                    have hk8 : (0 : Int) < (k6 : Int) := by omega
                    clear hT3 c1 c2 c3 hz hk6
                    go_wp2_with (simp only [hk7])
                    refine (nOf 1 _ (by omega)).mono ?_
                    rintro e w7 ⟨r7, rfl, kq, q1, q2, q3, hb7⟩
                    have HNr := fhide (rNearest64 neg _ r7 k6 z.natAbs kq 1 e5 w7 (H6.out.1.below hb7) q1 H6.out.2.1 q2 (by omega) (by have := H6.out.2.2; omega) (by omega) (by omega))
                    have HB7 := fhide (HB6.out.trans (hb7.mono HB6.out.size))
                    clear q1 q2 q3 hb7
                    generalize nrst64 neg z.natAbs 1 e5 = out2 at *
                    go_wp2_with (simp only [hk7])
                    refine HNr.out.mono ?_
                    rintro e w8 ⟨rfl, hb8⟩
                    have HB8 := fhide (HB7.out.trans (hb8.mono HB7.out.size))
                    clear hb8
                    go_wp2_with fail
                    go_ret
                    exact ⟨by rw [HOut.out]; rfl, HB8.out⟩
              · rw [decide_eq_false za] at HZa
                have HT := fhide (fun m1 j1 m2 j2 m3 j3 neg z h1 h2 h3 e1 e2 e3 e q1 q2 q3 q4 => tog_fma a b c m1 j1 m2 j2 m3 j3 neg z ha hb hc (by omega) (by omega) (by omega) h1 h2 h3 e1 e2 e3 e q1 q2 q3 q4)
                have HSg := fhide (fun w : World => rsigned64 ((decide (9223372036854775808 ≤ a) ^^ decide (9223372036854775808 ≤ b)) && decide (9223372036854775808 ≤ c)) 0 w (by omega))
                generalize tldW64 (Ieee.double.fma a b c) = out at *
                generalize decide (9223372036854775808 ≤ c) = sc at *
                generalize decide (9223372036854775808 ≤ a) = sa at *
                generalize decide (9223372036854775808 ≤ b) = sb at *
                clear na nb nc ha hb hc ia ib ic za
                cases sa <;> cases sb
                all_goals
                  go_enter Try.func56, Try.ntmps56
                  go_wp2_with fail
                  refine (HGa.out _).mono ?_
                  rintro e w1 ⟨rfl, hw1⟩
                  have hw1 := hw1.symm
                  subst hw1
                  go_wp2_with fail
                  refine (HGb.out _).mono ?_
                  rintro e w1 ⟨rfl, hw1⟩
                  have hw1 := hw1.symm
                  subst hw1
                  go_wp2_with fail
                  refine (HNa.out _).mono ?_
                  rintro e w1 ⟨rfl, hw1⟩
                  have hw1 := hw1.symm
                  subst hw1
                  go_wp2_with fail
                  refine (HNb.out _).mono ?_
                  rintro e w1 ⟨rfl, hw1⟩
                  have hw1 := hw1.symm
                  subst hw1
                  go_wp2_with fail
                  refine (HNc.out _).mono ?_
                  rintro e w1 ⟨rfl, hw1⟩
                  have hw1 := hw1.symm
                  subst hw1
                  go_wp2_with fail
                  refine (HIa.out _).mono ?_
                  rintro e w1 ⟨rfl, hw1⟩
                  have hw1 := hw1.symm
                  subst hw1
                  go_wp2_with fail
                  refine (HZa.out _).mono ?_
                  rintro e w1 ⟨rfl, hw1⟩
                  have hw1 := hw1.symm
                  subst hw1
                  go_wp2_with fail
                  refine (HIa.out _).mono ?_
                  rintro e w1 ⟨rfl, hw1⟩
                  have hw1 := hw1.symm
                  subst hw1
                  go_wp2_with fail
                  refine (HIb.out _).mono ?_
                  rintro e w1 ⟨rfl, hw1⟩
                  have hw1 := hw1.symm
                  subst hw1
                  go_wp2_with fail
                  refine (HIc.out _).mono ?_
                  rintro e w1 ⟨rfl, hw1⟩
                  have hw1 := hw1.symm
                  subst hw1
                  go_wp2_with fail
                  refine (HPa.out _).mono ?_
                  rintro e w2 ⟨r1, m1, j1, rfl, ⟨k1, a1, a2, a3⟩, hV, hm, hj, hbb⟩
                  have H2 := hide (And.intro a1 (And.intro a2 (And.intro a3 (And.intro hV (And.intro hj hbb)))))
                  clear a1 a2 a3 hV hm hj hbb
                  obtain ⟨e1, he1⟩ : ∃ e1 : Int, (j1 : Int) - 1074 = e1 := ⟨_, rfl⟩
                  rw [he1]
                  have Be1 : -2000 ≤ e1 ∧ e1 ≤ 2000 := by have := H2.out.2.2.2.2.1; omega
                  have Ge1 := hide he1
                  clear he1
                  go_wp2_with fail
                  refine (HPb.out _).mono ?_
                  rintro e w3 ⟨r2, m2, j2, rfl, ⟨k2, a1, a2, a3⟩, hV, hm, hj, hbb⟩
                  have H3 := hide (And.intro a1 (And.intro a2 (And.intro a3 (And.intro hV (And.intro hj hbb)))))
                  clear a1 a2 a3 hV hm hj hbb
                  obtain ⟨e2, he2⟩ : ∃ e2 : Int, (j2 : Int) - 1074 = e2 := ⟨_, rfl⟩
                  rw [he2]
                  have Be2 : -2000 ≤ e2 ∧ e2 ≤ 2000 := by have := H3.out.2.2.2.2.1; omega
                  have Ge2 := hide he2
                  clear he2
                  go_wp2_with fail
                  refine (HPc.out _).mono ?_
                  rintro e w4 ⟨r3, m3, j3, rfl, ⟨k3, a1, a2, a3⟩, hV, hm, hj, hbb⟩
                  have H4 := hide (And.intro a1 (And.intro a2 (And.intro a3 (And.intro hV (And.intro hj hbb)))))
                  clear a1 a2 a3 hV hm hj hbb
                  obtain ⟨e3, he3⟩ : ∃ e3 : Int, (j3 : Int) - 1074 = e3 := ⟨_, rfl⟩
                  rw [he3]
                  have Be3 : -2000 ≤ e3 ∧ e3 ≤ 2000 := by have := H4.out.2.2.2.2.1; omega
                  have Ge3 := hide he3
                  clear he3
                  have BB := H2.out.2.2.2.2.2.trans (H3.out.2.2.2.2.2.mono H2.out.2.2.2.2.2.size)
                  have HB4 := hide (BB.trans (H4.out.2.2.2.2.2.mono BB.size))
                  clear BB
                  have R1 := hide ((H2.out.1.below H3.out.2.2.2.2.2).below H4.out.2.2.2.2.2)
                  have R2 := hide (H3.out.1.below H4.out.2.2.2.2.2)
                  have HTm := hide (nTimes r1 r2 k1 m1 k2 m2 w4 R1.out R2.out (by have := H2.out.2.2.1; have := H3.out.2.2.1; omega))
                  go_wp2_with fail
                  refine HTm.out.mono ?_
                  rintro e w5 ⟨r5, rfl, k5, c1, c2, c3, hb5⟩
                  have H5 := hide (And.intro c1 (And.intro c2 (And.intro (show k5 ≤ 4 by have := H2.out.2.2.1; have := H3.out.2.2.1; omega) (And.intro (H4.out.1.below hb5) (HB4.out.trans (hb5.mono HB4.out.size))))))
                  clear c1 c2 c3 hb5 HTm R1 R2
                  obtain ⟨e4, he4, Be4⟩ : ∃ e4 : Int, e1 + e2 = e4 ∧ (-4000 ≤ e4 ∧ e4 ≤ 4000) := ⟨_, rfl, by omega⟩
                  have HTg := fun sn => hide (rtogether sn sc r5 r3 k5 (m1 * m2) k3 m3 e4 e3 w5 H5.out.1 H5.out.2.2.2.1 H5.out.2.1 H4.out.2.1 (by have := H5.out.2.2.1; omega) (by have := H4.out.2.2.1; omega) (by omega) (by omega))
                  go_wp2_with (simp only [he4])
                  refine (HTg _).out.mono ?_
                  rintro e w6 ⟨neg, r6, z, rfl, htog, ⟨k6, c1, c2, c3⟩, hb6⟩
                  have hT3 := HT.out m1 j1 m2 j2 m3 j3 neg z H2.out.2.2.2.1 H3.out.2.2.2.1 H4.out.2.2.2.1 e1 e2 e3 (min e4 e3) Ge1.out Ge2.out Ge3.out (by rw [he4]) (by rw [he4]; exact htog)
                  clear htog HTg HT
                  obtain ⟨_, _, ad6, cap6, hr6, _⟩ := id c1
                  have HB6 := hide (H5.out.2.2.2.2.trans (hb6.mono H5.out.2.2.2.2.size))
                  have H6 := hide (And.intro c1 (And.intro c2 c3))
                  clear hb6
                  subst hr6
                  obtain ⟨e5, he5, B5⟩ : ∃ e5 : Int, min e4 e3 = e5 ∧ (-10000 ≤ e5 ∧ e5 ≤ 10000) := ⟨_, rfl, by omega⟩
                  rw [he5] at hT3 ⊢
                  clear he5 Be1 Be2 Be3 Be4
                  by_cases hz : z = 0
                  · have hk6 : k6 = 0 := c2.zero_iff.2 (by rw [hz]; rfl)
                    have HOut := hide (hT3.1 hz)
                    subst hk6
                    clear hT3 c1 c2 c3 hz
                    cases sc
                    all_goals
                      go_wp2_with fail
                      refine (HSg.out _).mono ?_
                      rintro e w1 ⟨rfl, hw1⟩
                      have hw1 := hw1.symm
                      subst hw1
                      go_wp2_with fail
                      go_ret
                      exact ⟨by rw [HOut.out]; rfl, HB6.out⟩
                  · have hk6 : k6 ≠ 0 := fun hk => hz (by have := c2.zero_iff.1 hk; omega)
                    have HOut := hide (hT3.2 hz)
                    have hk7 : ((k6 : Int) == 0) = false := by simp; omega
                    have hk8 : (0 : Int) < (k6 : Int) := by omega
                    clear hT3 c1 c2 c3 hz hk6
                    go_wp2_with (simp only [hk7])
                    refine (nOf 1 _ (by omega)).mono ?_
                    rintro e w7 ⟨r7, rfl, kq, q1, q2, q3, hb7⟩
                    have HNr := fhide (rNearest64 neg _ r7 k6 z.natAbs kq 1 e5 w7 (H6.out.1.below hb7) q1 H6.out.2.1 q2 (by omega) (by have := H6.out.2.2; omega) (by omega) (by omega))
                    have HB7 := fhide (HB6.out.trans (hb7.mono HB6.out.size))
                    clear q1 q2 q3 hb7
                    generalize nrst64 neg z.natAbs 1 e5 = out2 at *
                    go_wp2_with (simp only [hk7])
                    refine HNr.out.mono ?_
                    rintro e w8 ⟨rfl, hb8⟩
                    have HB8 := fhide (HB7.out.trans (hb8.mono HB7.out.size))
                    clear hb8
                    go_wp2_with fail
                    go_ret
                    exact ⟨by rw [HOut.out]; rfl, HB8.out⟩

end Go.Proofs.Ytdiinhccfifiaaa
