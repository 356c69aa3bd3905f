/- The document's Mul, Div, of width 64. -/
import Derived.Test.YtmkploknoohliaaGreatPC
namespace Go.Proofs.YtmkploknoohliaaGreat
open Go.RowKit
open M
set_option linter.unusedVariables false
set_option linter.unusedSimpArgs false

theorem V_nz64 {r : Nat} (h : r ≠ 0) : Flt.V Ieee.double r ≠ 0 := fun e => h (Flt.V_inj (f := Ieee.double) (by rw [e, Flt.V_zero]))
theorem ofW64 {neg : Bool} {N D N' D' : Nat} (hD : 0 < D) (hD' : 0 < D') (h : N * D' = N' * D) : Ieee.double.word neg (min (Flt.rnd Ieee.double N D) 9218868437227405312) = wd64 neg (min (Flt.rnd Ieee.double N' D') 9218868437227405312) := by
  rw [wd_word64, Flt.rnd_eq Ieee.double hD hD' h]
theorem mul_units64 (a b m1 j1 m2 j2 : Nat) (ha : a < 18446744073709551616) (hb : b < 18446744073709551616) (fa : a % 9223372036854775808 < 9218868437227405312) (fb : b % 9223372036854775808 < 9218868437227405312) (h1 : m1 * 2 ^ j1 = Flt.V Ieee.double (a % 9223372036854775808)) (h2 : m2 * 2 ^ j2 = Flt.V Ieee.double (b % 9223372036854775808)) :
    tldW64 (Ieee.double.mul a b) = nrst64 (decide (9223372036854775808 ≤ a) ^^ decide (9223372036854775808 ≤ b)) (m1 * m2) 1 (((j1 : Int) - 1074) + ((j2 : Int) - 1074)) := by
  obtain ⟨T, hT⟩ : ∃ T : Nat, T = 1074 := ⟨_, rfl⟩
  rw [Flt.mul_rnd Ieee.double T a b (by rw [hT]; exact leastW64) (by rw [rgW64, infW64]; exact fa) (by rw [rgW64, infW64]; exact fb), sgW64 a ha, sgW64 b hb, infW64, rgW64, rgW64, ← h1, ← h2]
  unfold nrst64
  refine ofW64 (Nat.two_pow_pos _) (by rw [Nat.one_mul]; exact Nat.two_pow_pos _) ?_
  rw [Nat.one_mul]
  rw [show m1 * 2 ^ j1 * (m2 * 2 ^ j2) = m1 * m2 * (2 ^ j1 * 2 ^ j2) by simp only [Nat.mul_assoc, Nat.mul_left_comm, Nat.mul_comm]]
  simp only [Nat.mul_assoc, ← Nat.pow_add]
  congr 3; omega
theorem div_units64 (a b m1 j1 m2 j2 : Nat) (ha : a < 18446744073709551616) (hb : b < 18446744073709551616) (fa : a % 9223372036854775808 < 9218868437227405312) (fb : b % 9223372036854775808 < 9218868437227405312) (hb0 : b % 9223372036854775808 ≠ 0) (h1 : m1 * 2 ^ j1 = Flt.V Ieee.double (a % 9223372036854775808)) (h2 : m2 * 2 ^ j2 = Flt.V Ieee.double (b % 9223372036854775808)) :
    0 < m2 ∧ tldW64 (Ieee.double.div a b) = nrst64 (decide (9223372036854775808 ≤ a) ^^ decide (9223372036854775808 ≤ b)) m1 m2 (((j1 : Int) - 1074) - ((j2 : Int) - 1074)) := by
  have hm2 : 0 < m2 := by
    rcases Nat.eq_zero_or_pos m2 with h | h
    · exfalso
      rw [h, Nat.zero_mul] at h2
      exact V_nz64 hb0 h2.symm
    · exact h
  refine ⟨hm2, ?_⟩
  obtain ⟨T, hT⟩ : ∃ T : Nat, T = 1074 := ⟨_, rfl⟩
  rw [Flt.div_rnd Ieee.double T a b (by rw [hT]; exact leastW64) (by rw [rgW64, infW64]; exact fa) (by rw [rgW64, infW64]; exact fb) (by rw [rgW64]; exact hb0), sgW64 a ha, sgW64 b hb, infW64, rgW64, rgW64, ← h1, ← h2]
  unfold nrst64
  refine ofW64 (Nat.mul_pos hm2 (Nat.two_pow_pos _)) (Nat.mul_pos hm2 (Nat.two_pow_pos _)) ?_
  have e : 2 ^ j1 * 2 ^ T * 2 ^ (-1074 - ((j1 : Int) - 1074 - ((j2 : Int) - 1074))).toNat = 2 ^ ((j1 : Int) - 1074 - ((j2 : Int) - 1074) + 1074).toNat * 2 ^ j2 := by
    rw [← Nat.pow_add, ← Nat.pow_add, ← Nat.pow_add]; congr 1; omega
  generalize 2 ^ (-1074 - ((j1 : Int) - 1074 - ((j2 : Int) - 1074))).toNat = X at *
  generalize 2 ^ ((j1 : Int) - 1074 - ((j2 : Int) - 1074) + 1074).toNat = Y at *
  calc m1 * 2 ^ j1 * 2 ^ T * (m2 * X) = m1 * m2 * (2 ^ j1 * 2 ^ T * X) := by simp only [Nat.mul_assoc, Nat.mul_left_comm, Nat.mul_comm]
    _ = m1 * m2 * (Y * 2 ^ j2) := by rw [e]
    _ = m1 * Y * (m2 * 2 ^ j2) := by simp only [Nat.mul_assoc, Nat.mul_left_comm, Nat.mul_comm]

set_option maxRecDepth 100000 in
set_option maxHeartbeats 1000000 in
theorem rMul64 (a b : Nat) (w : World) (ha : a < 18446744073709551616) (hb : b < 18446744073709551616) : Calls Tryz.prog 34 #[.int .u64 a, .int .u64 b, .int .i64 64] w fun e w' => e = .returned (.int .u64 (tldW64 (Ieee.double.mul a b) : Nat)) ∧ Below w.heap.size w w' := by
  have HNa := fhide (fun w : World => rIsNan64 a w ha)
  have HNb := fhide (fun w : World => rIsNan64 b w hb)
  have HIa := fhide (fun w : World => rIsInf64 a w ha)
  have HIb := fhide (fun w : World => rIsInf64 b w hb)
  have HZa := fhide (fun w : World => rIsZero64 a w ha)
  have HZb := fhide (fun w : World => rIsZero64 b w hb)
  have HPa := fhide (fun w : World => rParts64 a w ha)
  have HPb := fhide (fun w : World => rParts64 b w hb)
  have HGa := fhide (fun w : World => rNeg64 a w ha)
  have HGb := fhide (fun w : World => rNeg64 b w hb)
  by_cases na : 9218868437227405312 < a % 9223372036854775808
  · rw [decide_eq_true na] at HNa
    have ho : tldW64 (Ieee.double.mul a b) = 9221120237041090560 := by rw [Flt.mul_nan2 Ieee.double (by decide) a b (.inl (by rw [rgW64, infW64]; exact na))]; rfl
    rw [ho]
    clear ho
    generalize decide (9223372036854775808 ≤ a) = sa at *
    generalize decide (9223372036854775808 ≤ b) = sb at *
    clear na ha hb
    cases sa <;> cases sb
    all_goals
      go_enter Tryz.func34, Tryz.ntmps34
      go_wp2_with fail
      refine (HGa.out _).mono ?_
      rintro e w1 ⟨rfl, hw1⟩
      have hw1 := hw1.symm
      subst hw1
      go_wp2_with fail
      refine (HGb.out _).mono ?_
      rintro e w1 ⟨rfl, hw1⟩
      have hw1 := hw1.symm
      subst hw1
      go_wp2_with fail
      refine (HNa.out _).mono ?_
      rintro e w1 ⟨rfl, hw1⟩
      have hw1 := hw1.symm
      subst hw1
      go_wp2_with fail
      refine (rNan64 _).mono ?_
      rintro e w1 ⟨rfl, hw1⟩
      have hw1 := hw1.symm
      subst hw1
      go_wp2_with fail
      go_ret
      exact ⟨rfl, Below.refl _ _⟩
  · rw [decide_eq_false na] at HNa
    by_cases nb : 9218868437227405312 < b % 9223372036854775808
    · rw [decide_eq_true nb] at HNb
      have ho : tldW64 (Ieee.double.mul a b) = 9221120237041090560 := by rw [Flt.mul_nan2 Ieee.double (by decide) a b (.inr (by rw [rgW64, infW64]; exact nb))]; rfl
      rw [ho]
      clear ho
      generalize decide (9223372036854775808 ≤ a) = sa at *
      generalize decide (9223372036854775808 ≤ b) = sb at *
      clear na nb ha hb
      cases sa <;> cases sb
      all_goals
        go_enter Tryz.func34, Tryz.ntmps34
        go_wp2_with fail
        refine (HGa.out _).mono ?_
        rintro e w1 ⟨rfl, hw1⟩
        have hw1 := hw1.symm
        subst hw1
        go_wp2_with fail
        refine (HGb.out _).mono ?_
        rintro e w1 ⟨rfl, hw1⟩
        have hw1 := hw1.symm
        subst hw1
        go_wp2_with fail
        refine (HNa.out _).mono ?_
        rintro e w1 ⟨rfl, hw1⟩
        have hw1 := hw1.symm
        subst hw1
        go_wp2_with fail
        refine (HNb.out _).mono ?_
        rintro e w1 ⟨rfl, hw1⟩
        have hw1 := hw1.symm
        subst hw1
        go_wp2_with fail
        refine (rNan64 _).mono ?_
        rintro e w1 ⟨rfl, hw1⟩
        have hw1 := hw1.symm
        subst hw1
        go_wp2_with fail
        go_ret
        exact ⟨rfl, Below.refl _ _⟩
    · rw [decide_eq_false nb] at HNb
      by_cases ia : a % 9223372036854775808 = 9218868437227405312
      · rw [decide_eq_true ia] at HIa
        rw [decide_eq_false (by omega)] at HZa
        by_cases zb : b % 9223372036854775808 = 0
        · rw [decide_eq_true zb] at HZb
          have ho : tldW64 (Ieee.double.mul a b) = 9221120237041090560 := by rw [Flt.mul_inf_fin Ieee.double (by decide) a b (by rw [rgW64, infW64]; exact ia) (by rw [rgW64, infW64]; omega), rgW64, if_pos zb]; rfl
          rw [ho]
          clear ho
          generalize decide (9223372036854775808 ≤ a) = sa at *
          generalize decide (9223372036854775808 ≤ b) = sb at *
          clear na nb ha hb ia zb
          cases sa <;> cases sb
          all_goals
            go_enter Tryz.func34, Tryz.ntmps34
            go_wp2_with fail
            refine (HGa.out _).mono ?_
            rintro e w1 ⟨rfl, hw1⟩
            have hw1 := hw1.symm
            subst hw1
            go_wp2_with fail
            refine (HGb.out _).mono ?_
            rintro e w1 ⟨rfl, hw1⟩
            have hw1 := hw1.symm
            subst hw1
            go_wp2_with fail
            refine (HNa.out _).mono ?_
            rintro e w1 ⟨rfl, hw1⟩
            have hw1 := hw1.symm
            subst hw1
            go_wp2_with fail
            refine (HNb.out _).mono ?_
            rintro e w1 ⟨rfl, hw1⟩
            have hw1 := hw1.symm
            subst hw1
            go_wp2_with fail
            refine (HIa.out _).mono ?_
            rintro e w1 ⟨rfl, hw1⟩
            have hw1 := hw1.symm
            subst hw1
            go_wp2_with fail
            refine (HZb.out _).mono ?_
            rintro e w1 ⟨rfl, hw1⟩
            have hw1 := hw1.symm
            subst hw1
            go_wp2_with fail
            refine (rNan64 _).mono ?_
            rintro e w1 ⟨rfl, hw1⟩
            have hw1 := hw1.symm
            subst hw1
            go_wp2_with fail
            go_ret
            exact ⟨rfl, Below.refl _ _⟩
        · rw [decide_eq_false zb] at HZb
          have ho : tldW64 (Ieee.double.mul a b) = wd64 (decide (9223372036854775808 ≤ a) ^^ decide (9223372036854775808 ≤ b)) 9218868437227405312 := by 
              by_cases ib : b % 9223372036854775808 = 9218868437227405312
              · rw [Flt.mul_inf_inf Ieee.double (by decide) a b (by rw [rgW64, infW64]; exact ia) (by rw [rgW64, infW64]; exact ib), sgW64 a ha, sgW64 b hb, infW64, ← wd_word64]; rfl
              · rw [Flt.mul_inf_fin Ieee.double (by decide) a b (by rw [rgW64, infW64]; exact ia) (by rw [rgW64, infW64]; omega), rgW64, if_neg zb, sgW64 a ha, sgW64 b hb, infW64, ← wd_word64]; rfl
          have HSg := fhide (fun w : World => rsigned64 (decide (9223372036854775808 ≤ a) ^^ decide (9223372036854775808 ≤ b)) 9218868437227405312 w (by omega))
          rw [← ho] at HSg
          generalize tldW64 (Ieee.double.mul a b) = out at *
          clear ho
          generalize decide (9223372036854775808 ≤ a) = sa at *
          generalize decide (9223372036854775808 ≤ b) = sb at *
          clear na nb ha hb ia zb
          cases sa <;> cases sb
          all_goals
            go_enter Tryz.func34, Tryz.ntmps34
            go_wp2_with fail
            refine (HGa.out _).mono ?_
            rintro e w1 ⟨rfl, hw1⟩
            have hw1 := hw1.symm
            subst hw1
            go_wp2_with fail
            refine (HGb.out _).mono ?_
            rintro e w1 ⟨rfl, hw1⟩
            have hw1 := hw1.symm
            subst hw1
            go_wp2_with fail
            refine (HNa.out _).mono ?_
            rintro e w1 ⟨rfl, hw1⟩
            have hw1 := hw1.symm
            subst hw1
            go_wp2_with fail
            refine (HNb.out _).mono ?_
            rintro e w1 ⟨rfl, hw1⟩
            have hw1 := hw1.symm
            subst hw1
            go_wp2_with fail
            refine (HIa.out _).mono ?_
            rintro e w1 ⟨rfl, hw1⟩
            have hw1 := hw1.symm
            subst hw1
            go_wp2_with fail
            refine (HZb.out _).mono ?_
            rintro e w1 ⟨rfl, hw1⟩
            have hw1 := hw1.symm
            subst hw1
            go_wp2_with fail
            refine (HZa.out _).mono ?_
            rintro e w1 ⟨rfl, hw1⟩
            have hw1 := hw1.symm
            subst hw1
            go_wp2_with fail
            refine (HIa.out _).mono ?_
            rintro e w1 ⟨rfl, hw1⟩
            have hw1 := hw1.symm
            subst hw1
            go_wp2_with fail
            refine (rInf64 _).mono ?_
            rintro e w1 ⟨rfl, hw1⟩
            have hw1 := hw1.symm
            subst hw1
            go_wp2_with fail
            refine (HSg.out _).mono ?_
            rintro e w1 ⟨rfl, hw1⟩
            have hw1 := hw1.symm
            subst hw1
            go_wp2_with fail
            go_ret
            exact ⟨rfl, Below.refl _ _⟩
      · rw [decide_eq_false ia] at HIa
        by_cases ib : b % 9223372036854775808 = 9218868437227405312
        · rw [decide_eq_true ib] at HIb
          by_cases za : a % 9223372036854775808 = 0
          · rw [decide_eq_true za] at HZa
            have ho : tldW64 (Ieee.double.mul a b) = 9221120237041090560 := by rw [Flt.mul_fin_inf Ieee.double (by decide) a b (by rw [rgW64, infW64]; omega) (by rw [rgW64, infW64]; exact ib), rgW64, if_pos za]; rfl
            rw [ho]
            clear ho
            generalize decide (9223372036854775808 ≤ a) = sa at *
            generalize decide (9223372036854775808 ≤ b) = sb at *
            clear na nb ha hb ia ib za
            cases sa <;> cases sb
            all_goals
              go_enter Tryz.func34, Tryz.ntmps34
              go_wp2_with fail
              refine (HGa.out _).mono ?_
              rintro e w1 ⟨rfl, hw1⟩
              have hw1 := hw1.symm
              subst hw1
              go_wp2_with fail
              refine (HGb.out _).mono ?_
              rintro e w1 ⟨rfl, hw1⟩
              have hw1 := hw1.symm
              subst hw1
              go_wp2_with fail
              refine (HNa.out _).mono ?_
              rintro e w1 ⟨rfl, hw1⟩
              have hw1 := hw1.symm
              subst hw1
              go_wp2_with fail
              refine (HNb.out _).mono ?_
              rintro e w1 ⟨rfl, hw1⟩
              have hw1 := hw1.symm
              subst hw1
              go_wp2_with fail
              refine (HIa.out _).mono ?_
              rintro e w1 ⟨rfl, hw1⟩
              have hw1 := hw1.symm
              subst hw1
              go_wp2_with fail
              refine (HZa.out _).mono ?_
              rintro e w1 ⟨rfl, hw1⟩
              have hw1 := hw1.symm
              subst hw1
              go_wp2_with fail
              refine (HIb.out _).mono ?_
              rintro e w1 ⟨rfl, hw1⟩
              have hw1 := hw1.symm
              subst hw1
              go_wp2_with fail
              refine (rNan64 _).mono ?_
              rintro e w1 ⟨rfl, hw1⟩
              have hw1 := hw1.symm
              subst hw1
              go_wp2_with fail
              go_ret
              exact ⟨rfl, Below.refl _ _⟩
          · rw [decide_eq_false za] at HZa
            have ho : tldW64 (Ieee.double.mul a b) = wd64 (decide (9223372036854775808 ≤ a) ^^ decide (9223372036854775808 ≤ b)) 9218868437227405312 := by rw [Flt.mul_fin_inf Ieee.double (by decide) a b (by rw [rgW64, infW64]; omega) (by rw [rgW64, infW64]; exact ib), rgW64, if_neg za, sgW64 a ha, sgW64 b hb, infW64, ← wd_word64]; rfl
            have HSg := fhide (fun w : World => rsigned64 (decide (9223372036854775808 ≤ a) ^^ decide (9223372036854775808 ≤ b)) 9218868437227405312 w (by omega))
            rw [← ho] at HSg
            generalize tldW64 (Ieee.double.mul a b) = out at *
            clear ho
            generalize decide (9223372036854775808 ≤ a) = sa at *
            generalize decide (9223372036854775808 ≤ b) = sb at *
            clear na nb ha hb ia ib za
            cases sa <;> cases sb
            all_goals
              go_enter Tryz.func34, Tryz.ntmps34
              go_wp2_with fail
              refine (HGa.out _).mono ?_
              rintro e w1 ⟨rfl, hw1⟩
              have hw1 := hw1.symm
              subst hw1
              go_wp2_with fail
              refine (HGb.out _).mono ?_
              rintro e w1 ⟨rfl, hw1⟩
              have hw1 := hw1.symm
              subst hw1
              go_wp2_with fail
              refine (HNa.out _).mono ?_
              rintro e w1 ⟨rfl, hw1⟩
              have hw1 := hw1.symm
              subst hw1
              go_wp2_with fail
              refine (HNb.out _).mono ?_
              rintro e w1 ⟨rfl, hw1⟩
              have hw1 := hw1.symm
              subst hw1
              go_wp2_with fail
              refine (HIa.out _).mono ?_
              rintro e w1 ⟨rfl, hw1⟩
              have hw1 := hw1.symm
              subst hw1
              go_wp2_with fail
              refine (HZa.out _).mono ?_
              rintro e w1 ⟨rfl, hw1⟩
              have hw1 := hw1.symm
              subst hw1
              go_wp2_with fail
              refine (HIa.out _).mono ?_
              rintro e w1 ⟨rfl, hw1⟩
              have hw1 := hw1.symm
              subst hw1
              go_wp2_with fail
              refine (HIb.out _).mono ?_
              rintro e w1 ⟨rfl, hw1⟩
              have hw1 := hw1.symm
              subst hw1
              go_wp2_with fail
              refine (rInf64 _).mono ?_
              rintro e w1 ⟨rfl, hw1⟩
              have hw1 := hw1.symm
              subst hw1
              go_wp2_with fail
              refine (HSg.out _).mono ?_
              rintro e w1 ⟨rfl, hw1⟩
              have hw1 := hw1.symm
              subst hw1
              go_wp2_with fail
              go_ret
              exact ⟨rfl, Below.refl _ _⟩
        · rw [decide_eq_false ib] at HIb
          by_cases za : a % 9223372036854775808 = 0
          · rw [decide_eq_true za] at HZa
            have HU := fhide (fun m1 j1 m2 j2 h1 h2 => mul_units64 a b m1 j1 m2 j2 ha hb (by omega) (by omega) h1 h2)
            generalize tldW64 (Ieee.double.mul a b) = out at *
            generalize decide (9223372036854775808 ≤ a) = sa at *
            generalize decide (9223372036854775808 ≤ b) = sb at *
            clear na nb ha hb ia ib za
            cases sa <;> cases sb
            all_goals
              go_enter Tryz.func34, Tryz.ntmps34
              go_wp2_with fail
              refine (HGa.out _).mono ?_
              rintro e w1 ⟨rfl, hw1⟩
              have hw1 := hw1.symm
              subst hw1
              go_wp2_with fail
              refine (HGb.out _).mono ?_
              rintro e w1 ⟨rfl, hw1⟩
              have hw1 := hw1.symm
              subst hw1
              go_wp2_with fail
              refine (HNa.out _).mono ?_
              rintro e w1 ⟨rfl, hw1⟩
              have hw1 := hw1.symm
              subst hw1
              go_wp2_with fail
              refine (HNb.out _).mono ?_
              rintro e w1 ⟨rfl, hw1⟩
              have hw1 := hw1.symm
              subst hw1
              go_wp2_with fail
              refine (HIa.out _).mono ?_
              rintro e w1 ⟨rfl, hw1⟩
              have hw1 := hw1.symm
              subst hw1
              go_wp2_with fail
              refine (HZa.out _).mono ?_
              rintro e w1 ⟨rfl, hw1⟩
              have hw1 := hw1.symm
              subst hw1
              go_wp2_with fail
              refine (HIb.out _).mono ?_
              rintro e w1 ⟨rfl, hw1⟩
              have hw1 := hw1.symm
              subst hw1
              go_wp2_with fail
              refine (HIa.out _).mono ?_
              rintro e w1 ⟨rfl, hw1⟩
              have hw1 := hw1.symm
              subst hw1
              go_wp2_with fail
              refine (HIb.out _).mono ?_
              rintro e w1 ⟨rfl, hw1⟩
              have hw1 := hw1.symm
              subst hw1
              go_wp2_with fail
              refine (HPa.out _).mono ?_
              rintro e w2 ⟨r1, m1, j1, rfl, ⟨k1, a1, a2, a3⟩, hV1, hm1, hj1, hb2⟩
              have H2 := hide (And.intro a1 (And.intro a2 (And.intro a3 (And.intro hV1 (And.intro hj1 hb2)))))
              clear a1 a2 a3 hV1 hm1 hj1 hb2
              obtain ⟨e1, he1⟩ : ∃ e1 : Int, (j1 : Int) - 1074 = e1 := ⟨_, rfl⟩
              rw [he1]
              go_wp2_with fail
              refine (HPb.out _).mono ?_
              rintro e w3 ⟨r2, m2, j2, rfl, ⟨k2, a1, a2, a3⟩, hV2, hm2, hj2, hb3⟩
              have H3 := hide (And.intro a1 (And.intro a2 (And.intro a3 (And.intro hV2 (And.intro hj2 hb3)))))
              clear a1 a2 a3 hV2 hm2 hj2 hb3
              obtain ⟨e2, he2⟩ : ∃ e2 : Int, (j2 : Int) - 1074 = e2 := ⟨_, rfl⟩
              rw [he2]
              have B1 : -10000 ≤ e1 ∧ e1 ≤ 10000 := by have := H2.out.2.2.2.2.1; omega
              have B2 : -10000 ≤ e2 ∧ e2 ≤ 10000 := by have := H3.out.2.2.2.2.1; omega
              have hout := HU.out m1 j1 m2 j2 H2.out.2.2.2.1 H3.out.2.2.2.1
              rw [he1, he2] at hout
              obtain ⟨e3, he3⟩ : ∃ e3 : Int, e1 + e2 = e3 := ⟨_, rfl⟩
              rw [he3] at hout
              have HOut := hide hout
              clear hout he1 he2
              have HTm := hide (nTimes r1 r2 k1 m1 k2 m2 w3 (H2.out.1.below H3.out.2.2.2.2.2) H3.out.1 (by have := H2.out.2.2.1; have := H3.out.2.2.1; omega))
              have HB3 := hide (H2.out.2.2.2.2.2.trans (H3.out.2.2.2.2.2.mono H2.out.2.2.2.2.2.size))
              have HK := hide (And.intro H2.out.2.2.1 H3.out.2.2.1)
              clear H2 H3
              go_wp2_with fail
              refine HTm.out.mono ?_
              rintro e w4 ⟨r4, rfl, k4, c1, c2, c3, hb4⟩
              have H4 := hide (And.intro c1 (And.intro c2 (And.intro (show k4 ≤ 4 by have := HK.out.1; have := HK.out.2; omega) (HB3.out.trans (hb4.mono HB3.out.size)))))
              clear c1 c2 c3 hb4 HB3 HTm
              go_wp2_with fail
              refine (nOf 1 _ (by omega)).mono ?_
              rintro e w5 ⟨r5, rfl, kq, q1, q2, q3, hb5⟩
              have HNr := fun neg => fhide (rNearest64 neg r4 r5 k4 (m1 * m2) kq 1 e3 w5 (H4.out.1.below hb5) q1 H4.out.2.1 q2 (by omega) (by have := H4.out.2.2.1; omega) (by omega) (by omega))
              have HB5 := fhide (H4.out.2.2.2.trans (hb5.mono H4.out.2.2.2.size))
              clear q1 q2 q3 hb5
              have HX := hide he3
              go_wp2_with (simp only [he3])
              refine (HNr _).out.mono ?_
              rintro e w6 ⟨rfl, hb6⟩
              have HB6 := fhide (HB5.out.trans (hb6.mono HB5.out.size))
              clear hb6 HNr
              go_wp2_with fail
              go_ret
              exact ⟨by rw [HOut.out]; rfl, HB6.out⟩
          · rw [decide_eq_false za] at HZa
            have HU := fhide (fun m1 j1 m2 j2 h1 h2 => mul_units64 a b m1 j1 m2 j2 ha hb (by omega) (by omega) h1 h2)
            generalize tldW64 (Ieee.double.mul a b) = out at *
            generalize decide (9223372036854775808 ≤ a) = sa at *
            generalize decide (9223372036854775808 ≤ b) = sb at *
            clear na nb ha hb ia ib za
            cases sa <;> cases sb
            all_goals
              go_enter Tryz.func34, Tryz.ntmps34
              go_wp2_with fail
              refine (HGa.out _).mono ?_
              rintro e w1 ⟨rfl, hw1⟩
              have hw1 := hw1.symm
              subst hw1
              go_wp2_with fail
              refine (HGb.out _).mono ?_
              rintro e w1 ⟨rfl, hw1⟩
              have hw1 := hw1.symm
              subst hw1
              go_wp2_with fail
              refine (HNa.out _).mono ?_
              rintro e w1 ⟨rfl, hw1⟩
              have hw1 := hw1.symm
              subst hw1
              go_wp2_with fail
              refine (HNb.out _).mono ?_
              rintro e w1 ⟨rfl, hw1⟩
              have hw1 := hw1.symm
              subst hw1
              go_wp2_with fail
              refine (HIa.out _).mono ?_
              rintro e w1 ⟨rfl, hw1⟩
              have hw1 := hw1.symm
              subst hw1
              go_wp2_with fail
              refine (HZa.out _).mono ?_
              rintro e w1 ⟨rfl, hw1⟩
              have hw1 := hw1.symm
              subst hw1
              go_wp2_with fail
              refine (HIa.out _).mono ?_
              rintro e w1 ⟨rfl, hw1⟩
              have hw1 := hw1.symm
              subst hw1
              go_wp2_with fail
              refine (HIb.out _).mono ?_
              rintro e w1 ⟨rfl, hw1⟩
              have hw1 := hw1.symm
              subst hw1
              go_wp2_with fail
              refine (HPa.out _).mono ?_
              rintro e w2 ⟨r1, m1, j1, rfl, ⟨k1, a1, a2, a3⟩, hV1, hm1, hj1, hb2⟩
              have H2 := hide (And.intro a1 (And.intro a2 (And.intro a3 (And.intro hV1 (And.intro hj1 hb2)))))
              clear a1 a2 a3 hV1 hm1 hj1 hb2
              obtain ⟨e1, he1⟩ : ∃ e1 : Int, (j1 : Int) - 1074 = e1 := ⟨_, rfl⟩
              rw [he1]
              go_wp2_with fail
              refine (HPb.out _).mono ?_
              rintro e w3 ⟨r2, m2, j2, rfl, ⟨k2, a1, a2, a3⟩, hV2, hm2, hj2, hb3⟩
              have H3 := hide (And.intro a1 (And.intro a2 (And.intro a3 (And.intro hV2 (And.intro hj2 hb3)))))
              clear a1 a2 a3 hV2 hm2 hj2 hb3
              obtain ⟨e2, he2⟩ : ∃ e2 : Int, (j2 : Int) - 1074 = e2 := ⟨_, rfl⟩
              rw [he2]
              have B1 : -10000 ≤ e1 ∧ e1 ≤ 10000 := by have := H2.out.2.2.2.2.1; omega
              have B2 : -10000 ≤ e2 ∧ e2 ≤ 10000 := by have := H3.out.2.2.2.2.1; omega
              have hout := HU.out m1 j1 m2 j2 H2.out.2.2.2.1 H3.out.2.2.2.1
              rw [he1, he2] at hout
              obtain ⟨e3, he3⟩ : ∃ e3 : Int, e1 + e2 = e3 := ⟨_, rfl⟩
              rw [he3] at hout
              have HOut := hide hout
              clear hout he1 he2
              have HTm := hide (nTimes r1 r2 k1 m1 k2 m2 w3 (H2.out.1.below H3.out.2.2.2.2.2) H3.out.1 (by have := H2.out.2.2.1; have := H3.out.2.2.1; omega))
              have HB3 := hide (H2.out.2.2.2.2.2.trans (H3.out.2.2.2.2.2.mono H2.out.2.2.2.2.2.size))
              have HK := hide (And.intro H2.out.2.2.1 H3.out.2.2.1)
              clear H2 H3
              go_wp2_with fail
              refine HTm.out.mono ?_
              rintro e w4 ⟨r4, rfl, k4, c1, c2, c3, hb4⟩
              have H4 := hide (And.intro c1 (And.intro c2 (And.intro (show k4 ≤ 4 by have := HK.out.1; have := HK.out.2; omega) (HB3.out.trans (hb4.mono HB3.out.size)))))
              clear c1 c2 c3 hb4 HB3 HTm
              go_wp2_with fail
              refine (nOf 1 _ (by omega)).mono ?_
              rintro e w5 ⟨r5, rfl, kq, q1, q2, q3, hb5⟩
              have HNr := fun neg => fhide (rNearest64 neg r4 r5 k4 (m1 * m2) kq 1 e3 w5 (H4.out.1.below hb5) q1 H4.out.2.1 q2 (by omega) (by have := H4.out.2.2.1; omega) (by omega) (by omega))
              have HB5 := fhide (H4.out.2.2.2.trans (hb5.mono H4.out.2.2.2.size))
              clear q1 q2 q3 hb5
              have HX := hide he3
              go_wp2_with (simp only [he3])
              refine (HNr _).out.mono ?_
              rintro e w6 ⟨rfl, hb6⟩
              have HB6 := fhide (HB5.out.trans (hb6.mono HB5.out.size))
              clear hb6 HNr
              go_wp2_with fail
              go_ret
              exact ⟨by rw [HOut.out]; rfl, HB6.out⟩

set_option maxRecDepth 100000 in
set_option maxHeartbeats 1000000 in
theorem rDiv64 (a b : Nat) (w : World) (ha : a < 18446744073709551616) (hb : b < 18446744073709551616) : Calls Tryz.prog 35 #[.int .u64 a, .int .u64 b, .int .i64 64] w fun e w' => e = .returned (.int .u64 (tldW64 (Ieee.double.div a b) : Nat)) ∧ Below w.heap.size w w' := by
  have HNa := fhide (fun w : World => rIsNan64 a w ha)
  have HNb := fhide (fun w : World => rIsNan64 b w hb)
  have HIa := fhide (fun w : World => rIsInf64 a w ha)
  have HIb := fhide (fun w : World => rIsInf64 b w hb)
  have HZa := fhide (fun w : World => rIsZero64 a w ha)
  have HZb := fhide (fun w : World => rIsZero64 b w hb)
  have HPa := fhide (fun w : World => rParts64 a w ha)
  have HPb := fhide (fun w : World => rParts64 b w hb)
  have HGa := fhide (fun w : World => rNeg64 a w ha)
  have HGb := fhide (fun w : World => rNeg64 b w hb)
  by_cases na : 9218868437227405312 < a % 9223372036854775808
  · rw [decide_eq_true na] at HNa
    have ho : tldW64 (Ieee.double.div a b) = 9221120237041090560 := by rw [Flt.div_nan2 Ieee.double (by decide) a b (.inl (by rw [rgW64, infW64]; exact na))]; rfl
    rw [ho]
    clear ho
    generalize decide (9223372036854775808 ≤ a) = sa at *
    generalize decide (9223372036854775808 ≤ b) = sb at *
    clear na ha hb
    cases sa <;> cases sb
    all_goals
      go_enter Tryz.func35, Tryz.ntmps35
      go_wp2_with fail
      refine (HGa.out _).mono ?_
      rintro e w1 ⟨rfl, hw1⟩
      have hw1 := hw1.symm
      subst hw1
      go_wp2_with fail
      refine (HGb.out _).mono ?_
      rintro e w1 ⟨rfl, hw1⟩
      have hw1 := hw1.symm
      subst hw1
      go_wp2_with fail
      refine (HNa.out _).mono ?_
      rintro e w1 ⟨rfl, hw1⟩
      have hw1 := hw1.symm
      subst hw1
      go_wp2_with fail
      refine (rNan64 _).mono ?_
      rintro e w1 ⟨rfl, hw1⟩
      have hw1 := hw1.symm
      subst hw1
      go_wp2_with fail
      go_ret
      exact ⟨rfl, Below.refl _ _⟩
  · rw [decide_eq_false na] at HNa
    by_cases nb : 9218868437227405312 < b % 9223372036854775808
    · rw [decide_eq_true nb] at HNb
      have ho : tldW64 (Ieee.double.div a b) = 9221120237041090560 := by rw [Flt.div_nan2 Ieee.double (by decide) a b (.inr (by rw [rgW64, infW64]; exact nb))]; rfl
      rw [ho]
      clear ho
      generalize decide (9223372036854775808 ≤ a) = sa at *
      generalize decide (9223372036854775808 ≤ b) = sb at *
      clear na nb ha hb
      cases sa <;> cases sb
      all_goals
        go_enter Tryz.func35, Tryz.ntmps35
        go_wp2_with fail
        refine (HGa.out _).mono ?_
        rintro e w1 ⟨rfl, hw1⟩
        have hw1 := hw1.symm
        subst hw1
        go_wp2_with fail
        refine (HGb.out _).mono ?_
        rintro e w1 ⟨rfl, hw1⟩
        have hw1 := hw1.symm
        subst hw1
        go_wp2_with fail
        refine (HNa.out _).mono ?_
        rintro e w1 ⟨rfl, hw1⟩
        have hw1 := hw1.symm
        subst hw1
        go_wp2_with fail
        refine (HNb.out _).mono ?_
        rintro e w1 ⟨rfl, hw1⟩
        have hw1 := hw1.symm
        subst hw1
        go_wp2_with fail
        refine (rNan64 _).mono ?_
        rintro e w1 ⟨rfl, hw1⟩
        have hw1 := hw1.symm
        subst hw1
        go_wp2_with fail
        go_ret
        exact ⟨rfl, Below.refl _ _⟩
    · rw [decide_eq_false nb] at HNb
      by_cases ia : a % 9223372036854775808 = 9218868437227405312
      · rw [decide_eq_true ia] at HIa
        rw [decide_eq_false (by omega)] at HZa
        by_cases ib : b % 9223372036854775808 = 9218868437227405312
        · rw [decide_eq_true ib] at HIb
          have ho : tldW64 (Ieee.double.div a b) = 9221120237041090560 := by rw [Flt.div_inf_inf Ieee.double (by decide) a b (by rw [rgW64, infW64]; exact ia) (by rw [rgW64, infW64]; exact ib)]; rfl
          rw [ho]
          clear ho
          generalize decide (9223372036854775808 ≤ a) = sa at *
          generalize decide (9223372036854775808 ≤ b) = sb at *
          clear na nb ha hb ia ib
          cases sa <;> cases sb
          all_goals
            go_enter Tryz.func35, Tryz.ntmps35
            go_wp2_with fail
            refine (HGa.out _).mono ?_
            rintro e w1 ⟨rfl, hw1⟩
            have hw1 := hw1.symm
            subst hw1
            go_wp2_with fail
            refine (HGb.out _).mono ?_
            rintro e w1 ⟨rfl, hw1⟩
            have hw1 := hw1.symm
            subst hw1
            go_wp2_with fail
            refine (HNa.out _).mono ?_
            rintro e w1 ⟨rfl, hw1⟩
            have hw1 := hw1.symm
            subst hw1
            go_wp2_with fail
            refine (HNb.out _).mono ?_
            rintro e w1 ⟨rfl, hw1⟩
            have hw1 := hw1.symm
            subst hw1
            go_wp2_with fail
            refine (HIa.out _).mono ?_
            rintro e w1 ⟨rfl, hw1⟩
            have hw1 := hw1.symm
            subst hw1
            go_wp2_with fail
            refine (HIb.out _).mono ?_
            rintro e w1 ⟨rfl, hw1⟩
            have hw1 := hw1.symm
            subst hw1
            go_wp2_with fail
            refine (rNan64 _).mono ?_
            rintro e w1 ⟨rfl, hw1⟩
            have hw1 := hw1.symm
            subst hw1
            go_wp2_with fail
            go_ret
            exact ⟨rfl, Below.refl _ _⟩
        · rw [decide_eq_false ib] at HIb
          have ho : tldW64 (Ieee.double.div a b) = wd64 (decide (9223372036854775808 ≤ a) ^^ decide (9223372036854775808 ≤ b)) 9218868437227405312 := by rw [Flt.div_inf_fin Ieee.double (by decide) a b (by rw [rgW64, infW64]; exact ia) (by rw [rgW64, infW64]; omega), sgW64 a ha, sgW64 b hb, infW64, ← wd_word64]; rfl
          have HSg := fhide (fun w : World => rsigned64 (decide (9223372036854775808 ≤ a) ^^ decide (9223372036854775808 ≤ b)) 9218868437227405312 w (by omega))
          rw [← ho] at HSg
          generalize tldW64 (Ieee.double.div a b) = out at *
          clear ho
          generalize decide (9223372036854775808 ≤ a) = sa at *
          generalize decide (9223372036854775808 ≤ b) = sb at *
          clear na nb ha hb ia ib
          cases sa <;> cases sb
          all_goals
            go_enter Tryz.func35, Tryz.ntmps35
            go_wp2_with fail
            refine (HGa.out _).mono ?_
            rintro e w1 ⟨rfl, hw1⟩
            have hw1 := hw1.symm
            subst hw1
            go_wp2_with fail
            refine (HGb.out _).mono ?_
            rintro e w1 ⟨rfl, hw1⟩
            have hw1 := hw1.symm
            subst hw1
            go_wp2_with fail
            refine (HNa.out _).mono ?_
            rintro e w1 ⟨rfl, hw1⟩
            have hw1 := hw1.symm
            subst hw1
            go_wp2_with fail
            refine (HNb.out _).mono ?_
            rintro e w1 ⟨rfl, hw1⟩
            have hw1 := hw1.symm
            subst hw1
            go_wp2_with fail
            refine (HIa.out _).mono ?_
            rintro e w1 ⟨rfl, hw1⟩
            have hw1 := hw1.symm
            subst hw1
            go_wp2_with fail
            refine (HIb.out _).mono ?_
            rintro e w1 ⟨rfl, hw1⟩
            have hw1 := hw1.symm
            subst hw1
            go_wp2_with fail
            refine (HZa.out _).mono ?_
            rintro e w1 ⟨rfl, hw1⟩
            have hw1 := hw1.symm
            subst hw1
            go_wp2_with fail
            refine (HIa.out _).mono ?_
            rintro e w1 ⟨rfl, hw1⟩
            have hw1 := hw1.symm
            subst hw1
            go_wp2_with fail
            refine (rInf64 _).mono ?_
            rintro e w1 ⟨rfl, hw1⟩
            have hw1 := hw1.symm
            subst hw1
            go_wp2_with fail
            refine (HSg.out _).mono ?_
            rintro e w1 ⟨rfl, hw1⟩
            have hw1 := hw1.symm
            subst hw1
            go_wp2_with fail
            go_ret
            exact ⟨rfl, Below.refl _ _⟩
      · rw [decide_eq_false ia] at HIa
        by_cases za : a % 9223372036854775808 = 0
        · rw [decide_eq_true za] at HZa
          by_cases zb : b % 9223372036854775808 = 0
          · rw [decide_eq_true zb] at HZb
            have ho : tldW64 (Ieee.double.div a b) = 9221120237041090560 := by rw [Flt.div_fin_zero Ieee.double a b (by rw [rgW64, infW64]; omega) (by rw [rgW64, infW64]; omega) (by rw [rgW64]; exact zb), rgW64, if_pos za]; rfl
            rw [ho]
            clear ho
            generalize decide (9223372036854775808 ≤ a) = sa at *
            generalize decide (9223372036854775808 ≤ b) = sb at *
            clear na nb ha hb ia za zb
            cases sa <;> cases sb
            all_goals
              go_enter Tryz.func35, Tryz.ntmps35
              go_wp2_with fail
              refine (HGa.out _).mono ?_
              rintro e w1 ⟨rfl, hw1⟩
              have hw1 := hw1.symm
              subst hw1
              go_wp2_with fail
              refine (HGb.out _).mono ?_
              rintro e w1 ⟨rfl, hw1⟩
              have hw1 := hw1.symm
              subst hw1
              go_wp2_with fail
              refine (HNa.out _).mono ?_
              rintro e w1 ⟨rfl, hw1⟩
              have hw1 := hw1.symm
              subst hw1
              go_wp2_with fail
              refine (HNb.out _).mono ?_
              rintro e w1 ⟨rfl, hw1⟩
              have hw1 := hw1.symm
              subst hw1
              go_wp2_with fail
              refine (HIa.out _).mono ?_
              rintro e w1 ⟨rfl, hw1⟩
              have hw1 := hw1.symm
              subst hw1
              go_wp2_with fail
              refine (HZa.out _).mono ?_
              rintro e w1 ⟨rfl, hw1⟩
              have hw1 := hw1.symm
              subst hw1
              go_wp2_with fail
              refine (HZb.out _).mono ?_
              rintro e w1 ⟨rfl, hw1⟩
              have hw1 := hw1.symm
              subst hw1
              go_wp2_with fail
              refine (rNan64 _).mono ?_
              rintro e w1 ⟨rfl, hw1⟩
              have hw1 := hw1.symm
              subst hw1
              go_wp2_with fail
              go_ret
              exact ⟨rfl, Below.refl _ _⟩
          · rw [decide_eq_false zb] at HZb
            by_cases ib : b % 9223372036854775808 = 9218868437227405312
            · rw [decide_eq_true ib] at HIb
              have ho : tldW64 (Ieee.double.div a b) = wd64 (decide (9223372036854775808 ≤ a) ^^ decide (9223372036854775808 ≤ b)) 0 := by rw [Flt.div_fin_inf Ieee.double (by decide) a b (by rw [rgW64, infW64]; omega) (by rw [rgW64, infW64]; exact ib), sgW64 a ha, sgW64 b hb, ← wd_word64]; rfl
              have HSg := fhide (fun w : World => rsigned64 (decide (9223372036854775808 ≤ a) ^^ decide (9223372036854775808 ≤ b)) 0 w (by omega))
              rw [← ho] at HSg
              generalize tldW64 (Ieee.double.div a b) = out at *
              clear ho
              generalize decide (9223372036854775808 ≤ a) = sa at *
              generalize decide (9223372036854775808 ≤ b) = sb at *
              clear na nb ha hb ia za zb ib
              cases sa <;> cases sb
              all_goals
                go_enter Tryz.func35, Tryz.ntmps35
                go_wp2_with fail
                refine (HGa.out _).mono ?_
                rintro e w1 ⟨rfl, hw1⟩
                have hw1 := hw1.symm
                subst hw1
                go_wp2_with fail
                refine (HGb.out _).mono ?_
                rintro e w1 ⟨rfl, hw1⟩
                have hw1 := hw1.symm
                subst hw1
                go_wp2_with fail
                refine (HNa.out _).mono ?_
                rintro e w1 ⟨rfl, hw1⟩
                have hw1 := hw1.symm
                subst hw1
                go_wp2_with fail
                refine (HNb.out _).mono ?_
                rintro e w1 ⟨rfl, hw1⟩
                have hw1 := hw1.symm
                subst hw1
                go_wp2_with fail
                refine (HIa.out _).mono ?_
                rintro e w1 ⟨rfl, hw1⟩
                have hw1 := hw1.symm
                subst hw1
                go_wp2_with fail
                refine (HZa.out _).mono ?_
                rintro e w1 ⟨rfl, hw1⟩
                have hw1 := hw1.symm
                subst hw1
                go_wp2_with fail
                refine (HZb.out _).mono ?_
                rintro e w1 ⟨rfl, hw1⟩
                have hw1 := hw1.symm
                subst hw1
                go_wp2_with fail
                refine (HIa.out _).mono ?_
                rintro e w1 ⟨rfl, hw1⟩
                have hw1 := hw1.symm
                subst hw1
                go_wp2_with fail
                refine (HZb.out _).mono ?_
                rintro e w1 ⟨rfl, hw1⟩
                have hw1 := hw1.symm
                subst hw1
                go_wp2_with fail
                refine (HIb.out _).mono ?_
                rintro e w1 ⟨rfl, hw1⟩
                have hw1 := hw1.symm
                subst hw1
                go_wp2_with fail
                refine (HSg.out _).mono ?_
                rintro e w1 ⟨rfl, hw1⟩
                have hw1 := hw1.symm
                subst hw1
                go_wp2_with fail
                go_ret
                exact ⟨rfl, Below.refl _ _⟩
            · rw [decide_eq_false ib] at HIb
              have HU := fhide (fun m1 j1 m2 j2 h1 h2 => div_units64 a b m1 j1 m2 j2 ha hb (by omega) (by omega) zb h1 h2)
              generalize tldW64 (Ieee.double.div a b) = out at *
              generalize decide (9223372036854775808 ≤ a) = sa at *
              generalize decide (9223372036854775808 ≤ b) = sb at *
              clear na nb ha hb ia za zb ib
              cases sa <;> cases sb
              all_goals
                go_enter Tryz.func35, Tryz.ntmps35
                go_wp2_with fail
                refine (HGa.out _).mono ?_
                rintro e w1 ⟨rfl, hw1⟩
                have hw1 := hw1.symm
                subst hw1
                go_wp2_with fail
                refine (HGb.out _).mono ?_
                rintro e w1 ⟨rfl, hw1⟩
                have hw1 := hw1.symm
                subst hw1
                go_wp2_with fail
                refine (HNa.out _).mono ?_
                rintro e w1 ⟨rfl, hw1⟩
                have hw1 := hw1.symm
                subst hw1
                go_wp2_with fail
                refine (HNb.out _).mono ?_
                rintro e w1 ⟨rfl, hw1⟩
                have hw1 := hw1.symm
                subst hw1
                go_wp2_with fail
                refine (HIa.out _).mono ?_
                rintro e w1 ⟨rfl, hw1⟩
                have hw1 := hw1.symm
                subst hw1
                go_wp2_with fail
                refine (HZa.out _).mono ?_
                rintro e w1 ⟨rfl, hw1⟩
                have hw1 := hw1.symm
                subst hw1
                go_wp2_with fail
                refine (HZb.out _).mono ?_
                rintro e w1 ⟨rfl, hw1⟩
                have hw1 := hw1.symm
                subst hw1
                go_wp2_with fail
                refine (HIa.out _).mono ?_
                rintro e w1 ⟨rfl, hw1⟩
                have hw1 := hw1.symm
                subst hw1
                go_wp2_with fail
                refine (HZb.out _).mono ?_
                rintro e w1 ⟨rfl, hw1⟩
                have hw1 := hw1.symm
                subst hw1
                go_wp2_with fail
                refine (HIb.out _).mono ?_
                rintro e w1 ⟨rfl, hw1⟩
                have hw1 := hw1.symm
                subst hw1
                go_wp2_with fail
                refine (HPa.out _).mono ?_
                rintro e w2 ⟨r1, m1, j1, rfl, ⟨k1, a1, a2, a3⟩, hV1, hm1, hj1, hb2⟩
                have H2 := hide (And.intro a1 (And.intro a2 (And.intro a3 (And.intro hV1 (And.intro hj1 hb2)))))
                clear a1 a2 a3 hV1 hm1 hj1 hb2
                obtain ⟨e1, he1⟩ : ∃ e1 : Int, (j1 : Int) - 1074 = e1 := ⟨_, rfl⟩
                rw [he1]
                go_wp2_with fail
                refine (HPb.out _).mono ?_
                rintro e w3 ⟨r2, m2, j2, rfl, ⟨k2, a1, a2, a3⟩, hV2, hm2, hj2, hb3⟩
                have H3 := hide (And.intro a1 (And.intro a2 (And.intro a3 (And.intro hV2 (And.intro hj2 hb3)))))
                clear a1 a2 a3 hV2 hm2 hj2 hb3
                obtain ⟨e2, he2⟩ : ∃ e2 : Int, (j2 : Int) - 1074 = e2 := ⟨_, rfl⟩
                rw [he2]
                have B1 : -10000 ≤ e1 ∧ e1 ≤ 10000 := by have := H2.out.2.2.2.2.1; omega
                have B2 : -10000 ≤ e2 ∧ e2 ≤ 10000 := by have := H3.out.2.2.2.2.1; omega
                have hout := HU.out m1 j1 m2 j2 H2.out.2.2.2.1 H3.out.2.2.2.1
                rw [he1, he2] at hout
                obtain ⟨e3, he3⟩ : ∃ e3 : Int, e1 - e2 = e3 := ⟨_, rfl⟩
                rw [he3] at hout
                have HOut := hide hout
                clear hout he1 he2
                have HNr := fun neg => fhide (rNearest64 neg r1 r2 k1 m1 k2 m2 e3 w3 (H2.out.1.below H3.out.2.2.2.2.2) H3.out.1 H2.out.2.1 H3.out.2.1 HOut.out.1 (by have := H2.out.2.2.1; omega) (by have := H3.out.2.2.1; omega) (by omega))
                have HB5 := hide (H2.out.2.2.2.2.2.trans (H3.out.2.2.2.2.2.mono H2.out.2.2.2.2.2.size))
                clear H2 H3
                go_wp2_with (simp only [he3])
                refine (HNr _).out.mono ?_
                rintro e w6 ⟨rfl, hb6⟩
                have HB6 := fhide (HB5.out.trans (hb6.mono HB5.out.size))
                clear hb6 HNr
                go_wp2_with fail
                go_ret
                exact ⟨by rw [HOut.out.2]; rfl, HB6.out⟩
        · rw [decide_eq_false za] at HZa
          by_cases zb : b % 9223372036854775808 = 0
          · rw [decide_eq_true zb] at HZb
            have ho : tldW64 (Ieee.double.div a b) = wd64 (decide (9223372036854775808 ≤ a) ^^ decide (9223372036854775808 ≤ b)) 9218868437227405312 := by rw [Flt.div_fin_zero Ieee.double a b (by rw [rgW64, infW64]; omega) (by rw [rgW64, infW64]; omega) (by rw [rgW64]; exact zb), rgW64, if_neg za, sgW64 a ha, sgW64 b hb, infW64, ← wd_word64]; rfl
            have HSg := fhide (fun w : World => rsigned64 (decide (9223372036854775808 ≤ a) ^^ decide (9223372036854775808 ≤ b)) 9218868437227405312 w (by omega))
            rw [← ho] at HSg
            generalize tldW64 (Ieee.double.div a b) = out at *
            clear ho
            generalize decide (9223372036854775808 ≤ a) = sa at *
            generalize decide (9223372036854775808 ≤ b) = sb at *
            clear na nb ha hb ia za zb
            cases sa <;> cases sb
            all_goals
              go_enter Tryz.func35, Tryz.ntmps35
              go_wp2_with fail
              refine (HGa.out _).mono ?_
              rintro e w1 ⟨rfl, hw1⟩
              have hw1 := hw1.symm
              subst hw1
              go_wp2_with fail
              refine (HGb.out _).mono ?_
              rintro e w1 ⟨rfl, hw1⟩
              have hw1 := hw1.symm
              subst hw1
              go_wp2_with fail
              refine (HNa.out _).mono ?_
              rintro e w1 ⟨rfl, hw1⟩
              have hw1 := hw1.symm
              subst hw1
              go_wp2_with fail
              refine (HNb.out _).mono ?_
              rintro e w1 ⟨rfl, hw1⟩
              have hw1 := hw1.symm
              subst hw1
              go_wp2_with fail
              refine (HIa.out _).mono ?_
              rintro e w1 ⟨rfl, hw1⟩
              have hw1 := hw1.symm
              subst hw1
              go_wp2_with fail
              refine (HZa.out _).mono ?_
              rintro e w1 ⟨rfl, hw1⟩
              have hw1 := hw1.symm
              subst hw1
              go_wp2_with fail
              refine (HIa.out _).mono ?_
              rintro e w1 ⟨rfl, hw1⟩
              have hw1 := hw1.symm
              subst hw1
              go_wp2_with fail
              refine (HZb.out _).mono ?_
              rintro e w1 ⟨rfl, hw1⟩
              have hw1 := hw1.symm
              subst hw1
              go_wp2_with fail
              refine (rInf64 _).mono ?_
              rintro e w1 ⟨rfl, hw1⟩
              have hw1 := hw1.symm
              subst hw1
              go_wp2_with fail
              refine (HSg.out _).mono ?_
              rintro e w1 ⟨rfl, hw1⟩
              have hw1 := hw1.symm
              subst hw1
              go_wp2_with fail
              go_ret
              exact ⟨rfl, Below.refl _ _⟩
          · rw [decide_eq_false zb] at HZb
            by_cases ib : b % 9223372036854775808 = 9218868437227405312
            · rw [decide_eq_true ib] at HIb
              have ho : tldW64 (Ieee.double.div a b) = wd64 (decide (9223372036854775808 ≤ a) ^^ decide (9223372036854775808 ≤ b)) 0 := by rw [Flt.div_fin_inf Ieee.double (by decide) a b (by rw [rgW64, infW64]; omega) (by rw [rgW64, infW64]; exact ib), sgW64 a ha, sgW64 b hb, ← wd_word64]; rfl
              have HSg := fhide (fun w : World => rsigned64 (decide (9223372036854775808 ≤ a) ^^ decide (9223372036854775808 ≤ b)) 0 w (by omega))
              rw [← ho] at HSg
              generalize tldW64 (Ieee.double.div a b) = out at *
              clear ho
              generalize decide (9223372036854775808 ≤ a) = sa at *
              generalize decide (9223372036854775808 ≤ b) = sb at *
              clear na nb ha hb ia za zb ib
              cases sa <;> cases sb
              all_goals
                go_enter Tryz.func35, Tryz.ntmps35
                go_wp2_with fail
                refine (HGa.out _).mono ?_
                rintro e w1 ⟨rfl, hw1⟩
                have hw1 := hw1.symm
                subst hw1
                go_wp2_with fail
                refine (HGb.out _).mono ?_
                rintro e w1 ⟨rfl, hw1⟩
                have hw1 := hw1.symm
                subst hw1
                go_wp2_with fail
                refine (HNa.out _).mono ?_
                rintro e w1 ⟨rfl, hw1⟩
                have hw1 := hw1.symm
                subst hw1
                go_wp2_with fail
                refine (HNb.out _).mono ?_
                rintro e w1 ⟨rfl, hw1⟩
                have hw1 := hw1.symm
                subst hw1
                go_wp2_with fail
                refine (HIa.out _).mono ?_
                rintro e w1 ⟨rfl, hw1⟩
                have hw1 := hw1.symm
                subst hw1
                go_wp2_with fail
                refine (HZa.out _).mono ?_
                rintro e w1 ⟨rfl, hw1⟩
                have hw1 := hw1.symm
                subst hw1
                go_wp2_with fail
                refine (HIa.out _).mono ?_
                rintro e w1 ⟨rfl, hw1⟩
                have hw1 := hw1.symm
                subst hw1
                go_wp2_with fail
                refine (HZb.out _).mono ?_
                rintro e w1 ⟨rfl, hw1⟩
                have hw1 := hw1.symm
                subst hw1
                go_wp2_with fail
                refine (HIb.out _).mono ?_
                rintro e w1 ⟨rfl, hw1⟩
                have hw1 := hw1.symm
                subst hw1
                go_wp2_with fail
                refine (HSg.out _).mono ?_
                rintro e w1 ⟨rfl, hw1⟩
                have hw1 := hw1.symm
                subst hw1
                go_wp2_with fail
                go_ret
                exact ⟨rfl, Below.refl _ _⟩
            · rw [decide_eq_false ib] at HIb
              have HU := fhide (fun m1 j1 m2 j2 h1 h2 => div_units64 a b m1 j1 m2 j2 ha hb (by omega) (by omega) zb h1 h2)
              generalize tldW64 (Ieee.double.div a b) = out at *
              generalize decide (9223372036854775808 ≤ a) = sa at *
              generalize decide (9223372036854775808 ≤ b) = sb at *
              clear na nb ha hb ia za zb ib
              cases sa <;> cases sb
              all_goals
                go_enter Tryz.func35, Tryz.ntmps35
                go_wp2_with fail
                refine (HGa.out _).mono ?_
                rintro e w1 ⟨rfl, hw1⟩
                have hw1 := hw1.symm
                subst hw1
                go_wp2_with fail
                refine (HGb.out _).mono ?_
                rintro e w1 ⟨rfl, hw1⟩
                have hw1 := hw1.symm
                subst hw1
                go_wp2_with fail
                refine (HNa.out _).mono ?_
                rintro e w1 ⟨rfl, hw1⟩
                have hw1 := hw1.symm
                subst hw1
                go_wp2_with fail
                refine (HNb.out _).mono ?_
                rintro e w1 ⟨rfl, hw1⟩
                have hw1 := hw1.symm
                subst hw1
                go_wp2_with fail
                refine (HIa.out _).mono ?_
                rintro e w1 ⟨rfl, hw1⟩
                have hw1 := hw1.symm
                subst hw1
                go_wp2_with fail
                refine (HZa.out _).mono ?_
                rintro e w1 ⟨rfl, hw1⟩
                have hw1 := hw1.symm
                subst hw1
                go_wp2_with fail
                refine (HIa.out _).mono ?_
                rintro e w1 ⟨rfl, hw1⟩
                have hw1 := hw1.symm
                subst hw1
                go_wp2_with fail
                refine (HZb.out _).mono ?_
                rintro e w1 ⟨rfl, hw1⟩
                have hw1 := hw1.symm
                subst hw1
                go_wp2_with fail
                refine (HIb.out _).mono ?_
                rintro e w1 ⟨rfl, hw1⟩
                have hw1 := hw1.symm
                subst hw1
                go_wp2_with fail
                refine (HPa.out _).mono ?_
                rintro e w2 ⟨r1, m1, j1, rfl, ⟨k1, a1, a2, a3⟩, hV1, hm1, hj1, hb2⟩
                have H2 := hide (And.intro a1 (And.intro a2 (And.intro a3 (And.intro hV1 (And.intro hj1 hb2)))))
                clear a1 a2 a3 hV1 hm1 hj1 hb2
                obtain ⟨e1, he1⟩ : ∃ e1 : Int, (j1 : Int) - 1074 = e1 := ⟨_, rfl⟩
                rw [he1]
                go_wp2_with fail
                refine (HPb.out _).mono ?_
                rintro e w3 ⟨r2, m2, j2, rfl, ⟨k2, a1, a2, a3⟩, hV2, hm2, hj2, hb3⟩
                have H3 := hide (And.intro a1 (And.intro a2 (And.intro a3 (And.intro hV2 (And.intro hj2 hb3)))))
                clear a1 a2 a3 hV2 hm2 hj2 hb3
                obtain ⟨e2, he2⟩ : ∃ e2 : Int, (j2 : Int) - 1074 = e2 := ⟨_, rfl⟩
                rw [he2]
                have B1 : -10000 ≤ e1 ∧ e1 ≤ 10000 := by have := H2.out.2.2.2.2.1; omega
                have B2 : -10000 ≤ e2 ∧ e2 ≤ 10000 := by have := H3.out.2.2.2.2.1; omega
                have hout := HU.out m1 j1 m2 j2 H2.out.2.2.2.1 H3.out.2.2.2.1
                rw [he1, he2] at hout
                obtain ⟨e3, he3⟩ : ∃ e3 : Int, e1 - e2 = e3 := ⟨_, rfl⟩
                rw [he3] at hout
                have HOut := hide hout
                clear hout he1 he2
                have HNr := fun neg => fhide (rNearest64 neg r1 r2 k1 m1 k2 m2 e3 w3 (H2.out.1.below H3.out.2.2.2.2.2) H3.out.1 H2.out.2.1 H3.out.2.1 HOut.out.1 (by have := H2.out.2.2.1; omega) (by have := H3.out.2.2.1; omega) (by omega))
                have HB5 := hide (H2.out.2.2.2.2.2.trans (H3.out.2.2.2.2.2.mono H2.out.2.2.2.2.2.size))
                clear H2 H3
                go_wp2_with (simp only [he3])
                refine (HNr _).out.mono ?_
                rintro e w6 ⟨rfl, hb6⟩
                have HB6 := fhide (HB5.out.trans (hb6.mono HB5.out.size))
                clear hb6 HNr
                go_wp2_with fail
                go_ret
                exact ⟨by rw [HOut.out.2]; rfl, HB6.out⟩

end Go.Proofs.YtmkploknoohliaaGreat
