/- The document's Round and ToInt. -/
import Derived.Test.YtmkploknoohliaaGreatRI
import Derived.Test.YtmkploknoohliaaGreatNV
import Derived.Test.YtmkploknoohliaaGreatQH
/- A whole number by a mode, from the bits that are cut off. -/
namespace Go.Proofs.YtmkploknoohliaaGreat
namespace Flt
open Ieee
set_option linter.unusedVariables false
set_option linter.unusedSimpArgs false

/-- Whether a number that is cut off after sh + 1 bits is one more, by a mode. -/
def upQ (mode : Nat) (s : Bool) (m sh : Nat) : Bool := match mode with
  | 0 => decide (m / 2 ^ sh % 2 = 1) && (decide (m % 2 ^ sh ≠ 0) || decide (m / 2 ^ (sh + 1) % 2 = 1))
  | 1 => decide (m / 2 ^ sh % 2 = 1)
  | 2 => false
  | 3 => s && decide (m % 2 ^ (sh + 1) ≠ 0)
  | _ => !s && decide (m % 2 ^ (sh + 1) ≠ 0)

theorem half_bit (m sh : Nat) : 2 ^ (sh + 1) ≤ 2 * (m % 2 ^ (sh + 1)) ↔ m / 2 ^ sh % 2 = 1 := by
  have h1 := Nat.mod_mul (a := 2 ^ sh) (b := 2) (x := m)
  have h2 := Nat.mod_lt m (Nat.two_pow_pos sh)
  have h3 := Nat.two_pow_pos sh
  rw [Nat.pow_succ, h1]
  rcases Nat.mod_two_eq_zero_or_one (m / 2 ^ sh) with h | h <;> rw [h] <;> simp <;> omega

theorem whl_up (mode : Nat) (s : Bool) (m sh : Nat) : whl mode s m (2 ^ (sh + 1)) = m / 2 ^ (sh + 1) + (upQ mode s m sh).toNat := by
  unfold whl upQ
  split
  · have := cutE_quot m 1 sh (by omega)
    rw [Nat.one_mul] at this
    rw [this]
    unfold cutN
    rw [Nat.div_one, Nat.mod_one, Nat.div_div_eq_div_mul, ← Nat.pow_succ]
    congr 1
    by_cases h1 : m / 2 ^ sh % 2 = 1 <;> by_cases h2 : m % 2 ^ sh = 0 <;> by_cases h3 : m / 2 ^ (sh + 1) % 2 = 1 <;> simp [h1, h2, h3]
  · congr 2
    exact decide_eq_decide.2 (half_bit m sh)
  · simp
  · rfl
  · split <;> simp_all

theorem whl_mul (mode : Nat) (s : Bool) (K D : Nat) (h : 0 < D) : whl mode s (K * D) D = K := by
  have h1 : K * D / D = K := Nat.mul_div_cancel K h
  have h2 : K * D % D = 0 := Nat.mul_mod_left K D
  unfold whl cutE
  split <;> rw [h1] <;> simp [h2]
  all_goals omega

end Flt
end Go.Proofs.YtmkploknoohliaaGreat

/- The document's turned: a finite number as a whole one, by a mode. -/
namespace Go.Proofs.YtmkploknoohliaaGreat
open Go.RowKit
open M
set_option linter.unusedVariables false
set_option linter.unusedSimpArgs false

theorem turn_great (T : Nat) (hT : T = 1074) (mode : Nat) (s : Bool) (m j t N : Nat) (hj : j = t + 1074) (h : m * 2 ^ j = N) : Flt.whl mode s N (2 ^ T) = m * 2 ^ t := by
  rw [← h, show j = t + T by omega, Nat.pow_add, ← Nat.mul_assoc]
  exact Flt.whl_mul _ _ _ _ (Nat.two_pow_pos _)
theorem turn_small (T : Nat) (hT : T = 1074) (mode : Nat) (s : Bool) (m j sh N : Nat) (hj : j + (sh + 1) = 1074) (h : m * 2 ^ j = N) : Flt.whl mode s N (2 ^ T) = m / 2 ^ (sh + 1) + (Flt.upQ mode s m sh).toNat := by
  rw [← Flt.whl_up]
  refine Flt.whl_eq (Nat.two_pow_pos _) (Nat.two_pow_pos _) ?_
  rw [← h, Nat.mul_assoc, ← Nat.pow_add, show j + (sh + 1) = T by omega]


set_option maxRecDepth 100000 in
set_option maxHeartbeats 1000000 in
theorem rturned0 (T : Nat) (hT : T = 1074) (b : Nat) (w : World) (hb : b < 18446744073709551616) : Calls Tryz.prog 69 #[.int .u64 b, .int .i64 0] w fun e w' => ∃ r, e = .returned r ∧ (∃ k, Row w' r k (Flt.whl 0 (decide (9223372036854775808 ≤ b)) (Flt.V Ieee.double (b % 9223372036854775808)) (2 ^ T)) ∧ Nrm k (Flt.whl 0 (decide (9223372036854775808 ≤ b)) (Flt.V Ieee.double (b % 9223372036854775808)) (2 ^ T)) ∧ k ≤ 40) ∧ Below w.heap.size w w' := by
  have HP := fhide (fun w : World => rParts64 b w hb)
  generalize decide (9223372036854775808 ≤ b) = s at *
  generalize Flt.V Ieee.double (b % 9223372036854775808) = V at *
  have HT := fhide hT
  obtain ⟨W, hW⟩ : ∃ W : Nat, Flt.whl 0 s V (2 ^ T) = W := ⟨_, rfl⟩
  rw [hW]
  have HW := fhide hW
  clear hb hT hW
  go_enter Tryz.func69, Tryz.ntmps69
  go_wp2_with fail
  refine (HP.out _).mono ?_
  rintro e w1 ⟨v, m, j, rfl, ⟨k, hr, hnr, hk⟩, hV, hml, hj, hb1⟩
  obtain ⟨z, hz⟩ : ∃ z : Int, (j : Int) - 1074 = z := ⟨_, rfl⟩
  rw [hz]
  have HJ := fhide (And.intro hr (And.intro hnr (And.intro hk hb1)))
  clear hr hnr hk hb1
  by_cases hc : 1074 ≤ j
  · obtain ⟨t, ht, ht1, htb⟩ : ∃ t : Nat, z = (t : Int) ∧ j = t + 1074 ∧ t ≤ 1000 := ⟨j - 1074, by omega, by omega, by omega⟩
    have hK := turn_great T HT.out 0 s m j t V ht1 hV
    subst ht
    rw [HW.out] at hK
    have HK := fhide hK
    have HU := fhide (nUp2 v k m t w1 HJ.out.1 (by have := HJ.out.2.2.1; omega) (by omega))
    have HT2 := fhide htb
    clear hK hV hml hj hc ht1 hz HT HP
    go_wp2_with fail
    refine HU.out.mono ?_
    rintro e w2 ⟨r, rfl, n, h1, h2, h3, h4⟩
    have H1 := fhide (And.intro h1 (And.intro h2 (And.intro h3 h4)))
    clear h1 h2 h3 h4 htb
    go_wp2_with fail
    go_ret
    exact ⟨r, rfl, ⟨n, by rw [HK.out]; exact H1.out.1, by rw [HK.out]; exact H1.out.2.1, by have := H1.out.2.2.1; have := HJ.out.2.2.1; have := HT2.out; omega⟩, HJ.out.2.2.2.trans (H1.out.2.2.2.mono HJ.out.2.2.2.size)⟩
  · obtain ⟨sh, hs1, hx⟩ : ∃ sh : Nat, j + (sh + 1) = 1074 ∧ -z = ((sh + 1 : Nat) : Int) := ⟨1073 - j, by omega, by omega⟩
    have hK := turn_small T HT.out 0 s m j sh V hs1 hV
    rw [HW.out] at hK
    have HD1 := fhide (nDown2 v k m (sh + 1) w1 HJ.out.1 HJ.out.2.1 (by have := HJ.out.2.2.1; omega) (by omega))
    have HD2 : Hid (∀ w2 : World, Row w2 v k m → Calls Tryz.prog 96 #[v, .int .i64 (sh : Nat)] w2 fun e w' => ∃ r, e = .returned (.tuple #[r, .bool (decide (m % 2 ^ sh ≠ 0))]) ∧ (∃ n, Row w' r n (m / 2 ^ sh) ∧ Nrm n (m / 2 ^ sh) ∧ n ≤ k) ∧ Below w2.heap.size w2 w') := fun w2 h2 => nDown2 v k m sh w2 h2 HJ.out.2.1 (by have := HJ.out.2.2.1; omega) (by omega)
    have hz0 : ¬ (0 : Int) ≤ z := by omega
    have hzb : -2000 ≤ z ∧ z ≤ 2000 := by omega
    obtain ⟨t1, ht1⟩ : ∃ t1 : Nat, sh + 1 = t1 := ⟨_, rfl⟩
    have hx1 : -z = (t1 : Int) := by omega
    have hx2 : (t1 : Int) - 1 = (sh : Int) := by omega
    have hx3 : (t1 : Int) ≤ 2000 := by omega
    have hAl : m / 2 ^ (sh + 1) < 18446744073709551616 := Nat.lt_of_le_of_lt (Nat.div_le_self _ _) (by omega)
    have hHl : m / 2 ^ sh < 18446744073709551616 := Nat.lt_of_le_of_lt (Nat.div_le_self _ _) (by omega)
    have hAm : m / 2 ^ (sh + 1) % 18446744073709551616 = m / 2 ^ (sh + 1) := Nat.mod_eq_of_lt hAl
    have hHm : m / 2 ^ sh % 18446744073709551616 = m / 2 ^ sh := Nat.mod_eq_of_lt hHl
    have ha1 := and_one (m / 2 ^ sh) hHl
    have ha2 := and_one (m / 2 ^ (sh + 1)) hAl
    unfold Flt.upQ at hK
    simp only at hK
    rw [ht1] at HD1 hK hAm ha2
    generalize m / 2 ^ t1 = A at *
    generalize m / 2 ^ sh = H at *
    generalize decide (m % 2 ^ t1 ≠ 0) = left at *
    generalize decide (m % 2 ^ sh ≠ 0) = rest at *
    have p1 : H % 2 = 0 ∨ H % 2 = 1 := by omega
    have p2 : A % 2 = 0 ∨ A % 2 = 1 := by omega
    clear hV hml hj hc hx hz HT HP HW hs1 hAl hHl
    go_wp2_with (simp only [hx1])
    refine HD1.out.mono ?_
    rintro e w2 ⟨r2, rfl, ⟨k2, a2, b2, c2⟩, d2⟩
    have H2 := fhide (And.intro a2 (And.intro b2 (And.intro c2 d2)))
    clear a2 b2 c2 d2
    go_wp2_with (simp only [hx1, hx2])
    refine (HD2.out _ (HJ.out.1.below H2.out.2.2.2)).mono ?_
    rintro e w3 ⟨r3, rfl, ⟨k3, a3, b3, c3⟩, d3⟩
    have H3 := fhide (And.intro (H2.out.1.below d3) (And.intro a3 ((HJ.out.2.2.2.trans (H2.out.2.2.2.mono HJ.out.2.2.2.size)).trans (d3.mono (Nat.le_trans HJ.out.2.2.2.size H2.out.2.2.2.size)))))
    clear a3 b3 c3 d3
    have HLow := fhide (nLow64 r3 k3 H w3 H3.out.2.1)
    have HLn := fhide (nLow64 r2 k2 A w3 H3.out.1)
    rw [hHm] at HLow
    rw [hAm] at HLn
    go_wp2_with fail
    refine HLow.out.mono ?_
    rintro e w4 ⟨rfl, hw1⟩
    have hw1 := hw1.symm
    subst hw1
    rcases p1 with p1 | p1
    · rw [p1] at ha1
      rw [decide_eq_false (by omega : ¬ H % 2 = 1)] at hK
      simp only [Bool.false_and, Bool.toNat_false, Nat.add_zero] at hK
      have HK := fhide hK
      clear hK
      go_wp2_with fail
      go_ret
      exact ⟨r2, rfl, ⟨k2, by rw [HK.out]; exact H3.out.1, by rw [HK.out]; exact H2.out.2.1, by have := H2.out.2.2.1; have := HJ.out.2.2.1; omega⟩, H3.out.2.2⟩
    · rw [p1] at ha1
      rw [decide_eq_true (by omega : H % 2 = 1)] at hK
      cases rest
      · rcases p2 with p2 | p2
        · rw [p2] at ha2
          rw [decide_eq_false (by omega : ¬ A % 2 = 1)] at hK
          simp only [Bool.true_and, Bool.false_or, Bool.toNat_false, Bool.toNat_true, Nat.add_zero] at hK
          go_wp2_with fail
          refine HLn.out.mono ?_
          rintro e w5 ⟨rfl, hw1⟩
          have hw1 := hw1.symm
          subst hw1
          have HK := fhide hK
          clear hK
          go_wp2_with fail
          go_ret
          exact ⟨r2, rfl, ⟨k2, by rw [HK.out]; exact H3.out.1, by rw [HK.out]; exact H2.out.2.1, by have := H2.out.2.2.1; have := HJ.out.2.2.1; omega⟩, H3.out.2.2⟩
        · rw [p2] at ha2
          rw [decide_eq_true (by omega : A % 2 = 1)] at hK
          simp only [Bool.true_and, Bool.false_or, Bool.toNat_false, Bool.toNat_true, Nat.add_zero] at hK
          go_wp2_with fail
          refine HLn.out.mono ?_
          rintro e w5 ⟨rfl, hw1⟩
          have hw1 := hw1.symm
          subst hw1
          have HK := fhide hK
          clear hK
          go_wp2_with fail
          refine (nOf 1 _ (by decide)).mono ?_
          rintro e w4 ⟨r4, rfl, k4, a4, b4, c4, d4⟩
          have HS := fhide (nSum r2 r4 k2 A k4 1 w4 (H3.out.1.below d4) a4 (by have := H2.out.2.2.1; have := HJ.out.2.2.1; omega) (by omega))
          have H4 := fhide (And.intro c4 (H3.out.2.2.trans (d4.mono H3.out.2.2.size)))
          clear a4 b4 c4 d4
          go_wp2_with fail
          refine HS.out.mono ?_
          rintro e w5 ⟨r5, rfl, k5, a5, b5, c5, d5⟩
          have H5 := fhide (And.intro a5 (And.intro b5 (And.intro c5 d5)))
          clear a5 b5 c5 d5
          go_wp2_with fail
          go_ret
          exact ⟨r5, rfl, ⟨k5, by rw [HK.out]; exact H5.out.1, by rw [HK.out]; exact H5.out.2.1, by have := H5.out.2.2.1; have := H4.out.1; have := H2.out.2.2.1; have := HJ.out.2.2.1; omega⟩, H4.out.2.trans (H5.out.2.2.2.mono H4.out.2.size)⟩
      · simp only [Bool.true_and, Bool.true_or, Bool.toNat_true] at hK
        have HK := fhide hK
        clear hK
        go_wp2_with fail
        refine (nOf 1 _ (by decide)).mono ?_
        rintro e w4 ⟨r4, rfl, k4, a4, b4, c4, d4⟩
        have HS := fhide (nSum r2 r4 k2 A k4 1 w4 (H3.out.1.below d4) a4 (by have := H2.out.2.2.1; have := HJ.out.2.2.1; omega) (by omega))
        have H4 := fhide (And.intro c4 (H3.out.2.2.trans (d4.mono H3.out.2.2.size)))
        clear a4 b4 c4 d4
        go_wp2_with fail
        refine HS.out.mono ?_
        rintro e w5 ⟨r5, rfl, k5, a5, b5, c5, d5⟩
        have H5 := fhide (And.intro a5 (And.intro b5 (And.intro c5 d5)))
        clear a5 b5 c5 d5
        go_wp2_with fail
        go_ret
        exact ⟨r5, rfl, ⟨k5, by rw [HK.out]; exact H5.out.1, by rw [HK.out]; exact H5.out.2.1, by have := H5.out.2.2.1; have := H4.out.1; have := H2.out.2.2.1; have := HJ.out.2.2.1; omega⟩, H4.out.2.trans (H5.out.2.2.2.mono H4.out.2.size)⟩

set_option maxRecDepth 100000 in
set_option maxHeartbeats 1000000 in
theorem rturned1 (T : Nat) (hT : T = 1074) (b : Nat) (w : World) (hb : b < 18446744073709551616) : Calls Tryz.prog 69 #[.int .u64 b, .int .i64 1] w fun e w' => ∃ r, e = .returned r ∧ (∃ k, Row w' r k (Flt.whl 1 (decide (9223372036854775808 ≤ b)) (Flt.V Ieee.double (b % 9223372036854775808)) (2 ^ T)) ∧ Nrm k (Flt.whl 1 (decide (9223372036854775808 ≤ b)) (Flt.V Ieee.double (b % 9223372036854775808)) (2 ^ T)) ∧ k ≤ 40) ∧ Below w.heap.size w w' := by
  have HP := fhide (fun w : World => rParts64 b w hb)
  generalize decide (9223372036854775808 ≤ b) = s at *
  generalize Flt.V Ieee.double (b % 9223372036854775808) = V at *
  have HT := fhide hT
  obtain ⟨W, hW⟩ : ∃ W : Nat, Flt.whl 1 s V (2 ^ T) = W := ⟨_, rfl⟩
  rw [hW]
  have HW := fhide hW
  clear hb hT hW
  go_enter Tryz.func69, Tryz.ntmps69
  go_wp2_with fail
  refine (HP.out _).mono ?_
  rintro e w1 ⟨v, m, j, rfl, ⟨k, hr, hnr, hk⟩, hV, hml, hj, hb1⟩
  obtain ⟨z, hz⟩ : ∃ z : Int, (j : Int) - 1074 = z := ⟨_, rfl⟩
  rw [hz]
  have HJ := fhide (And.intro hr (And.intro hnr (And.intro hk hb1)))
  clear hr hnr hk hb1
  by_cases hc : 1074 ≤ j
  · obtain ⟨t, ht, ht1, htb⟩ : ∃ t : Nat, z = (t : Int) ∧ j = t + 1074 ∧ t ≤ 1000 := ⟨j - 1074, by omega, by omega, by omega⟩
    have hK := turn_great T HT.out 1 s m j t V ht1 hV
    subst ht
    rw [HW.out] at hK
    have HK := fhide hK
    have HU := fhide (nUp2 v k m t w1 HJ.out.1 (by have := HJ.out.2.2.1; omega) (by omega))
    have HT2 := fhide htb
    clear hK hV hml hj hc ht1 hz HT HP
    go_wp2_with fail
    refine HU.out.mono ?_
    rintro e w2 ⟨r, rfl, n, h1, h2, h3, h4⟩
    have H1 := fhide (And.intro h1 (And.intro h2 (And.intro h3 h4)))
    clear h1 h2 h3 h4 htb
    go_wp2_with fail
    go_ret
    exact ⟨r, rfl, ⟨n, by rw [HK.out]; exact H1.out.1, by rw [HK.out]; exact H1.out.2.1, by have := H1.out.2.2.1; have := HJ.out.2.2.1; have := HT2.out; omega⟩, HJ.out.2.2.2.trans (H1.out.2.2.2.mono HJ.out.2.2.2.size)⟩
  · obtain ⟨sh, hs1, hx⟩ : ∃ sh : Nat, j + (sh + 1) = 1074 ∧ -z = ((sh + 1 : Nat) : Int) := ⟨1073 - j, by omega, by omega⟩
    have hK := turn_small T HT.out 1 s m j sh V hs1 hV
    rw [HW.out] at hK
    have HD1 := fhide (nDown2 v k m (sh + 1) w1 HJ.out.1 HJ.out.2.1 (by have := HJ.out.2.2.1; omega) (by omega))
    have HD2 : Hid (∀ w2 : World, Row w2 v k m → Calls Tryz.prog 96 #[v, .int .i64 (sh : Nat)] w2 fun e w' => ∃ r, e = .returned (.tuple #[r, .bool (decide (m % 2 ^ sh ≠ 0))]) ∧ (∃ n, Row w' r n (m / 2 ^ sh) ∧ Nrm n (m / 2 ^ sh) ∧ n ≤ k) ∧ Below w2.heap.size w2 w') := fun w2 h2 => nDown2 v k m sh w2 h2 HJ.out.2.1 (by have := HJ.out.2.2.1; omega) (by omega)
    have hz0 : ¬ (0 : Int) ≤ z := by omega
    have hzb : -2000 ≤ z ∧ z ≤ 2000 := by omega
    obtain ⟨t1, ht1⟩ : ∃ t1 : Nat, sh + 1 = t1 := ⟨_, rfl⟩
    have hx1 : -z = (t1 : Int) := by omega
    have hx2 : (t1 : Int) - 1 = (sh : Int) := by omega
    have hx3 : (t1 : Int) ≤ 2000 := by omega
    have hAl : m / 2 ^ (sh + 1) < 18446744073709551616 := Nat.lt_of_le_of_lt (Nat.div_le_self _ _) (by omega)
    have hHl : m / 2 ^ sh < 18446744073709551616 := Nat.lt_of_le_of_lt (Nat.div_le_self _ _) (by omega)
    have hAm : m / 2 ^ (sh + 1) % 18446744073709551616 = m / 2 ^ (sh + 1) := Nat.mod_eq_of_lt hAl
    have hHm : m / 2 ^ sh % 18446744073709551616 = m / 2 ^ sh := Nat.mod_eq_of_lt hHl
    have ha1 := and_one (m / 2 ^ sh) hHl
    have ha2 := and_one (m / 2 ^ (sh + 1)) hAl
    unfold Flt.upQ at hK
    simp only at hK
    rw [ht1] at HD1 hK hAm ha2
    generalize m / 2 ^ t1 = A at *
    generalize m / 2 ^ sh = H at *
    generalize decide (m % 2 ^ t1 ≠ 0) = left at *
    generalize decide (m % 2 ^ sh ≠ 0) = rest at *
    have p1 : H % 2 = 0 ∨ H % 2 = 1 := by omega
    have p2 : A % 2 = 0 ∨ A % 2 = 1 := by omega
    clear hV hml hj hc hx hz HT HP HW hs1 hAl hHl
    go_wp2_with (simp only [hx1])
    refine HD1.out.mono ?_
    rintro e w2 ⟨r2, rfl, ⟨k2, a2, b2, c2⟩, d2⟩
    have H2 := fhide (And.intro a2 (And.intro b2 (And.intro c2 d2)))
    clear a2 b2 c2 d2
    go_wp2_with (simp only [hx1, hx2])
    refine (HD2.out _ (HJ.out.1.below H2.out.2.2.2)).mono ?_
    rintro e w3 ⟨r3, rfl, ⟨k3, a3, b3, c3⟩, d3⟩
    have H3 := fhide (And.intro (H2.out.1.below d3) (And.intro a3 ((HJ.out.2.2.2.trans (H2.out.2.2.2.mono HJ.out.2.2.2.size)).trans (d3.mono (Nat.le_trans HJ.out.2.2.2.size H2.out.2.2.2.size)))))
    clear a3 b3 c3 d3
    have HLow := fhide (nLow64 r3 k3 H w3 H3.out.2.1)
    have HLn := fhide (nLow64 r2 k2 A w3 H3.out.1)
    rw [hHm] at HLow
    rw [hAm] at HLn
    go_wp2_with fail
    refine HLow.out.mono ?_
    rintro e w4 ⟨rfl, hw1⟩
    have hw1 := hw1.symm
    subst hw1
    rcases p1 with p1 | p1
    · rw [p1] at ha1
      rw [decide_eq_false (by omega : ¬ H % 2 = 1)] at hK
      simp only [Bool.toNat_false, Bool.toNat_true, Nat.add_zero] at hK
      have HK := fhide hK
      clear hK
      go_wp2_with fail
      go_ret
      exact ⟨r2, rfl, ⟨k2, by rw [HK.out]; exact H3.out.1, by rw [HK.out]; exact H2.out.2.1, by have := H2.out.2.2.1; have := HJ.out.2.2.1; omega⟩, H3.out.2.2⟩
    · rw [p1] at ha1
      rw [decide_eq_true (by omega : H % 2 = 1)] at hK
      simp only [Bool.toNat_false, Bool.toNat_true, Nat.add_zero] at hK
      have HK := fhide hK
      clear hK
      go_wp2_with fail
      refine (nOf 1 _ (by decide)).mono ?_
      rintro e w4 ⟨r4, rfl, k4, a4, b4, c4, d4⟩
      have HS := fhide (nSum r2 r4 k2 A k4 1 w4 (H3.out.1.below d4) a4 (by have := H2.out.2.2.1; have := HJ.out.2.2.1; omega) (by omega))
      have H4 := fhide (And.intro c4 (H3.out.2.2.trans (d4.mono H3.out.2.2.size)))
      clear a4 b4 c4 d4
      go_wp2_with fail
      refine HS.out.mono ?_
      rintro e w5 ⟨r5, rfl, k5, a5, b5, c5, d5⟩
      have H5 := fhide (And.intro a5 (And.intro b5 (And.intro c5 d5)))
      clear a5 b5 c5 d5
      go_wp2_with fail
      go_ret
      exact ⟨r5, rfl, ⟨k5, by rw [HK.out]; exact H5.out.1, by rw [HK.out]; exact H5.out.2.1, by have := H5.out.2.2.1; have := H4.out.1; have := H2.out.2.2.1; have := HJ.out.2.2.1; omega⟩, H4.out.2.trans (H5.out.2.2.2.mono H4.out.2.size)⟩

set_option maxRecDepth 100000 in
set_option maxHeartbeats 1000000 in
theorem rturned2 (T : Nat) (hT : T = 1074) (b : Nat) (w : World) (hb : b < 18446744073709551616) : Calls Tryz.prog 69 #[.int .u64 b, .int .i64 2] w fun e w' => ∃ r, e = .returned r ∧ (∃ k, Row w' r k (Flt.whl 2 (decide (9223372036854775808 ≤ b)) (Flt.V Ieee.double (b % 9223372036854775808)) (2 ^ T)) ∧ Nrm k (Flt.whl 2 (decide (9223372036854775808 ≤ b)) (Flt.V Ieee.double (b % 9223372036854775808)) (2 ^ T)) ∧ k ≤ 40) ∧ Below w.heap.size w w' := by
  have HP := fhide (fun w : World => rParts64 b w hb)
  generalize decide (9223372036854775808 ≤ b) = s at *
  generalize Flt.V Ieee.double (b % 9223372036854775808) = V at *
  have HT := fhide hT
  obtain ⟨W, hW⟩ : ∃ W : Nat, Flt.whl 2 s V (2 ^ T) = W := ⟨_, rfl⟩
  rw [hW]
  have HW := fhide hW
  clear hb hT hW
  go_enter Tryz.func69, Tryz.ntmps69
  go_wp2_with fail
  refine (HP.out _).mono ?_
  rintro e w1 ⟨v, m, j, rfl, ⟨k, hr, hnr, hk⟩, hV, hml, hj, hb1⟩
  obtain ⟨z, hz⟩ : ∃ z : Int, (j : Int) - 1074 = z := ⟨_, rfl⟩
  rw [hz]
  have HJ := fhide (And.intro hr (And.intro hnr (And.intro hk hb1)))
  clear hr hnr hk hb1
  by_cases hc : 1074 ≤ j
  · obtain ⟨t, ht, ht1, htb⟩ : ∃ t : Nat, z = (t : Int) ∧ j = t + 1074 ∧ t ≤ 1000 := ⟨j - 1074, by omega, by omega, by omega⟩
    have hK := turn_great T HT.out 2 s m j t V ht1 hV
    subst ht
    rw [HW.out] at hK
    have HK := fhide hK
    have HU := fhide (nUp2 v k m t w1 HJ.out.1 (by have := HJ.out.2.2.1; omega) (by omega))
    have HT2 := fhide htb
    clear hK hV hml hj hc ht1 hz HT HP
    go_wp2_with fail
    refine HU.out.mono ?_
    rintro e w2 ⟨r, rfl, n, h1, h2, h3, h4⟩
    have H1 := fhide (And.intro h1 (And.intro h2 (And.intro h3 h4)))
    clear h1 h2 h3 h4 htb
    go_wp2_with fail
    go_ret
    exact ⟨r, rfl, ⟨n, by rw [HK.out]; exact H1.out.1, by rw [HK.out]; exact H1.out.2.1, by have := H1.out.2.2.1; have := HJ.out.2.2.1; have := HT2.out; omega⟩, HJ.out.2.2.2.trans (H1.out.2.2.2.mono HJ.out.2.2.2.size)⟩
  · obtain ⟨sh, hs1, hx⟩ : ∃ sh : Nat, j + (sh + 1) = 1074 ∧ -z = ((sh + 1 : Nat) : Int) := ⟨1073 - j, by omega, by omega⟩
    have hK := turn_small T HT.out 2 s m j sh V hs1 hV
    rw [HW.out] at hK
    have HD1 := fhide (nDown2 v k m (sh + 1) w1 HJ.out.1 HJ.out.2.1 (by have := HJ.out.2.2.1; omega) (by omega))
    have HD2 : Hid (∀ w2 : World, Row w2 v k m → Calls Tryz.prog 96 #[v, .int .i64 (sh : Nat)] w2 fun e w' => ∃ r, e = .returned (.tuple #[r, .bool (decide (m % 2 ^ sh ≠ 0))]) ∧ (∃ n, Row w' r n (m / 2 ^ sh) ∧ Nrm n (m / 2 ^ sh) ∧ n ≤ k) ∧ Below w2.heap.size w2 w') := fun w2 h2 => nDown2 v k m sh w2 h2 HJ.out.2.1 (by have := HJ.out.2.2.1; omega) (by omega)
    have hz0 : ¬ (0 : Int) ≤ z := by omega
    have hzb : -2000 ≤ z ∧ z ≤ 2000 := by omega
    obtain ⟨t1, ht1⟩ : ∃ t1 : Nat, sh + 1 = t1 := ⟨_, rfl⟩
    have hx1 : -z = (t1 : Int) := by omega
    have hx2 : (t1 : Int) - 1 = (sh : Int) := by omega
    have hx3 : (t1 : Int) ≤ 2000 := by omega
    have hAl : m / 2 ^ (sh + 1) < 18446744073709551616 := Nat.lt_of_le_of_lt (Nat.div_le_self _ _) (by omega)
    have hHl : m / 2 ^ sh < 18446744073709551616 := Nat.lt_of_le_of_lt (Nat.div_le_self _ _) (by omega)
    have hAm : m / 2 ^ (sh + 1) % 18446744073709551616 = m / 2 ^ (sh + 1) := Nat.mod_eq_of_lt hAl
    have hHm : m / 2 ^ sh % 18446744073709551616 = m / 2 ^ sh := Nat.mod_eq_of_lt hHl
    have ha1 := and_one (m / 2 ^ sh) hHl
    have ha2 := and_one (m / 2 ^ (sh + 1)) hAl
    unfold Flt.upQ at hK
    simp only at hK
    rw [ht1] at HD1 hK hAm ha2
    generalize m / 2 ^ t1 = A at *
    generalize m / 2 ^ sh = H at *
    generalize decide (m % 2 ^ t1 ≠ 0) = left at *
    generalize decide (m % 2 ^ sh ≠ 0) = rest at *
    have p1 : H % 2 = 0 ∨ H % 2 = 1 := by omega
    have p2 : A % 2 = 0 ∨ A % 2 = 1 := by omega
    clear hV hml hj hc hx hz HT HP HW hs1 hAl hHl
    go_wp2_with (simp only [hx1])
    refine HD1.out.mono ?_
    rintro e w2 ⟨r2, rfl, ⟨k2, a2, b2, c2⟩, d2⟩
    have H2 := fhide (And.intro a2 (And.intro b2 (And.intro c2 d2)))
    clear a2 b2 c2 d2
    go_wp2_with (simp only [hx1, hx2])
    refine (HD2.out _ (HJ.out.1.below H2.out.2.2.2)).mono ?_
    rintro e w3 ⟨r3, rfl, ⟨k3, a3, b3, c3⟩, d3⟩
    have H3 := fhide (And.intro (H2.out.1.below d3) (And.intro a3 ((HJ.out.2.2.2.trans (H2.out.2.2.2.mono HJ.out.2.2.2.size)).trans (d3.mono (Nat.le_trans HJ.out.2.2.2.size H2.out.2.2.2.size)))))
    clear a3 b3 c3 d3
    have HLow := fhide (nLow64 r3 k3 H w3 H3.out.2.1)
    have HLn := fhide (nLow64 r2 k2 A w3 H3.out.1)
    rw [hHm] at HLow
    rw [hAm] at HLn
    go_wp2_with fail
    refine HLow.out.mono ?_
    rintro e w4 ⟨rfl, hw1⟩
    have hw1 := hw1.symm
    subst hw1
    rcases p1 with p1 | p1
    · rw [p1] at ha1
      simp only [Bool.toNat_false, Nat.add_zero] at hK
      have HK := fhide hK
      clear hK
      go_wp2_with fail
      go_ret
      exact ⟨r2, rfl, ⟨k2, by rw [HK.out]; exact H3.out.1, by rw [HK.out]; exact H2.out.2.1, by have := H2.out.2.2.1; have := HJ.out.2.2.1; omega⟩, H3.out.2.2⟩
    · rw [p1] at ha1
      simp only [Bool.toNat_false, Nat.add_zero] at hK
      have HK := fhide hK
      clear hK
      go_wp2_with fail
      go_ret
      exact ⟨r2, rfl, ⟨k2, by rw [HK.out]; exact H3.out.1, by rw [HK.out]; exact H2.out.2.1, by have := H2.out.2.2.1; have := HJ.out.2.2.1; omega⟩, H3.out.2.2⟩

set_option maxRecDepth 100000 in
set_option maxHeartbeats 1000000 in
theorem rturned3 (T : Nat) (hT : T = 1074) (b : Nat) (w : World) (hb : b < 18446744073709551616) : Calls Tryz.prog 69 #[.int .u64 b, .int .i64 3] w fun e w' => ∃ r, e = .returned r ∧ (∃ k, Row w' r k (Flt.whl 3 (decide (9223372036854775808 ≤ b)) (Flt.V Ieee.double (b % 9223372036854775808)) (2 ^ T)) ∧ Nrm k (Flt.whl 3 (decide (9223372036854775808 ≤ b)) (Flt.V Ieee.double (b % 9223372036854775808)) (2 ^ T)) ∧ k ≤ 40) ∧ Below w.heap.size w w' := by
  have HP := fhide (fun w : World => rParts64 b w hb)
  generalize decide (9223372036854775808 ≤ b) = s at *
  generalize Flt.V Ieee.double (b % 9223372036854775808) = V at *
  have HT := fhide hT
  obtain ⟨W, hW⟩ : ∃ W : Nat, Flt.whl 3 s V (2 ^ T) = W := ⟨_, rfl⟩
  rw [hW]
  have HW := fhide hW
  clear hb hT hW
  go_enter Tryz.func69, Tryz.ntmps69
  go_wp2_with fail
  refine (HP.out _).mono ?_
  rintro e w1 ⟨v, m, j, rfl, ⟨k, hr, hnr, hk⟩, hV, hml, hj, hb1⟩
  obtain ⟨z, hz⟩ : ∃ z : Int, (j : Int) - 1074 = z := ⟨_, rfl⟩
  rw [hz]
  have HJ := fhide (And.intro hr (And.intro hnr (And.intro hk hb1)))
  clear hr hnr hk hb1
  by_cases hc : 1074 ≤ j
  · obtain ⟨t, ht, ht1, htb⟩ : ∃ t : Nat, z = (t : Int) ∧ j = t + 1074 ∧ t ≤ 1000 := ⟨j - 1074, by omega, by omega, by omega⟩
    have hK := turn_great T HT.out 3 s m j t V ht1 hV
    subst ht
    rw [HW.out] at hK
    have HK := fhide hK
    have HU := fhide (nUp2 v k m t w1 HJ.out.1 (by have := HJ.out.2.2.1; omega) (by omega))
    have HT2 := fhide htb
    clear hK hV hml hj hc ht1 hz HT HP
    go_wp2_with fail
    refine HU.out.mono ?_
    rintro e w2 ⟨r, rfl, n, h1, h2, h3, h4⟩
    have H1 := fhide (And.intro h1 (And.intro h2 (And.intro h3 h4)))
    clear h1 h2 h3 h4 htb
    go_wp2_with fail
    go_ret
    exact ⟨r, rfl, ⟨n, by rw [HK.out]; exact H1.out.1, by rw [HK.out]; exact H1.out.2.1, by have := H1.out.2.2.1; have := HJ.out.2.2.1; have := HT2.out; omega⟩, HJ.out.2.2.2.trans (H1.out.2.2.2.mono HJ.out.2.2.2.size)⟩
  · obtain ⟨sh, hs1, hx⟩ : ∃ sh : Nat, j + (sh + 1) = 1074 ∧ -z = ((sh + 1 : Nat) : Int) := ⟨1073 - j, by omega, by omega⟩
    have hK := turn_small T HT.out 3 s m j sh V hs1 hV
    rw [HW.out] at hK
    have HD1 := fhide (nDown2 v k m (sh + 1) w1 HJ.out.1 HJ.out.2.1 (by have := HJ.out.2.2.1; omega) (by omega))
    have HD2 : Hid (∀ w2 : World, Row w2 v k m → Calls Tryz.prog 96 #[v, .int .i64 (sh : Nat)] w2 fun e w' => ∃ r, e = .returned (.tuple #[r, .bool (decide (m % 2 ^ sh ≠ 0))]) ∧ (∃ n, Row w' r n (m / 2 ^ sh) ∧ Nrm n (m / 2 ^ sh) ∧ n ≤ k) ∧ Below w2.heap.size w2 w') := fun w2 h2 => nDown2 v k m sh w2 h2 HJ.out.2.1 (by have := HJ.out.2.2.1; omega) (by omega)
    have hz0 : ¬ (0 : Int) ≤ z := by omega
    have hzb : -2000 ≤ z ∧ z ≤ 2000 := by omega
    obtain ⟨t1, ht1⟩ : ∃ t1 : Nat, sh + 1 = t1 := ⟨_, rfl⟩
    have hx1 : -z = (t1 : Int) := by omega
    have hx2 : (t1 : Int) - 1 = (sh : Int) := by omega
    have hx3 : (t1 : Int) ≤ 2000 := by omega
    have hAl : m / 2 ^ (sh + 1) < 18446744073709551616 := Nat.lt_of_le_of_lt (Nat.div_le_self _ _) (by omega)
    have hHl : m / 2 ^ sh < 18446744073709551616 := Nat.lt_of_le_of_lt (Nat.div_le_self _ _) (by omega)
    have hAm : m / 2 ^ (sh + 1) % 18446744073709551616 = m / 2 ^ (sh + 1) := Nat.mod_eq_of_lt hAl
    have hHm : m / 2 ^ sh % 18446744073709551616 = m / 2 ^ sh := Nat.mod_eq_of_lt hHl
    have ha1 := and_one (m / 2 ^ sh) hHl
    have ha2 := and_one (m / 2 ^ (sh + 1)) hAl
    unfold Flt.upQ at hK
    simp only at hK
    rw [ht1] at HD1 hK hAm ha2
    generalize m / 2 ^ t1 = A at *
    generalize m / 2 ^ sh = H at *
    generalize decide (m % 2 ^ t1 ≠ 0) = left at *
    generalize decide (m % 2 ^ sh ≠ 0) = rest at *
    have p1 : H % 2 = 0 ∨ H % 2 = 1 := by omega
    have p2 : A % 2 = 0 ∨ A % 2 = 1 := by omega
    clear hV hml hj hc hx hz HT HP HW hs1 hAl hHl
    go_wp2_with (simp only [hx1])
    refine HD1.out.mono ?_
    rintro e w2 ⟨r2, rfl, ⟨k2, a2, b2, c2⟩, d2⟩
    have H2 := fhide (And.intro a2 (And.intro b2 (And.intro c2 d2)))
    clear a2 b2 c2 d2
    go_wp2_with (simp only [hx1, hx2])
    refine (HD2.out _ (HJ.out.1.below H2.out.2.2.2)).mono ?_
    rintro e w3 ⟨r3, rfl, ⟨k3, a3, b3, c3⟩, d3⟩
    have H3 := fhide (And.intro (H2.out.1.below d3) (And.intro a3 ((HJ.out.2.2.2.trans (H2.out.2.2.2.mono HJ.out.2.2.2.size)).trans (d3.mono (Nat.le_trans HJ.out.2.2.2.size H2.out.2.2.2.size)))))
    clear a3 b3 c3 d3
    have HLow := fhide (nLow64 r3 k3 H w3 H3.out.2.1)
    have HLn := fhide (nLow64 r2 k2 A w3 H3.out.1)
    rw [hHm] at HLow
    rw [hAm] at HLn
    go_wp2_with fail
    refine HLow.out.mono ?_
    rintro e w4 ⟨rfl, hw1⟩
    have hw1 := hw1.symm
    subst hw1
    rcases p1 with p1 | p1
    · rw [p1] at ha1
      cases s
      · cases left
        · simp only [Bool.true_and, Bool.false_and, Bool.not_true, Bool.not_false, Bool.toNat_false, Bool.toNat_true, Nat.add_zero] at hK
          have HK := fhide hK
          clear hK
          go_wp2_with fail
          go_ret
          exact ⟨r2, rfl, ⟨k2, by rw [HK.out]; exact H3.out.1, by rw [HK.out]; exact H2.out.2.1, by have := H2.out.2.2.1; have := HJ.out.2.2.1; omega⟩, H3.out.2.2⟩
        · simp only [Bool.true_and, Bool.false_and, Bool.not_true, Bool.not_false, Bool.toNat_false, Bool.toNat_true, Nat.add_zero] at hK
          have HK := fhide hK
          clear hK
          go_wp2_with fail
          go_ret
          exact ⟨r2, rfl, ⟨k2, by rw [HK.out]; exact H3.out.1, by rw [HK.out]; exact H2.out.2.1, by have := H2.out.2.2.1; have := HJ.out.2.2.1; omega⟩, H3.out.2.2⟩
      · cases left
        · simp only [Bool.true_and, Bool.false_and, Bool.not_true, Bool.not_false, Bool.toNat_false, Bool.toNat_true, Nat.add_zero] at hK
          have HK := fhide hK
          clear hK
          go_wp2_with fail
          go_ret
          exact ⟨r2, rfl, ⟨k2, by rw [HK.out]; exact H3.out.1, by rw [HK.out]; exact H2.out.2.1, by have := H2.out.2.2.1; have := HJ.out.2.2.1; omega⟩, H3.out.2.2⟩
        · simp only [Bool.true_and, Bool.false_and, Bool.not_true, Bool.not_false, Bool.toNat_false, Bool.toNat_true, Nat.add_zero] at hK
          have HK := fhide hK
          clear hK
          go_wp2_with fail
          refine (nOf 1 _ (by decide)).mono ?_
          rintro e w4 ⟨r4, rfl, k4, a4, b4, c4, d4⟩
          have HS := fhide (nSum r2 r4 k2 A k4 1 w4 (H3.out.1.below d4) a4 (by have := H2.out.2.2.1; have := HJ.out.2.2.1; omega) (by omega))
          have H4 := fhide (And.intro c4 (H3.out.2.2.trans (d4.mono H3.out.2.2.size)))
          clear a4 b4 c4 d4
          go_wp2_with fail
          refine HS.out.mono ?_
          rintro e w5 ⟨r5, rfl, k5, a5, b5, c5, d5⟩
          have H5 := fhide (And.intro a5 (And.intro b5 (And.intro c5 d5)))
          clear a5 b5 c5 d5
          go_wp2_with fail
          go_ret
          exact ⟨r5, rfl, ⟨k5, by rw [HK.out]; exact H5.out.1, by rw [HK.out]; exact H5.out.2.1, by have := H5.out.2.2.1; have := H4.out.1; have := H2.out.2.2.1; have := HJ.out.2.2.1; omega⟩, H4.out.2.trans (H5.out.2.2.2.mono H4.out.2.size)⟩
    · rw [p1] at ha1
      cases s
      · cases left
        · simp only [Bool.true_and, Bool.false_and, Bool.not_true, Bool.not_false, Bool.toNat_false, Bool.toNat_true, Nat.add_zero] at hK
          have HK := fhide hK
          clear hK
          go_wp2_with fail
          go_ret
          exact ⟨r2, rfl, ⟨k2, by rw [HK.out]; exact H3.out.1, by rw [HK.out]; exact H2.out.2.1, by have := H2.out.2.2.1; have := HJ.out.2.2.1; omega⟩, H3.out.2.2⟩
        · simp only [Bool.true_and, Bool.false_and, Bool.not_true, Bool.not_false, Bool.toNat_false, Bool.toNat_true, Nat.add_zero] at hK
          have HK := fhide hK
          clear hK
          go_wp2_with fail
          go_ret
          exact ⟨r2, rfl, ⟨k2, by rw [HK.out]; exact H3.out.1, by rw [HK.out]; exact H2.out.2.1, by have := H2.out.2.2.1; have := HJ.out.2.2.1; omega⟩, H3.out.2.2⟩
      · cases left
        · simp only [Bool.true_and, Bool.false_and, Bool.not_true, Bool.not_false, Bool.toNat_false, Bool.toNat_true, Nat.add_zero] at hK
          have HK := fhide hK
          clear hK
          go_wp2_with fail
          go_ret
          exact ⟨r2, rfl, ⟨k2, by rw [HK.out]; exact H3.out.1, by rw [HK.out]; exact H2.out.2.1, by have := H2.out.2.2.1; have := HJ.out.2.2.1; omega⟩, H3.out.2.2⟩
        · simp only [Bool.true_and, Bool.false_and, Bool.not_true, Bool.not_false, Bool.toNat_false, Bool.toNat_true, Nat.add_zero] at hK
          have HK := fhide hK
          clear hK
          go_wp2_with fail
          refine (nOf 1 _ (by decide)).mono ?_
          rintro e w4 ⟨r4, rfl, k4, a4, b4, c4, d4⟩
          have HS := fhide (nSum r2 r4 k2 A k4 1 w4 (H3.out.1.below d4) a4 (by have := H2.out.2.2.1; have := HJ.out.2.2.1; omega) (by omega))
          have H4 := fhide (And.intro c4 (H3.out.2.2.trans (d4.mono H3.out.2.2.size)))
          clear a4 b4 c4 d4
          go_wp2_with fail
          refine HS.out.mono ?_
          rintro e w5 ⟨r5, rfl, k5, a5, b5, c5, d5⟩
          have H5 := fhide (And.intro a5 (And.intro b5 (And.intro c5 d5)))
          clear a5 b5 c5 d5
          go_wp2_with fail
          go_ret
          exact ⟨r5, rfl, ⟨k5, by rw [HK.out]; exact H5.out.1, by rw [HK.out]; exact H5.out.2.1, by have := H5.out.2.2.1; have := H4.out.1; have := H2.out.2.2.1; have := HJ.out.2.2.1; omega⟩, H4.out.2.trans (H5.out.2.2.2.mono H4.out.2.size)⟩

set_option maxRecDepth 100000 in
set_option maxHeartbeats 1000000 in
theorem rturned4 (T : Nat) (hT : T = 1074) (b : Nat) (w : World) (hb : b < 18446744073709551616) : Calls Tryz.prog 69 #[.int .u64 b, .int .i64 4] w fun e w' => ∃ r, e = .returned r ∧ (∃ k, Row w' r k (Flt.whl 4 (decide (9223372036854775808 ≤ b)) (Flt.V Ieee.double (b % 9223372036854775808)) (2 ^ T)) ∧ Nrm k (Flt.whl 4 (decide (9223372036854775808 ≤ b)) (Flt.V Ieee.double (b % 9223372036854775808)) (2 ^ T)) ∧ k ≤ 40) ∧ Below w.heap.size w w' := by
  have HP := fhide (fun w : World => rParts64 b w hb)
  generalize decide (9223372036854775808 ≤ b) = s at *
  generalize Flt.V Ieee.double (b % 9223372036854775808) = V at *
  have HT := fhide hT
  obtain ⟨W, hW⟩ : ∃ W : Nat, Flt.whl 4 s V (2 ^ T) = W := ⟨_, rfl⟩
  rw [hW]
  have HW := fhide hW
  clear hb hT hW
  go_enter Tryz.func69, Tryz.ntmps69
  go_wp2_with fail
  refine (HP.out _).mono ?_
  rintro e w1 ⟨v, m, j, rfl, ⟨k, hr, hnr, hk⟩, hV, hml, hj, hb1⟩
  obtain ⟨z, hz⟩ : ∃ z : Int, (j : Int) - 1074 = z := ⟨_, rfl⟩
  rw [hz]
  have HJ := fhide (And.intro hr (And.intro hnr (And.intro hk hb1)))
  clear hr hnr hk hb1
  by_cases hc : 1074 ≤ j
  · obtain ⟨t, ht, ht1, htb⟩ : ∃ t : Nat, z = (t : Int) ∧ j = t + 1074 ∧ t ≤ 1000 := ⟨j - 1074, by omega, by omega, by omega⟩
    have hK := turn_great T HT.out 4 s m j t V ht1 hV
    subst ht
    rw [HW.out] at hK
    have HK := fhide hK
    have HU := fhide (nUp2 v k m t w1 HJ.out.1 (by have := HJ.out.2.2.1; omega) (by omega))
    have HT2 := fhide htb
    clear hK hV hml hj hc ht1 hz HT HP
    go_wp2_with fail
    refine HU.out.mono ?_
    rintro e w2 ⟨r, rfl, n, h1, h2, h3, h4⟩
    have H1 := fhide (And.intro h1 (And.intro h2 (And.intro h3 h4)))
    clear h1 h2 h3 h4 htb
    go_wp2_with fail
    go_ret
    exact ⟨r, rfl, ⟨n, by rw [HK.out]; exact H1.out.1, by rw [HK.out]; exact H1.out.2.1, by have := H1.out.2.2.1; have := HJ.out.2.2.1; have := HT2.out; omega⟩, HJ.out.2.2.2.trans (H1.out.2.2.2.mono HJ.out.2.2.2.size)⟩
  · obtain ⟨sh, hs1, hx⟩ : ∃ sh : Nat, j + (sh + 1) = 1074 ∧ -z = ((sh + 1 : Nat) : Int) := ⟨1073 - j, by omega, by omega⟩
    have hK := turn_small T HT.out 4 s m j sh V hs1 hV
    rw [HW.out] at hK
    have HD1 := fhide (nDown2 v k m (sh + 1) w1 HJ.out.1 HJ.out.2.1 (by have := HJ.out.2.2.1; omega) (by omega))
    have HD2 : Hid (∀ w2 : World, Row w2 v k m → Calls Tryz.prog 96 #[v, .int .i64 (sh : Nat)] w2 fun e w' => ∃ r, e = .returned (.tuple #[r, .bool (decide (m % 2 ^ sh ≠ 0))]) ∧ (∃ n, Row w' r n (m / 2 ^ sh) ∧ Nrm n (m / 2 ^ sh) ∧ n ≤ k) ∧ Below w2.heap.size w2 w') := fun w2 h2 => nDown2 v k m sh w2 h2 HJ.out.2.1 (by have := HJ.out.2.2.1; omega) (by omega)
    have hz0 : ¬ (0 : Int) ≤ z := by omega
    have hzb : -2000 ≤ z ∧ z ≤ 2000 := by omega
    obtain ⟨t1, ht1⟩ : ∃ t1 : Nat, sh + 1 = t1 := ⟨_, rfl⟩
    have hx1 : -z = (t1 : Int) := by omega
    have hx2 : (t1 : Int) - 1 = (sh : Int) := by omega
    have hx3 : (t1 : Int) ≤ 2000 := by omega
    have hAl : m / 2 ^ (sh + 1) < 18446744073709551616 := Nat.lt_of_le_of_lt (Nat.div_le_self _ _) (by omega)
    have hHl : m / 2 ^ sh < 18446744073709551616 := Nat.lt_of_le_of_lt (Nat.div_le_self _ _) (by omega)
    have hAm : m / 2 ^ (sh + 1) % 18446744073709551616 = m / 2 ^ (sh + 1) := Nat.mod_eq_of_lt hAl
    have hHm : m / 2 ^ sh % 18446744073709551616 = m / 2 ^ sh := Nat.mod_eq_of_lt hHl
    have ha1 := and_one (m / 2 ^ sh) hHl
    have ha2 := and_one (m / 2 ^ (sh + 1)) hAl
    unfold Flt.upQ at hK
    simp only at hK
    rw [ht1] at HD1 hK hAm ha2
    generalize m / 2 ^ t1 = A at *
    generalize m / 2 ^ sh = H at *
    generalize decide (m % 2 ^ t1 ≠ 0) = left at *
    generalize decide (m % 2 ^ sh ≠ 0) = rest at *
    have p1 : H % 2 = 0 ∨ H % 2 = 1 := by omega
    have p2 : A % 2 = 0 ∨ A % 2 = 1 := by omega
    clear hV hml hj hc hx hz HT HP HW hs1 hAl hHl
    go_wp2_with (simp only [hx1])
    refine HD1.out.mono ?_
    rintro e w2 ⟨r2, rfl, ⟨k2, a2, b2, c2⟩, d2⟩
    have H2 := fhide (And.intro a2 (And.intro b2 (And.intro c2 d2)))
    clear a2 b2 c2 d2
    go_wp2_with (simp only [hx1, hx2])
    refine (HD2.out _ (HJ.out.1.below H2.out.2.2.2)).mono ?_
    rintro e w3 ⟨r3, rfl, ⟨k3, a3, b3, c3⟩, d3⟩
    have H3 := fhide (And.intro (H2.out.1.below d3) (And.intro a3 ((HJ.out.2.2.2.trans (H2.out.2.2.2.mono HJ.out.2.2.2.size)).trans (d3.mono (Nat.le_trans HJ.out.2.2.2.size H2.out.2.2.2.size)))))
    clear a3 b3 c3 d3
    have HLow := fhide (nLow64 r3 k3 H w3 H3.out.2.1)
    have HLn := fhide (nLow64 r2 k2 A w3 H3.out.1)
    rw [hHm] at HLow
    rw [hAm] at HLn
    go_wp2_with fail
    refine HLow.out.mono ?_
    rintro e w4 ⟨rfl, hw1⟩
    have hw1 := hw1.symm
    subst hw1
    rcases p1 with p1 | p1
    · rw [p1] at ha1
      cases s
      · cases left
        · simp only [Bool.true_and, Bool.false_and, Bool.not_true, Bool.not_false, Bool.toNat_false, Bool.toNat_true, Nat.add_zero] at hK
          have HK := fhide hK
          clear hK
          go_wp2_with fail
          go_ret
          exact ⟨r2, rfl, ⟨k2, by rw [HK.out]; exact H3.out.1, by rw [HK.out]; exact H2.out.2.1, by have := H2.out.2.2.1; have := HJ.out.2.2.1; omega⟩, H3.out.2.2⟩
        · simp only [Bool.true_and, Bool.false_and, Bool.not_true, Bool.not_false, Bool.toNat_false, Bool.toNat_true, Nat.add_zero] at hK
          have HK := fhide hK
          clear hK
          go_wp2_with fail
          refine (nOf 1 _ (by decide)).mono ?_
          rintro e w4 ⟨r4, rfl, k4, a4, b4, c4, d4⟩
          have HS := fhide (nSum r2 r4 k2 A k4 1 w4 (H3.out.1.below d4) a4 (by have := H2.out.2.2.1; have := HJ.out.2.2.1; omega) (by omega))
          have H4 := fhide (And.intro c4 (H3.out.2.2.trans (d4.mono H3.out.2.2.size)))
          clear a4 b4 c4 d4
          go_wp2_with fail
          refine HS.out.mono ?_
          rintro e w5 ⟨r5, rfl, k5, a5, b5, c5, d5⟩
          have H5 := fhide (And.intro a5 (And.intro b5 (And.intro c5 d5)))
          clear a5 b5 c5 d5
          go_wp2_with fail
          go_ret
          exact ⟨r5, rfl, ⟨k5, by rw [HK.out]; exact H5.out.1, by rw [HK.out]; exact H5.out.2.1, by have := H5.out.2.2.1; have := H4.out.1; have := H2.out.2.2.1; have := HJ.out.2.2.1; omega⟩, H4.out.2.trans (H5.out.2.2.2.mono H4.out.2.size)⟩
      · cases left
        · simp only [Bool.true_and, Bool.false_and, Bool.not_true, Bool.not_false, Bool.toNat_false, Bool.toNat_true, Nat.add_zero] at hK
          have HK := fhide hK
          clear hK
          go_wp2_with fail
          go_ret
          exact ⟨r2, rfl, ⟨k2, by rw [HK.out]; exact H3.out.1, by rw [HK.out]; exact H2.out.2.1, by have := H2.out.2.2.1; have := HJ.out.2.2.1; omega⟩, H3.out.2.2⟩
        · simp only [Bool.true_and, Bool.false_and, Bool.not_true, Bool.not_false, Bool.toNat_false, Bool.toNat_true, Nat.add_zero] at hK
          have HK := fhide hK
          clear hK
          go_wp2_with fail
          go_ret
          exact ⟨r2, rfl, ⟨k2, by rw [HK.out]; exact H3.out.1, by rw [HK.out]; exact H2.out.2.1, by have := H2.out.2.2.1; have := HJ.out.2.2.1; omega⟩, H3.out.2.2⟩
    · rw [p1] at ha1
      cases s
      · cases left
        · simp only [Bool.true_and, Bool.false_and, Bool.not_true, Bool.not_false, Bool.toNat_false, Bool.toNat_true, Nat.add_zero] at hK
          have HK := fhide hK
          clear hK
          go_wp2_with fail
          go_ret
          exact ⟨r2, rfl, ⟨k2, by rw [HK.out]; exact H3.out.1, by rw [HK.out]; exact H2.out.2.1, by have := H2.out.2.2.1; have := HJ.out.2.2.1; omega⟩, H3.out.2.2⟩
        · simp only [Bool.true_and, Bool.false_and, Bool.not_true, Bool.not_false, Bool.toNat_false, Bool.toNat_true, Nat.add_zero] at hK
          have HK := fhide hK
          clear hK
          go_wp2_with fail
          refine (nOf 1 _ (by decide)).mono ?_
          rintro e w4 ⟨r4, rfl, k4, a4, b4, c4, d4⟩
          have HS := fhide (nSum r2 r4 k2 A k4 1 w4 (H3.out.1.below d4) a4 (by have := H2.out.2.2.1; have := HJ.out.2.2.1; omega) (by omega))
          have H4 := fhide (And.intro c4 (H3.out.2.2.trans (d4.mono H3.out.2.2.size)))
          clear a4 b4 c4 d4
          go_wp2_with fail
          refine HS.out.mono ?_
          rintro e w5 ⟨r5, rfl, k5, a5, b5, c5, d5⟩
          have H5 := fhide (And.intro a5 (And.intro b5 (And.intro c5 d5)))
          clear a5 b5 c5 d5
          go_wp2_with fail
          go_ret
          exact ⟨r5, rfl, ⟨k5, by rw [HK.out]; exact H5.out.1, by rw [HK.out]; exact H5.out.2.1, by have := H5.out.2.2.1; have := H4.out.1; have := H2.out.2.2.1; have := HJ.out.2.2.1; omega⟩, H4.out.2.trans (H5.out.2.2.2.mono H4.out.2.size)⟩
      · cases left
        · simp only [Bool.true_and, Bool.false_and, Bool.not_true, Bool.not_false, Bool.toNat_false, Bool.toNat_true, Nat.add_zero] at hK
          have HK := fhide hK
          clear hK
          go_wp2_with fail
          go_ret
          exact ⟨r2, rfl, ⟨k2, by rw [HK.out]; exact H3.out.1, by rw [HK.out]; exact H2.out.2.1, by have := H2.out.2.2.1; have := HJ.out.2.2.1; omega⟩, H3.out.2.2⟩
        · simp only [Bool.true_and, Bool.false_and, Bool.not_true, Bool.not_false, Bool.toNat_false, Bool.toNat_true, Nat.add_zero] at hK
          have HK := fhide hK
          clear hK
          go_wp2_with fail
          go_ret
          exact ⟨r2, rfl, ⟨k2, by rw [HK.out]; exact H3.out.1, by rw [HK.out]; exact H2.out.2.1, by have := H2.out.2.2.1; have := HJ.out.2.2.1; omega⟩, H3.out.2.2⟩

end Go.Proofs.YtmkploknoohliaaGreat

namespace Go.Proofs.YtmkploknoohliaaGreat
open Go.RowKit
open M
set_option linter.unusedVariables false
set_option linter.unusedSimpArgs false

theorem wd_w64 (s : Bool) (R : Nat) : wd64 s R = Ieee.double.word s R := by cases s <;> rfl
theorem nrst_ent (T : Nat) (hT : T = 1074) (s : Bool) (K : Nat) : nrst64 s K 1 0 = Flt.ent T s K := by
  unfold nrst64 Flt.ent
  rw [wd_w64, inf64, show ((0 : Int) + 1074).toNat = T by omega, show (-1074 - (0 : Int)).toNat = 0 by omega, Nat.pow_zero]

/-- A finite number made whole, without its sign. -/
def wk (T m a : Nat) : Nat := Flt.whl m (decide (9223372036854775808 ≤ a)) (Flt.V Ieee.double (a % 9223372036854775808)) (2 ^ T)

theorem rturned (T : Nat) (hT : T = 1074) (b m : Nat) (w : World) (hb : b < 18446744073709551616) (hm : m ≤ 4) : Calls Tryz.prog 69 #[.int .u64 b, .int .i64 m] w fun e w' => ∃ r, e = .returned r ∧ (∃ k, Row w' r k (wk T m b) ∧ Nrm k (wk T m b) ∧ k ≤ 40) ∧ Below w.heap.size w w' := by
  have hc : m = 0 ∨ m = 1 ∨ m = 2 ∨ m = 3 ∨ m = 4 := by omega
  rcases hc with rfl | rfl | rfl | rfl | rfl
  · exact rturned0 T hT b w hb
  · exact rturned1 T hT b w hb
  · exact rturned2 T hT b w hb
  · exact rturned3 T hT b w hb
  · exact rturned4 T hT b w hb
theorem rndv_fin (T : Nat) (m a : Nat) (ha : a < 18446744073709551616) (h : a % 9223372036854775808 < 9218868437227405312) : rndv T m a = Flt.ent T (decide (9223372036854775808 ≤ a)) (wk T m a) := by
  unfold rndv wk
  rw [if_neg (by omega), if_neg (by omega), sg64 a ha, rg64]
theorem wz_fin (T : Nat) (m a : Nat) (ha : a < 18446744073709551616) : wz T m a = if decide (9223372036854775808 ≤ a) then -((wk T m a : Nat) : Int) else ((wk T m a : Nat) : Int) := by
  unfold wz wk
  rw [sg64 a ha, rg64]

set_option maxRecDepth 100000 in
set_option maxHeartbeats 1000000 in
theorem rRoundM_bad (a : Nat) (mode : Int) (w : World) (hm : mode < 0 ∨ 4 < mode) : Calls Tryz.prog 22 #[.int .u64 a, .int .i64 mode] w fun e w' => e = .returned (.tuple #[.int .u64 0, .int .i64 31]) ∧ w' = w := by
  rcases hm with h | h
  · go_enter Tryz.func22, Tryz.ntmps22
    go_wp2_with fail
    go_ret2
    exact ⟨rfl, rfl⟩
  · have h2 : ¬ mode < 0 := by omega
    go_enter Tryz.func22, Tryz.ntmps22
    go_wp2_with fail
    go_ret2
    exact ⟨rfl, rfl⟩
set_option maxRecDepth 100000 in
set_option maxHeartbeats 1000000 in
theorem rRoundM_any (T : Nat) (hT : T = 1074) (a m : Nat) (w : World) (ha : a < 18446744073709551616) (hm : m ≤ 4) : Calls Tryz.prog 22 #[.int .u64 a, .int .i64 m] w fun e w' => e = .returned (.tuple #[.int .u64 (rndv T m a : Nat), .int .i64 0]) ∧ Below w.heap.size w w' := by
  have HN := fhide (fun w : World => rIsNan64 a w ha)
  have HI := fhide (fun w : World => rIsInf64 a w ha)
  have HG := fhide (fun w : World => rNeg64 a w ha)
  have HU := fhide (fun w : World => rturned T hT a m w ha hm)
  have hm1 : ¬ (m : Int) < 0 := by omega
  have hm2 : ¬ (4 : Int) < (m : Int) := by omega
  rcases Nat.lt_trichotomy (a % 9223372036854775808) 9218868437227405312 with c | c | c
  · rw [rndv_fin T m a ha c, ← nrst_ent T hT]
    rw [decide_eq_false (by omega)] at HN HI
    generalize wk T m a = K at *
    generalize decide (9223372036854775808 ≤ a) = s at *
    obtain ⟨out, ho⟩ : ∃ out : Nat, nrst64 s K 1 0 = out := ⟨_, rfl⟩
    rw [ho]
    have HO := fhide ho
    clear ha hm hT c ho
    go_enter Tryz.func22, Tryz.ntmps22
    go_wp2_with fail
    refine (HN.out _).mono ?_
    rintro e w1 ⟨rfl, hw1⟩
    have hw1 := hw1.symm
    subst hw1
    go_wp2_with fail
    refine (HI.out _).mono ?_
    rintro e w1 ⟨rfl, hw1⟩
    have hw1 := hw1.symm
    subst hw1
    go_wp2_with fail
    refine (HG.out _).mono ?_
    rintro e w1 ⟨rfl, hw1⟩
    have hw1 := hw1.symm
    subst hw1
    go_wp2_with fail
    refine (HU.out _).mono ?_
    rintro e w1 ⟨r, rfl, ⟨k, h1, h2, h3⟩, h4⟩
    have H1 := fhide (And.intro h1 (And.intro h2 (And.intro h3 h4)))
    clear h1 h2 h3 h4
    go_wp2_with fail
    refine (nOf 1 _ (by decide)).mono ?_
    rintro e w2 ⟨r2, rfl, k2, a2, b2, c2, d2⟩
    have HR := fhide (rNearest64 s r r2 k K k2 1 0 w2 (H1.out.1.below d2) a2 H1.out.2.1 b2 (by decide) (by have := H1.out.2.2.1; omega) (by omega) (by decide))
    have H2 := fhide (H1.out.2.2.2.trans (d2.mono H1.out.2.2.2.size))
    clear a2 b2 c2 d2
    rw [HO.out] at HR
    go_wp2_with fail
    refine HR.out.mono ?_
    rintro e w3 ⟨rfl, d3⟩
    have H3 := fhide (H2.out.trans (d3.mono H2.out.size))
    clear d3
    go_wp2_with fail
    go_ret2
    exact ⟨rfl, H3.out⟩
  · rw [show rndv T m a = a by unfold rndv; rw [if_neg (by omega), if_pos c]]
    rw [decide_eq_false (by omega)] at HN
    rw [decide_eq_true c] at HI
    clear ha hm hT c HG HU
    go_enter Tryz.func22, Tryz.ntmps22
    go_wp2_with fail
    refine (HN.out _).mono ?_
    rintro e w1 ⟨rfl, hw1⟩
    have hw1 := hw1.symm
    subst hw1
    go_wp2_with fail
    refine (HI.out _).mono ?_
    rintro e w1 ⟨rfl, hw1⟩
    have hw1 := hw1.symm
    subst hw1
    go_wp2_with fail
    go_ret2
    exact ⟨rfl, Below.refl _ _⟩
  · rw [show rndv T m a = 9221120237041090560 by unfold rndv; rw [if_pos c]]
    rw [decide_eq_true c] at HN
    clear ha hm hT c HG HU HI
    go_enter Tryz.func22, Tryz.ntmps22
    go_wp2_with fail
    refine (HN.out _).mono ?_
    rintro e w1 ⟨rfl, hw1⟩
    have hw1 := hw1.symm
    subst hw1
    go_wp2_with fail
    go_ret2
    exact ⟨rfl, Below.refl _ _⟩

end Go.Proofs.YtmkploknoohliaaGreat
