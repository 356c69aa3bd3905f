/- The document's Parts. -/
import Derived.Test.YtmkploknoohliaaGreatNU
import Derived.Test.YtmkploknoohliaaGreatFU
namespace Go.Proofs.YtmkploknoohliaaGreat
open Go.RowKit
open M
set_option linter.unusedVariables false
set_option linter.unusedSimpArgs false

theorem V64' (b : Nat) : Flt.V Ieee.double b = if b / 4503599627370496 = 0 then b % 4503599627370496 else (b % 4503599627370496 + 4503599627370496) * 2 ^ (b / 4503599627370496 - 1) := by
  unfold Flt.V
  have e : Ieee.double.binade = 4503599627370496 := by decide
  rw [e]
  by_cases h : b < 4503599627370496
  · rw [if_pos h, if_pos (Nat.div_eq_of_lt h), Nat.mod_eq_of_lt h]
  · rw [if_neg h, if_neg (by omega), Nat.add_comm]
theorem V32' (b : Nat) : Flt.V Ieee.single b = if b / 8388608 = 0 then b % 8388608 else (b % 8388608 + 8388608) * 2 ^ (b / 8388608 - 1) := by
  unfold Flt.V
  have e : Ieee.single.binade = 8388608 := by decide
  rw [e]
  by_cases h : b < 8388608
  · rw [if_pos h, if_pos (Nat.div_eq_of_lt h), Nat.mod_eq_of_lt h]
  · rw [if_neg h, if_neg (by omega), Nat.add_comm]

set_option maxRecDepth 100000 in
set_option maxHeartbeats 1000000 in
theorem rParts64 (b : Nat) (w : World) (hb : b < 18446744073709551616) : Calls Tryz.prog 65 #[.int .u64 b, .int .i64 64] w fun e w' => ∃ (r : Value) (m j : Nat), e = .returned (.tuple #[.bool (decide (9223372036854775808 ≤ b)), r, .int .i64 ((j : Int) - 1074)]) ∧ (∃ k, Row w' r k m ∧ Nrm k m ∧ k ≤ 2) ∧ m * 2 ^ j = Flt.V Ieee.double (b % 9223372036854775808) ∧ m < 2 * 4503599627370496 ∧ j ≤ 2046 ∧ Below w.heap.size w w' := by
  rw [V64']
  have HA := fhide (fun w : World => rAbs64 b w hb)
  have HNeg := fhide (fun w : World => rNeg64 b w hb)
  generalize decide (9223372036854775808 ≤ b) = neg at *
  obtain ⟨a, ha, hal⟩ : ∃ a : Nat, b % 9223372036854775808 = a ∧ a < 9223372036854775808 := ⟨_, rfl, by omega⟩
  rw [ha] at HA ⊢
  obtain ⟨f, hf, hf1, hfl⟩ : ∃ f : Nat, a / 4503599627370496 = f ∧ (a : Int) / 4503599627370496 = (f : Int) ∧ f ≤ 2047 := ⟨_, rfl, by omega, by omega⟩
  obtain ⟨m, hm, hml⟩ : ∃ m : Nat, a % 4503599627370496 = m ∧ m < 4503599627370496 := ⟨_, rfl, by omega⟩
  rw [hf, hm]
  have h2 : bits BinOp.and IntKind.u64 (a : Int) 4503599627370495 = (m : Int) := by
    have := u64_and_nat a 4503599627370495 (by omega) (by omega)
    rw [show a &&& 4503599627370495 = a % 4503599627370496 from Nat.and_two_pow_sub_one_eq_mod a 52, hm] at this
    exact this
  by_cases h0 : f = 0
  · rw [if_pos h0]
    have h0' : ((f : Int) == 0) = true := by simp; omega
    have HO := fhide (fun w : World => nOf m w (by omega))
    have HM := fhide hml
    clear h0 hfl hml hb ha hf hm hal
    go_enter Tryz.func65, Tryz.ntmps65
    go_wp2_with fail
    refine (HA.out _).mono ?_
    rintro e w1 ⟨rfl, hw1⟩
    have hw1 := hw1.symm
    subst hw1
    go_wp2_with fail
    refine (rdigits64 _).mono ?_
    rintro e w1 ⟨rfl, hw1⟩
    have hw1 := hw1.symm
    subst hw1
    go_wp2_with (simp only [h2, hf1])
    refine (HNeg.out _).mono ?_
    rintro e w1 ⟨rfl, hw1⟩
    have hw1 := hw1.symm
    subst hw1
    go_wp2_with fail
    refine (HO.out _).mono ?_
    rintro e w1 ⟨r, rfl, k, hr, hk, hk2, hbl⟩
    have H1 := fhide (And.intro hr (And.intro hk (And.intro hk2 hbl)))
    clear hr hk hk2 hbl
    go_wp2_with fail
    refine (rleast64 _).mono ?_
    rintro e w2 ⟨rfl, hw1⟩
    have hw1 := hw1.symm
    subst hw1
    go_wp2_with fail
    go_ret3
    exact ⟨r, m, 0, rfl, ⟨k, H1.out.1, H1.out.2.1, H1.out.2.2.1⟩, by simp, by have := HM.out; omega, by omega, H1.out.2.2.2⟩
  · rw [if_neg h0]
    have h0' : ((f : Int) == 0) = false := by simp; omega
    have h3 : bits BinOp.or IntKind.u64 (m : Int) 4503599627370496 = ((m + 4503599627370496 : Nat) : Int) := by
      have := u64_or_nat m 4503599627370496 (by omega) (by omega)
      rw [show m ||| 4503599627370496 = 4503599627370496 + m from n_or_lo 52 m hml, Nat.add_comm] at this
      exact this
    obtain ⟨g, hg⟩ : ∃ g : Nat, f - 1 = g := ⟨_, rfl⟩
    rw [hg]
    obtain ⟨x, hx⟩ : ∃ x : Int, (-1074 : Int) + (f : Int) = x := ⟨_, rfl⟩
    obtain ⟨y, hy, hy2⟩ : ∃ y : Int, (g : Int) - 1074 = y ∧ x - 1 = y := ⟨_, rfl, by omega⟩
    have HO := fhide (fun w : World => nOf (m + 4503599627370496) w (by omega))
    have HM := fhide (And.intro (show m + 4503599627370496 < 2 * 4503599627370496 by omega) (And.intro (show g ≤ 2046 by omega) hy))
    have hfi : (f : Int) ≤ 2047 := by omega
    generalize m + 4503599627370496 = mm at *
    clear h0 hfl hml hb ha hf hm hal hg hy
    go_enter Tryz.func65, Tryz.ntmps65
    go_wp2_with fail
    refine (HA.out _).mono ?_
    rintro e w1 ⟨rfl, hw1⟩
    have hw1 := hw1.symm
    subst hw1
    go_wp2_with fail
    refine (rdigits64 _).mono ?_
    rintro e w1 ⟨rfl, hw1⟩
    have hw1 := hw1.symm
    subst hw1
    go_wp2_with (simp only [h2, hf1])
    refine (HNeg.out _).mono ?_
    rintro e w1 ⟨rfl, hw1⟩
    have hw1 := hw1.symm
    subst hw1
    go_wp2_with (simp only [h3])
    refine (HO.out _).mono ?_
    rintro e w1 ⟨r, rfl, k, hr, hk, hk2, hbl⟩
    have H1 := fhide (And.intro hr (And.intro hk (And.intro hk2 hbl)))
    clear hr hk hk2 hbl
    go_wp2_with fail
    refine (rleast64 _).mono ?_
    rintro e w2 ⟨rfl, hw1⟩
    have hw1 := hw1.symm
    subst hw1
    go_wp2_with (simp only [hx, hy2])
    go_ret3
    exact ⟨r, mm, g, by rw [HM.out.2.2]; rfl, ⟨k, H1.out.1, H1.out.2.1, H1.out.2.2.1⟩, rfl, HM.out.1, HM.out.2.1, H1.out.2.2.2⟩

set_option maxRecDepth 100000 in
set_option maxHeartbeats 1000000 in
theorem rParts32 (b : Nat) (w : World) (hb : b < 4294967296) : Calls Tryz.prog 65 #[.int .u64 b, .int .i64 32] w fun e w' => ∃ (r : Value) (m j : Nat), e = .returned (.tuple #[.bool (decide (2147483648 ≤ b)), r, .int .i64 ((j : Int) - 149)]) ∧ (∃ k, Row w' r k m ∧ Nrm k m ∧ k ≤ 2) ∧ m * 2 ^ j = Flt.V Ieee.single (b % 2147483648) ∧ m < 2 * 8388608 ∧ j ≤ 2046 ∧ Below w.heap.size w w' := by
  rw [V32']
  have HA := fhide (fun w : World => rAbs32 b w hb)
  have HNeg := fhide (fun w : World => rNeg32 b w hb)
  generalize decide (2147483648 ≤ b) = neg at *
  obtain ⟨a, ha, hal⟩ : ∃ a : Nat, b % 2147483648 = a ∧ a < 2147483648 := ⟨_, rfl, by omega⟩
  rw [ha] at HA ⊢
  obtain ⟨f, hf, hf1, hfl⟩ : ∃ f : Nat, a / 8388608 = f ∧ (a : Int) / 8388608 = (f : Int) ∧ f ≤ 2047 := ⟨_, rfl, by omega, by omega⟩
  obtain ⟨m, hm, hml⟩ : ∃ m : Nat, a % 8388608 = m ∧ m < 8388608 := ⟨_, rfl, by omega⟩
  rw [hf, hm]
  have h2 : bits BinOp.and IntKind.u64 (a : Int) 8388607 = (m : Int) := by
    have := u64_and_nat a 8388607 (by omega) (by omega)
    rw [show a &&& 8388607 = a % 8388608 from Nat.and_two_pow_sub_one_eq_mod a 23, hm] at this
    exact this
  by_cases h0 : f = 0
  · rw [if_pos h0]
    have h0' : ((f : Int) == 0) = true := by simp; omega
    have HO := fhide (fun w : World => nOf m w (by omega))
    have HM := fhide hml
    clear h0 hfl hml hb ha hf hm hal
    go_enter Tryz.func65, Tryz.ntmps65
    go_wp2_with fail
    refine (HA.out _).mono ?_
    rintro e w1 ⟨rfl, hw1⟩
    have hw1 := hw1.symm
    subst hw1
    go_wp2_with fail
    refine (rdigits32 _).mono ?_
    rintro e w1 ⟨rfl, hw1⟩
    have hw1 := hw1.symm
    subst hw1
    go_wp2_with (simp only [h2, hf1])
    refine (HNeg.out _).mono ?_
    rintro e w1 ⟨rfl, hw1⟩
    have hw1 := hw1.symm
    subst hw1
    go_wp2_with fail
    refine (HO.out _).mono ?_
    rintro e w1 ⟨r, rfl, k, hr, hk, hk2, hbl⟩
    have H1 := fhide (And.intro hr (And.intro hk (And.intro hk2 hbl)))
    clear hr hk hk2 hbl
    go_wp2_with fail
    refine (rleast32 _).mono ?_
    rintro e w2 ⟨rfl, hw1⟩
    have hw1 := hw1.symm
    subst hw1
    go_wp2_with fail
    go_ret3
    exact ⟨r, m, 0, rfl, ⟨k, H1.out.1, H1.out.2.1, H1.out.2.2.1⟩, by simp, by have := HM.out; omega, by omega, H1.out.2.2.2⟩
  · rw [if_neg h0]
    have h0' : ((f : Int) == 0) = false := by simp; omega
    have h3 : bits BinOp.or IntKind.u64 (m : Int) 8388608 = ((m + 8388608 : Nat) : Int) := by
      have := u64_or_nat m 8388608 (by omega) (by omega)
      rw [show m ||| 8388608 = 8388608 + m from n_or_lo 23 m hml, Nat.add_comm] at this
      exact this
    obtain ⟨g, hg⟩ : ∃ g : Nat, f - 1 = g := ⟨_, rfl⟩
    rw [hg]
    obtain ⟨x, hx⟩ : ∃ x : Int, (-149 : Int) + (f : Int) = x := ⟨_, rfl⟩
    obtain ⟨y, hy, hy2⟩ : ∃ y : Int, (g : Int) - 149 = y ∧ x - 1 = y := ⟨_, rfl, by omega⟩
    have HO := fhide (fun w : World => nOf (m + 8388608) w (by omega))
    have HM := fhide (And.intro (show m + 8388608 < 2 * 8388608 by omega) (And.intro (show g ≤ 2046 by omega) hy))
    have hfi : (f : Int) ≤ 2047 := by omega
    generalize m + 8388608 = mm at *
    clear h0 hfl hml hb ha hf hm hal hg hy
    go_enter Tryz.func65, Tryz.ntmps65
    go_wp2_with fail
    refine (HA.out _).mono ?_
    rintro e w1 ⟨rfl, hw1⟩
    have hw1 := hw1.symm
    subst hw1
    go_wp2_with fail
    refine (rdigits32 _).mono ?_
    rintro e w1 ⟨rfl, hw1⟩
    have hw1 := hw1.symm
    subst hw1
    go_wp2_with (simp only [h2, hf1])
    refine (HNeg.out _).mono ?_
    rintro e w1 ⟨rfl, hw1⟩
    have hw1 := hw1.symm
    subst hw1
    go_wp2_with (simp only [h3])
    refine (HO.out _).mono ?_
    rintro e w1 ⟨r, rfl, k, hr, hk, hk2, hbl⟩
    have H1 := fhide (And.intro hr (And.intro hk (And.intro hk2 hbl)))
    clear hr hk hk2 hbl
    go_wp2_with fail
    refine (rleast32 _).mono ?_
    rintro e w2 ⟨rfl, hw1⟩
    have hw1 := hw1.symm
    subst hw1
    go_wp2_with (simp only [hx, hy2])
    go_ret3
    exact ⟨r, mm, g, by rw [HM.out.2.2]; rfl, ⟨k, H1.out.1, H1.out.2.1, H1.out.2.2.1⟩, rfl, HM.out.1, HM.out.2.1, H1.out.2.2.2⟩

end Go.Proofs.YtmkploknoohliaaGreat
