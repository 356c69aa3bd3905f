/- The document's signed, laid. -/
import Derived.Test.YtmkploknoohliaaGreatFT
namespace Go.Proofs.YtmkploknoohliaaGreat
open Go.RowKit
set_option linter.unusedVariables false
set_option linter.unusedSimpArgs false

/-- A rung with a sign. -/
def wd64 (neg : Bool) (b : Nat) : Nat := if neg then 9223372036854775808 + b else b
theorem c64_or_lo (r : Nat) (h : r < 9223372036854775808) : bits BinOp.or IntKind.u64 (r : Int) 9223372036854775808 = ((9223372036854775808 + r : Nat) : Int) := by
  have := u64_or_nat r 9223372036854775808 (by omega) (by omega)
  rw [show r ||| 9223372036854775808 = 9223372036854775808 + r from n_or_lo 63 r h] at this; exact this

set_option maxRecDepth 100000 in
theorem rsigned64 (neg : Bool) (b : Nat) (w : World) (hb : b < 9223372036854775808) : Calls Tryz.prog 70 #[.bool neg, .int .u64 b, .int .i64 64] w fun e w' => e = .returned (.int .u64 (wd64 neg b : Nat)) ∧ w' = w := by
  have hx := c64_or_lo b hb
  cases neg
  · show Calls _ _ _ _ fun e w' => e = .returned (.int .u64 (b : Nat)) ∧ w' = w
    clear hx hb
    go_enter Tryz.func70, Tryz.ntmps70
    go_wp2_with fail
    go_ret
    exact ⟨rfl, rfl⟩
  · show Calls _ _ _ _ fun e w' => e = .returned (.int .u64 (9223372036854775808 + b : Nat)) ∧ w' = w
    clear hb
    go_enter Tryz.func70, Tryz.ntmps70
    go_wp2_with fail
    refine (rSign64 _).mono ?_
    rintro e w1 ⟨rfl, rfl⟩
    go_wp2_with (simp only [hx])
    go_ret
    exact ⟨rfl, rfl⟩

set_option maxRecDepth 100000 in
set_option maxHeartbeats 2000000 in
theorem rlaid64 (neg : Bool) (m k : Nat) (w : World) (hm : m ≤ 9007199254740992) (hk : k ≤ 3075) (hmk : m < 4503599627370496 → k = 0) : Calls Tryz.prog 106 #[.bool neg, .int .u64 m, .int .i64 ((k : Int) - 1074), .int .i64 64] w fun e w' => e = .returned (.int .u64 (wd64 neg (min (k * 4503599627370496 + m) 9218868437227405312) : Nat)) ∧ w' = w := by
  obtain ⟨R, hR⟩ : ∃ R, R = min (k * 4503599627370496 + m) 9218868437227405312 := ⟨_, rfl⟩
  rw [← hR]
  have HSg := fhide (fun w : World => rsigned64 neg R w (by omega))
  have h0t : wd64 neg R = wd64 neg R := rfl
  generalize hw : wd64 neg R = out at *
  clear h0t hw
  obtain ⟨t, ht⟩ : ∃ t : Int, (k : Int) - 1074 = t := ⟨_, rfl⟩
  rw [ht]
  have htb : -2000 ≤ t ∧ t ≤ 5000 := by omega
  by_cases hlow : m < 4503599627370496
  · obtain rfl := hmk hlow
    have hRm : R = m := by omega
    subst hRm
    obtain ⟨q, hq, hq1⟩ : ∃ q : Nat, R / 4503599627370496 = q ∧ (R : Int) / 4503599627370496 = (q : Int) := ⟨_, rfl, by omega⟩
    obtain rfl : q = 0 := by omega
    have hF' : ¬ (9218868437227405312 : Int) ≤ (R : Int) := by omega
    have hF2 : decide ((9218868437227405312 : Int) ≤ (R : Int)) = false := by simp; omega
    clear hm hmk hR hq hlow hF' hk ht
    go_enter Tryz.func106, Tryz.ntmps106
    go_wp2_with fail
    refine (rdigits64 _).mono ?_
    rintro e w1 ⟨rfl, rfl⟩
    go_wp2_with (simp only [hq1])
    refine (rInf64 _).mono ?_
    rintro e w1 ⟨rfl, rfl⟩
    go_wp2_with (simp only [hF2])
    refine (HSg.out _).mono ?_
    rintro e w1 ⟨rfl, rfl⟩
    go_wp2_with fail
    go_ret
    exact ⟨rfl, rfl⟩
  · by_cases h2 : m = 9007199254740992
    · subst h2
      obtain ⟨k1, hk1, hta⟩ : ∃ k1 : Nat, k + 1 = k1 ∧ t + 1 - -1074 = (k1 : Int) := ⟨_, rfl, by omega⟩
      have htc : t + 1 + 1074 = (k1 : Int) := by omega
      have hkm : (k1 : Int) % 18446744073709551616 = (k1 : Int) := by omega
      have hkw : IntKind.u64.wrap (k1 : Int) = (k1 : Int) := by rw [IntKind.wrap_u64]; exact hkm
      obtain ⟨c, hc, hc1⟩ : ∃ c : Nat, k1 * 4503599627370496 = c ∧ (k1 : Int) * 4503599627370496 = (c : Int) := ⟨_, rfl, by omega⟩
      have hcm : (c : Int) % 18446744073709551616 = (c : Int) := by omega
      have hcw : IntKind.u64.wrap (c : Int) = (c : Int) := by rw [IntKind.wrap_u64]; exact hcm
      obtain ⟨b, hb, hb1⟩ : ∃ b : Nat, c + 4503599627370496 = b ∧ (c : Int) + 4503599627370496 = (b : Int) := ⟨_, rfl, by omega⟩
      have hbm : (b : Int) % 18446744073709551616 = (b : Int) := by omega
      have hbw : IntKind.u64.wrap (b : Int) = (b : Int) := by rw [IntKind.wrap_u64]; exact hbm
      have hq1 : (True) := trivial
      have hq2 : (True) := trivial
      by_cases hF : 9218868437227405312 ≤ b
      · have hF' : decide ((9218868437227405312 : Int) ≤ (b : Int)) = true := by simp; omega
        obtain rfl : R = 9218868437227405312 := by omega
        clear hm hmk hR hb hc hF hlow hk ht hk1
        go_enter Tryz.func106, Tryz.ntmps106
        go_wp2_with fail
        refine (rdigits64 _).mono ?_
        rintro e w1 ⟨rfl, rfl⟩
        go_wp2_with (simp only [hq1, hq2])
        refine (rleast64 _).mono ?_
        rintro e w1 ⟨rfl, rfl⟩
        go_wp2_with (simp only [hta, htc, hkm, hkw, hc1, hcm, hcw, hb1, hbm, hbw])
        refine (rInf64 _).mono ?_
        rintro e w1 ⟨rfl, rfl⟩
        go_wp2_with (simp only [hF'])
        refine (rInf64 _).mono ?_
        rintro e w1 ⟨rfl, rfl⟩
        go_wp2_with fail
        refine (HSg.out _).mono ?_
        rintro e w1 ⟨rfl, rfl⟩
        go_wp2_with fail
        go_ret
        exact ⟨rfl, rfl⟩
      · have hF' : decide ((9218868437227405312 : Int) ≤ (b : Int)) = false := by simp; omega
        obtain rfl : R = b := by omega
        clear hm hmk hR hb hc hF hlow hk ht hk1
        go_enter Tryz.func106, Tryz.ntmps106
        go_wp2_with fail
        refine (rdigits64 _).mono ?_
        rintro e w1 ⟨rfl, rfl⟩
        go_wp2_with (simp only [hq1, hq2])
        refine (rleast64 _).mono ?_
        rintro e w1 ⟨rfl, rfl⟩
        go_wp2_with (simp only [hta, htc, hkm, hkw, hc1, hcm, hcw, hb1, hbm, hbw])
        refine (rInf64 _).mono ?_
        rintro e w1 ⟨rfl, rfl⟩
        go_wp2_with (simp only [hF'])
        refine (HSg.out _).mono ?_
        rintro e w1 ⟨rfl, rfl⟩
        go_wp2_with fail
        go_ret
        exact ⟨rfl, rfl⟩
    · obtain ⟨q, hq, hq1⟩ : ∃ q : Nat, m / 4503599627370496 = q ∧ (m : Int) / 4503599627370496 = (q : Int) := ⟨_, rfl, by omega⟩
      obtain rfl : q = 1 := by omega
      have hta : t - -1074 = (k : Int) := by omega
      have htc : t + 1074 = (k : Int) := by omega
      have hkm : (k : Int) % 18446744073709551616 = (k : Int) := by omega
      have hkw : IntKind.u64.wrap (k : Int) = (k : Int) := by rw [IntKind.wrap_u64]; exact hkm
      obtain ⟨c, hc, hc1⟩ : ∃ c : Nat, k * 4503599627370496 = c ∧ (k : Int) * 4503599627370496 = (c : Int) := ⟨_, rfl, by omega⟩
      have hcm : (c : Int) % 18446744073709551616 = (c : Int) := by omega
      have hcw : IntKind.u64.wrap (c : Int) = (c : Int) := by rw [IntKind.wrap_u64]; exact hcm
      obtain ⟨b, hb, hb1⟩ : ∃ b : Nat, c + m = b ∧ (c : Int) + (m : Int) = (b : Int) := ⟨_, rfl, by omega⟩
      have hbm : (b : Int) % 18446744073709551616 = (b : Int) := by omega
      have hbw : IntKind.u64.wrap (b : Int) = (b : Int) := by rw [IntKind.wrap_u64]; exact hbm
      have hq2 : (True) := trivial
      by_cases hF : 9218868437227405312 ≤ b
      · have hF' : decide ((9218868437227405312 : Int) ≤ (b : Int)) = true := by simp; omega
        obtain rfl : R = 9218868437227405312 := by omega
        clear hmk hR hb hc hF hlow ht h2 hq
        go_enter Tryz.func106, Tryz.ntmps106
        go_wp2_with fail
        refine (rdigits64 _).mono ?_
        rintro e w1 ⟨rfl, rfl⟩
        go_wp2_with (simp only [hq1, hq2])
        refine (rleast64 _).mono ?_
        rintro e w1 ⟨rfl, rfl⟩
        go_wp2_with (simp only [hta, htc, hkm, hkw, hc1, hcm, hcw, hb1, hbm, hbw])
        refine (rInf64 _).mono ?_
        rintro e w1 ⟨rfl, rfl⟩
        go_wp2_with (simp only [hF'])
        refine (rInf64 _).mono ?_
        rintro e w1 ⟨rfl, rfl⟩
        go_wp2_with fail
        refine (HSg.out _).mono ?_
        rintro e w1 ⟨rfl, rfl⟩
        go_wp2_with fail
        go_ret
        exact ⟨rfl, rfl⟩
      · have hF' : decide ((9218868437227405312 : Int) ≤ (b : Int)) = false := by simp; omega
        obtain rfl : R = b := by omega
        clear hmk hR hb hc hF hlow ht h2 hq
        go_enter Tryz.func106, Tryz.ntmps106
        go_wp2_with fail
        refine (rdigits64 _).mono ?_
        rintro e w1 ⟨rfl, rfl⟩
        go_wp2_with (simp only [hq1, hq2])
        refine (rleast64 _).mono ?_
        rintro e w1 ⟨rfl, rfl⟩
        go_wp2_with (simp only [hta, htc, hkm, hkw, hc1, hcm, hcw, hb1, hbm, hbw])
        refine (rInf64 _).mono ?_
        rintro e w1 ⟨rfl, rfl⟩
        go_wp2_with (simp only [hF'])
        refine (HSg.out _).mono ?_
        rintro e w1 ⟨rfl, rfl⟩
        go_wp2_with fail
        go_ret
        exact ⟨rfl, rfl⟩

/-- A rung with a sign. -/
def wd32 (neg : Bool) (b : Nat) : Nat := if neg then 2147483648 + b else b
theorem c32_or_lo (r : Nat) (h : r < 2147483648) : bits BinOp.or IntKind.u64 (r : Int) 2147483648 = ((2147483648 + r : Nat) : Int) := by
  have := u64_or_nat r 2147483648 (by omega) (by omega)
  rw [show r ||| 2147483648 = 2147483648 + r from n_or_lo 31 r h] at this; exact this

set_option maxRecDepth 100000 in
theorem rsigned32 (neg : Bool) (b : Nat) (w : World) (hb : b < 2147483648) : Calls Tryz.prog 70 #[.bool neg, .int .u64 b, .int .i64 32] w fun e w' => e = .returned (.int .u64 (wd32 neg b : Nat)) ∧ w' = w := by
  have hx := c32_or_lo b hb
  cases neg
  · show Calls _ _ _ _ fun e w' => e = .returned (.int .u64 (b : Nat)) ∧ w' = w
    clear hx hb
    go_enter Tryz.func70, Tryz.ntmps70
    go_wp2_with fail
    go_ret
    exact ⟨rfl, rfl⟩
  · show Calls _ _ _ _ fun e w' => e = .returned (.int .u64 (2147483648 + b : Nat)) ∧ w' = w
    clear hb
    go_enter Tryz.func70, Tryz.ntmps70
    go_wp2_with fail
    refine (rSign32 _).mono ?_
    rintro e w1 ⟨rfl, rfl⟩
    go_wp2_with (simp only [hx])
    go_ret
    exact ⟨rfl, rfl⟩

set_option maxRecDepth 100000 in
set_option maxHeartbeats 2000000 in
theorem rlaid32 (neg : Bool) (m k : Nat) (w : World) (hm : m ≤ 16777216) (hk : k ≤ 2150) (hmk : m < 8388608 → k = 0) : Calls Tryz.prog 106 #[.bool neg, .int .u64 m, .int .i64 ((k : Int) - 149), .int .i64 32] w fun e w' => e = .returned (.int .u64 (wd32 neg (min (k * 8388608 + m) 2139095040) : Nat)) ∧ w' = w := by
  obtain ⟨R, hR⟩ : ∃ R, R = min (k * 8388608 + m) 2139095040 := ⟨_, rfl⟩
  rw [← hR]
  have HSg := fhide (fun w : World => rsigned32 neg R w (by omega))
  have h0t : wd32 neg R = wd32 neg R := rfl
  generalize hw : wd32 neg R = out at *
  clear h0t hw
  obtain ⟨t, ht⟩ : ∃ t : Int, (k : Int) - 149 = t := ⟨_, rfl⟩
  rw [ht]
  have htb : -2000 ≤ t ∧ t ≤ 5000 := by omega
  by_cases hlow : m < 8388608
  · obtain rfl := hmk hlow
    have hRm : R = m := by omega
    subst hRm
    obtain ⟨q, hq, hq1⟩ : ∃ q : Nat, R / 8388608 = q ∧ (R : Int) / 8388608 = (q : Int) := ⟨_, rfl, by omega⟩
    obtain rfl : q = 0 := by omega
    have hF' : ¬ (2139095040 : Int) ≤ (R : Int) := by omega
    have hF2 : decide ((2139095040 : Int) ≤ (R : Int)) = false := by simp; omega
    clear hm hmk hR hq hlow hF' hk ht
    go_enter Tryz.func106, Tryz.ntmps106
    go_wp2_with fail
    refine (rdigits32 _).mono ?_
    rintro e w1 ⟨rfl, rfl⟩
    go_wp2_with (simp only [hq1])
    refine (rInf32 _).mono ?_
    rintro e w1 ⟨rfl, rfl⟩
    go_wp2_with (simp only [hF2])
    refine (HSg.out _).mono ?_
    rintro e w1 ⟨rfl, rfl⟩
    go_wp2_with fail
    go_ret
    exact ⟨rfl, rfl⟩
  · by_cases h2 : m = 16777216
    · subst h2
      obtain ⟨k1, hk1, hta⟩ : ∃ k1 : Nat, k + 1 = k1 ∧ t + 1 - -149 = (k1 : Int) := ⟨_, rfl, by omega⟩
      have htc : t + 1 + 149 = (k1 : Int) := by omega
      have hkm : (k1 : Int) % 18446744073709551616 = (k1 : Int) := by omega
      have hkw : IntKind.u64.wrap (k1 : Int) = (k1 : Int) := by rw [IntKind.wrap_u64]; exact hkm
      obtain ⟨c, hc, hc1⟩ : ∃ c : Nat, k1 * 8388608 = c ∧ (k1 : Int) * 8388608 = (c : Int) := ⟨_, rfl, by omega⟩
      have hcm : (c : Int) % 18446744073709551616 = (c : Int) := by omega
      have hcw : IntKind.u64.wrap (c : Int) = (c : Int) := by rw [IntKind.wrap_u64]; exact hcm
      obtain ⟨b, hb, hb1⟩ : ∃ b : Nat, c + 8388608 = b ∧ (c : Int) + 8388608 = (b : Int) := ⟨_, rfl, by omega⟩
      have hbm : (b : Int) % 18446744073709551616 = (b : Int) := by omega
      have hbw : IntKind.u64.wrap (b : Int) = (b : Int) := by rw [IntKind.wrap_u64]; exact hbm
      have hq1 : (True) := trivial
      have hq2 : (True) := trivial
      by_cases hF : 2139095040 ≤ b
      · have hF' : decide ((2139095040 : Int) ≤ (b : Int)) = true := by simp; omega
        obtain rfl : R = 2139095040 := by omega
        clear hm hmk hR hb hc hF hlow hk ht hk1
        go_enter Tryz.func106, Tryz.ntmps106
        go_wp2_with fail
        refine (rdigits32 _).mono ?_
        rintro e w1 ⟨rfl, rfl⟩
        go_wp2_with (simp only [hq1, hq2])
        refine (rleast32 _).mono ?_
        rintro e w1 ⟨rfl, rfl⟩
        go_wp2_with (simp only [hta, htc, hkm, hkw, hc1, hcm, hcw, hb1, hbm, hbw])
        refine (rInf32 _).mono ?_
        rintro e w1 ⟨rfl, rfl⟩
        go_wp2_with (simp only [hF'])
        refine (rInf32 _).mono ?_
        rintro e w1 ⟨rfl, rfl⟩
        go_wp2_with fail
        refine (HSg.out _).mono ?_
        rintro e w1 ⟨rfl, rfl⟩
        go_wp2_with fail
        go_ret
        exact ⟨rfl, rfl⟩
      · have hF' : decide ((2139095040 : Int) ≤ (b : Int)) = false := by simp; omega
        obtain rfl : R = b := by omega
        clear hm hmk hR hb hc hF hlow hk ht hk1
        go_enter Tryz.func106, Tryz.ntmps106
        go_wp2_with fail
        refine (rdigits32 _).mono ?_
        rintro e w1 ⟨rfl, rfl⟩
        go_wp2_with (simp only [hq1, hq2])
        refine (rleast32 _).mono ?_
        rintro e w1 ⟨rfl, rfl⟩
        go_wp2_with (simp only [hta, htc, hkm, hkw, hc1, hcm, hcw, hb1, hbm, hbw])
        refine (rInf32 _).mono ?_
        rintro e w1 ⟨rfl, rfl⟩
        go_wp2_with (simp only [hF'])
        refine (HSg.out _).mono ?_
        rintro e w1 ⟨rfl, rfl⟩
        go_wp2_with fail
        go_ret
        exact ⟨rfl, rfl⟩
    · obtain ⟨q, hq, hq1⟩ : ∃ q : Nat, m / 8388608 = q ∧ (m : Int) / 8388608 = (q : Int) := ⟨_, rfl, by omega⟩
      obtain rfl : q = 1 := by omega
      have hta : t - -149 = (k : Int) := by omega
      have htc : t + 149 = (k : Int) := by omega
      have hkm : (k : Int) % 18446744073709551616 = (k : Int) := by omega
      have hkw : IntKind.u64.wrap (k : Int) = (k : Int) := by rw [IntKind.wrap_u64]; exact hkm
      obtain ⟨c, hc, hc1⟩ : ∃ c : Nat, k * 8388608 = c ∧ (k : Int) * 8388608 = (c : Int) := ⟨_, rfl, by omega⟩
      have hcm : (c : Int) % 18446744073709551616 = (c : Int) := by omega
      have hcw : IntKind.u64.wrap (c : Int) = (c : Int) := by rw [IntKind.wrap_u64]; exact hcm
      obtain ⟨b, hb, hb1⟩ : ∃ b : Nat, c + m = b ∧ (c : Int) + (m : Int) = (b : Int) := ⟨_, rfl, by omega⟩
      have hbm : (b : Int) % 18446744073709551616 = (b : Int) := by omega
      have hbw : IntKind.u64.wrap (b : Int) = (b : Int) := by rw [IntKind.wrap_u64]; exact hbm
      have hq2 : (True) := trivial
      by_cases hF : 2139095040 ≤ b
      · have hF' : decide ((2139095040 : Int) ≤ (b : Int)) = true := by simp; omega
        obtain rfl : R = 2139095040 := by omega
        clear hmk hR hb hc hF hlow ht h2 hq
        go_enter Tryz.func106, Tryz.ntmps106
        go_wp2_with fail
        refine (rdigits32 _).mono ?_
        rintro e w1 ⟨rfl, rfl⟩
        go_wp2_with (simp only [hq1, hq2])
        refine (rleast32 _).mono ?_
        rintro e w1 ⟨rfl, rfl⟩
        go_wp2_with (simp only [hta, htc, hkm, hkw, hc1, hcm, hcw, hb1, hbm, hbw])
        refine (rInf32 _).mono ?_
        rintro e w1 ⟨rfl, rfl⟩
        go_wp2_with (simp only [hF'])
        refine (rInf32 _).mono ?_
        rintro e w1 ⟨rfl, rfl⟩
        go_wp2_with fail
        refine (HSg.out _).mono ?_
        rintro e w1 ⟨rfl, rfl⟩
        go_wp2_with fail
        go_ret
        exact ⟨rfl, rfl⟩
      · have hF' : decide ((2139095040 : Int) ≤ (b : Int)) = false := by simp; omega
        obtain rfl : R = b := by omega
        clear hmk hR hb hc hF hlow ht h2 hq
        go_enter Tryz.func106, Tryz.ntmps106
        go_wp2_with fail
        refine (rdigits32 _).mono ?_
        rintro e w1 ⟨rfl, rfl⟩
        go_wp2_with (simp only [hq1, hq2])
        refine (rleast32 _).mono ?_
        rintro e w1 ⟨rfl, rfl⟩
        go_wp2_with (simp only [hta, htc, hkm, hkw, hc1, hcm, hcw, hb1, hbm, hbw])
        refine (rInf32 _).mono ?_
        rintro e w1 ⟨rfl, rfl⟩
        go_wp2_with (simp only [hF'])
        refine (HSg.out _).mono ?_
        rintro e w1 ⟨rfl, rfl⟩
        go_wp2_with fail
        go_ret
        exact ⟨rfl, rfl⟩

end Go.Proofs.YtmkploknoohliaaGreat
