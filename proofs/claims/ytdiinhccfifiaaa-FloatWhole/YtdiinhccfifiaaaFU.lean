/- The document's own: Key, OfKey, Up, Down, Distance. -/
import Derived.Test.YtdiinhccfifiaaaFT
namespace Go.Proofs.Ytdiinhccfifiaaa
open Go.RowKit
set_option linter.unusedVariables false
set_option linter.unusedSimpArgs false

set_option maxRecDepth 100000 in
theorem rKey64 (b : Nat) (w : World) (hb : b < 18446744073709551616) : Calls Try.prog 11 #[.int .u64 b, .int .i64 64] w fun e w' => e = .returned (.int .u64 (key64 b : Nat)) ∧ w' = w := by
  unfold key64
  by_cases h : b < 9223372036854775808
  · rw [if_pos h]
    have hx : ((9223372036854775808 + b : Nat) : Int) = (b : Int) + 9223372036854775808 := by omega
    rw [hx]
    have hl : (b : Int) + 9223372036854775808 < 18446744073709551616 := by omega
    go_enter Try.func11, Try.ntmps11
    go_wp2_with fail
    refine (rNeg64 b _ hb).mono ?_
    rw [decide_eq_false (by omega)]
    rintro e w1 ⟨rfl, rfl⟩
    go_wp2_with fail
    refine (rSign64 _).mono ?_
    rintro e w1 ⟨rfl, rfl⟩
    go_wp2_with fail
    go_ret
    exact ⟨rfl, rfl⟩
  · rw [if_neg h]
    have hA := fhide (fun w : World => rAbs64 b w hb)
    have hx : ((18446744073709551615 - b : Nat) : Int) = 9223372036854775807 - ((b % 9223372036854775808 : Nat) : Int) := by omega
    have hl : b % 9223372036854775808 ≤ 9223372036854775807 := by omega
    rw [hx]
    have hn := fhide (show 9223372036854775808 ≤ b by omega)
    clear hx
    generalize b % 9223372036854775808 = r at *
    go_enter Try.func11, Try.ntmps11
    go_wp2_with fail
    refine (rNeg64 b _ hb).mono ?_
    rw [decide_eq_true hn.out]
    rintro e w1 ⟨rfl, rfl⟩
    go_wp2_with fail
    refine (rSign64 _).mono ?_
    rintro e w1 ⟨rfl, rfl⟩
    go_wp2_with fail
    refine (hA.out _).mono ?_
    rintro e w1 ⟨rfl, rfl⟩
    go_wp2_with fail
    go_ret
    exact ⟨rfl, rfl⟩
set_option maxRecDepth 100000 in
theorem rOfKey64 (b : Nat) (w : World) (hb : b < 18446744073709551616) : Calls Try.prog 13 #[.int .u64 b, .int .i64 64] w fun e w' => e = .returned (.int .u64 (ofKey64 b : Nat)) ∧ w' = w := by
  unfold ofKey64
  by_cases h : b < 9223372036854775808
  · rw [if_pos h]
    have hx : ((18446744073709551615 - b : Nat) : Int) = 9223372036854775808 + (9223372036854775807 - (b : Int)) := by omega
    rw [hx]
    have h' : decide ((9223372036854775808 : Int) ≤ (b : Int)) = false := by simp; omega
    have hl0 : (b : Int) < 9223372036854775808 := by omega
    clear h hx
    go_enter Try.func13, Try.ntmps13
    go_wp2_with fail
    refine (rSign64 _).mono ?_
    rintro e w1 ⟨rfl, rfl⟩
    go_wp2_with fail
    refine (rSign64 _).mono ?_
    rintro e w1 ⟨rfl, rfl⟩
    go_wp2_with fail
    refine (rSign64 _).mono ?_
    rintro e w1 ⟨rfl, rfl⟩
    go_wp2_with fail
    go_ret
    exact ⟨rfl, rfl⟩
  · rw [if_neg h]
    have hx : ((b - 9223372036854775808 : Nat) : Int) = (b : Int) - 9223372036854775808 := by omega
    rw [hx]
    have h' : (9223372036854775808 : Int) ≤ (b : Int) := by omega
    clear h hx
    go_enter Try.func13, Try.ntmps13
    go_wp2_with fail
    refine (rSign64 _).mono ?_
    rintro e w1 ⟨rfl, rfl⟩
    go_wp2_with fail
    refine (rSign64 _).mono ?_
    rintro e w1 ⟨rfl, rfl⟩
    go_wp2_with fail
    go_ret
    exact ⟨rfl, rfl⟩
set_option maxRecDepth 100000 in
set_option maxHeartbeats 1000000 in
theorem rUp64 (b : Nat) (w : World) (hb : b < 18446744073709551616) : Calls Try.prog 15 #[.int .u64 b, .int .i64 64] w fun e w' => e = .returned (.int .u64 (up64 b : Nat)) ∧ w' = w := by
  unfold up64
  by_cases h1 : 9218868437227405312 < b % 9223372036854775808
  · rw [if_pos h1]
    have H1 := fhide h1
    clear h1
    go_enter Try.func15, Try.ntmps15
    go_wp2_with fail
    refine (rIsNan64 b _ hb).mono ?_
    rw [decide_eq_true H1.out]
    rintro e w1 ⟨rfl, rfl⟩
    go_wp2_with fail
    refine (rNan64 _).mono ?_
    rintro e w1 ⟨rfl, rfl⟩
    go_wp2_with fail
    go_ret
    exact ⟨rfl, rfl⟩
  · rw [if_neg h1]
    have H1 := fhide h1
    clear h1
    by_cases h2 : b = 9218868437227405312
    · rw [if_pos h2]
      have h2' : ((b : Int) == 9218868437227405312) = true := by simp; omega
      clear h2
      go_enter Try.func15, Try.ntmps15
      go_wp2_with fail
      refine (rIsNan64 b _ hb).mono ?_
      rw [decide_eq_false H1.out]
      rintro e w1 ⟨rfl, rfl⟩
      go_wp2_with fail
      refine (rInf64 _).mono ?_
      rintro e w1 ⟨rfl, rfl⟩
      go_wp2_with fail
      go_ret
      exact ⟨rfl, rfl⟩
    · rw [if_neg h2]
      have h2' : ((b : Int) == 9218868437227405312) = false := by simp; omega
      clear h2
      by_cases h3 : b % 9223372036854775808 = 0
      · rw [if_pos h3]
        have H3 := fhide h3
        clear h3
        go_enter Try.func15, Try.ntmps15
        go_wp2_with fail
        refine (rIsNan64 b _ hb).mono ?_
        rw [decide_eq_false H1.out]
        rintro e w1 ⟨rfl, rfl⟩
        go_wp2_with fail
        refine (rInf64 _).mono ?_
        rintro e w1 ⟨rfl, rfl⟩
        go_wp2_with fail
        refine (rIsZero64 b _ hb).mono ?_
        rw [decide_eq_true H3.out]
        rintro e w1 ⟨rfl, rfl⟩
        go_wp2_with fail
        go_ret
        exact ⟨rfl, rfl⟩
      · rw [if_neg h3]
        have H3 := fhide h3
        clear h3
        by_cases h4 : b < 9223372036854775808
        · rw [if_pos h4]
          have hx : ((b + 1 : Nat) : Int) = (b : Int) + 1 := by omega
          rw [hx]
          have hl : (b : Int) + 1 < 18446744073709551616 := by omega
          have H4 := fhide (show ¬ 9223372036854775808 ≤ b by omega)
          clear h4 hx
          go_enter Try.func15, Try.ntmps15
          go_wp2_with fail
          refine (rIsNan64 b _ hb).mono ?_
          rw [decide_eq_false H1.out]
          rintro e w1 ⟨rfl, rfl⟩
          go_wp2_with fail
          refine (rInf64 _).mono ?_
          rintro e w1 ⟨rfl, rfl⟩
          go_wp2_with fail
          refine (rIsZero64 b _ hb).mono ?_
          rw [decide_eq_false H3.out]
          rintro e w1 ⟨rfl, rfl⟩
          go_wp2_with fail
          refine (rNeg64 b _ hb).mono ?_
          rw [decide_eq_false H4.out]
          rintro e w1 ⟨rfl, rfl⟩
          go_wp2_with fail
          go_ret
          exact ⟨rfl, rfl⟩
        · rw [if_neg h4]
          have hx : ((b - 1 : Nat) : Int) = (b : Int) - 1 := by omega
          rw [hx]
          have hl : (1 : Int) ≤ (b : Int) := by have := H3.out; omega
          have H4 := fhide (show 9223372036854775808 ≤ b by omega)
          clear h4 hx
          go_enter Try.func15, Try.ntmps15
          go_wp2_with fail
          refine (rIsNan64 b _ hb).mono ?_
          rw [decide_eq_false H1.out]
          rintro e w1 ⟨rfl, rfl⟩
          go_wp2_with fail
          refine (rInf64 _).mono ?_
          rintro e w1 ⟨rfl, rfl⟩
          go_wp2_with fail
          refine (rIsZero64 b _ hb).mono ?_
          rw [decide_eq_false H3.out]
          rintro e w1 ⟨rfl, rfl⟩
          go_wp2_with fail
          refine (rNeg64 b _ hb).mono ?_
          rw [decide_eq_true H4.out]
          rintro e w1 ⟨rfl, rfl⟩
          go_wp2_with fail
          go_ret
          exact ⟨rfl, rfl⟩
set_option maxRecDepth 100000 in
set_option maxHeartbeats 1000000 in
theorem rDown64 (b : Nat) (w : World) (hb : b < 18446744073709551616) : Calls Try.prog 17 #[.int .u64 b, .int .i64 64] w fun e w' => e = .returned (.int .u64 (down64 b : Nat)) ∧ w' = w := by
  unfold down64
  by_cases h1 : 9218868437227405312 < b % 9223372036854775808
  · rw [if_pos h1]
    go_enter Try.func17, Try.ntmps17
    go_wp2_with fail
    refine (rIsNan64 b _ hb).mono ?_
    rw [decide_eq_true h1]
    rintro e w1 ⟨rfl, rfl⟩
    go_wp2_with fail
    refine (rNan64 _).mono ?_
    rintro e w1 ⟨rfl, rfl⟩
    go_wp2_with fail
    go_ret
    exact ⟨rfl, rfl⟩
  · rw [if_neg h1]
    have hf1 := c64_flip b hb
    have hf2 := c64_flip (up64 (flip64 b)) (up64_lt _ (flip64_lt b hb))
    have hU := fhide (fun w : World => rUp64 (flip64 b) w (flip64_lt b hb))
    generalize flip64 b = fb at *
    generalize up64 fb = ub at *
    generalize flip64 ub = fu at *
    go_enter Try.func17, Try.ntmps17
    go_wp2_with fail
    refine (rIsNan64 b _ hb).mono ?_
    rw [decide_eq_false h1]
    rintro e w1 ⟨rfl, rfl⟩
    go_wp2_with fail
    refine (rSign64 _).mono ?_
    rintro e w1 ⟨rfl, rfl⟩
    go_wp2_with (simp only [hf1])
    refine (hU.out _).mono ?_
    rintro e w1 ⟨rfl, rfl⟩
    go_wp2_with fail
    refine (rSign64 _).mono ?_
    rintro e w1 ⟨rfl, rfl⟩
    go_wp2_with (simp only [hf2])
    go_ret
    exact ⟨rfl, rfl⟩
/-- How far two are apart. -/
def dist64 (a b : Nat) : Nat := if key64 a < key64 b then key64 b - key64 a else key64 a - key64 b
set_option maxRecDepth 100000 in
theorem rDistance64 (a b : Nat) (w : World) (ha : a < 18446744073709551616) (hb : b < 18446744073709551616) : Calls Try.prog 27 #[.int .u64 a, .int .u64 b, .int .i64 64] w fun e w' => e = .returned (.int .u64 (dist64 a b : Nat)) ∧ w' = w := by
  unfold dist64
  have hA := fhide (fun w : World => rKey64 a w ha)
  have hB := fhide (fun w : World => rKey64 b w hb)
  have la := key64_lt a ha
  have lb := key64_lt b hb
  generalize key64 a = x at *
  generalize key64 b = y at *
  by_cases h : x < y
  · rw [if_pos h]
    have h' : (x : Int) < (y : Int) := by omega
    have hx : ((y - x : Nat) : Int) = (y : Int) - (x : Int) := by omega
    rw [hx]
    go_enter Try.func27, Try.ntmps27
    go_wp2_with fail
    refine (hA.out _).mono ?_
    rintro e w1 ⟨rfl, rfl⟩
    go_wp2_with fail
    refine (hB.out _).mono ?_
    rintro e w1 ⟨rfl, rfl⟩
    go_wp2_with fail
    go_ret
    exact ⟨rfl, rfl⟩
  · rw [if_neg h]
    have h' : ¬ (x : Int) < (y : Int) := by omega
    have hx : ((x - y : Nat) : Int) = (x : Int) - (y : Int) := by omega
    rw [hx]
    go_enter Try.func27, Try.ntmps27
    go_wp2_with fail
    refine (hA.out _).mono ?_
    rintro e w1 ⟨rfl, rfl⟩
    go_wp2_with fail
    refine (hB.out _).mono ?_
    rintro e w1 ⟨rfl, rfl⟩
    go_wp2_with fail
    go_ret
    exact ⟨rfl, rfl⟩
set_option maxRecDepth 100000 in
theorem rKey32 (b : Nat) (w : World) (hb : b < 4294967296) : Calls Try.prog 11 #[.int .u64 b, .int .i64 32] w fun e w' => e = .returned (.int .u64 (key32 b : Nat)) ∧ w' = w := by
  unfold key32
  by_cases h : b < 2147483648
  · rw [if_pos h]
    have hx : ((2147483648 + b : Nat) : Int) = (b : Int) + 2147483648 := by omega
    rw [hx]
    have hl : (b : Int) + 2147483648 < 18446744073709551616 := by omega
    go_enter Try.func11, Try.ntmps11
    go_wp2_with fail
    refine (rNeg32 b _ hb).mono ?_
    rw [decide_eq_false (by omega)]
    rintro e w1 ⟨rfl, rfl⟩
    go_wp2_with fail
    refine (rSign32 _).mono ?_
    rintro e w1 ⟨rfl, rfl⟩
    go_wp2_with fail
    go_ret
    exact ⟨rfl, rfl⟩
  · rw [if_neg h]
    have hA := fhide (fun w : World => rAbs32 b w hb)
    have hx : ((4294967295 - b : Nat) : Int) = 2147483647 - ((b % 2147483648 : Nat) : Int) := by omega
    have hl : b % 2147483648 ≤ 2147483647 := by omega
    rw [hx]
    have hn := fhide (show 2147483648 ≤ b by omega)
    clear hx
    generalize b % 2147483648 = r at *
    go_enter Try.func11, Try.ntmps11
    go_wp2_with fail
    refine (rNeg32 b _ hb).mono ?_
    rw [decide_eq_true hn.out]
    rintro e w1 ⟨rfl, rfl⟩
    go_wp2_with fail
    refine (rSign32 _).mono ?_
    rintro e w1 ⟨rfl, rfl⟩
    go_wp2_with fail
    refine (hA.out _).mono ?_
    rintro e w1 ⟨rfl, rfl⟩
    go_wp2_with fail
    go_ret
    exact ⟨rfl, rfl⟩
set_option maxRecDepth 100000 in
theorem rOfKey32 (b : Nat) (w : World) (hb : b < 4294967296) : Calls Try.prog 13 #[.int .u64 b, .int .i64 32] w fun e w' => e = .returned (.int .u64 (ofKey32 b : Nat)) ∧ w' = w := by
  unfold ofKey32
  by_cases h : b < 2147483648
  · rw [if_pos h]
    have hx : ((4294967295 - b : Nat) : Int) = 2147483648 + (2147483647 - (b : Int)) := by omega
    rw [hx]
    have h' : decide ((2147483648 : Int) ≤ (b : Int)) = false := by simp; omega
    have hl0 : (b : Int) < 2147483648 := by omega
    clear h hx
    go_enter Try.func13, Try.ntmps13
    go_wp2_with fail
    refine (rSign32 _).mono ?_
    rintro e w1 ⟨rfl, rfl⟩
    go_wp2_with fail
    refine (rSign32 _).mono ?_
    rintro e w1 ⟨rfl, rfl⟩
    go_wp2_with fail
    refine (rSign32 _).mono ?_
    rintro e w1 ⟨rfl, rfl⟩
    go_wp2_with fail
    go_ret
    exact ⟨rfl, rfl⟩
  · rw [if_neg h]
    have hx : ((b - 2147483648 : Nat) : Int) = (b : Int) - 2147483648 := by omega
    rw [hx]
    have h' : (2147483648 : Int) ≤ (b : Int) := by omega
    clear h hx
    go_enter Try.func13, Try.ntmps13
    go_wp2_with fail
    refine (rSign32 _).mono ?_
    rintro e w1 ⟨rfl, rfl⟩
    go_wp2_with fail
    refine (rSign32 _).mono ?_
    rintro e w1 ⟨rfl, rfl⟩
    go_wp2_with fail
    go_ret
    exact ⟨rfl, rfl⟩
set_option maxRecDepth 100000 in
set_option maxHeartbeats 1000000 in
theorem rUp32 (b : Nat) (w : World) (hb : b < 4294967296) : Calls Try.prog 15 #[.int .u64 b, .int .i64 32] w fun e w' => e = .returned (.int .u64 (up32 b : Nat)) ∧ w' = w := by
  unfold up32
  by_cases h1 : 2139095040 < b % 2147483648
  · rw [if_pos h1]
    have H1 := fhide h1
    clear h1
    go_enter Try.func15, Try.ntmps15
    go_wp2_with fail
    refine (rIsNan32 b _ hb).mono ?_
    rw [decide_eq_true H1.out]
    rintro e w1 ⟨rfl, rfl⟩
    go_wp2_with fail
    refine (rNan32 _).mono ?_
    rintro e w1 ⟨rfl, rfl⟩
    go_wp2_with fail
    go_ret
    exact ⟨rfl, rfl⟩
  · rw [if_neg h1]
    have H1 := fhide h1
    clear h1
    by_cases h2 : b = 2139095040
    · rw [if_pos h2]
      have h2' : ((b : Int) == 2139095040) = true := by simp; omega
      clear h2
      go_enter Try.func15, Try.ntmps15
      go_wp2_with fail
      refine (rIsNan32 b _ hb).mono ?_
      rw [decide_eq_false H1.out]
      rintro e w1 ⟨rfl, rfl⟩
      go_wp2_with fail
      refine (rInf32 _).mono ?_
      rintro e w1 ⟨rfl, rfl⟩
      go_wp2_with fail
      go_ret
      exact ⟨rfl, rfl⟩
    · rw [if_neg h2]
      have h2' : ((b : Int) == 2139095040) = false := by simp; omega
      clear h2
      by_cases h3 : b % 2147483648 = 0
      · rw [if_pos h3]
        have H3 := fhide h3
        clear h3
        go_enter Try.func15, Try.ntmps15
        go_wp2_with fail
        refine (rIsNan32 b _ hb).mono ?_
        rw [decide_eq_false H1.out]
        rintro e w1 ⟨rfl, rfl⟩
        go_wp2_with fail
        refine (rInf32 _).mono ?_
        rintro e w1 ⟨rfl, rfl⟩
        go_wp2_with fail
        refine (rIsZero32 b _ hb).mono ?_
        rw [decide_eq_true H3.out]
        rintro e w1 ⟨rfl, rfl⟩
        go_wp2_with fail
        go_ret
        exact ⟨rfl, rfl⟩
      · rw [if_neg h3]
        have H3 := fhide h3
        clear h3
        by_cases h4 : b < 2147483648
        · rw [if_pos h4]
          have hx : ((b + 1 : Nat) : Int) = (b : Int) + 1 := by omega
          rw [hx]
          have hl : (b : Int) + 1 < 18446744073709551616 := by omega
          have H4 := fhide (show ¬ 2147483648 ≤ b by omega)
          clear h4 hx
          go_enter Try.func15, Try.ntmps15
          go_wp2_with fail
          refine (rIsNan32 b _ hb).mono ?_
          rw [decide_eq_false H1.out]
          rintro e w1 ⟨rfl, rfl⟩
          go_wp2_with fail
          refine (rInf32 _).mono ?_
          rintro e w1 ⟨rfl, rfl⟩
          go_wp2_with fail
          refine (rIsZero32 b _ hb).mono ?_
          rw [decide_eq_false H3.out]
          rintro e w1 ⟨rfl, rfl⟩
          go_wp2_with fail
          refine (rNeg32 b _ hb).mono ?_
          rw [decide_eq_false H4.out]
          rintro e w1 ⟨rfl, rfl⟩
          go_wp2_with fail
          go_ret
          exact ⟨rfl, rfl⟩
        · rw [if_neg h4]
          have hx : ((b - 1 : Nat) : Int) = (b : Int) - 1 := by omega
          rw [hx]
          have hl : (1 : Int) ≤ (b : Int) := by have := H3.out; omega
          have H4 := fhide (show 2147483648 ≤ b by omega)
          clear h4 hx
          go_enter Try.func15, Try.ntmps15
          go_wp2_with fail
          refine (rIsNan32 b _ hb).mono ?_
          rw [decide_eq_false H1.out]
          rintro e w1 ⟨rfl, rfl⟩
          go_wp2_with fail
          refine (rInf32 _).mono ?_
          rintro e w1 ⟨rfl, rfl⟩
          go_wp2_with fail
          refine (rIsZero32 b _ hb).mono ?_
          rw [decide_eq_false H3.out]
          rintro e w1 ⟨rfl, rfl⟩
          go_wp2_with fail
          refine (rNeg32 b _ hb).mono ?_
          rw [decide_eq_true H4.out]
          rintro e w1 ⟨rfl, rfl⟩
          go_wp2_with fail
          go_ret
          exact ⟨rfl, rfl⟩
set_option maxRecDepth 100000 in
set_option maxHeartbeats 1000000 in
theorem rDown32 (b : Nat) (w : World) (hb : b < 4294967296) : Calls Try.prog 17 #[.int .u64 b, .int .i64 32] w fun e w' => e = .returned (.int .u64 (down32 b : Nat)) ∧ w' = w := by
  unfold down32
  by_cases h1 : 2139095040 < b % 2147483648
  · rw [if_pos h1]
    go_enter Try.func17, Try.ntmps17
    go_wp2_with fail
    refine (rIsNan32 b _ hb).mono ?_
    rw [decide_eq_true h1]
    rintro e w1 ⟨rfl, rfl⟩
    go_wp2_with fail
    refine (rNan32 _).mono ?_
    rintro e w1 ⟨rfl, rfl⟩
    go_wp2_with fail
    go_ret
    exact ⟨rfl, rfl⟩
  · rw [if_neg h1]
    have hf1 := c32_flip b hb
    have hf2 := c32_flip (up32 (flip32 b)) (up32_lt _ (flip32_lt b hb))
    have hU := fhide (fun w : World => rUp32 (flip32 b) w (flip32_lt b hb))
    generalize flip32 b = fb at *
    generalize up32 fb = ub at *
    generalize flip32 ub = fu at *
    go_enter Try.func17, Try.ntmps17
    go_wp2_with fail
    refine (rIsNan32 b _ hb).mono ?_
    rw [decide_eq_false h1]
    rintro e w1 ⟨rfl, rfl⟩
    go_wp2_with fail
    refine (rSign32 _).mono ?_
    rintro e w1 ⟨rfl, rfl⟩
    go_wp2_with (simp only [hf1])
    refine (hU.out _).mono ?_
    rintro e w1 ⟨rfl, rfl⟩
    go_wp2_with fail
    refine (rSign32 _).mono ?_
    rintro e w1 ⟨rfl, rfl⟩
    go_wp2_with (simp only [hf2])
    go_ret
    exact ⟨rfl, rfl⟩
/-- How far two are apart. -/
def dist32 (a b : Nat) : Nat := if key32 a < key32 b then key32 b - key32 a else key32 a - key32 b
set_option maxRecDepth 100000 in
theorem rDistance32 (a b : Nat) (w : World) (ha : a < 4294967296) (hb : b < 4294967296) : Calls Try.prog 27 #[.int .u64 a, .int .u64 b, .int .i64 32] w fun e w' => e = .returned (.int .u64 (dist32 a b : Nat)) ∧ w' = w := by
  unfold dist32
  have hA := fhide (fun w : World => rKey32 a w ha)
  have hB := fhide (fun w : World => rKey32 b w hb)
  have la := key32_lt a ha
  have lb := key32_lt b hb
  generalize key32 a = x at *
  generalize key32 b = y at *
  by_cases h : x < y
  · rw [if_pos h]
    have h' : (x : Int) < (y : Int) := by omega
    have hx : ((y - x : Nat) : Int) = (y : Int) - (x : Int) := by omega
    rw [hx]
    go_enter Try.func27, Try.ntmps27
    go_wp2_with fail
    refine (hA.out _).mono ?_
    rintro e w1 ⟨rfl, rfl⟩
    go_wp2_with fail
    refine (hB.out _).mono ?_
    rintro e w1 ⟨rfl, rfl⟩
    go_wp2_with fail
    go_ret
    exact ⟨rfl, rfl⟩
  · rw [if_neg h]
    have h' : ¬ (x : Int) < (y : Int) := by omega
    have hx : ((x - y : Nat) : Int) = (x : Int) - (y : Int) := by omega
    rw [hx]
    go_enter Try.func27, Try.ntmps27
    go_wp2_with fail
    refine (hA.out _).mono ?_
    rintro e w1 ⟨rfl, rfl⟩
    go_wp2_with fail
    refine (hB.out _).mono ?_
    rintro e w1 ⟨rfl, rfl⟩
    go_wp2_with fail
    go_ret
    exact ⟨rfl, rfl⟩
end Go.Proofs.Ytdiinhccfifiaaa
