/- The document's Compare; Distance. -/
import Derived.Test.YtdiinhccfifiaaaFV
namespace Go.Proofs.Ytdiinhccfifiaaa
open Go.RowKit
open Flt
set_option linter.unusedVariables false
set_option linter.unusedSimpArgs false

set_option maxRecDepth 100000 in
set_option maxHeartbeats 2000000 in
theorem rCompare64 (a b : Nat) (w : World) (ha : a < 18446744073709551616) (hb : b < 18446744073709551616) : Calls Try.prog 25 #[.int .u64 a, .int .u64 b, .int .i64 64] w fun e w' => e = .returned (.tuple #[.int .i64 (cmpI (ord64 a b)), .bool (ord64 a b).isSome]) ∧ w' = w := by
  unfold ord64
  by_cases na' : 9218868437227405312 < a % 9223372036854775808
  · rw [if_pos (Or.inl na')]
    have na := fhide na'
    clear na'
    go_enter Try.func25, Try.ntmps25
    go_wp2_with fail
    refine (rIsNan64 a _ ha).mono ?_
    rw [decide_eq_true na.out]
    rintro e w1 ⟨rfl, rfl⟩
    go_wp2_with fail
    go_ret2
    exact ⟨rfl, rfl⟩
  · by_cases nb' : 9218868437227405312 < b % 9223372036854775808
    · rw [if_pos (Or.inr nb')]
      have na := fhide na'
      have nb := fhide nb'
      clear na' nb'
      go_enter Try.func25, Try.ntmps25
      go_wp2_with fail
      refine (rIsNan64 a _ ha).mono ?_
      rw [decide_eq_false na.out]
      rintro e w1 ⟨rfl, rfl⟩
      go_wp2_with fail
      refine (rIsNan64 b _ hb).mono ?_
      rw [decide_eq_true nb.out]
      rintro e w1 ⟨rfl, rfl⟩
      go_wp2_with fail
      go_ret2
      exact ⟨rfl, rfl⟩
    · rw [if_neg (show ¬ (9218868437227405312 < a % 9223372036854775808 ∨ 9218868437227405312 < b % 9223372036854775808) by omega)]
      have na := fhide na'
      have nb := fhide nb'
      clear na' nb'
      have hA := fhide (fun w : World => rKey64 a w ha)
      have hB := fhide (fun w : World => rKey64 b w hb)
      have hk : key64 a < key64 b ∨ key64 b < key64 a ∨ key64 a = key64 b := by omega
      generalize key64 a = x at *
      generalize key64 b = y at *
      by_cases ea' : a % 9223372036854775808 = 0
      · have ea := fhide ea'
        by_cases eb' : b % 9223372036854775808 = 0
        · rw [if_pos (show a % 9223372036854775808 = 0 ∧ b % 9223372036854775808 = 0 from ⟨ea', eb'⟩)]
          have eb := fhide eb'
          clear ea' eb' hk
          go_enter Try.func25, Try.ntmps25
          go_wp2_with fail
          refine (rIsNan64 a _ ha).mono ?_
          rw [decide_eq_false na.out]
          rintro e w1 ⟨rfl, rfl⟩
          go_wp2_with fail
          refine (rIsNan64 b _ hb).mono ?_
          rw [decide_eq_false nb.out]
          rintro e w1 ⟨rfl, rfl⟩
          go_wp2_with fail
          refine (rIsZero64 a _ ha).mono ?_
          rw [decide_eq_true ea.out]
          rintro e w1 ⟨rfl, rfl⟩
          go_wp2_with fail
          refine (rIsZero64 b _ hb).mono ?_
          rw [decide_eq_true eb.out]
          rintro e w1 ⟨rfl, rfl⟩
          go_wp2_with fail
          go_ret2
          exact ⟨rfl, rfl⟩
        · rw [if_neg (show ¬ (a % 9223372036854775808 = 0 ∧ b % 9223372036854775808 = 0) from fun h => eb' h.2)]
          have eb := fhide eb'
          clear ea' eb'
          rcases hk with hk | hk | hk
          · rw [if_pos hk]
            have q1 : x < y := by omega
            clear hk
            go_enter Try.func25, Try.ntmps25
            go_wp2_with fail
            refine (rIsNan64 a _ ha).mono ?_
            rw [decide_eq_false na.out]
            rintro e w1 ⟨rfl, rfl⟩
            go_wp2_with fail
            refine (rIsNan64 b _ hb).mono ?_
            rw [decide_eq_false nb.out]
            rintro e w1 ⟨rfl, rfl⟩
            go_wp2_with fail
            refine (rIsZero64 a _ ha).mono ?_
            rw [decide_eq_true ea.out]
            rintro e w1 ⟨rfl, rfl⟩
            go_wp2_with fail
            refine (rIsZero64 b _ hb).mono ?_
            rw [decide_eq_false eb.out]
            rintro e w1 ⟨rfl, rfl⟩
            go_wp2_with fail
            refine (hA.out _).mono ?_
            rintro e w1 ⟨rfl, rfl⟩
            go_wp2_with fail
            refine (hB.out _).mono ?_
            rintro e w1 ⟨rfl, rfl⟩
            go_wp2_with fail
            go_ret2
            exact ⟨rfl, rfl⟩
          · rw [if_neg (show ¬ x < y by omega), if_pos hk]
            have q1 : ¬ x < y := by omega
            have q2 : y < x := by omega
            clear hk
            go_enter Try.func25, Try.ntmps25
            go_wp2_with fail
            refine (rIsNan64 a _ ha).mono ?_
            rw [decide_eq_false na.out]
            rintro e w1 ⟨rfl, rfl⟩
            go_wp2_with fail
            refine (rIsNan64 b _ hb).mono ?_
            rw [decide_eq_false nb.out]
            rintro e w1 ⟨rfl, rfl⟩
            go_wp2_with fail
            refine (rIsZero64 a _ ha).mono ?_
            rw [decide_eq_true ea.out]
            rintro e w1 ⟨rfl, rfl⟩
            go_wp2_with fail
            refine (rIsZero64 b _ hb).mono ?_
            rw [decide_eq_false eb.out]
            rintro e w1 ⟨rfl, rfl⟩
            go_wp2_with fail
            refine (hA.out _).mono ?_
            rintro e w1 ⟨rfl, rfl⟩
            go_wp2_with fail
            refine (hB.out _).mono ?_
            rintro e w1 ⟨rfl, rfl⟩
            go_wp2_with fail
            go_ret2
            exact ⟨rfl, rfl⟩
          · rw [if_neg (show ¬ x < y by omega), if_neg (show ¬ y < x by omega)]
            have q1 : ¬ x < y := by omega
            have q2 : ¬ y < x := by omega
            clear hk
            go_enter Try.func25, Try.ntmps25
            go_wp2_with fail
            refine (rIsNan64 a _ ha).mono ?_
            rw [decide_eq_false na.out]
            rintro e w1 ⟨rfl, rfl⟩
            go_wp2_with fail
            refine (rIsNan64 b _ hb).mono ?_
            rw [decide_eq_false nb.out]
            rintro e w1 ⟨rfl, rfl⟩
            go_wp2_with fail
            refine (rIsZero64 a _ ha).mono ?_
            rw [decide_eq_true ea.out]
            rintro e w1 ⟨rfl, rfl⟩
            go_wp2_with fail
            refine (rIsZero64 b _ hb).mono ?_
            rw [decide_eq_false eb.out]
            rintro e w1 ⟨rfl, rfl⟩
            go_wp2_with fail
            refine (hA.out _).mono ?_
            rintro e w1 ⟨rfl, rfl⟩
            go_wp2_with fail
            refine (hB.out _).mono ?_
            rintro e w1 ⟨rfl, rfl⟩
            go_wp2_with fail
            go_ret2
            exact ⟨rfl, rfl⟩
      · rw [if_neg (show ¬ (a % 9223372036854775808 = 0 ∧ b % 9223372036854775808 = 0) from fun h => ea' h.1)]
        have ea := fhide ea'
        clear ea'
        rcases hk with hk | hk | hk
        · rw [if_pos hk]
          have q1 : x < y := by omega
          clear hk
          go_enter Try.func25, Try.ntmps25
          go_wp2_with fail
          refine (rIsNan64 a _ ha).mono ?_
          rw [decide_eq_false na.out]
          rintro e w1 ⟨rfl, rfl⟩
          go_wp2_with fail
          refine (rIsNan64 b _ hb).mono ?_
          rw [decide_eq_false nb.out]
          rintro e w1 ⟨rfl, rfl⟩
          go_wp2_with fail
          refine (rIsZero64 a _ ha).mono ?_
          rw [decide_eq_false ea.out]
          rintro e w1 ⟨rfl, rfl⟩
          go_wp2_with fail
          refine (hA.out _).mono ?_
          rintro e w1 ⟨rfl, rfl⟩
          go_wp2_with fail
          refine (hB.out _).mono ?_
          rintro e w1 ⟨rfl, rfl⟩
          go_wp2_with fail
          go_ret2
          exact ⟨rfl, rfl⟩
        · rw [if_neg (show ¬ x < y by omega), if_pos hk]
          have q1 : ¬ x < y := by omega
          have q2 : y < x := by omega
          clear hk
          go_enter Try.func25, Try.ntmps25
          go_wp2_with fail
          refine (rIsNan64 a _ ha).mono ?_
          rw [decide_eq_false na.out]
          rintro e w1 ⟨rfl, rfl⟩
          go_wp2_with fail
          refine (rIsNan64 b _ hb).mono ?_
          rw [decide_eq_false nb.out]
          rintro e w1 ⟨rfl, rfl⟩
          go_wp2_with fail
          refine (rIsZero64 a _ ha).mono ?_
          rw [decide_eq_false ea.out]
          rintro e w1 ⟨rfl, rfl⟩
          go_wp2_with fail
          refine (hA.out _).mono ?_
          rintro e w1 ⟨rfl, rfl⟩
          go_wp2_with fail
          refine (hB.out _).mono ?_
          rintro e w1 ⟨rfl, rfl⟩
          go_wp2_with fail
          go_ret2
          exact ⟨rfl, rfl⟩
        · rw [if_neg (show ¬ x < y by omega), if_neg (show ¬ y < x by omega)]
          have q1 : ¬ x < y := by omega
          have q2 : ¬ y < x := by omega
          clear hk
          go_enter Try.func25, Try.ntmps25
          go_wp2_with fail
          refine (rIsNan64 a _ ha).mono ?_
          rw [decide_eq_false na.out]
          rintro e w1 ⟨rfl, rfl⟩
          go_wp2_with fail
          refine (rIsNan64 b _ hb).mono ?_
          rw [decide_eq_false nb.out]
          rintro e w1 ⟨rfl, rfl⟩
          go_wp2_with fail
          refine (rIsZero64 a _ ha).mono ?_
          rw [decide_eq_false ea.out]
          rintro e w1 ⟨rfl, rfl⟩
          go_wp2_with fail
          refine (hA.out _).mono ?_
          rintro e w1 ⟨rfl, rfl⟩
          go_wp2_with fail
          refine (hB.out _).mono ?_
          rintro e w1 ⟨rfl, rfl⟩
          go_wp2_with fail
          go_ret2
          exact ⟨rfl, rfl⟩
set_option maxRecDepth 100000 in
set_option maxHeartbeats 1000000 in
theorem Distance64_any (a b : Nat) (w : World) (ha : a < 18446744073709551616) (hb : b < 18446744073709551616) : Calls Try.prog 26 #[.int .u64 a, .int .u64 b] w fun e w' => e = .returned (.int .u64 (dist64 a b : Nat)) ∧ Below w.heap.size w w' := by
  unfold dist64
  have hA := fhide (fun w : World => Key64_any a w ha)
  have hB := fhide (fun w : World => Key64_any b w hb)
  have la := key64_lt a ha
  have lb := key64_lt b hb
  generalize key64 a = x at *
  generalize key64 b = y at *
  by_cases h : x < y
  · rw [if_pos h]
    have h' : (x : Int) < (y : Int) := by omega
    have h1 : max (x : Int) (y : Int) = (y : Int) := by omega
    have h2 : min (x : Int) (y : Int) = (x : Int) := by omega
    have h3 : ((y : Int) - (x : Int)) % 18446744073709551616 = ((y - x : Nat) : Int) := by omega
    have hx : ((y - x : Nat) : Int) = (y : Int) - (x : Int) := by omega
    clear h
    rw [hx]
    go_enter Try.func26, Try.ntmps26
    go_wp2_with fail
    refine (hA.out _).mono ?_
    rintro e w1 ⟨rfl, hb1⟩
    have J1 := fhide hb1
    clear hb1
    go_wp2_with fail
    refine (hB.out _).mono ?_
    rintro e w2 ⟨rfl, hb2⟩
    have J2 := fhide (J1.out.trans (hb2.mono J1.out.size))
    clear hb2 J1
    go_wp2_with (simp only [h1, h2])
    refine (hA.out _).mono ?_
    rintro e w3 ⟨rfl, hb3⟩
    have J3 := fhide (J2.out.trans (hb3.mono J2.out.size))
    clear hb3 J2
    go_wp2_with (simp only [h1, h2])
    refine (hB.out _).mono ?_
    rintro e w4 ⟨rfl, hb4⟩
    have J4 := fhide (J3.out.trans (hb4.mono J3.out.size))
    clear hb4 J3
    go_wp2_with (simp only [h1, h2])
    go_ret
    exact ⟨rfl, J4.out⟩
  · rw [if_neg h]
    by_cases h0 : y < x
    · have h' : (y : Int) < (x : Int) := by omega
      have h1 : max (x : Int) (y : Int) = (x : Int) := by omega
      have h2 : min (x : Int) (y : Int) = (y : Int) := by omega
      have hx : ((x - y : Nat) : Int) = (x : Int) - (y : Int) := by omega
      have h4 : ¬ x < y := by omega
      clear h
      rw [hx]
      go_enter Try.func26, Try.ntmps26
      go_wp2_with fail
      refine (hA.out _).mono ?_
      rintro e w1 ⟨rfl, hb1⟩
      have J1 := fhide hb1
      clear hb1
      go_wp2_with fail
      refine (hB.out _).mono ?_
      rintro e w2 ⟨rfl, hb2⟩
      have J2 := fhide (J1.out.trans (hb2.mono J1.out.size))
      clear hb2 J1
      go_wp2_with (simp only [h1, h2])
      refine (hA.out _).mono ?_
      rintro e w3 ⟨rfl, hb3⟩
      have J3 := fhide (J2.out.trans (hb3.mono J2.out.size))
      clear hb3 J2
      go_wp2_with (simp only [h1, h2])
      refine (hB.out _).mono ?_
      rintro e w4 ⟨rfl, hb4⟩
      have J4 := fhide (J3.out.trans (hb4.mono J3.out.size))
      clear hb4 J3
      go_wp2_with (simp only [h1, h2])
      go_ret
      exact ⟨rfl, J4.out⟩
    · obtain rfl : x = y := by omega
      have h1 : max (x : Int) (x : Int) = (x : Int) := by omega
      have h2 : min (x : Int) (x : Int) = (x : Int) := by omega
      have hx : ((x - x : Nat) : Int) = 0 := by omega
      clear h h0
      rw [hx]
      go_enter Try.func26, Try.ntmps26
      go_wp2_with fail
      refine (hA.out _).mono ?_
      rintro e w1 ⟨rfl, hb1⟩
      have J1 := fhide hb1
      clear hb1
      go_wp2_with fail
      refine (hB.out _).mono ?_
      rintro e w2 ⟨rfl, hb2⟩
      have J2 := fhide (J1.out.trans (hb2.mono J1.out.size))
      clear hb2 J1
      go_wp2_with (simp only [h1, h2])
      refine (hA.out _).mono ?_
      rintro e w3 ⟨rfl, hb3⟩
      have J3 := fhide (J2.out.trans (hb3.mono J2.out.size))
      clear hb3 J2
      go_wp2_with (simp only [h1, h2])
      refine (hB.out _).mono ?_
      rintro e w4 ⟨rfl, hb4⟩
      have J4 := fhide (J3.out.trans (hb4.mono J3.out.size))
      clear hb4 J3
      go_wp2_with (simp only [h1, h2])
      go_ret
      exact ⟨rfl, J4.out⟩
set_option maxRecDepth 100000 in
set_option maxHeartbeats 2000000 in
theorem rCompare32 (a b : Nat) (w : World) (ha : a < 4294967296) (hb : b < 4294967296) : Calls Try.prog 25 #[.int .u64 a, .int .u64 b, .int .i64 32] w fun e w' => e = .returned (.tuple #[.int .i64 (cmpI (ord32 a b)), .bool (ord32 a b).isSome]) ∧ w' = w := by
  unfold ord32
  by_cases na' : 2139095040 < a % 2147483648
  · rw [if_pos (Or.inl na')]
    have na := fhide na'
    clear na'
    go_enter Try.func25, Try.ntmps25
    go_wp2_with fail
    refine (rIsNan32 a _ ha).mono ?_
    rw [decide_eq_true na.out]
    rintro e w1 ⟨rfl, rfl⟩
    go_wp2_with fail
    go_ret2
    exact ⟨rfl, rfl⟩
  · by_cases nb' : 2139095040 < b % 2147483648
    · rw [if_pos (Or.inr nb')]
      have na := fhide na'
      have nb := fhide nb'
      clear na' nb'
      go_enter Try.func25, Try.ntmps25
      go_wp2_with fail
      refine (rIsNan32 a _ ha).mono ?_
      rw [decide_eq_false na.out]
      rintro e w1 ⟨rfl, rfl⟩
      go_wp2_with fail
      refine (rIsNan32 b _ hb).mono ?_
      rw [decide_eq_true nb.out]
      rintro e w1 ⟨rfl, rfl⟩
      go_wp2_with fail
      go_ret2
      exact ⟨rfl, rfl⟩
    · rw [if_neg (show ¬ (2139095040 < a % 2147483648 ∨ 2139095040 < b % 2147483648) by omega)]
      have na := fhide na'
      have nb := fhide nb'
      clear na' nb'
      have hA := fhide (fun w : World => rKey32 a w ha)
      have hB := fhide (fun w : World => rKey32 b w hb)
      have hk : key32 a < key32 b ∨ key32 b < key32 a ∨ key32 a = key32 b := by omega
      generalize key32 a = x at *
      generalize key32 b = y at *
      by_cases ea' : a % 2147483648 = 0
      · have ea := fhide ea'
        by_cases eb' : b % 2147483648 = 0
        · rw [if_pos (show a % 2147483648 = 0 ∧ b % 2147483648 = 0 from ⟨ea', eb'⟩)]
          have eb := fhide eb'
          clear ea' eb' hk
          go_enter Try.func25, Try.ntmps25
          go_wp2_with fail
          refine (rIsNan32 a _ ha).mono ?_
          rw [decide_eq_false na.out]
          rintro e w1 ⟨rfl, rfl⟩
          go_wp2_with fail
          refine (rIsNan32 b _ hb).mono ?_
          rw [decide_eq_false nb.out]
          rintro e w1 ⟨rfl, rfl⟩
          go_wp2_with fail
          refine (rIsZero32 a _ ha).mono ?_
          rw [decide_eq_true ea.out]
          rintro e w1 ⟨rfl, rfl⟩
          go_wp2_with fail
          refine (rIsZero32 b _ hb).mono ?_
          rw [decide_eq_true eb.out]
          rintro e w1 ⟨rfl, rfl⟩
          go_wp2_with fail
          go_ret2
          exact ⟨rfl, rfl⟩
        · rw [if_neg (show ¬ (a % 2147483648 = 0 ∧ b % 2147483648 = 0) from fun h => eb' h.2)]
          have eb := fhide eb'
          clear ea' eb'
          rcases hk with hk | hk | hk
          · rw [if_pos hk]
            have q1 : x < y := by omega
            clear hk
            go_enter Try.func25, Try.ntmps25
            go_wp2_with fail
            refine (rIsNan32 a _ ha).mono ?_
            rw [decide_eq_false na.out]
            rintro e w1 ⟨rfl, rfl⟩
            go_wp2_with fail
            refine (rIsNan32 b _ hb).mono ?_
            rw [decide_eq_false nb.out]
            rintro e w1 ⟨rfl, rfl⟩
            go_wp2_with fail
            refine (rIsZero32 a _ ha).mono ?_
            rw [decide_eq_true ea.out]
            rintro e w1 ⟨rfl, rfl⟩
            go_wp2_with fail
            refine (rIsZero32 b _ hb).mono ?_
            rw [decide_eq_false eb.out]
            rintro e w1 ⟨rfl, rfl⟩
            go_wp2_with fail
            refine (hA.out _).mono ?_
            rintro e w1 ⟨rfl, rfl⟩
            go_wp2_with fail
            refine (hB.out _).mono ?_
            rintro e w1 ⟨rfl, rfl⟩
            go_wp2_with fail
            go_ret2
            exact ⟨rfl, rfl⟩
          · rw [if_neg (show ¬ x < y by omega), if_pos hk]
            have q1 : ¬ x < y := by omega
            have q2 : y < x := by omega
            clear hk
            go_enter Try.func25, Try.ntmps25
            go_wp2_with fail
            refine (rIsNan32 a _ ha).mono ?_
            rw [decide_eq_false na.out]
            rintro e w1 ⟨rfl, rfl⟩
            go_wp2_with fail
            refine (rIsNan32 b _ hb).mono ?_
            rw [decide_eq_false nb.out]
            rintro e w1 ⟨rfl, rfl⟩
            go_wp2_with fail
            refine (rIsZero32 a _ ha).mono ?_
            rw [decide_eq_true ea.out]
            rintro e w1 ⟨rfl, rfl⟩
            go_wp2_with fail
            refine (rIsZero32 b _ hb).mono ?_
            rw [decide_eq_false eb.out]
            rintro e w1 ⟨rfl, rfl⟩
            go_wp2_with fail
            refine (hA.out _).mono ?_
            rintro e w1 ⟨rfl, rfl⟩
            go_wp2_with fail
            refine (hB.out _).mono ?_
            rintro e w1 ⟨rfl, rfl⟩
            go_wp2_with fail
            go_ret2
            exact ⟨rfl, rfl⟩
          · rw [if_neg (show ¬ x < y by omega), if_neg (show ¬ y < x by omega)]
            have q1 : ¬ x < y := by omega
            have q2 : ¬ y < x := by omega
            clear hk
            go_enter Try.func25, Try.ntmps25
            go_wp2_with fail
            refine (rIsNan32 a _ ha).mono ?_
            rw [decide_eq_false na.out]
            rintro e w1 ⟨rfl, rfl⟩
            go_wp2_with fail
            refine (rIsNan32 b _ hb).mono ?_
            rw [decide_eq_false nb.out]
            rintro e w1 ⟨rfl, rfl⟩
            go_wp2_with fail
            refine (rIsZero32 a _ ha).mono ?_
            rw [decide_eq_true ea.out]
            rintro e w1 ⟨rfl, rfl⟩
            go_wp2_with fail
            refine (rIsZero32 b _ hb).mono ?_
            rw [decide_eq_false eb.out]
            rintro e w1 ⟨rfl, rfl⟩
            go_wp2_with fail
            refine (hA.out _).mono ?_
            rintro e w1 ⟨rfl, rfl⟩
            go_wp2_with fail
            refine (hB.out _).mono ?_
            rintro e w1 ⟨rfl, rfl⟩
            go_wp2_with fail
            go_ret2
            exact ⟨rfl, rfl⟩
      · rw [if_neg (show ¬ (a % 2147483648 = 0 ∧ b % 2147483648 = 0) from fun h => ea' h.1)]
        have ea := fhide ea'
        clear ea'
        rcases hk with hk | hk | hk
        · rw [if_pos hk]
          have q1 : x < y := by omega
          clear hk
          go_enter Try.func25, Try.ntmps25
          go_wp2_with fail
          refine (rIsNan32 a _ ha).mono ?_
          rw [decide_eq_false na.out]
          rintro e w1 ⟨rfl, rfl⟩
          go_wp2_with fail
          refine (rIsNan32 b _ hb).mono ?_
          rw [decide_eq_false nb.out]
          rintro e w1 ⟨rfl, rfl⟩
          go_wp2_with fail
          refine (rIsZero32 a _ ha).mono ?_
          rw [decide_eq_false ea.out]
          rintro e w1 ⟨rfl, rfl⟩
          go_wp2_with fail
          refine (hA.out _).mono ?_
          rintro e w1 ⟨rfl, rfl⟩
          go_wp2_with fail
          refine (hB.out _).mono ?_
          rintro e w1 ⟨rfl, rfl⟩
          go_wp2_with fail
          go_ret2
          exact ⟨rfl, rfl⟩
        · rw [if_neg (show ¬ x < y by omega), if_pos hk]
          have q1 : ¬ x < y := by omega
          have q2 : y < x := by omega
          clear hk
          go_enter Try.func25, Try.ntmps25
          go_wp2_with fail
          refine (rIsNan32 a _ ha).mono ?_
          rw [decide_eq_false na.out]
          rintro e w1 ⟨rfl, rfl⟩
          go_wp2_with fail
          refine (rIsNan32 b _ hb).mono ?_
          rw [decide_eq_false nb.out]
          rintro e w1 ⟨rfl, rfl⟩
          go_wp2_with fail
          refine (rIsZero32 a _ ha).mono ?_
          rw [decide_eq_false ea.out]
          rintro e w1 ⟨rfl, rfl⟩
          go_wp2_with fail
          refine (hA.out _).mono ?_
          rintro e w1 ⟨rfl, rfl⟩
          go_wp2_with fail
          refine (hB.out _).mono ?_
          rintro e w1 ⟨rfl, rfl⟩
          go_wp2_with fail
          go_ret2
          exact ⟨rfl, rfl⟩
        · rw [if_neg (show ¬ x < y by omega), if_neg (show ¬ y < x by omega)]
          have q1 : ¬ x < y := by omega
          have q2 : ¬ y < x := by omega
          clear hk
          go_enter Try.func25, Try.ntmps25
          go_wp2_with fail
          refine (rIsNan32 a _ ha).mono ?_
          rw [decide_eq_false na.out]
          rintro e w1 ⟨rfl, rfl⟩
          go_wp2_with fail
          refine (rIsNan32 b _ hb).mono ?_
          rw [decide_eq_false nb.out]
          rintro e w1 ⟨rfl, rfl⟩
          go_wp2_with fail
          refine (rIsZero32 a _ ha).mono ?_
          rw [decide_eq_false ea.out]
          rintro e w1 ⟨rfl, rfl⟩
          go_wp2_with fail
          refine (hA.out _).mono ?_
          rintro e w1 ⟨rfl, rfl⟩
          go_wp2_with fail
          refine (hB.out _).mono ?_
          rintro e w1 ⟨rfl, rfl⟩
          go_wp2_with fail
          go_ret2
          exact ⟨rfl, rfl⟩
set_option maxRecDepth 100000 in
set_option maxHeartbeats 1000000 in
theorem Distance32_any (a b : Nat) (w : World) (ha : a < 4294967296) (hb : b < 4294967296) : Calls Try.prog 29 #[.int .u32 a, .int .u32 b] w fun e w' => e = .returned (.int .u32 (dist32 a b : Nat)) ∧ Below w.heap.size w w' := by
  unfold dist32
  have hA := fhide (fun w : World => Key32_any a w ha)
  have hB := fhide (fun w : World => Key32_any b w hb)
  have la := key32_lt a ha
  have lb := key32_lt b hb
  generalize key32 a = x at *
  generalize key32 b = y at *
  by_cases h : x < y
  · rw [if_pos h]
    have h' : (x : Int) < (y : Int) := by omega
    have h1 : max (x : Int) (y : Int) = (y : Int) := by omega
    have h2 : min (x : Int) (y : Int) = (x : Int) := by omega
    have h3 : ((y : Int) - (x : Int)) % 4294967296 = ((y - x : Nat) : Int) := by omega
    have hx : ((y - x : Nat) : Int) = (y : Int) - (x : Int) := by omega
    clear h
    rw [hx]
    go_enter Try.func29, Try.ntmps29
    go_wp2_with fail
    refine (hA.out _).mono ?_
    rintro e w1 ⟨rfl, hb1⟩
    have J1 := fhide hb1
    clear hb1
    go_wp2_with fail
    refine (hB.out _).mono ?_
    rintro e w2 ⟨rfl, hb2⟩
    have J2 := fhide (J1.out.trans (hb2.mono J1.out.size))
    clear hb2 J1
    go_wp2_with (simp only [h1, h2])
    refine (hA.out _).mono ?_
    rintro e w3 ⟨rfl, hb3⟩
    have J3 := fhide (J2.out.trans (hb3.mono J2.out.size))
    clear hb3 J2
    go_wp2_with (simp only [h1, h2])
    refine (hB.out _).mono ?_
    rintro e w4 ⟨rfl, hb4⟩
    have J4 := fhide (J3.out.trans (hb4.mono J3.out.size))
    clear hb4 J3
    go_wp2_with (simp only [h1, h2])
    go_ret
    exact ⟨rfl, J4.out⟩
  · rw [if_neg h]
    by_cases h0 : y < x
    · have h' : (y : Int) < (x : Int) := by omega
      have h1 : max (x : Int) (y : Int) = (x : Int) := by omega
      have h2 : min (x : Int) (y : Int) = (y : Int) := by omega
      have hx : ((x - y : Nat) : Int) = (x : Int) - (y : Int) := by omega
      have h4 : ¬ x < y := by omega
      clear h
      rw [hx]
      go_enter Try.func29, Try.ntmps29
      go_wp2_with fail
      refine (hA.out _).mono ?_
      rintro e w1 ⟨rfl, hb1⟩
      have J1 := fhide hb1
      clear hb1
      go_wp2_with fail
      refine (hB.out _).mono ?_
      rintro e w2 ⟨rfl, hb2⟩
      have J2 := fhide (J1.out.trans (hb2.mono J1.out.size))
      clear hb2 J1
      go_wp2_with (simp only [h1, h2])
      refine (hA.out _).mono ?_
      rintro e w3 ⟨rfl, hb3⟩
      have J3 := fhide (J2.out.trans (hb3.mono J2.out.size))
      clear hb3 J2
      go_wp2_with (simp only [h1, h2])
      refine (hB.out _).mono ?_
      rintro e w4 ⟨rfl, hb4⟩
      have J4 := fhide (J3.out.trans (hb4.mono J3.out.size))
      clear hb4 J3
      go_wp2_with (simp only [h1, h2])
      go_ret
      exact ⟨rfl, J4.out⟩
    · obtain rfl : x = y := by omega
      have h1 : max (x : Int) (x : Int) = (x : Int) := by omega
      have h2 : min (x : Int) (x : Int) = (x : Int) := by omega
      have hx : ((x - x : Nat) : Int) = 0 := by omega
      clear h h0
      rw [hx]
      go_enter Try.func29, Try.ntmps29
      go_wp2_with fail
      refine (hA.out _).mono ?_
      rintro e w1 ⟨rfl, hb1⟩
      have J1 := fhide hb1
      clear hb1
      go_wp2_with fail
      refine (hB.out _).mono ?_
      rintro e w2 ⟨rfl, hb2⟩
      have J2 := fhide (J1.out.trans (hb2.mono J1.out.size))
      clear hb2 J1
      go_wp2_with (simp only [h1, h2])
      refine (hA.out _).mono ?_
      rintro e w3 ⟨rfl, hb3⟩
      have J3 := fhide (J2.out.trans (hb3.mono J2.out.size))
      clear hb3 J2
      go_wp2_with (simp only [h1, h2])
      refine (hB.out _).mono ?_
      rintro e w4 ⟨rfl, hb4⟩
      have J4 := fhide (J3.out.trans (hb4.mono J3.out.size))
      clear hb4 J3
      go_wp2_with (simp only [h1, h2])
      go_ret
      exact ⟨rfl, J4.out⟩
end Go.Proofs.Ytdiinhccfifiaaa
