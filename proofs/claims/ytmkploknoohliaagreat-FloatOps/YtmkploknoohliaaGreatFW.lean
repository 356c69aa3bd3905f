/- The document's Compare; Distance. -/
import Derived.Test.YtmkploknoohliaaGreatFV
namespace Go.Proofs.YtmkploknoohliaaGreat
open Go.RowKit
open Flt
set_option linter.unusedVariables false
set_option linter.unusedSimpArgs false

set_option maxRecDepth 100000 in
set_option maxHeartbeats 2000000 in
theorem rCompare64 (a b : Nat) (w : World) (ha : a < 18446744073709551616) (hb : b < 18446744073709551616) : Calls Tryz.prog 31 #[.int .u64 a, .int .u64 b, .int .i64 64] w fun e w' => e = .returned (.tuple #[.int .i64 (cmpI (ord64 a b)), .bool (ord64 a b).isSome]) ∧ w' = w := by
  unfold ord64
  by_cases na' : 9218868437227405312 < a % 9223372036854775808
  · rw [if_pos (Or.inl na')]
    have na := fhide na'
    clear na'
    go_enter Tryz.func31, Tryz.ntmps31
    go_wp2_with fail
    refine (rIsNan64 a _ ha).mono ?_
    rw [decide_eq_true na.out]
    rintro e w1 ⟨rfl, rfl⟩
    go_wp2_with fail
    go_ret2
    exact ⟨rfl, rfl⟩
  · by_cases nb' : 9218868437227405312 < b % 9223372036854775808
    · rw [if_pos (Or.inr nb')]
      have na := fhide na'
      have nb := fhide nb'
      clear na' nb'
      go_enter Tryz.func31, Tryz.ntmps31
      go_wp2_with fail
      refine (rIsNan64 a _ ha).mono ?_
      rw [decide_eq_false na.out]
      rintro e w1 ⟨rfl, rfl⟩
      go_wp2_with fail
      refine (rIsNan64 b _ hb).mono ?_
      rw [decide_eq_true nb.out]
      rintro e w1 ⟨rfl, rfl⟩
      go_wp2_with fail
      go_ret2
      exact ⟨rfl, rfl⟩
    · rw [if_neg (show ¬ (9218868437227405312 < a % 9223372036854775808 ∨ 9218868437227405312 < b % 9223372036854775808) by omega)]
      have na := fhide na'
      have nb := fhide nb'
      clear na' nb'
      have hA := fhide (fun w : World => rKey64 a w ha)
      have hB := fhide (fun w : World => rKey64 b w hb)
      have hk : key64 a < key64 b ∨ key64 b < key64 a ∨ key64 a = key64 b := by omega
      generalize key64 a = x at *
      generalize key64 b = y at *
      by_cases ea' : a % 9223372036854775808 = 0
      · have ea := fhide ea'
        by_cases eb' : b % 9223372036854775808 = 0
        · rw [if_pos (show a % 9223372036854775808 = 0 ∧ b % 9223372036854775808 = 0 from ⟨ea', eb'⟩)]
          have eb := fhide eb'
          clear ea' eb' hk
          go_enter Tryz.func31, Tryz.ntmps31
          go_wp2_with fail
          refine (rIsNan64 a _ ha).mono ?_
          rw [decide_eq_false na.out]
          rintro e w1 ⟨rfl, rfl⟩
          go_wp2_with fail
          refine (rIsNan64 b _ hb).mono ?_
          rw [decide_eq_false nb.out]
          rintro e w1 ⟨rfl, rfl⟩
          go_wp2_with fail
          refine (rIsZero64 a _ ha).mono ?_
          rw [decide_eq_true ea.out]
          rintro e w1 ⟨rfl, rfl⟩
          go_wp2_with fail
          refine (rIsZero64 b _ hb).mono ?_
          rw [decide_eq_true eb.out]
          rintro e w1 ⟨rfl, rfl⟩
          go_wp2_with fail
          go_ret2
          exact ⟨rfl, rfl⟩
        · rw [if_neg (show ¬ (a % 9223372036854775808 = 0 ∧ b % 9223372036854775808 = 0) from fun h => eb' h.2)]
          have eb := fhide eb'
          clear ea' eb'
          rcases hk with hk | hk | hk
          · rw [if_pos hk]
            have q1 : x < y := by omega
            clear hk
            go_enter Tryz.func31, Tryz.ntmps31
            go_wp2_with fail
            refine (rIsNan64 a _ ha).mono ?_
            rw [decide_eq_false na.out]
            rintro e w1 ⟨rfl, rfl⟩
            go_wp2_with fail
            refine (rIsNan64 b _ hb).mono ?_
            rw [decide_eq_false nb.out]
            rintro e w1 ⟨rfl, rfl⟩
            go_wp2_with fail
            refine (rIsZero64 a _ ha).mono ?_
            rw [decide_eq_true ea.out]
            rintro e w1 ⟨rfl, rfl⟩
            go_wp2_with fail
            refine (rIsZero64 b _ hb).mono ?_
            rw [decide_eq_false eb.out]
            rintro e w1 ⟨rfl, rfl⟩
            go_wp2_with fail
            refine (hA.out _).mono ?_
            rintro e w1 ⟨rfl, rfl⟩
            go_wp2_with fail
            refine (hB.out _).mono ?_
            rintro e w1 ⟨rfl, rfl⟩
            go_wp2_with fail
            go_ret2
            exact ⟨rfl, rfl⟩
          · rw [if_neg (show ¬ x < y by omega), if_pos hk]
            have q1 : ¬ x < y := by omega
            have q2 : y < x := by omega
            clear hk
            go_enter Tryz.func31, Tryz.ntmps31
            go_wp2_with fail
            refine (rIsNan64 a _ ha).mono ?_
            rw [decide_eq_false na.out]
            rintro e w1 ⟨rfl, rfl⟩
            go_wp2_with fail
            refine (rIsNan64 b _ hb).mono ?_
            rw [decide_eq_false nb.out]
            rintro e w1 ⟨rfl, rfl⟩
            go_wp2_with fail
            refine (rIsZero64 a _ ha).mono ?_
            rw [decide_eq_true ea.out]
            rintro e w1 ⟨rfl, rfl⟩
            go_wp2_with fail
            refine (rIsZero64 b _ hb).mono ?_
            rw [decide_eq_false eb.out]
            rintro e w1 ⟨rfl, rfl⟩
            go_wp2_with fail
            refine (hA.out _).mono ?_
            rintro e w1 ⟨rfl, rfl⟩
            go_wp2_with fail
            refine (hB.out _).mono ?_
            rintro e w1 ⟨rfl, rfl⟩
            go_wp2_with fail
            go_ret2
            exact ⟨rfl, rfl⟩
          · rw [if_neg (show ¬ x < y by omega), if_neg (show ¬ y < x by omega)]
            have q1 : ¬ x < y := by omega
            have q2 : ¬ y < x := by omega
            clear hk
            go_enter Tryz.func31, Tryz.ntmps31
            go_wp2_with fail
            refine (rIsNan64 a _ ha).mono ?_
            rw [decide_eq_false na.out]
            rintro e w1 ⟨rfl, rfl⟩
            go_wp2_with fail
            refine (rIsNan64 b _ hb).mono ?_
            rw [decide_eq_false nb.out]
            rintro e w1 ⟨rfl, rfl⟩
            go_wp2_with fail
            refine (rIsZero64 a _ ha).mono ?_
            rw [decide_eq_true ea.out]
            rintro e w1 ⟨rfl, rfl⟩
            go_wp2_with fail
            refine (rIsZero64 b _ hb).mono ?_
            rw [decide_eq_false eb.out]
            rintro e w1 ⟨rfl, rfl⟩
            go_wp2_with fail
            refine (hA.out _).mono ?_
            rintro e w1 ⟨rfl, rfl⟩
            go_wp2_with fail
            refine (hB.out _).mono ?_
            rintro e w1 ⟨rfl, rfl⟩
            go_wp2_with fail
            go_ret2
            exact ⟨rfl, rfl⟩
      · rw [if_neg (show ¬ (a % 9223372036854775808 = 0 ∧ b % 9223372036854775808 = 0) from fun h => ea' h.1)]
        have ea := fhide ea'
        clear ea'
        rcases hk with hk | hk | hk
        · rw [if_pos hk]
          have q1 : x < y := by omega
          clear hk
          go_enter Tryz.func31, Tryz.ntmps31
          go_wp2_with fail
          refine (rIsNan64 a _ ha).mono ?_
          rw [decide_eq_false na.out]
          rintro e w1 ⟨rfl, rfl⟩
          go_wp2_with fail
          refine (rIsNan64 b _ hb).mono ?_
          rw [decide_eq_false nb.out]
          rintro e w1 ⟨rfl, rfl⟩
          go_wp2_with fail
          refine (rIsZero64 a _ ha).mono ?_
          rw [decide_eq_false ea.out]
          rintro e w1 ⟨rfl, rfl⟩
          go_wp2_with fail
          refine (hA.out _).mono ?_
          rintro e w1 ⟨rfl, rfl⟩
          go_wp2_with fail
          refine (hB.out _).mono ?_
          rintro e w1 ⟨rfl, rfl⟩
          go_wp2_with fail
          go_ret2
          exact ⟨rfl, rfl⟩
        · rw [if_neg (show ¬ x < y by omega), if_pos hk]
          have q1 : ¬ x < y := by omega
          have q2 : y < x := by omega
          clear hk
          go_enter Tryz.func31, Tryz.ntmps31
          go_wp2_with fail
          refine (rIsNan64 a _ ha).mono ?_
          rw [decide_eq_false na.out]
          rintro e w1 ⟨rfl, rfl⟩
          go_wp2_with fail
          refine (rIsNan64 b _ hb).mono ?_
          rw [decide_eq_false nb.out]
          rintro e w1 ⟨rfl, rfl⟩
          go_wp2_with fail
          refine (rIsZero64 a _ ha).mono ?_
          rw [decide_eq_false ea.out]
          rintro e w1 ⟨rfl, rfl⟩
          go_wp2_with fail
          refine (hA.out _).mono ?_
          rintro e w1 ⟨rfl, rfl⟩
          go_wp2_with fail
          refine (hB.out _).mono ?_
          rintro e w1 ⟨rfl, rfl⟩
          go_wp2_with fail
          go_ret2
          exact ⟨rfl, rfl⟩
        · rw [if_neg (show ¬ x < y by omega), if_neg (show ¬ y < x by omega)]
          have q1 : ¬ x < y := by omega
          have q2 : ¬ y < x := by omega
          clear hk
          go_enter Tryz.func31, Tryz.ntmps31
          go_wp2_with fail
          refine (rIsNan64 a _ ha).mono ?_
          rw [decide_eq_false na.out]
          rintro e w1 ⟨rfl, rfl⟩
          go_wp2_with fail
          refine (rIsNan64 b _ hb).mono ?_
          rw [decide_eq_false nb.out]
          rintro e w1 ⟨rfl, rfl⟩
          go_wp2_with fail
          refine (rIsZero64 a _ ha).mono ?_
          rw [decide_eq_false ea.out]
          rintro e w1 ⟨rfl, rfl⟩
          go_wp2_with fail
          refine (hA.out _).mono ?_
          rintro e w1 ⟨rfl, rfl⟩
          go_wp2_with fail
          refine (hB.out _).mono ?_
          rintro e w1 ⟨rfl, rfl⟩
          go_wp2_with fail
          go_ret2
          exact ⟨rfl, rfl⟩
set_option maxRecDepth 100000 in
set_option maxHeartbeats 2000000 in
theorem rCompare32 (a b : Nat) (w : World) (ha : a < 4294967296) (hb : b < 4294967296) : Calls Tryz.prog 31 #[.int .u64 a, .int .u64 b, .int .i64 32] w fun e w' => e = .returned (.tuple #[.int .i64 (cmpI (ord32 a b)), .bool (ord32 a b).isSome]) ∧ w' = w := by
  unfold ord32
  by_cases na' : 2139095040 < a % 2147483648
  · rw [if_pos (Or.inl na')]
    have na := fhide na'
    clear na'
    go_enter Tryz.func31, Tryz.ntmps31
    go_wp2_with fail
    refine (rIsNan32 a _ ha).mono ?_
    rw [decide_eq_true na.out]
    rintro e w1 ⟨rfl, rfl⟩
    go_wp2_with fail
    go_ret2
    exact ⟨rfl, rfl⟩
  · by_cases nb' : 2139095040 < b % 2147483648
    · rw [if_pos (Or.inr nb')]
      have na := fhide na'
      have nb := fhide nb'
      clear na' nb'
      go_enter Tryz.func31, Tryz.ntmps31
      go_wp2_with fail
      refine (rIsNan32 a _ ha).mono ?_
      rw [decide_eq_false na.out]
      rintro e w1 ⟨rfl, rfl⟩
      go_wp2_with fail
      refine (rIsNan32 b _ hb).mono ?_
      rw [decide_eq_true nb.out]
      rintro e w1 ⟨rfl, rfl⟩
      go_wp2_with fail
      go_ret2
      exact ⟨rfl, rfl⟩
    · rw [if_neg (show ¬ (2139095040 < a % 2147483648 ∨ 2139095040 < b % 2147483648) by omega)]
      have na := fhide na'
      have nb := fhide nb'
      clear na' nb'
      have hA := fhide (fun w : World => rKey32 a w ha)
      have hB := fhide (fun w : World => rKey32 b w hb)
      have hk : key32 a < key32 b ∨ key32 b < key32 a ∨ key32 a = key32 b := by omega
      generalize key32 a = x at *
      generalize key32 b = y at *
      by_cases ea' : a % 2147483648 = 0
      · have ea := fhide ea'
        by_cases eb' : b % 2147483648 = 0
        · rw [if_pos (show a % 2147483648 = 0 ∧ b % 2147483648 = 0 from ⟨ea', eb'⟩)]
          have eb := fhide eb'
          clear ea' eb' hk
          go_enter Tryz.func31, Tryz.ntmps31
          go_wp2_with fail
          refine (rIsNan32 a _ ha).mono ?_
          rw [decide_eq_false na.out]
          rintro e w1 ⟨rfl, rfl⟩
          go_wp2_with fail
          refine (rIsNan32 b _ hb).mono ?_
          rw [decide_eq_false nb.out]
          rintro e w1 ⟨rfl, rfl⟩
          go_wp2_with fail
          refine (rIsZero32 a _ ha).mono ?_
          rw [decide_eq_true ea.out]
          rintro e w1 ⟨rfl, rfl⟩
          go_wp2_with fail
          refine (rIsZero32 b _ hb).mono ?_
          rw [decide_eq_true eb.out]
          rintro e w1 ⟨rfl, rfl⟩
          go_wp2_with fail
          go_ret2
          exact ⟨rfl, rfl⟩
        · rw [if_neg (show ¬ (a % 2147483648 = 0 ∧ b % 2147483648 = 0) from fun h => eb' h.2)]
          have eb := fhide eb'
          clear ea' eb'
          rcases hk with hk | hk | hk
          · rw [if_pos hk]
            have q1 : x < y := by omega
            clear hk
            go_enter Tryz.func31, Tryz.ntmps31
            go_wp2_with fail
            refine (rIsNan32 a _ ha).mono ?_
            rw [decide_eq_false na.out]
            rintro e w1 ⟨rfl, rfl⟩
            go_wp2_with fail
            refine (rIsNan32 b _ hb).mono ?_
            rw [decide_eq_false nb.out]
            rintro e w1 ⟨rfl, rfl⟩
            go_wp2_with fail
            refine (rIsZero32 a _ ha).mono ?_
            rw [decide_eq_true ea.out]
            rintro e w1 ⟨rfl, rfl⟩
            go_wp2_with fail
            refine (rIsZero32 b _ hb).mono ?_
            rw [decide_eq_false eb.out]
            rintro e w1 ⟨rfl, rfl⟩
            go_wp2_with fail
            refine (hA.out _).mono ?_
            rintro e w1 ⟨rfl, rfl⟩
            go_wp2_with fail
            refine (hB.out _).mono ?_
            rintro e w1 ⟨rfl, rfl⟩
            go_wp2_with fail
            go_ret2
            exact ⟨rfl, rfl⟩
          · rw [if_neg (show ¬ x < y by omega), if_pos hk]
            have q1 : ¬ x < y := by omega
            have q2 : y < x := by omega
            clear hk
            go_enter Tryz.func31, Tryz.ntmps31
            go_wp2_with fail
            refine (rIsNan32 a _ ha).mono ?_
            rw [decide_eq_false na.out]
            rintro e w1 ⟨rfl, rfl⟩
            go_wp2_with fail
            refine (rIsNan32 b _ hb).mono ?_
            rw [decide_eq_false nb.out]
            rintro e w1 ⟨rfl, rfl⟩
            go_wp2_with fail
            refine (rIsZero32 a _ ha).mono ?_
            rw [decide_eq_true ea.out]
            rintro e w1 ⟨rfl, rfl⟩
            go_wp2_with fail
            refine (rIsZero32 b _ hb).mono ?_
            rw [decide_eq_false eb.out]
            rintro e w1 ⟨rfl, rfl⟩
            go_wp2_with fail
            refine (hA.out _).mono ?_
            rintro e w1 ⟨rfl, rfl⟩
            go_wp2_with fail
            refine (hB.out _).mono ?_
            rintro e w1 ⟨rfl, rfl⟩
            go_wp2_with fail
            go_ret2
            exact ⟨rfl, rfl⟩
          · rw [if_neg (show ¬ x < y by omega), if_neg (show ¬ y < x by omega)]
            have q1 : ¬ x < y := by omega
            have q2 : ¬ y < x := by omega
            clear hk
            go_enter Tryz.func31, Tryz.ntmps31
            go_wp2_with fail
            refine (rIsNan32 a _ ha).mono ?_
            rw [decide_eq_false na.out]
            rintro e w1 ⟨rfl, rfl⟩
            go_wp2_with fail
            refine (rIsNan32 b _ hb).mono ?_
            rw [decide_eq_false nb.out]
            rintro e w1 ⟨rfl, rfl⟩
            go_wp2_with fail
            refine (rIsZero32 a _ ha).mono ?_
            rw [decide_eq_true ea.out]
            rintro e w1 ⟨rfl, rfl⟩
            go_wp2_with fail
            refine (rIsZero32 b _ hb).mono ?_
            rw [decide_eq_false eb.out]
            rintro e w1 ⟨rfl, rfl⟩
            go_wp2_with fail
            refine (hA.out _).mono ?_
            rintro e w1 ⟨rfl, rfl⟩
            go_wp2_with fail
            refine (hB.out _).mono ?_
            rintro e w1 ⟨rfl, rfl⟩
            go_wp2_with fail
            go_ret2
            exact ⟨rfl, rfl⟩
      · rw [if_neg (show ¬ (a % 2147483648 = 0 ∧ b % 2147483648 = 0) from fun h => ea' h.1)]
        have ea := fhide ea'
        clear ea'
        rcases hk with hk | hk | hk
        · rw [if_pos hk]
          have q1 : x < y := by omega
          clear hk
          go_enter Tryz.func31, Tryz.ntmps31
          go_wp2_with fail
          refine (rIsNan32 a _ ha).mono ?_
          rw [decide_eq_false na.out]
          rintro e w1 ⟨rfl, rfl⟩
          go_wp2_with fail
          refine (rIsNan32 b _ hb).mono ?_
          rw [decide_eq_false nb.out]
          rintro e w1 ⟨rfl, rfl⟩
          go_wp2_with fail
          refine (rIsZero32 a _ ha).mono ?_
          rw [decide_eq_false ea.out]
          rintro e w1 ⟨rfl, rfl⟩
          go_wp2_with fail
          refine (hA.out _).mono ?_
          rintro e w1 ⟨rfl, rfl⟩
          go_wp2_with fail
          refine (hB.out _).mono ?_
          rintro e w1 ⟨rfl, rfl⟩
          go_wp2_with fail
          go_ret2
          exact ⟨rfl, rfl⟩
        · rw [if_neg (show ¬ x < y by omega), if_pos hk]
          have q1 : ¬ x < y := by omega
          have q2 : y < x := by omega
          clear hk
          go_enter Tryz.func31, Tryz.ntmps31
          go_wp2_with fail
          refine (rIsNan32 a _ ha).mono ?_
          rw [decide_eq_false na.out]
          rintro e w1 ⟨rfl, rfl⟩
          go_wp2_with fail
          refine (rIsNan32 b _ hb).mono ?_
          rw [decide_eq_false nb.out]
          rintro e w1 ⟨rfl, rfl⟩
          go_wp2_with fail
          refine (rIsZero32 a _ ha).mono ?_
          rw [decide_eq_false ea.out]
          rintro e w1 ⟨rfl, rfl⟩
          go_wp2_with fail
          refine (hA.out _).mono ?_
          rintro e w1 ⟨rfl, rfl⟩
          go_wp2_with fail
          refine (hB.out _).mono ?_
          rintro e w1 ⟨rfl, rfl⟩
          go_wp2_with fail
          go_ret2
          exact ⟨rfl, rfl⟩
        · rw [if_neg (show ¬ x < y by omega), if_neg (show ¬ y < x by omega)]
          have q1 : ¬ x < y := by omega
          have q2 : ¬ y < x := by omega
          clear hk
          go_enter Tryz.func31, Tryz.ntmps31
          go_wp2_with fail
          refine (rIsNan32 a _ ha).mono ?_
          rw [decide_eq_false na.out]
          rintro e w1 ⟨rfl, rfl⟩
          go_wp2_with fail
          refine (rIsNan32 b _ hb).mono ?_
          rw [decide_eq_false nb.out]
          rintro e w1 ⟨rfl, rfl⟩
          go_wp2_with fail
          refine (rIsZero32 a _ ha).mono ?_
          rw [decide_eq_false ea.out]
          rintro e w1 ⟨rfl, rfl⟩
          go_wp2_with fail
          refine (hA.out _).mono ?_
          rintro e w1 ⟨rfl, rfl⟩
          go_wp2_with fail
          refine (hB.out _).mono ?_
          rintro e w1 ⟨rfl, rfl⟩
          go_wp2_with fail
          go_ret2
          exact ⟨rfl, rfl⟩
end Go.Proofs.YtmkploknoohliaaGreat
