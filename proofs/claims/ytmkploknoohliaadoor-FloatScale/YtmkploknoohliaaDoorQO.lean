/- The document's Split. -/
import Derived.Test.YtmkploknoohliaaDoorNV
namespace Go.Proofs.YtmkploknoohliaaDoor
open Go.RowKit
open M
set_option linter.unusedVariables false
set_option linter.unusedSimpArgs false

theorem odd_uniq {x y k d : Nat} (hx : x % 2 = 1) (hy : y % 2 = 1) (h : x * 2 ^ k = y * 2 ^ d) : x = y ∧ k = d := by
  have key : ∀ x y k d : Nat, x % 2 = 1 → x * 2 ^ k = y * 2 ^ d → ¬ k < d := by
    intro x y k d hx h hlt
    obtain ⟨q, rfl⟩ : ∃ q, d = k + (q + 1) := ⟨d - k - 1, by omega⟩
    rw [Nat.pow_add, ← Nat.mul_assoc, Nat.mul_right_comm] at h
    have := Nat.eq_of_mul_eq_mul_right (Nat.two_pow_pos k) h
    rw [Nat.pow_succ, ← Nat.mul_assoc] at this
    omega
  have h1 := key x y k d hx h
  have h2 := key y x d k hy h.symm
  obtain rfl : k = d := by omega
  exact ⟨Nat.eq_of_mul_eq_mul_right (Nat.two_pow_pos k) h, rfl⟩

theorem few_twos {y s m : Nat} (h : y * 2 ^ s = m) (hy : 0 < y) (hm : m < 2 * 4503599627370496) : s < 53 := by
  rcases Nat.lt_or_ge s 53 with h1 | h1
  · exact h1
  · exfalso
    have h2 := Nat.pow_le_pow_right (n := 2) (by omega) h1
    have h3 : 1 * 2 ^ s ≤ y * 2 ^ s := Nat.mul_le_mul_right _ hy
    have h4 : 2 ^ 53 = 9007199254740992 := by decide
    rw [h4] at h2
    omega

/-- Four results. -/
theorem four_results {fn : Func} {a b c d : Tmp} (h : fn.results = #[.tmp a, .tmp b, .tmp c, .tmp d]) (tmps : Array Value) (P : Program) (w : World) :
    (results fn tmps).run P w = .ok (.tuple #[tmps.getD a undef, tmps.getD b undef, tmps.getD c undef, tmps.getD d undef]) w := by
  simp [results, h]

set_option maxRecDepth 100000 in
set_option maxHeartbeats 1000000 in
theorem rSplit_bad (b : Nat) (w : World) (hb : b < 18446744073709551616) (hf : ¬ b % 9223372036854775808 < 9218868437227405312) : Calls Tryd.prog 5 #[.int .u64 b] w fun e w' => e = .returned (.tuple #[.bool false, .int .u64 0, .int .i64 0, .bool false]) ∧ w' = w := by
  have HF := fhide (fun w : World => rFinite64 b w hb)
  rw [decide_eq_false hf] at HF
  clear hf hb
  go_enter Tryd.func5, Tryd.ntmps5
  go_wp2_with fail
  refine (HF.out _).mono ?_
  rintro e w1 ⟨rfl, hw1⟩
  have hw1 := hw1.symm
  subst hw1
  go_wp2_with fail
  try simp only [Exit.inBlock, Exit.then]
  refine bodyPost_ret (four_results rfl _ _ _) rfl ?_
  exact ⟨rfl, rfl⟩

set_option maxRecDepth 100000 in
set_option maxHeartbeats 1000000 in
theorem rSplit_zero (b : Nat) (w : World) (hb : b < 18446744073709551616) (hz : b % 9223372036854775808 = 0) : Calls Tryd.prog 5 #[.int .u64 b] w fun e w' => e = .returned (.tuple #[.bool (decide (9223372036854775808 ≤ b)), .int .u64 0, .int .i64 0, .bool true]) ∧ Below w.heap.size w w' := by
  have HF := fhide (fun w : World => rFinite64 b w hb)
  rw [decide_eq_true (by omega)] at HF
  have HP := fhide (fun w : World => rParts64 b w hb)
  rw [hz, show Flt.V Ieee.double 0 = 0 by decide +kernel] at HP
  generalize decide (9223372036854775808 ≤ b) = s at *
  clear hz hb
  go_enter Tryd.func5, Tryd.ntmps5
  go_wp2_with fail
  refine (HF.out _).mono ?_
  rintro e w1 ⟨rfl, hw1⟩
  have hw1 := hw1.symm
  subst hw1
  go_wp2_with fail
  refine (HP.out _).mono ?_
  rintro e w1 ⟨v, m, j, rfl, ⟨k, hr, hnr, hk⟩, hV, hml, hj, hb1⟩
  have hm0 : m = 0 := by
    rcases Nat.mul_eq_zero.1 hV with h | h
    · exact h
    · exact absurd h (Nat.ne_of_gt (Nat.two_pow_pos _))
  subst hm0
  have HL := fhide (nLow64 v k 0 w1 hr)
  have HB := fhide hb1
  rw [Nat.zero_mod] at HL
  clear hr hnr hk hV hml hb1
  go_wp2_with fail
  refine HL.out.mono ?_
  rintro e w2 ⟨rfl, hw1⟩
  have hw1 := hw1.symm
  subst hw1
  go_wp2_with fail
  try simp only [Exit.inBlock, Exit.then]
  refine bodyPost_ret (four_results rfl _ _ _) rfl ?_
  exact ⟨rfl, HB.out⟩

set_option maxRecDepth 100000 in
set_option maxHeartbeats 2000000 in
theorem rSplit_num (b x q : Nat) (w : World) (hb : b < 18446744073709551616) (hf : b % 9223372036854775808 < 9218868437227405312) (hx : x % 2 = 1) (hxV : x * 2 ^ q = Flt.V Ieee.double (b % 9223372036854775808)) : Calls Tryd.prog 5 #[.int .u64 b] w fun e w' => e = .returned (.tuple #[.bool (decide (9223372036854775808 ≤ b)), .int .u64 x, .int .i64 ((q : Int) - 1074), .bool true]) ∧ Below w.heap.size w w' := by
  have HF := fhide (fun w : World => rFinite64 b w hb)
  rw [decide_eq_true hf] at HF
  have HP := fhide (fun w : World => rParts64 b w hb)
  generalize decide (9223372036854775808 ≤ b) = s at *
  generalize Flt.V Ieee.double (b % 9223372036854775808) = V at *
  have HX := fhide (And.intro hx hxV)
  clear hf hb hx hxV
  go_enter Tryd.func5, Tryd.ntmps5
  go_wp2_with fail
  refine (HF.out _).mono ?_
  rintro e w1 ⟨rfl, hw1⟩
  have hw1 := hw1.symm
  subst hw1
  go_wp2_with fail
  refine (HP.out _).mono ?_
  rintro e w1 ⟨v, m, j, rfl, ⟨k, hr, hnr, hk⟩, hV, hml, hj, hb1⟩
  have hm0 : 0 < m := by
    rcases Nat.eq_zero_or_pos m with h | h
    · exfalso
      rw [h, Nat.zero_mul, ← HX.out.2] at hV
      rcases Nat.mul_eq_zero.1 hV.symm with h2 | h2
      · have := HX.out.1; omega
      · exact absurd h2 (Nat.ne_of_gt (Nat.two_pow_pos _))
    · exact h
  have HL := fhide (nLow64 v k m w1 hr)
  rw [Nat.mod_eq_of_lt (by omega)] at HL
  have HB := fhide hb1
  have HV := fhide (And.intro hV hml)
  have hm1 : ((m : Int) == 0) = false := by simp; omega
  have hm2 : ¬ (m : Int) = 0 := by omega
  obtain ⟨z, hz⟩ : ∃ z : Int, (j : Int) - 1074 = z := ⟨_, rfl⟩
  rw [hz]
  have HZ := fhide (And.intro hz hj)
  clear hr hnr hk hV hml hb1 hz hj
  go_wp2_with (simp only [hm1])
  refine HL.out.mono ?_
  rintro e w2 ⟨rfl, hw1⟩
  have hw1 := hw1.symm
  subst hw1
  go_wp2_with (simp only [hm1])
  go_loopw [8, 9] (fun t8 t9 wr => ∃ y u : Nat, t8 = .int .i64 (z + (u : Int)) ∧ t9 = .int .u64 (y : Nat) ∧ Hid (y * 2 ^ u = m ∧ 0 < y) ∧ Hid (Below w.heap.size w wr)) (fun _ t9 _ => (intOf t9).toNat)
  case atStart => exact ⟨m, 0, by simp, rfl, ⟨by simp, hm0⟩, HB.out⟩
  case round =>
    obtain ⟨y, u, rfl, rfl, HY, HW⟩ := hrel
    have hu := few_twos HY.out.1 HY.out.2 HV.out.2
    have hyl : y < 9007199254740992 := by
      have h1 := HY.out.1
      have h2 := HV.out.2
      have h3 : y * 1 ≤ y * 2 ^ u := Nat.mul_le_mul_left _ (Nat.two_pow_pos _)
      omega
    have ha := and_one y (by omega)
    obtain ⟨t, ht, htb⟩ : ∃ t : Int, z + (u : Int) = t ∧ (-5000 ≤ t ∧ t ≤ 5000) := ⟨_, rfl, by have := HZ.out; omega⟩
    rw [ht]
    rcases Nat.mod_two_eq_zero_or_one y with p | p
    · rw [p] at ha
      obtain ⟨y2, hy2, hy3⟩ : ∃ y2 : Nat, y = y2 * 2 ∧ (y : Int) / 2 = (y2 : Int) := ⟨y / 2, by omega, by omega⟩
      have HN : Hid (y2 * 2 ^ (u + 1) = m ∧ 0 < y2) := ⟨by rw [Nat.pow_succ, ← HY.out.1, hy2]; rw [Nat.mul_assoc, Nat.mul_comm (2 ^ u) 2], by have := HY.out.2; omega⟩
      have ht1 : t + 1 = z + ((u + 1 : Nat) : Int) := by omega
      have hlt : y2 < y := by have := HN.out.2; omega
      clear hy2
      go_wp2_with (simp only [ha, hy3])
      go_roundw
      case rel => exact ⟨y2, u + 1, by rw [Int.natCast_add]; rfl, rfl, HN, HW⟩
      case measure => simp [intOf]; omega
    · rw [p] at ha
      have hq := odd_uniq (k := j + u) (d := q) p HX.out.1 (by rw [HX.out.2, ← HV.out.1, ← HY.out.1, Nat.pow_add, Nat.mul_assoc, Nat.mul_comm (2 ^ u)])
      have hy : y = x := hq.1
      have htq : t = (q : Int) - 1074 := by have := hq.2; have := HZ.out; omega
      have HE := fhide (And.intro hy htq)
      clear hq htq hy
      go_wp2_with (simp only [ha])
      try simp only [Exit.inBlock, Exit.then]
      refine bodyPost_ret (four_results rfl _ _ _) rfl ?_
      refine ⟨?_, HW.out⟩
      show Ending.returned (Value.tuple #[.bool s, .int .u64 (y : Nat), .int .i64 t, .bool true]) = _
      rw [HE.out.1, HE.out.2]

end Go.Proofs.YtmkploknoohliaaDoor
