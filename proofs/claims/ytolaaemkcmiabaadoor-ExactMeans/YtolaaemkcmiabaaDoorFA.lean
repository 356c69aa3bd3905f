/- The worth of a rung. -/
import Derived.Test.YtolaaemkcmiabaaDoorYD
import Derived.Test.YtolaaemkcmiabaaDoorXA
import Ieee.Arith
import Derived.Laws.FloatBits
/- bits.Len64 of any number; numberOf. -/
namespace Go.Proofs.YtolaaemkcmiabaaDoor
open Go.RowKit
open M
set_option linter.unusedVariables false
set_option linter.unusedSimpArgs false

set_option maxRecDepth 1000000 in
set_option maxHeartbeats 4000000 in
theorem len64_e (x : Nat) (w : World) (h : 4294967296 ≤ x) (hx : x < 18446744073709551616) (h1 : x / 4294967296 < 256) : Calls Tryd.prog 55 #[.int .u64 x] w fun e w' => e = .returned (.int .i64 (bitLen x : Nat)) ∧ w' = w := by
  have h0' : decide ((4294967296 : Int) ≤ (x : Int)) = true := by simp; omega
  obtain ⟨t, ht, ht'⟩ : ∃ t : Nat, t = x / 4294967296 ∧ (x : Int) / 4294967296 = (t : Int) := ⟨x / 4294967296, rfl, by simp⟩
  have Ht : Hid (bitLen x = 32 + bitLen t) := by show _ = _; rw [ht]; exact bitLen_shift x 32 (by omega)
  have htl : t < 256 := by omega
  clear ht h hx h1
  have h1' : decide ((65536 : Int) ≤ (t : Int)) = false := by simp; omega
  have h2' : ¬ (256 : Int) ≤ (t : Int) := by omega
  have Hz := hide (bitLen_le8 t htl)
  go_enter Tryd.func55, Tryd.ntmps55
  go_wp2_with (simp only [ht'])
  go_ret
  refine ⟨?_, rfl⟩
  apply ret_int
  rw [len8tab_get]
  have q0 := Ht.out
  have q1 := Hz.out
  simp only [wrap64]
  clear h0' h1' h2' ht'
  omega

set_option maxRecDepth 1000000 in
set_option maxHeartbeats 4000000 in
theorem len64_f (x : Nat) (w : World) (h : 4294967296 ≤ x) (hx : x < 18446744073709551616) (h1 : 256 ≤ x / 4294967296) (h3 : x / 4294967296 < 65536) : Calls Tryd.prog 55 #[.int .u64 x] w fun e w' => e = .returned (.int .i64 (bitLen x : Nat)) ∧ w' = w := by
  have h0' : decide ((4294967296 : Int) ≤ (x : Int)) = true := by simp; omega
  obtain ⟨t, ht, ht'⟩ : ∃ t : Nat, t = x / 4294967296 ∧ (x : Int) / 4294967296 = (t : Int) := ⟨x / 4294967296, rfl, by simp⟩
  have Ht : Hid (bitLen x = 32 + bitLen t) := by show _ = _; rw [ht]; exact bitLen_shift x 32 (by omega)
  have htl : 256 ≤ t ∧ t < 65536 := by omega
  clear ht h hx h1 h3
  have h1' : decide ((65536 : Int) ≤ (t : Int)) = false := by simp; omega
  have h2' : (256 : Int) ≤ (t : Int) := by omega
  obtain ⟨z, hz, hz'⟩ : ∃ z : Nat, z = t / 256 ∧ (t : Int) / 256 = (z : Int) := ⟨t / 256, rfl, by simp⟩
  have Hy : Hid (bitLen t = 8 + bitLen z) := by show _ = _; rw [hz]; exact bitLen_shift t 8 (by omega)
  have hzl : z < 256 := by omega
  have Hz := hide (bitLen_le8 z hzl)
  clear hz htl
  go_enter Tryd.func55, Tryd.ntmps55
  go_wp2_with (simp only [ht', hz'])
  go_ret
  refine ⟨?_, rfl⟩
  apply ret_int
  rw [len8tab_get]
  have q0 := Ht.out
  have q1 := Hz.out
  have q2 := Hy.out
  clear hz'
  simp only [wrap64]
  clear h0' h1' h2' ht'
  omega

set_option maxRecDepth 1000000 in
set_option maxHeartbeats 4000000 in
theorem len64_g (x : Nat) (w : World) (h : 4294967296 ≤ x) (hx : x < 18446744073709551616) (h1 : 65536 ≤ x / 4294967296) (h3 : x / 4294967296 / 65536 < 256) : Calls Tryd.prog 55 #[.int .u64 x] w fun e w' => e = .returned (.int .i64 (bitLen x : Nat)) ∧ w' = w := by
  have h0' : decide ((4294967296 : Int) ≤ (x : Int)) = true := by simp; omega
  obtain ⟨t, ht, ht'⟩ : ∃ t : Nat, t = x / 4294967296 ∧ (x : Int) / 4294967296 = (t : Int) := ⟨x / 4294967296, rfl, by simp⟩
  have Ht : Hid (bitLen x = 32 + bitLen t) := by show _ = _; rw [ht]; exact bitLen_shift x 32 (by omega)
  have htl : 65536 ≤ t ∧ t / 65536 < 256 := by omega
  clear ht h hx h1 h3
  have h1' : decide ((65536 : Int) ≤ (t : Int)) = true := by simp; omega
  obtain ⟨y, hy, hy'⟩ : ∃ y : Nat, y = t / 65536 ∧ (t : Int) / 65536 = (y : Int) := ⟨t / 65536, rfl, by simp⟩
  have Hy : Hid (bitLen t = 16 + bitLen y) := by show _ = _; rw [hy]; exact bitLen_shift t 16 (by omega)
  have h2' : ¬ (256 : Int) ≤ (y : Int) := by omega
  have hyl : y < 256 := by omega
  have Hz := hide (bitLen_le8 y hyl)
  clear hy htl
  go_enter Tryd.func55, Tryd.ntmps55
  go_wp2_with (simp only [ht', hy'])
  go_ret
  refine ⟨?_, rfl⟩
  apply ret_int
  rw [len8tab_get]
  have q0 := Ht.out
  have q1 := Hz.out
  have q2 := Hy.out
  clear hy'
  simp only [wrap64]
  clear h0' h1' h2' ht'
  omega

set_option maxRecDepth 1000000 in
set_option maxHeartbeats 4000000 in
theorem len64_h (x : Nat) (w : World) (h : 4294967296 ≤ x) (hx : x < 18446744073709551616) (h1 : 65536 ≤ x / 4294967296) (h3 : 256 ≤ x / 4294967296 / 65536) : Calls Tryd.prog 55 #[.int .u64 x] w fun e w' => e = .returned (.int .i64 (bitLen x : Nat)) ∧ w' = w := by
  have h0' : decide ((4294967296 : Int) ≤ (x : Int)) = true := by simp; omega
  obtain ⟨t, ht, ht'⟩ : ∃ t : Nat, t = x / 4294967296 ∧ (x : Int) / 4294967296 = (t : Int) := ⟨x / 4294967296, rfl, by simp⟩
  have Ht : Hid (bitLen x = 32 + bitLen t) := by show _ = _; rw [ht]; exact bitLen_shift x 32 (by omega)
  have htl : 65536 ≤ t ∧ 256 ≤ t / 65536 ∧ t < 4294967296 := by omega
  clear ht h hx h1 h3
  have h1' : decide ((65536 : Int) ≤ (t : Int)) = true := by simp; omega
  obtain ⟨y, hy, hy'⟩ : ∃ y : Nat, y = t / 65536 ∧ (t : Int) / 65536 = (y : Int) := ⟨t / 65536, rfl, by simp⟩
  have Hx : Hid (bitLen t = 16 + bitLen y) := by show _ = _; rw [hy]; exact bitLen_shift t 16 (by omega)
  have h2' : (256 : Int) ≤ (y : Int) := by omega
  have hyl : y < 65536 := by omega
  clear hy htl
  obtain ⟨z, hz, hz'⟩ : ∃ z : Nat, z = y / 256 ∧ (y : Int) / 256 = (z : Int) := ⟨y / 256, rfl, by simp⟩
  have Hy : Hid (bitLen y = 8 + bitLen z) := by show _ = _; rw [hz]; exact bitLen_shift y 8 (by omega)
  have hzl : z < 256 := by omega
  have Hz := hide (bitLen_le8 z hzl)
  clear hz hyl
  go_enter Tryd.func55, Tryd.ntmps55
  go_wp2_with (simp only [ht', hy', hz'])
  go_ret
  refine ⟨?_, rfl⟩
  apply ret_int
  rw [len8tab_get]
  have q0 := Ht.out
  have q1 := Hz.out
  have q2 := Hy.out
  have q3 := Hx.out
  clear hy' hz'
  simp only [wrap64]
  clear h0' h1' h2' ht'
  omega

theorem len64_all (x : Nat) (w : World) (hx : x < 18446744073709551616) : Calls Tryd.prog 55 #[.int .u64 x] w fun e w' => e = .returned (.int .i64 (bitLen x : Nat)) ∧ w' = w := by
  by_cases h0 : x < 4294967296
  · exact len64_any x w h0
  · by_cases h : x / 4294967296 < 256
    · exact len64_e x w (by omega) hx h
    · by_cases h1 : x / 4294967296 < 65536
      · exact len64_f x w (by omega) hx (by omega) h1
      · by_cases h2 : x / 4294967296 / 65536 < 256
        · exact len64_g x w (by omega) hx (by omega) h2
        · exact len64_h x w (by omega) hx (by omega) (by omega)

end Go.Proofs.YtolaaemkcmiabaaDoor

/- numberOf: a sum as a number. -/
namespace Go.Proofs.YtolaaemkcmiabaaDoor
open Go.RowKit
open M
set_option linter.unusedVariables false
set_option linter.unusedSimpArgs false

theorem pw_half (n : Nat) (hn : 1 ≤ n) : (18446744073709551616 : Nat) ^ n = 2 * (18446744073709551616 ^ (n - 1) * 9223372036854775808) := by
  obtain ⟨m, rfl⟩ : ∃ m, n = m + 1 := ⟨n - 1, by omega⟩
  rw [Nat.pow_succ, show m + 1 - 1 = m from by omega]; omega

/-- The sign is the highest bit. -/
theorem tc_sign (n : Nat) (Z : Int) (hn : 1 ≤ n) (hZ : 2 * Z.natAbs < 18446744073709551616 ^ n) : W6.wd (W6.tc n Z) (n - 1) / 9223372036854775808 = if Z < 0 then 1 else 0 := by
  have hl := W6.tc_lt n Z
  have hc := W6.tc_cast n Z
  have hh := pw_half n hn
  have hp : 0 < 18446744073709551616 ^ (n - 1) * 9223372036854775808 := Nat.mul_pos (W6.pw_pos _) (by omega)
  have e : W6.wd (W6.tc n Z) (n - 1) = W6.tc n Z / 18446744073709551616 ^ (n - 1) := by
    unfold W6.wd
    refine Nat.mod_eq_of_lt ?_
    rw [Nat.div_lt_iff_lt_mul (W6.pw_pos _), Nat.mul_comm, ← Nat.pow_succ, Nat.succ_eq_add_one, show n - 1 + 1 = n from by omega]; exact hl
  rw [e, Nat.div_div_eq_div_mul]
  generalize 18446744073709551616 ^ (n - 1) * 9223372036854775808 = H at *
  generalize 18446744073709551616 ^ n = K at *
  by_cases h : Z < 0
  · rw [if_pos h]
    have : Z % (K : Int) = Z + K := by
      rw [← Int.add_mul_emod_self_left Z (K : Int) 1, Int.mul_one]
      exact Int.emod_eq_of_lt (by omega) (by omega)
    have h2 : W6.tc n Z = H + (W6.tc n Z - H) := by omega
    rw [h2, Nat.add_div_left _ hp, Nat.div_eq_of_lt (by omega)]
  · rw [if_neg h]
    have : Z % (K : Int) = Z := Int.emod_eq_of_lt (by omega) (by omega)
    exact Nat.div_eq_of_lt (by omega)

/-- What is summed up: the words, turned where the sum is below nought. -/
theorem tc_abs (n : Nat) (Z : Int) (hn : 1 ≤ n) (hZ : 2 * Z.natAbs < 18446744073709551616 ^ n) : W6.sm (decide (Z < 0)) (W6.tc n Z) n + 0 + W6.c0 (decide (Z < 0)) = Z.natAbs := by
  have hl := W6.tc_lt n Z
  have hc := W6.tc_cast n Z
  have hp := W6.pw_pos n
  unfold W6.sm W6.c0
  rw [Nat.mod_eq_of_lt hl]
  generalize 18446744073709551616 ^ n = K at *
  by_cases h : Z < 0
  · rw [decide_eq_true h]
    have : Z % (K : Int) = Z + K := by
      rw [← Int.add_mul_emod_self_left Z (K : Int) 1, Int.mul_one]
      exact Int.emod_eq_of_lt (by omega) (by omega)
    simp only [if_true]
    omega
  · rw [decide_eq_false h]
    have : Z % (K : Int) = Z := Int.emod_eq_of_lt (by omega) (by omega)
    simp only [Bool.false_eq_true, if_false]
    omega

theorem pw_two32 (i : Nat) : (18446744073709551616 : Nat) ^ i = 4294967296 ^ (2 * i) := by rw [Nat.pow_mul]
theorem wd_lo (M i : Nat) : W6.wd M i % 4294967296 = dg M (2 * i) := by
  unfold W6.wd dg
  rw [pw_two32]; omega
theorem wd_hi (M i : Nat) : W6.wd M i / 4294967296 = dg M (2 * i + 1) := by
  unfold W6.wd dg
  rw [pw_two32, pw_succ, ← Nat.div_div_eq_div_mul]; omega

theorem bitLen_one {x : Nat} (h : x ≠ 0) : 1 ≤ bitLen x := by
  unfold bitLen
  rw [if_neg h]; omega

/-- How many limbs a word wants. -/
theorem limbs_of (x : Nat) (h : x ≠ 0) (hx : x < 18446744073709551616) : (x < 4294967296 ∧ (bitLen x + 31) / 32 = 1) ∨ (4294967296 ≤ x ∧ (bitLen x + 31) / 32 = 2) := by
  by_cases c : x < 4294967296
  · have h1 := bitLen_one h
    have h2 : bitLen x ≤ 32 := bitLen_le (by omega)
    exact .inl ⟨c, by omega⟩
  · have h1 : bitLen x = 32 + bitLen (x / 2 ^ 32) := bitLen_shift x 32 (by omega)
    have h2 := bitLen_one (x := x / 2 ^ 32) (by omega)
    have h3 : bitLen x ≤ 64 := bitLen_le (by omega)
    exact .inr ⟨by omega, by omega⟩

/-- One word more. -/
theorem nrm_next (M i u : Nat) (h : Nrm u (M % 18446744073709551616 ^ i)) : (W6.wd M i = 0 → Nrm u (M % 18446744073709551616 ^ (i + 1))) ∧ (W6.wd M i ≠ 0 → Nrm (2 * i + (bitLen (W6.wd M i) + 31) / 32) (M % 18446744073709551616 ^ (i + 1))) := by
  have hm := W6.mod_succ M i
  have hl := W6.mod_lt M i
  have hwl := W6.wd_lt M i
  refine ⟨fun h0 => by rw [hm, h0, Nat.mul_zero, Nat.add_zero]; exact h, fun h0 => ?_⟩
  rw [hm]
  have hlim := limbs_of _ h0 hwl
  rw [pw_two32] at *
  generalize M % 4294967296 ^ (2 * i) = a at *
  generalize W6.wd M i = x at *
  have hp := pw_pos (2 * i)
  rcases hlim with ⟨h1, h2⟩ | ⟨h1, h2⟩
  · rw [h2]
    refine ⟨?_, .inr ?_⟩
    · rw [pw_succ]
      have : 4294967296 ^ (2 * i) * (x + 1) ≤ 4294967296 ^ (2 * i) * 4294967296 := Nat.mul_le_mul_left _ (by omega)
      rw [Nat.mul_add, Nat.mul_one] at this; omega
    · rw [show 2 * i + 1 - 1 = 2 * i from by omega]
      have : 4294967296 ^ (2 * i) * 1 ≤ 4294967296 ^ (2 * i) * x := Nat.mul_le_mul_left _ (by omega)
      omega
  · rw [h2]
    refine ⟨?_, .inr ?_⟩
    · rw [show 2 * i + 2 = 2 * i + 1 + 1 from rfl, pw_succ, pw_succ, Nat.mul_assoc]
      have : 4294967296 ^ (2 * i) * (x + 1) ≤ 4294967296 ^ (2 * i) * (4294967296 * 4294967296) := Nat.mul_le_mul_left _ (by omega)
      rw [Nat.mul_add, Nat.mul_one] at this; omega
    · rw [show 2 * i + 2 - 1 = 2 * i + 1 from by omega, pw_succ]
      have : 4294967296 ^ (2 * i) * 4294967296 ≤ 4294967296 ^ (2 * i) * x := Nat.mul_le_mul_left _ h1
      omega

theorem xor_flp (neg : Bool) (q : Nat) (hq : q < 18446744073709551616) : bits BinOp.xor IntKind.u64 (q : Int) (flp neg : Nat) = ((if neg then 18446744073709551615 - q else q : Nat) : Int) := by
  have h := flp_xor neg q hq
  have hf : flp neg < 18446744073709551616 := by cases neg <;> decide
  rw [u64_xor_nat _ _ hf hq] at h
  rw [u64_xor_nat _ _ hq hf, Nat.xor_comm]; exact h

def NumEnd (Z : Int) (w : World) (e : Ending) (w' : World) : Prop :=
  ∃ v, e = .returned (.agg #[.bool (decide (Z < 0)), v]) ∧ Num w' v Z.natAbs ∧ Below w.heap.size w w'

set_option maxRecDepth 100000 in
set_option maxHeartbeats 2000000 in
theorem numberOf_any (g o n cap : Nat) (Z : Int) (w : World) (hW : Ws w g o n (W6.tc n Z)) (hn1 : 1 ≤ n) (hn : n ≤ 100) (hcap : n ≤ cap) (hc2 : cap ≤ 100) (hg : g < w.heap.size) (hZ : 2 * Z.natAbs < 18446744073709551616 ^ n) :
    Calls Tryd.prog 34 #[.slice (some ⟨g, o, none⟩) n cap] w fun e w' => NumEnd Z w e w' := by
  obtain ⟨i5, hi5⟩ := info32
  have Hi := hide hi5
  clear hi5
  unfold NumEnd
  have hsg := tc_sign n Z hn1 hZ
  have habs := tc_abs n Z hn1 hZ
  have HA : Hid (Z.natAbs < 18446744073709551616 ^ n) := by show _ < _; omega
  have htop := hW.cell (n - 1) (by omega)
  have htl := W6.wd_lt (W6.tc n Z) (n - 1)
  have hsg' : ((W6.wd (W6.tc n Z) (n - 1) : Nat) : Int) / 9223372036854775808 = if Z < 0 then 1 else 0 := by
    by_cases h : Z < 0
    · rw [if_pos h] at hsg ⊢; omega
    · rw [if_neg h] at hsg ⊢; omega
  have hneg : (((W6.wd (W6.tc n Z) (n - 1) : Nat) : Int) / 9223372036854775808 == 1) = decide (Z < 0) := by
    rw [hsg']; by_cases h : Z < 0 <;> simp [h]
  generalize hM : Z.natAbs = M at *
  have Hsm : Hid (∀ j, j < n → W6.wd (W6.sm (decide (Z < 0)) (W6.tc n Z) n) j = if decide (Z < 0) then 18446744073709551615 - W6.wd (W6.tc n Z) j else W6.wd (W6.tc n Z) j) := fun j hj => W6.wd_sm _ _ _ j hj
  generalize decide (Z < 0) = neg at *
  generalize W6.wd (W6.tc n Z) (n - 1) = top at *
  clear hsg hsg' hM hZ
  have HW := hide hW
  clear hW
  generalize W6.tc n Z = N at *
  generalize W6.sm neg N n = A at *
  obtain ⟨K, hK⟩ : ∃ K, K = 2 * n := ⟨_, rfl⟩
  have hK' : (2 : Int) * (n : Int) = (K : Int) := by omega
  have hKb : K ≤ 200 := by omega
  have HKn := hide hK
  clear hK
  have Hxor : Hid (∀ q : Nat, q < 18446744073709551616 → bits BinOp.xor IntKind.u64 (q : Int) (flp neg : Nat) = ((if neg then 18446744073709551615 - q else q : Nat) : Int)) := xor_flp neg
  have hcl0 := c0_le neg
  have HSG : Hid (∀ w : World, Calls Tryd.prog 29 #[.bool neg] w fun e w' => e = .returned (.tuple #[.int .u64 (flp neg : Nat), .int .u64 (W6.c0 neg : Nat)]) ∧ w' = w) := fun w => signWords_any neg w
  generalize W6.c0 neg = c at *
  generalize flp neg = fl at *
  obtain ⟨Wa, hWa⟩ : ∃ Wa, Wa = w.alloc (.cells #[.bool false, .slice none 0 0] 48) := ⟨_, rfl⟩
  have htop1 : ((n : Int) - 1) = ((n - 1 : Nat) : Int) := by omega
  go_enter Tryd.func34, Tryd.ntmps34
  go_wp2_with (simp only [hneg])
  rw [← hWa]
  refine (HSG.out _).mono ?_
  rintro e w1 ⟨rfl, hw1⟩
  have hw1 := hw1.symm
  subst hw1
  clear HSG htop
  have hBa : Below w.heap.size w Wa := by rw [hWa]; exact (Below.refl _ w).alloc (Nat.le_refl _) _
  have hza : Wa.heap.size = w.heap.size + 1 := by rw [hWa]; simp
  have ka0 : Wa.cell? ⟨w.heap.size, 0, none⟩ = some (.bool false) := by rw [hWa]; exact cell_of_row _ _ 0 _ _ _ (heap_alloc_new w _)
  have ka1 : Wa.cell? ⟨w.heap.size, 1, none⟩ = some (.slice none 0 0) := by rw [hWa]; exact cell_of_row _ _ 1 _ _ _ (heap_alloc_new w _)
  have kz : ∀ j, Wa.frozen? ⟨w.heap.size, j, none⟩ = false := fun j => by rw [hWa]; exact frozen_of_row _ _ _ _ _ (heap_alloc_new w _)
  clear hWa
  have hKn : K ≤ 70368744177664 := by omega
  have hKi : (K : Int) ≤ 200 := by omega
  go_wp2_with (first | (at_make; refine wpList_make_row _ rfl _ _ _ rfl 97 i5 (.int .u32 0) Tryd.underlying46 Hi.out.1 Hi.out.2.1 Hi.out.2.2.1 rfl .i64 .i64 K rfl rfl (by rw [Hi.out.2.2.2]; omega) (by omega) ?_) | fail)
  obtain ⟨Wb, hWb⟩ : ∃ Wb, Wb = Wa.alloc (.cells (madeCells #[Value.int .u32 0] K) 97) := ⟨_, rfl⟩
  obtain ⟨gl, hgl⟩ : ∃ gl, gl = w.heap.size + 1 := ⟨_, rfl⟩
  rw [← hWb, ← hgl]
  have HF : Hid (Wk Wb gl 0 K 0 ∧ Only gl 0 K Wb Wb ∧ Below Wa.heap.size Wa Wb) := by
    rw [hWb, hgl, ← hza]
    exact ⟨wk_of_block (pw_pos _) (make_block Wa K), Only.refl _ _ _ _, (Below.refl _ _).alloc (Nat.le_refl _) _⟩
  have HB : Hid (w.heap.size < gl ∧ g < gl ∧ K = 2 * n ∧ A + 0 + c = M) := ⟨by omega, by omega, HKn.out, habs⟩
  have HWb : Hid (Ws Wb g o n N) := HW.out.below (hBa.trans (HF.out.2.2.mono hBa.size)) hg
  have HZ : Hid (∀ wr : World, Only gl 0 K Wb wr → wr.cell? ⟨w.heap.size, 0, none⟩ = some (.bool false) ∧ wr.cell? ⟨w.heap.size, 1, none⟩ = some (.slice none 0 0) ∧ (∀ j, wr.frozen? ⟨w.heap.size, j, none⟩ = false) ∧ Below w.heap.size w wr ∧ Ws wr g o n N) := by
    intro wr ho
    have hb := HF.out.2.2
    have hlt : w.heap.size < Wb.heap.size := by have := hb.size; omega
    have hne : w.heap.size ≠ gl := by have := HB.out.1; omega
    refine ⟨?_, ?_, fun j => ?_, ?_, HWb.out.only ho (by have := HB.out.2.1; omega) (by have := hBa.size; have := hb.size; omega)⟩
    · rw [World.cell?_of_block (w := Wb) (a := ⟨w.heap.size, 0, none⟩) (ho.block _ hlt hne), hb.cell (p := ⟨w.heap.size, 0, none⟩) (by show w.heap.size < _; omega)]; exact ka0
    · rw [World.cell?_of_block (w := Wb) (a := ⟨w.heap.size, 1, none⟩) (ho.block _ hlt hne), hb.cell (p := ⟨w.heap.size, 1, none⟩) (by show w.heap.size < _; omega)]; exact ka1
    · rw [World.frozen?_of_block (w := Wb) (a := ⟨w.heap.size, j, none⟩) (ho.block _ hlt hne), hb.frozen (p := ⟨w.heap.size, j, none⟩) (by show w.heap.size < _; omega)]; exact kz j
    · exact (hBa.trans (hb.mono hBa.size)).trans (ho.below (by have := HB.out.1; omega) (by have := hBa.size; have := hb.size; omega))
  clear hWb hgl hBa hza ka0 ka1 kz hKn habs HW Hi
  go_loopw [5, 7, 29] (fun t5 t7 t29 wr => ∃ i u : Nat, i ≤ n ∧ u ≤ 2 * i ∧ t5 = .int .u64 (W6.cy A 0 c i : Nat) ∧ t7 = .int .i64 u ∧ t29 = .int .i64 i ∧ Hid (Mid wr gl 0 K (2 * i) 0 M ∧ Only gl 0 K Wb wr ∧ Nrm u (M % 18446744073709551616 ^ i))) (fun _ _ t29 _ => n - (intOf t29).toNat)
  case atStart => exact ⟨0, 0, by omega, by omega, by rw [W6.cy_zero], rfl, rfl, HF.out.1.mid _, HF.out.2.1, by rw [Nat.pow_zero, Nat.mod_one]; exact nrm_zero⟩
  case round =>
    obtain ⟨i, u, hi, hu, rfl, rfl, rfl, HM⟩ := hrel
    by_cases hlt : i < n
    · have hlt' : (i : Int) < (n : Int) := by omega
      have hx := (HZ.out _ HM.out.2.1).2.2.2.2.cell i hlt
      have hst := W6.cy_step A 0 c i
      rw [HB.out.2.2.2, W6.wd_zero, Nat.add_zero] at hst
      have hcl := W6.cy_le A 0 c i hcl0
      have hadd : ∀ w : World, (callFunc 31 #[.int .u64 (W6.wd A i : Nat), .int .u64 0, .int .u64 (W6.cy A 0 c i : Nat)]).run Tryd.prog w = .ok (.value (.tuple #[.int .u64 (W6.wd M i : Nat), .int .u64 (W6.cy A 0 c (i + 1) : Nat)])) w := by
        intro w
        have := add64_run (W6.wd A i) 0 (W6.cy A 0 c i) hcl w
        rw [Nat.add_zero, hst.1, hst.2] at this
        exact this
      have hxor := Hxor.out (W6.wd N i) (W6.wd_lt N i)
      rw [← Hsm.out i hlt] at hxor
      have hxl := W6.wd_lt N i
      have hml := W6.wd_lt M i
      have HNX := hide (nrm_next M i u HM.out.2.2)
      have HL := hide (len64_all (W6.wd M i))
      have HLO := hide (And.intro (wd_lo M i) (wd_hi M i))
      have hlim := limbs_of (W6.wd M i)
      obtain ⟨j, hj, hj'⟩ : ∃ j : Nat, j = 2 * i ∧ (2 : Int) * (i : Int) = (j : Int) := ⟨_, rfl, by omega⟩
      have hjK : (j : Int) + 1 < (K : Int) := by have := HB.out.2.2.1; omega
      have hf0 : wr.frozen? ⟨gl, j, none⟩ = false := by have := HM.out.1.free j (by omega); rwa [Nat.zero_add] at this
      have hf1 : wr.frozen? ⟨gl, j + 1, none⟩ = false := by have := HM.out.1.free (j + 1) (by omega); rwa [Nat.zero_add] at this
      have hk0 : wr.cell? ⟨gl, j, none⟩ = some (.int .u32 (dg 0 j : Nat)) := by have := HM.out.1.hi j (by omega) (by omega); rwa [Nat.zero_add] at this
      have hk1 : wr.cell? ⟨gl, j + 1, none⟩ = some (.int .u32 (dg 0 (j + 1) : Nat)) := by have := HM.out.1.hi (j + 1) (by omega) (by omega); rwa [Nat.zero_add] at this
      have hk2 : ∀ v, (wr.setCell ⟨gl, j, none⟩ v).cell? ⟨gl, j + 1, none⟩ = some (.int .u32 (dg 0 (j + 1) : Nat)) := fun v => by rw [cell_setCell_ne _ _ _ _ _ (by omega)]; exact hk1
      have hf2 : ∀ v, (wr.setCell ⟨gl, j, none⟩ v).frozen? ⟨gl, j + 1, none⟩ = false := fun v => by rw [frozen_setCell]; exact hf1
      generalize dg 0 j = y0 at *
      generalize dg 0 (j + 1) = y1 at *
      have Hrel : Hid (∀ (x y : Int), x = (dg M (2 * i) : Nat) → y = (dg M (2 * i + 1) : Nat) → Mid ((wr.setCell ⟨gl, j, none⟩ (.int .u32 x)).setCell ⟨gl, j + 1, none⟩ (.int .u32 y)) gl 0 K (2 * (i + 1)) 0 M ∧ Only gl 0 K Wb ((wr.setCell ⟨gl, j, none⟩ (.int .u32 x)).setCell ⟨gl, j + 1, none⟩ (.int .u32 y))) := by
        intro x y hx hy
        have s1 := HM.out.1.step (by omega) x hx
        have s2 := s1.step (by omega) y hy
        rw [Nat.zero_add, Nat.zero_add, ← hj] at s2
        refine ⟨?_, (HM.out.2.1.setCell j (by omega) (by omega) _).setCell (j + 1) (by omega) (by omega) _⟩
        rw [show 2 * (i + 1) = j + 1 + 1 from by omega]; exact s2
      rw [← HLO.out.1, ← HLO.out.2] at Hrel
      have Hj := hide hj
      clear hj HLO HM
      generalize W6.wd A i = a at *
      generalize W6.wd N i = nn at *
      generalize W6.cy A 0 c i = cc at *
      generalize hc2e : W6.cy A 0 c (i + 1) = c2 at *
      have Hc2 := hide hc2e
      clear hc2e
      generalize W6.wd M i = m at *
      clear hst
      by_cases hm0 : m = 0
      · have HN0 := hide (HNX.out.1 hm0)
        subst hm0
        clear hlim HL HNX
        go_wp2_with (simp only [hxor, hadd, hj'])
        refine ⟨⟨i + 1, u, by omega, by omega, by rw [Hc2.out], rfl, by go_num, ?_⟩, by simp [intOf]; omega⟩
        have := Hrel.out 0 0 (by simp) (by simp)
        exact ⟨this.1, this.2, HN0.out⟩
      · have HN0 := hide (HNX.out.2 hm0)
        have hm' : ¬ (m : Int) = 0 := by omega
        have hlim := hlim hm0 hml
        have HL := hide (fun w => HL.out w hml)
        generalize bitLen m = bl at *
        obtain ⟨q, hq, hq', hq2, hbl⟩ : ∃ q : Nat, q = (bl + 31) / 32 ∧ ((bl : Int) + 31) / 32 = (q : Int) ∧ q ≤ 2 ∧ bl ≤ 64 := ⟨_, rfl, by omega, by omega, by omega⟩
        rw [← hq] at HN0
        clear hlim hq HNX hm0
        go_wp2_with (simp only [hxor, hadd, hj'])
        refine (HL.out _).mono ?_
        rintro e w5 ⟨rfl, hw5⟩
        have hw5 := hw5.symm
        subst hw5
        clear hxor hadd hk0 hk1 hk2 hf0 hf1 hf2 hx HL
        go_wp2_with (simp only [hq', hj'])
        have hju := Hj.out
        refine ⟨⟨i + 1, 2 * i + q, by omega, by omega, by rw [Hc2.out], ?_, by go_num, ?_⟩, by simp [intOf]; omega⟩
        · congr 1; omega
        · have := Hrel.out ((m : Int) % 4294967296) ((m : Int) / 4294967296) (by omega) (by omega)
          exact ⟨this.1, this.2, HN0.out⟩
    · obtain rfl : i = n := by omega
      obtain ⟨z0, z1, zf, zb, _⟩ := HZ.out _ HM.out.2.1
      have zf0 := zf 0
      have zf1 := zf 1
      have huK : (u : Int) ≤ (K : Int) := by have := HB.out.2.2.1; omega
      go_wp2_with fail
      have r0 : ((wr.setCell ⟨w.heap.size, 0, none⟩ (.bool neg)).setCell ⟨w.heap.size, 1, none⟩ (.slice (some ⟨gl, 0, none⟩) u K)).cell? ⟨w.heap.size, 0, none⟩ = some (.bool neg) := by rw [cell_setCell_ne _ _ _ _ _ (by omega)]; exact cell_setCell_eq _ _ _ _ _ z0
      have r1 : ((wr.setCell ⟨w.heap.size, 0, none⟩ (.bool neg)).setCell ⟨w.heap.size, 1, none⟩ (.slice (some ⟨gl, 0, none⟩) u K)).cell? ⟨w.heap.size, 1, none⟩ = some (.slice (some ⟨gl, 0, none⟩) u K) := cell_setCell_eq _ _ _ _ (.slice none 0 0) (by rw [cell_setCell_ne _ _ _ _ _ (by omega)]; exact z1)
      refine bodyPost_ret (v := .agg #[.bool neg, .slice (some ⟨gl, 0, none⟩) u K]) (by simp [results, Tryd.results34, go_sem, r0, r1]) rfl ⟨_, rfl, ?_, (zb.setCell (Nat.le_refl _) _).setCell (Nat.le_refl _) _⟩
      have hN := HM.out.2.2
      rw [Nat.mod_eq_of_lt HA.out] at hN
      have hKn := HB.out.2.2.1
      have hgl := HB.out.1
      refine ⟨u, ⟨hN.1, by omega, _, K, rfl, by omega, fun _ => ⟨gl, 0, rfl, trivial, fun j hj => ?_⟩⟩, hN, by omega⟩
      rw [cell_other _ _ _ _ _ _ (by omega), cell_other _ _ _ _ _ _ (by omega)]
      exact HM.out.1.lo j (by omega)

end Go.Proofs.YtolaaemkcmiabaaDoor

namespace Go.Proofs.YtolaaemkcmiabaaDoor
namespace Flt
set_option linter.unusedVariables false
set_option linter.unusedSimpArgs false
open Ieee

/-- A rung's magnitude, in units of the least place. -/
def V (f : Format) (r : Nat) : Nat := if r < f.binade then r else (f.binade + r % f.binade) * 2 ^ (r / f.binade - 1)

theorem binade_pos (f : Format) : 0 < f.binade := Nat.two_pow_pos _

theorem V_step (f : Format) (r : Nat) : V f (r + 1) = V f r + 2 ^ (r / f.binade - 1) := by
  have hb := binade_pos f
  unfold V
  generalize f.binade = B at *
  by_cases h1 : r + 1 < B
  · have h2 : r < B := by omega
    have h3 : r / B = 0 := Nat.div_eq_of_lt h2
    simp [h1, h2, h3]
  · by_cases h2 : r < B
    · have h3 : r + 1 = B := by omega
      have h4 : r / B = 0 := Nat.div_eq_of_lt h2
      rw [if_neg h1, if_pos h2, h3, h4, Nat.mod_self, Nat.div_self hb]
      simp; omega
    · rw [if_neg h1, if_neg h2]
      have hd := Nat.div_add_mod r B
      have hm := Nat.mod_lt r hb
      have hq : 0 < r / B := Nat.div_pos (by omega) hb
      by_cases h5 : r % B + 1 = B
      · have e1 : r + 1 = B * (r / B + 1) := by rw [Nat.mul_add]; omega
        have e2 : (r + 1) % B = 0 := by rw [e1]; exact Nat.mul_mod_right ..
        have e3 : (r + 1) / B = r / B + 1 := by rw [e1]; exact Nat.mul_div_cancel_left _ hb
        rw [e2, e3]
        obtain ⟨q, hq⟩ : ∃ q, r / B = q + 1 := ⟨r / B - 1, by omega⟩
        rw [hq]
        simp only [Nat.add_sub_cancel]
        have : B + r % B = 2 * B - 1 := by omega
        rw [this, Nat.pow_succ, Nat.sub_mul, Nat.add_zero, Nat.one_mul]
        have : 2 ^ q ≤ 2 * B * 2 ^ q := Nat.le_mul_of_pos_left _ (by omega)
        rw [Nat.sub_add_cancel this, Nat.mul_comm (2 ^ q) 2, ← Nat.mul_assoc, Nat.mul_comm B 2]
      · have e2 : (r + 1) % B = r % B + 1 := by
          have : r + 1 = (r % B + 1) + B * (r / B) := by omega
          rw [this, Nat.add_mul_mod_self_left]; exact Nat.mod_eq_of_lt (by omega)
        have e3 : (r + 1) / B = r / B := by
          have : r + 1 = (r % B + 1) + B * (r / B) := by omega
          rw [this, Nat.add_mul_div_left _ _ hb, Nat.div_eq_of_lt (by omega), Nat.zero_add]
        rw [e2, e3, ← Nat.add_assoc, Nat.add_mul (B + r % B), Nat.one_mul]

theorem V_lt {f : Format} {r s : Nat} (h : r < s) : V f r < V f s := by
  induction s with
  | zero => omega
  | succ n ih =>
    have := V_step f n
    have hp : 0 < 2 ^ (n / f.binade - 1) := Nat.two_pow_pos _
    rcases Nat.lt_or_ge r n with h1 | h1
    · have := ih h1; omega
    · have : r = n := by omega
      subst this; omega

theorem V_le {f : Format} {r s : Nat} (h : r ≤ s) : V f r ≤ V f s := by
  rcases Nat.lt_or_ge r s with h1 | h1
  · exact Nat.le_of_lt (V_lt h1)
  · have : r = s := by omega
    subst this; exact Nat.le_refl _

theorem V_lt_iff {f : Format} {r s : Nat} : V f r < V f s ↔ r < s := by
  refine ⟨fun h => ?_, V_lt⟩
  rcases Nat.lt_or_ge r s with h1 | h1
  · exact h1
  · have := V_le (f := f) h1; omega

theorem V_inj {f : Format} {r s : Nat} (h : V f r = V f s) : r = s := by
  rcases Nat.lt_trichotomy r s with h1 | h1 | h1
  · have := V_lt (f := f) h1; omega
  · exact h1
  · have := V_lt (f := f) h1; omega

theorem V_zero (f : Format) : V f 0 = 0 := by
  unfold V; rw [if_pos (binade_pos f)]

end Flt
end Go.Proofs.YtolaaemkcmiabaaDoor
