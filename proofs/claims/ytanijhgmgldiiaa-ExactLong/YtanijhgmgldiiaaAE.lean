/- bits.Len, limb.Len. -/
import Derived.Test.YtanijhgmgldiiaaAB
namespace Go.Proofs.Ytanijhgmgldiiaa
open Go.RowKit
open M
set_option linter.unusedVariables false
set_option linter.unusedSimpArgs false

set_option maxRecDepth 1000000 in
set_option maxHeartbeats 4000000 in
theorem len64_a (x : Nat) (w : World) (h : x < 256) : Calls Try.prog 21 #[.int .u64 x] w fun e w' => e = .returned (.int .i64 (bitLen x : Nat)) ∧ w' = w := by
  have h0' : decide ((4294967296 : Int) ≤ (x : Int)) = false := by simp; omega
  have h1' : decide ((65536 : Int) ≤ (x : Int)) = false := by simp; omega
  have h2' : ¬ (256 : Int) ≤ (x : Int) := by omega
  have Hz := hide (bitLen_le8 x (by omega))
  go_enter Try.func21, Try.ntmps21
  go_wp2_with fail
  go_ret
  refine ⟨?_, rfl⟩
  apply ret_int
  rw [len8tab_get]
  have q1 := Hz.out
  simp only [wrap64]
  clear h0' h1' h2' h
  omega

set_option maxRecDepth 1000000 in
set_option maxHeartbeats 4000000 in
theorem len64_b (x : Nat) (w : World) (h : 256 ≤ x) (h2 : x < 65536) : Calls Try.prog 21 #[.int .u64 x] w fun e w' => e = .returned (.int .i64 (bitLen x : Nat)) ∧ w' = w := by
  have h0' : decide ((4294967296 : Int) ≤ (x : Int)) = false := by simp; omega
  have h1' : decide ((65536 : Int) ≤ (x : Int)) = false := by simp; omega
  have h2' : (256 : Int) ≤ (x : Int) := by omega
  obtain ⟨z, hz, hz'⟩ : ∃ z : Nat, z = x / 256 ∧ (x : Int) / 256 = (z : Int) := ⟨x / 256, rfl, by simp⟩
  have Hy : Hid (bitLen x = 8 + bitLen z) := by show _ = _; rw [hz]; exact bitLen_shift x 8 (by omega)
  have hzl : z < 256 := by omega
  have Hz := hide (bitLen_le8 z hzl)
  clear hz h h2
  go_enter Try.func21, Try.ntmps21
  go_wp2_with fail
  go_ret
  refine ⟨?_, rfl⟩
  apply ret_int
  rw [len8tab_get]
  have q1 := Hz.out
  have q2 := Hy.out
  simp only [wrap64]
  clear h0' h1' h2' hz'
  omega

set_option maxRecDepth 1000000 in
set_option maxHeartbeats 4000000 in
theorem len64_c (x : Nat) (w : World) (hx : x < 4294967296) (h : 65536 ≤ x) (h2 : x / 65536 < 256) : Calls Try.prog 21 #[.int .u64 x] w fun e w' => e = .returned (.int .i64 (bitLen x : Nat)) ∧ w' = w := by
  have h0' : decide ((4294967296 : Int) ≤ (x : Int)) = false := by simp; omega
  have h1' : (65536 : Int) ≤ (x : Int) := by omega
  obtain ⟨y, hy, hy'⟩ : ∃ y : Nat, y = x / 65536 ∧ (x : Int) / 65536 = (y : Int) := ⟨x / 65536, rfl, by simp⟩
  have Hx : Hid (bitLen x = 16 + bitLen y) := by show _ = _; rw [hy]; exact bitLen_shift x 16 (by omega)
  have h2' : ¬ (256 : Int) ≤ (y : Int) := by omega
  have hy2 : y < 256 := by omega
  have Hz := hide (bitLen_le8 y (by omega))
  clear hy h2 h hx
  go_enter Try.func21, Try.ntmps21
  go_wp2_with fail
  go_ret
  refine ⟨?_, rfl⟩
  apply ret_int
  rw [len8tab_get]
  have q1 := Hz.out
  have q2 := Hx.out
  simp only [wrap64]
  clear h0' h1' h2' hy'
  omega

set_option maxRecDepth 1000000 in
set_option maxHeartbeats 4000000 in
theorem len64_d (x : Nat) (w : World) (hx : x < 4294967296) (h : 65536 ≤ x) (h2 : 256 ≤ x / 65536) : Calls Try.prog 21 #[.int .u64 x] w fun e w' => e = .returned (.int .i64 (bitLen x : Nat)) ∧ w' = w := by
  have h0' : decide ((4294967296 : Int) ≤ (x : Int)) = false := by simp; omega
  have h1' : (65536 : Int) ≤ (x : Int) := by omega
  obtain ⟨y, hy, hy'⟩ : ∃ y : Nat, y = x / 65536 ∧ (x : Int) / 65536 = (y : Int) := ⟨x / 65536, rfl, by simp⟩
  have Hx : Hid (bitLen x = 16 + bitLen y) := by show _ = _; rw [hy]; exact bitLen_shift x 16 (by omega)
  have h2' : (256 : Int) ≤ (y : Int) := by omega
  have hyl : y < 65536 := by omega
  clear hy h2 h hx
  obtain ⟨z, hz, hz'⟩ : ∃ z : Nat, z = y / 256 ∧ (y : Int) / 256 = (z : Int) := ⟨y / 256, rfl, by simp⟩
  have Hy : Hid (bitLen y = 8 + bitLen z) := by show _ = _; rw [hz]; exact bitLen_shift y 8 (by omega)
  have hzl : z < 256 := by omega
  have Hz := hide (bitLen_le8 z hzl)
  clear hz hyl
  go_enter Try.func21, Try.ntmps21
  go_wp2_with fail
  go_ret
  refine ⟨?_, rfl⟩
  apply ret_int
  rw [len8tab_get]
  have q1 := Hz.out
  have q2 := Hx.out
  have q3 := Hy.out
  simp only [wrap64]
  clear h0' h1' h2' hy' hz'
  omega

theorem len64_any (x : Nat) (w : World) (hx : x < 4294967296) : Calls Try.prog 21 #[.int .u64 x] w fun e w' => e = .returned (.int .i64 (bitLen x : Nat)) ∧ w' = w := by
  by_cases h : x < 256
  · exact len64_a x w h
  · by_cases h1 : x < 65536
    · exact len64_b x w (by omega) h1
    · by_cases h2 : x / 65536 < 256
      · exact len64_c x w hx (by omega) h2
      · exact len64_d x w hx (by omega) (by omega)

theorem blen_any (x : Nat) (w : World) (hx : x < 4294967296) : Calls Try.prog 39 #[.int .u64 x] w fun e w' => e = .returned (.int .i64 (bitLen x : Nat)) ∧ w' = w := by
  have HL := hide (len64_any x w hx)
  generalize bitLen x = b at *
  go_enter Try.func39, Try.ntmps39
  go_wp2_with fail
  refine HL.out.mono ?_
  rintro e w1 ⟨rfl, rfl⟩
  go_wp2_with fail
  go_ret
  exact ⟨rfl, rfl⟩

theorem bitLen_nrm {k A : Nat} (h : Nrm (k + 1) A) : bitLen A = 32 * k + bitLen (dg A k) := by
  have hd : A / 2 ^ (32 * k) = dg A k := by
    have h2 := div_succ A k
    rw [Nat.div_eq_of_lt h.1, Nat.zero_mul, Nat.zero_add] at h2
    rw [Nat.pow_mul, show (2 : Nat) ^ 32 = 4294967296 from by decide]; exact h2
  rw [← hd]
  exact bitLen_shift A (32 * k) (by rw [hd]; exact h.top)

set_option maxRecDepth 100000 in
theorem Len_row {S : Nat → Prop} (v : Value) (k A : Nat) (w : World) (h : RowX S w v k A) (hn : Nrm k A) (hk : k ≤ 8192) :
    Calls Try.prog 19 #[v] w fun e w' => e = .returned (.int .i64 (bitLen A : Nat)) ∧ w' = w := by
  have HC := hide (check_ok v k A w h hn hk)
  obtain ⟨_, _, ad, cap, rfl, _, hcell⟩ := h
  by_cases h0 : k = 0
  · have hA := hn.zero_iff.1 h0
    subst h0
    have HB : Hid (bitLen A = 0) := by show _ = _; rw [hA]; rfl
    clear hcell hn hA
    go_enter Try.func19, Try.ntmps19
    go_wp2_with fail
    refine HC.out.mono ?_
    rintro e w1 ⟨rfl, rfl⟩
    go_wp2_with fail
    go_ret
    exact ⟨by rw [HB.out]; rfl, rfl⟩
  · obtain ⟨m, rfl⟩ : ∃ m, k = m + 1 := ⟨k - 1, by omega⟩
    have HB := hide (bitLen_nrm hn)
    obtain ⟨g, o, rfl, _, hj⟩ := hcell (by omega)
    have hc := hj m (by omega)
    have hkz : (((m + 1 : Nat) : Int) == 0) = false := by rw [beq_eq_false_iff_ne]; omega
    have hl := dg_lt A m
    have HL : Hid (∀ w, Calls Try.prog 26 #[.int .u32 (dg A m : Nat)] w fun e w' => e = .returned (.int .i64 (bitLen (dg A m) : Nat)) ∧ w' = w) := fun w => len32_any _ w hl
    have hb : bitLen (dg A m) ≤ 32 := bitLen_le (by omega)
    clear hj hcell hn h0
    generalize dg A m = x at *
    generalize bitLen x = b at *
    go_enter Try.func19, Try.ntmps19
    go_wp2_with fail
    refine HC.out.mono ?_
    rintro e w1 ⟨rfl, rfl⟩
    go_wp2_with fail
    refine (HL.out _).mono ?_
    rintro e w2 ⟨rfl, rfl⟩
    go_wp2_with fail
    go_ret
    exact ⟨ret_int (by rw [HB.out]; omega), rfl⟩

end Go.Proofs.Ytanijhgmgldiiaa
