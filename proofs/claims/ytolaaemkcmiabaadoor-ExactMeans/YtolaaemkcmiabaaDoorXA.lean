/- Package exact: small things: Len64 of great numbers, near, plus, less, shifted. -/
import Derived.Test.YtolaaemkcmiabaaDoorAB
import Derived.Test.YtolaaemkcmiabaaDoorZ
import Derived.Test.YtolaaemkcmiabaaDoorI
import Derived.Deep.RegionHeld3
/- bits.Len, limb.Len. -/
namespace Go.Proofs.YtolaaemkcmiabaaDoor
open Go.RowKit
open M
set_option linter.unusedVariables false
set_option linter.unusedSimpArgs false

set_option maxRecDepth 1000000 in
set_option maxHeartbeats 4000000 in
theorem len64_a (x : Nat) (w : World) (h : x < 256) : Calls Tryd.prog 55 #[.int .u64 x] w fun e w' => e = .returned (.int .i64 (bitLen x : Nat)) ∧ w' = w := by
  have h0' : decide ((4294967296 : Int) ≤ (x : Int)) = false := by simp; omega
  have h1' : decide ((65536 : Int) ≤ (x : Int)) = false := by simp; omega
  have h2' : ¬ (256 : Int) ≤ (x : Int) := by omega
  have Hz := hide (bitLen_le8 x (by omega))
  go_enter Tryd.func55, Tryd.ntmps55
  go_wp2_with fail
  go_ret
  refine ⟨?_, rfl⟩
  apply ret_int
  rw [len8tab_get]
  have q1 := Hz.out
  simp only [wrap64]
  clear h0' h1' h2' h
  omega

set_option maxRecDepth 1000000 in
set_option maxHeartbeats 4000000 in
theorem len64_b (x : Nat) (w : World) (h : 256 ≤ x) (h2 : x < 65536) : Calls Tryd.prog 55 #[.int .u64 x] w fun e w' => e = .returned (.int .i64 (bitLen x : Nat)) ∧ w' = w := by
  have h0' : decide ((4294967296 : Int) ≤ (x : Int)) = false := by simp; omega
  have h1' : decide ((65536 : Int) ≤ (x : Int)) = false := by simp; omega
  have h2' : (256 : Int) ≤ (x : Int) := by omega
  obtain ⟨z, hz, hz'⟩ : ∃ z : Nat, z = x / 256 ∧ (x : Int) / 256 = (z : Int) := ⟨x / 256, rfl, by simp⟩
  have Hy : Hid (bitLen x = 8 + bitLen z) := by show _ = _; rw [hz]; exact bitLen_shift x 8 (by omega)
  have hzl : z < 256 := by omega
  have Hz := hide (bitLen_le8 z hzl)
  clear hz h h2
  go_enter Tryd.func55, Tryd.ntmps55
  go_wp2_with fail
  go_ret
  refine ⟨?_, rfl⟩
  apply ret_int
  rw [len8tab_get]
  have q1 := Hz.out
  have q2 := Hy.out
  simp only [wrap64]
  clear h0' h1' h2' hz'
  omega

set_option maxRecDepth 1000000 in
set_option maxHeartbeats 4000000 in
theorem len64_c (x : Nat) (w : World) (hx : x < 4294967296) (h : 65536 ≤ x) (h2 : x / 65536 < 256) : Calls Tryd.prog 55 #[.int .u64 x] w fun e w' => e = .returned (.int .i64 (bitLen x : Nat)) ∧ w' = w := by
  have h0' : decide ((4294967296 : Int) ≤ (x : Int)) = false := by simp; omega
  have h1' : (65536 : Int) ≤ (x : Int) := by omega
  obtain ⟨y, hy, hy'⟩ : ∃ y : Nat, y = x / 65536 ∧ (x : Int) / 65536 = (y : Int) := ⟨x / 65536, rfl, by simp⟩
  have Hx : Hid (bitLen x = 16 + bitLen y) := by show _ = _; rw [hy]; exact bitLen_shift x 16 (by omega)
  have h2' : ¬ (256 : Int) ≤ (y : Int) := by omega
  have hy2 : y < 256 := by omega
  have Hz := hide (bitLen_le8 y (by omega))
  clear hy h2 h hx
  go_enter Tryd.func55, Tryd.ntmps55
  go_wp2_with fail
  go_ret
  refine ⟨?_, rfl⟩
  apply ret_int
  rw [len8tab_get]
  have q1 := Hz.out
  have q2 := Hx.out
  simp only [wrap64]
  clear h0' h1' h2' hy'
  omega

set_option maxRecDepth 1000000 in
set_option maxHeartbeats 4000000 in
theorem len64_d (x : Nat) (w : World) (hx : x < 4294967296) (h : 65536 ≤ x) (h2 : 256 ≤ x / 65536) : Calls Tryd.prog 55 #[.int .u64 x] w fun e w' => e = .returned (.int .i64 (bitLen x : Nat)) ∧ w' = w := by
  have h0' : decide ((4294967296 : Int) ≤ (x : Int)) = false := by simp; omega
  have h1' : (65536 : Int) ≤ (x : Int) := by omega
  obtain ⟨y, hy, hy'⟩ : ∃ y : Nat, y = x / 65536 ∧ (x : Int) / 65536 = (y : Int) := ⟨x / 65536, rfl, by simp⟩
  have Hx : Hid (bitLen x = 16 + bitLen y) := by show _ = _; rw [hy]; exact bitLen_shift x 16 (by omega)
  have h2' : (256 : Int) ≤ (y : Int) := by omega
  have hyl : y < 65536 := by omega
  clear hy h2 h hx
  obtain ⟨z, hz, hz'⟩ : ∃ z : Nat, z = y / 256 ∧ (y : Int) / 256 = (z : Int) := ⟨y / 256, rfl, by simp⟩
  have Hy : Hid (bitLen y = 8 + bitLen z) := by show _ = _; rw [hz]; exact bitLen_shift y 8 (by omega)
  have hzl : z < 256 := by omega
  have Hz := hide (bitLen_le8 z hzl)
  clear hz hyl
  go_enter Tryd.func55, Tryd.ntmps55
  go_wp2_with fail
  go_ret
  refine ⟨?_, rfl⟩
  apply ret_int
  rw [len8tab_get]
  have q1 := Hz.out
  have q2 := Hx.out
  have q3 := Hy.out
  simp only [wrap64]
  clear h0' h1' h2' hy' hz'
  omega

theorem len64_any (x : Nat) (w : World) (hx : x < 4294967296) : Calls Tryd.prog 55 #[.int .u64 x] w fun e w' => e = .returned (.int .i64 (bitLen x : Nat)) ∧ w' = w := by
  by_cases h : x < 256
  · exact len64_a x w h
  · by_cases h1 : x < 65536
    · exact len64_b x w (by omega) h1
    · by_cases h2 : x / 65536 < 256
      · exact len64_c x w hx (by omega) h2
      · exact len64_d x w hx (by omega) (by omega)

theorem blen_any (x : Nat) (w : World) (hx : x < 4294967296) : Calls Tryd.prog 81 #[.int .u64 x] w fun e w' => e = .returned (.int .i64 (bitLen x : Nat)) ∧ w' = w := by
  have HL := hide (len64_any x w hx)
  generalize bitLen x = b at *
  go_enter Tryd.func81, Tryd.ntmps81
  go_wp2_with fail
  refine HL.out.mono ?_
  rintro e w1 ⟨rfl, rfl⟩
  go_wp2_with fail
  go_ret
  exact ⟨rfl, rfl⟩

theorem bitLen_nrm {k A : Nat} (h : Nrm (k + 1) A) : bitLen A = 32 * k + bitLen (dg A k) := by
  have hd : A / 2 ^ (32 * k) = dg A k := by
    have h2 := div_succ A k
    rw [Nat.div_eq_of_lt h.1, Nat.zero_mul, Nat.zero_add] at h2
    rw [Nat.pow_mul, show (2 : Nat) ^ 32 = 4294967296 from by decide]; exact h2
  rw [← hd]
  exact bitLen_shift A (32 * k) (by rw [hd]; exact h.top)

set_option maxRecDepth 100000 in
theorem Len_row {S : Nat → Prop} (v : Value) (k A : Nat) (w : World) (h : RowX S w v k A) (hn : Nrm k A) (hk : k ≤ 8192) :
    Calls Tryd.prog 38 #[v] w fun e w' => e = .returned (.int .i64 (bitLen A : Nat)) ∧ w' = w := by
  have HC := hide (check_ok v k A w h hn hk)
  obtain ⟨_, _, ad, cap, rfl, _, hcell⟩ := h
  by_cases h0 : k = 0
  · have hA := hn.zero_iff.1 h0
    subst h0
    have HB : Hid (bitLen A = 0) := by show _ = _; rw [hA]; rfl
    clear hcell hn hA
    go_enter Tryd.func38, Tryd.ntmps38
    go_wp2_with fail
    refine HC.out.mono ?_
    rintro e w1 ⟨rfl, rfl⟩
    go_wp2_with fail
    go_ret
    exact ⟨by rw [HB.out]; rfl, rfl⟩
  · obtain ⟨m, rfl⟩ : ∃ m, k = m + 1 := ⟨k - 1, by omega⟩
    have HB := hide (bitLen_nrm hn)
    obtain ⟨g, o, rfl, _, hj⟩ := hcell (by omega)
    have hc := hj m (by omega)
    have hkz : (((m + 1 : Nat) : Int) == 0) = false := by rw [beq_eq_false_iff_ne]; omega
    have hl := dg_lt A m
    have HL : Hid (∀ w, Calls Tryd.prog 60 #[.int .u32 (dg A m : Nat)] w fun e w' => e = .returned (.int .i64 (bitLen (dg A m) : Nat)) ∧ w' = w) := fun w => len32_any _ w hl
    have hb : bitLen (dg A m) ≤ 32 := bitLen_le (by omega)
    clear hj hcell hn h0
    generalize dg A m = x at *
    generalize bitLen x = b at *
    go_enter Tryd.func38, Tryd.ntmps38
    go_wp2_with fail
    refine HC.out.mono ?_
    rintro e w1 ⟨rfl, rfl⟩
    go_wp2_with fail
    refine (HL.out _).mono ?_
    rintro e w2 ⟨rfl, rfl⟩
    go_wp2_with fail
    go_ret
    exact ⟨ret_int (by rw [HB.out]; omega), rfl⟩

end Go.Proofs.YtolaaemkcmiabaaDoor

/- Left. -/
namespace Go.Proofs.YtolaaemkcmiabaaDoor
open Go.RowKit
open M
set_option linter.unusedVariables false
set_option linter.unusedSimpArgs false

theorem pw_two (k : Nat) : 4294967296 ^ k = 2 ^ (32 * k) := by rw [Nat.pow_mul]

theorem fits_shift {A n : Nat} (hA : A ≠ 0) : Fits (A * 2 ^ n) ↔ bitLen A + n ≤ 262144 := by
  have hs := bitLen_spec A
  have hs2 := hs.2 hA
  have hb : 0 < bitLen A := by
    rcases Nat.eq_zero_or_pos (bitLen A) with h0 | h0
    · have := hs.1
      rw [h0] at this
      omega
    · exact h0
  generalize bitLen A = b at *
  constructor
  · rintro ⟨k, hk, hlt⟩
    rw [pw_two] at hlt
    have h1 : 2 ^ (b - 1) * 2 ^ n ≤ A * 2 ^ n := Nat.mul_le_mul_right _ hs2
    rw [← Nat.pow_add] at h1
    have h2 := (Nat.pow_lt_pow_iff_right (by omega : 1 < 2)).1 (Nat.lt_of_le_of_lt h1 hlt)
    omega
  · intro h
    refine ⟨(b + n + 31) / 32, by omega, ?_⟩
    rw [pw_two]
    have h1 : A * 2 ^ n < 2 ^ b * 2 ^ n := Nat.mul_lt_mul_of_pos_right hs.1 (Nat.two_pow_pos n)
    rw [← Nat.pow_add] at h1
    exact Nat.lt_of_lt_of_le h1 (Nat.pow_le_pow_right (by omega) (by omega))

theorem bitLen_row {k A : Nat} (h : Nrm k A) : bitLen A ≤ 32 * k := bitLen_le (by rw [← pw_two]; exact h.1)

set_option maxRecDepth 100000 in
set_option maxHeartbeats 1000000 in
theorem Left_told {S : Nat → Prop} (v : Value) (k A n : Nat) (w : World) (h : RowX S w v k A) (hn : Nrm k A) (hk : k ≤ 8192) (hnn : n < 9223372036854775808) :
    Calls Tryd.prog 80 #[v, .int .i64 n] w fun e w' => ∃ u c, e = .returned (.tuple #[u, .int .i64 c]) ∧ Told w' w.heap.size u c (A * 2 ^ n) ∧ Below w.heap.size w w' := by
  have HC := hide (check_ok v k A w h hn hk)
  have HL := hide (Len_row v k A w h hn hk)
  have HR := hide h
  have hb := bitLen_row hn
  have hz := hn.zero_iff
  obtain ⟨_, _, ad, cap, rfl, _, _⟩ := h
  have hneg : ¬ (n : Int) < 0 := by omega
  by_cases hk0 : k = 0
  · obtain rfl : A = 0 := hz.1 hk0
    subst hk0
    clear hz
    go_enter Tryd.func80, Tryd.ntmps80
    go_wp2_with fail
    refine HC.out.mono ?_
    rintro e w1 ⟨rfl, rfl⟩
    go_wp2_with fail
    go_ret2
    exact ⟨_, 0, rfl, .inl ⟨⟨0, by omega, by simp⟩, rfl, 0, by rw [Nat.zero_mul]; exact Own.nil _ _, by rw [Nat.zero_mul]; exact nrm_zero⟩, Below.refl _ _⟩
  · have hA : A ≠ 0 := fun e => hk0 (hz.2 e)
    have HF := hide (fits_shift (n := n) hA)
    have hk1 : ((k : Int) == 0) = false := by simp; omega
    clear hz hA
    generalize bitLen A = b at *
    by_cases hlong : 262144 < b + n
    · have hl' : (262144 : Int) - (b : Int) < (n : Int) := by omega
      go_enter Tryd.func80, Tryd.ntmps80
      go_wp2_with fail
      refine HC.out.mono ?_
      rintro e w1 ⟨rfl, rfl⟩
      go_wp2_with fail
      refine HL.out.mono ?_
      rintro e w1 ⟨rfl, rfl⟩
      go_wp2_with fail
      go_ret2
      exact ⟨_, 21, rfl, .inr ⟨fun hf => by have := HF.out.1 hf; omega, rfl, rfl⟩, Below.refl _ _⟩
    · have hl' : ¬ (262144 : Int) - (b : Int) < (n : Int) := by omega
      go_enter Tryd.func80, Tryd.ntmps80
      go_wp2_with fail
      refine HC.out.mono ?_
      rintro e w1 ⟨rfl, rfl⟩
      go_wp2_with fail
      refine HL.out.mono ?_
      rintro e w1 ⟨rfl, rfl⟩
      go_wp2_with fail
      refine (shiftUp_any _ k A n w1 HR.out (by omega)).mono ?_
      rintro e w2 ⟨r, rfl, m, hr, hm, _, hb2⟩
      have H2 := hide (And.intro hr (And.intro hm hb2))
      clear hr hm hb2
      go_wp2_with fail
      refine (tell_any r m _ w2 H2.out.1).mono ?_
      rintro e w3 ⟨u, c, rfl, ht, hb3⟩
      have H3 : Hid (Told w3 w1.heap.size u c (A * 2 ^ n) ∧ Below w1.heap.size w1 w3) := ⟨ht.mono H2.out.2.2.size, H2.out.2.2.trans (hb3.mono H2.out.2.2.size)⟩
      clear ht hb3
      go_wp2_with fail
      go_ret2
      exact ⟨u, c, rfl, H3.out.1, H3.out.2⟩

set_option maxRecDepth 100000 in
set_option maxHeartbeats 1000000 in
theorem Left_neg {S : Nat → Prop} (v : Value) (k A : Nat) (n : Int) (w : World) (h : RowX S w v k A) (hn : Nrm k A) (hk : k ≤ 8192) (hnn : n < 0) :
    Calls Tryd.prog 80 #[v, .int .i64 n] w fun e w' => e = .returned (.tuple #[.slice none 0 0, .int .i64 24]) ∧ w' = w := by
  have HC := hide (check_ok v k A w h hn hk)
  clear h hn
  go_enter Tryd.func80, Tryd.ntmps80
  go_wp2_with fail
  refine HC.out.mono ?_
  rintro e w1 ⟨rfl, rfl⟩
  go_wp2_with fail
  go_ret2
  exact ⟨rfl, rfl⟩

set_option maxRecDepth 100000 in
set_option maxHeartbeats 1000000 in
theorem Left_bad {S : Nat → Prop} (v : Value) (k A : Nat) (n : Int) (w : World) (h : RowX S w v k A) (hc : chk k A ≠ 0) :
    Calls Tryd.prog 80 #[v, .int .i64 n] w fun e w' => e = .returned (.tuple #[.slice none 0 0, .int .i64 (chk k A)]) ∧ w' = w := by
  have HC := hide (check_any v k A w h)
  clear h
  generalize chk k A = c at *
  go_enter Tryd.func80, Tryd.ntmps80
  go_wp2_with fail
  refine HC.out.mono ?_
  rintro e w1 ⟨rfl, rfl⟩
  go_wp2_with fail
  go_ret2
  exact ⟨rfl, rfl⟩

end Go.Proofs.YtolaaemkcmiabaaDoor

namespace Go.Proofs.YtolaaemkcmiabaaDoor
open Go.RowKit
open M
set_option linter.unusedVariables false
set_option linter.unusedSimpArgs false

set_option maxRecDepth 1000000 in
set_option maxHeartbeats 4000000 in
theorem len64_top (x : Nat) (w : World) (h : 4611686018427387904 ≤ x) (hx : x < 18446744073709551616) : Calls Tryd.prog 55 #[.int .u64 x] w fun e w' => e = .returned (.int .i64 (bitLen x : Nat)) ∧ w' = w := by
  have h0' : decide ((4294967296 : Int) ≤ (x : Int)) = true := by simp; omega
  obtain ⟨t, ht, ht'⟩ : ∃ t : Nat, t = x / 4294967296 ∧ (x : Int) / 4294967296 = (t : Int) := ⟨x / 4294967296, rfl, by simp⟩
  have Ht : Hid (bitLen x = 32 + bitLen t) := by show _ = _; rw [ht]; exact bitLen_shift x 32 (by omega)
  have htl : t < 4294967296 ∧ 1073741824 ≤ t := by omega
  clear ht h hx
  have h1' : decide ((65536 : Int) ≤ (t : Int)) = true := by simp; omega
  obtain ⟨y, hy, hy'⟩ : ∃ y : Nat, y = t / 65536 ∧ (t : Int) / 65536 = (y : Int) := ⟨t / 65536, rfl, by simp⟩
  have Hx : Hid (bitLen t = 16 + bitLen y) := by show _ = _; rw [hy]; exact bitLen_shift t 16 (by omega)
  have h2' : (256 : Int) ≤ (y : Int) := by omega
  have hyl : y < 65536 := by omega
  clear hy htl
  obtain ⟨z, hz, hz'⟩ : ∃ z : Nat, z = y / 256 ∧ (y : Int) / 256 = (z : Int) := ⟨y / 256, rfl, by simp⟩
  have Hy : Hid (bitLen y = 8 + bitLen z) := by show _ = _; rw [hz]; exact bitLen_shift y 8 (by omega)
  have hzl : z < 256 := by omega
  have Hz := hide (bitLen_le8 z hzl)
  clear hz hyl
  go_enter Tryd.func55, Tryd.ntmps55
  go_wp2_with (simp only [ht', hy', hz'])
  go_ret
  refine ⟨?_, rfl⟩
  apply ret_int
  rw [len8tab_get]
  have q1 := Hz.out
  have q2 := Hx.out
  have q3 := Hy.out
  have q4 := Ht.out
  simp only [wrap64]
  clear h0' h1' h2' hy' hz' ht'
  omega

/-- A power of 2, cut. -/
def nr (e : Int) : Int := max (-1048576) (min e 1048576)

set_option maxRecDepth 100000 in
theorem near_any (e0 : Int) (w : World) : Calls Tryd.prog 37 #[.int .i64 e0] w fun e w' => e = .returned (.int .i64 (nr e0)) ∧ w' = w := by
  have hcase : (e0 < -1048576 ∧ nr e0 = -1048576) ∨ (1048576 < e0 ∧ ¬ e0 < -1048576 ∧ nr e0 = 1048576) ∨ (¬ 1048576 < e0 ∧ ¬ e0 < -1048576 ∧ nr e0 = e0) := by unfold nr; omega
  generalize nr e0 = n at *
  rcases hcase with ⟨h1, rfl⟩ | ⟨h1, h3, rfl⟩ | ⟨h1, h3, rfl⟩
  all_goals
    go_enter Tryd.func37, Tryd.ntmps37
    go_wp2_with fail
    go_ret
    exact ⟨rfl, rfl⟩

theorem Told.num {w : World} {base : Nat} {u : Value} {c : Int} {N : Nat} (h : Told w base u c N) (hf : Fits N) : Num w u N := by
  rcases h with ⟨h1, _, n, h3, h4⟩ | ⟨h1, _⟩
  · exact h3.num h4 h1
  · exact absurd hf h1

theorem num_slice {w : World} {v : Value} {N : Nat} (h : Num w v N) : ∃ ad k cap, v = .slice ad k cap ∧ (k = 0 ↔ N = 0) := by
  obtain ⟨k, ⟨_, _, ad, cap, hv, _⟩, hn, _⟩ := h
  exact ⟨ad, k, cap, hv, hn.zero_iff⟩

set_option maxRecDepth 100000 in
theorem xplus {v u : Value} {A C : Nat} {w : World} (h : Num w v A) (h' : Num w u C) (hf : Fits (A + C)) : Calls Tryd.prog 77 #[v, u] w fun e w' => ∃ r, e = .returned r ∧ Num w' r (A + C) ∧ Below w.heap.size w w' := by
  have HA := hide (Add_ok h h')
  have HF := hide hf
  clear h h' hf
  go_enter Tryd.func77, Tryd.ntmps77
  go_wp2_with fail
  refine HA.out.mono ?_
  rintro e w1 ⟨r, c, rfl, ht, hb⟩
  have HN := hide (And.intro (ht.num HF.out) hb)
  clear ht hb
  go_wp2_with fail
  go_ret
  exact ⟨_, rfl, HN.out⟩

set_option maxRecDepth 100000 in
theorem xless {v u : Value} {A C : Nat} {w : World} (h : Num w v A) (h' : Num w u C) (hle : C ≤ A) : Calls Tryd.prog 76 #[v, u] w fun e w' => ∃ r, e = .returned r ∧ Num w' r (A - C) ∧ Below w.heap.size w w' := by
  have HA := hide (Sub_ok h h' hle)
  have HF := hide (h.fits.le (Nat.sub_le A C))
  clear h h' hle
  go_enter Tryd.func76, Tryd.ntmps76
  go_wp2_with fail
  refine HA.out.mono ?_
  rintro e w1 ⟨r, c, rfl, ht, hb⟩
  have HN := hide (And.intro (ht.num HF.out) hb)
  clear ht hb
  go_wp2_with fail
  go_ret
  exact ⟨_, rfl, HN.out⟩

set_option maxRecDepth 100000 in
theorem xshift {v : Value} {A : Nat} {w : World} (n : Int) (h : Num w v A) (hf : Fits (A * 2 ^ n.toNat)) (hn1 : -9223372036854775808 ≤ n) (hn2 : n < 9223372036854775808) : Calls Tryd.prog 63 #[v, .int .i64 n] w fun e w' => ∃ r, e = .returned r ∧ Num w' r (A * 2 ^ n.toNat) ∧ Below w.heap.size w w' := by
  obtain ⟨k, h1, h2, h3⟩ := h
  obtain ⟨m, hm⟩ : ∃ m : Nat, n.toNat = m := ⟨_, rfl⟩
  rw [hm] at hf ⊢
  have HA := hide (Left_told v k A m w h1 h2 h3 (by omega))
  have HF := hide hf
  have hc : (n < 0 ∧ m = 0) ∨ (¬ n < 0 ∧ n = (m : Int)) := by omega
  clear h1 h2 hf hm
  rcases hc with ⟨c1, rfl⟩ | ⟨c1, rfl⟩
  all_goals
    go_enter Tryd.func63, Tryd.ntmps63
    go_wp2_with fail
    refine HA.out.mono ?_
    rintro e w1 ⟨r, c, rfl, ht, hb⟩
    have HN := hide (And.intro (ht.num HF.out) hb)
    clear ht hb
    go_wp2_with fail
    go_ret
    exact ⟨_, rfl, HN.out⟩

theorem xlen {v : Value} {A : Nat} {w : World} (h : Num w v A) : Calls Tryd.prog 38 #[v] w fun e w' => e = .returned (.int .i64 (bitLen A : Nat)) ∧ w' = w := by
  obtain ⟨k, h1, h2, h3⟩ := h
  exact Len_row v k A w h1 h2 h3

theorem fits_bits {A : Nat} : Fits A ↔ bitLen A ≤ 262144 := by
  by_cases h : A = 0
  · subst h
    exact ⟨fun _ => by simp [bitLen], fun _ => ⟨0, by omega, by simp⟩⟩
  · have := fits_shift (n := 0) h
    rw [Nat.pow_zero, Nat.mul_one, Nat.add_zero] at this
    exact this
end Go.Proofs.YtolaaemkcmiabaaDoor
