/- TrailingZeros32, Low, Right, Bit. -/
import Derived.Test.YtmfimhpbdbbpoaaDoorZ
import Derived.Test.YtmfimhpbdbbpoaaDoorT
import Derived.Lib.TrailingZeros
/- Left. -/
namespace Go.Proofs.YtmfimhpbdbbpoaaDoor
open Go.RowKit
open M
set_option linter.unusedVariables false
set_option linter.unusedSimpArgs false

theorem pw_two (k : Nat) : 4294967296 ^ k = 2 ^ (32 * k) := by rw [Nat.pow_mul]

theorem fits_shift {A n : Nat} (hA : A ≠ 0) : Fits (A * 2 ^ n) ↔ bitLen A + n ≤ 262144 := by
  have hs := bitLen_spec A
  have hs2 := hs.2 hA
  have hb : 0 < bitLen A := by
    rcases Nat.eq_zero_or_pos (bitLen A) with h0 | h0
    · have := hs.1
      rw [h0] at this
      omega
    · exact h0
  generalize bitLen A = b at *
  constructor
  · rintro ⟨k, hk, hlt⟩
    rw [pw_two] at hlt
    have h1 : 2 ^ (b - 1) * 2 ^ n ≤ A * 2 ^ n := Nat.mul_le_mul_right _ hs2
    rw [← Nat.pow_add] at h1
    have h2 := (Nat.pow_lt_pow_iff_right (by omega : 1 < 2)).1 (Nat.lt_of_le_of_lt h1 hlt)
    omega
  · intro h
    refine ⟨(b + n + 31) / 32, by omega, ?_⟩
    rw [pw_two]
    have h1 : A * 2 ^ n < 2 ^ b * 2 ^ n := Nat.mul_lt_mul_of_pos_right hs.1 (Nat.two_pow_pos n)
    rw [← Nat.pow_add] at h1
    exact Nat.lt_of_lt_of_le h1 (Nat.pow_le_pow_right (by omega) (by omega))

theorem bitLen_row {k A : Nat} (h : Nrm k A) : bitLen A ≤ 32 * k := bitLen_le (by rw [← pw_two]; exact h.1)

set_option maxRecDepth 100000 in
set_option maxHeartbeats 1000000 in
theorem Left_told {S : Nat → Prop} (v : Value) (k A n : Nat) (w : World) (h : RowX S w v k A) (hn : Nrm k A) (hk : k ≤ 8192) (hnn : n < 9223372036854775808) :
    Calls Tryd.prog 35 #[v, .int .i64 n] w fun e w' => ∃ u c, e = .returned (.tuple #[u, .int .i64 c]) ∧ Told w' w.heap.size u c (A * 2 ^ n) ∧ Below w.heap.size w w' := by
  have HC := hide (check_ok v k A w h hn hk)
  have HL := hide (Len_row v k A w h hn hk)
  have HR := hide h
  have hb := bitLen_row hn
  have hz := hn.zero_iff
  obtain ⟨_, _, ad, cap, rfl, _, _⟩ := h
  have hneg : ¬ (n : Int) < 0 := by omega
  by_cases hk0 : k = 0
  · obtain rfl : A = 0 := hz.1 hk0
    subst hk0
    clear hz
    go_enter Tryd.func35, Tryd.ntmps35
    go_wp2_with fail
    refine HC.out.mono ?_
    rintro e w1 ⟨rfl, rfl⟩
    go_wp2_with fail
    go_ret2
    exact ⟨_, 0, rfl, .inl ⟨⟨0, by omega, by simp⟩, rfl, 0, by rw [Nat.zero_mul]; exact Own.nil _ _, by rw [Nat.zero_mul]; exact nrm_zero⟩, Below.refl _ _⟩
  · have hA : A ≠ 0 := fun e => hk0 (hz.2 e)
    have HF := hide (fits_shift (n := n) hA)
    have hk1 : ((k : Int) == 0) = false := by simp; omega
    clear hz hA
    generalize bitLen A = b at *
    by_cases hlong : 262144 < b + n
    · have hl' : (262144 : Int) - (b : Int) < (n : Int) := by omega
      go_enter Tryd.func35, Tryd.ntmps35
      go_wp2_with fail
      refine HC.out.mono ?_
      rintro e w1 ⟨rfl, rfl⟩
      go_wp2_with fail
      refine HL.out.mono ?_
      rintro e w1 ⟨rfl, rfl⟩
      go_wp2_with fail
      go_ret2
      exact ⟨_, 21, rfl, .inr ⟨fun hf => by have := HF.out.1 hf; omega, rfl, rfl⟩, Below.refl _ _⟩
    · have hl' : ¬ (262144 : Int) - (b : Int) < (n : Int) := by omega
      go_enter Tryd.func35, Tryd.ntmps35
      go_wp2_with fail
      refine HC.out.mono ?_
      rintro e w1 ⟨rfl, rfl⟩
      go_wp2_with fail
      refine HL.out.mono ?_
      rintro e w1 ⟨rfl, rfl⟩
      go_wp2_with fail
      refine (shiftUp_any _ k A n w1 HR.out (by omega)).mono ?_
      rintro e w2 ⟨r, rfl, m, hr, hm, _, hb2⟩
      have H2 := hide (And.intro hr (And.intro hm hb2))
      clear hr hm hb2
      go_wp2_with fail
      refine (tell_any r m _ w2 H2.out.1).mono ?_
      rintro e w3 ⟨u, c, rfl, ht, hb3⟩
      have H3 : Hid (Told w3 w1.heap.size u c (A * 2 ^ n) ∧ Below w1.heap.size w1 w3) := ⟨ht.mono H2.out.2.2.size, H2.out.2.2.trans (hb3.mono H2.out.2.2.size)⟩
      clear ht hb3
      go_wp2_with fail
      go_ret2
      exact ⟨u, c, rfl, H3.out.1, H3.out.2⟩

set_option maxRecDepth 100000 in
set_option maxHeartbeats 1000000 in
theorem Left_neg {S : Nat → Prop} (v : Value) (k A : Nat) (n : Int) (w : World) (h : RowX S w v k A) (hn : Nrm k A) (hk : k ≤ 8192) (hnn : n < 0) :
    Calls Tryd.prog 35 #[v, .int .i64 n] w fun e w' => e = .returned (.tuple #[.slice none 0 0, .int .i64 24]) ∧ w' = w := by
  have HC := hide (check_ok v k A w h hn hk)
  clear h hn
  go_enter Tryd.func35, Tryd.ntmps35
  go_wp2_with fail
  refine HC.out.mono ?_
  rintro e w1 ⟨rfl, rfl⟩
  go_wp2_with fail
  go_ret2
  exact ⟨rfl, rfl⟩

set_option maxRecDepth 100000 in
set_option maxHeartbeats 1000000 in
theorem Left_bad {S : Nat → Prop} (v : Value) (k A : Nat) (n : Int) (w : World) (h : RowX S w v k A) (hc : chk k A ≠ 0) :
    Calls Tryd.prog 35 #[v, .int .i64 n] w fun e w' => e = .returned (.tuple #[.slice none 0 0, .int .i64 (chk k A)]) ∧ w' = w := by
  have HC := hide (check_any v k A w h)
  clear h
  generalize chk k A = c at *
  go_enter Tryd.func35, Tryd.ntmps35
  go_wp2_with fail
  refine HC.out.mono ?_
  rintro e w1 ⟨rfl, rfl⟩
  go_wp2_with fail
  go_ret2
  exact ⟨rfl, rfl⟩

end Go.Proofs.YtmfimhpbdbbpoaaDoor

namespace Go.Proofs.YtmfimhpbdbbpoaaDoor
open Go.RowKit
open M
set_option linter.unusedVariables false
set_option linter.unusedSimpArgs false

/-- The library's table lies as its text lays it. -/
def Tab (w : World) : Prop := ∀ j, j < 32 → w.cell? ⟨0, j, none⟩ = some (.int .u8 (Lib.deBruijn32tab.getD j 0 : Nat))

theorem Tab.below {w w' : World} (h : Tab w) (hb : Below w.heap.size w w') : Tab w' := fun j hj => by
  rw [hb.cell (p := ⟨0, j, none⟩) (lt_of_cell (h j hj))]; exact h j hj
theorem Tab.drewN {w : World} (h : Tab w) (n : Nat) : Tab (w.drewN n) := h

theorem and32 (a b : Nat) (ha : a < 4294967296) (hb : b < 4294967296) : bits BinOp.and IntKind.u32 (a : Int) (b : Int) = ((a &&& b : Nat) : Int) := by
  have hlt : a &&& b < 4294967296 := Nat.lt_of_le_of_lt Nat.and_le_left ha
  show IntKind.u32.wrap ((BitVec.ofInt 32 (a : Int) &&& BitVec.ofInt 32 (b : Int)).toNat : Nat) = _
  rw [BitVec.toNat_and, BitVec.ofInt_natCast, BitVec.ofInt_natCast, BitVec.toNat_ofNat, BitVec.toNat_ofNat, Nat.mod_eq_of_lt ha, Nat.mod_eq_of_lt hb, IntKind.wrap_u32]
  generalize a &&& b = c at *
  omega

theorem tz_key (x a : Nat) (hx : x < 4294967296) (hx0 : x ≠ 0) (hlow : x &&& (4294967296 - x) = a) :
    bits BinOp.and IntKind.u32 (x : Int) (-(x : Int) % 4294967296) * 125613361 % 4294967296 / 134217728 = ((a * 125613361 % 4294967296 / 134217728 : Nat) : Int) := by
  have e1 : -(x : Int) % 4294967296 = ((4294967296 - x : Nat) : Int) := by omega
  rw [e1, and32 x _ hx (by omega), hlow]
  omega

set_option maxRecDepth 100000 in
set_option maxHeartbeats 1000000 in
theorem tz_core (x k idx : Nat) (w : World) (hx0 : ((x : Int) == 0) = false)
    (key : bits BinOp.and IntKind.u32 (x : Int) (-(x : Int) % 4294967296) * 125613361 % 4294967296 / 134217728 = (idx : Int))
    (hi : idx < 32) (hk : k < 32) (hcell : w.cell? ⟨0, idx, none⟩ = some (.int .u8 k)) :
    Calls Tryd.prog 80 #[.int .u32 x] w fun e w' => e = .returned (.int .i64 k) ∧ w' = w := by
  go_enter Tryd.func80, Tryd.ntmps80
  go_wp2_with (simp only [key])
  go_ret
  exact ⟨rfl, rfl⟩

theorem tz_any (x : Nat) (w : World) (hx : x < 4294967296) (hx0 : x ≠ 0) (hT : Tab w) :
    Calls Tryd.prog 80 #[.int .u32 x] w fun e w' => e = .returned (.int .i64 (Lib.ctz 32 x : Nat)) ∧ w' = w := by
  obtain ⟨hlow, hk⟩ := Lib.lowest_bit 32 x hx0 hx
  obtain ⟨hi, htab⟩ := Lib.deBruijn32_at _ hk
  have hcell := hT _ hi
  rw [htab] at hcell
  exact tz_core x _ _ w (by simp; omega) (tz_key x _ hx hx0 hlow) hi hk hcell

/-- 2 to the t is the greatest power of 2 that divides A. -/
def IsLow (A t : Nat) : Prop := ∃ m, A = 2 ^ t * (2 * m + 1)

theorem IsLow.mod {A t n : Nat} (h : IsLow A t) : A % 2 ^ n ≠ 0 ↔ t < n := by
  obtain ⟨m, rfl⟩ := h
  constructor
  · intro h
    rcases Nat.lt_or_ge t n with h1 | h1
    · exact h1
    · exfalso
      apply h
      obtain ⟨d, rfl⟩ : ∃ d, t = n + d := ⟨t - n, by omega⟩
      rw [Nat.pow_add, Nat.mul_assoc, Nat.mul_mod_right]
  · intro h h0
    obtain ⟨d, rfl⟩ : ∃ d, n = t + (d + 1) := ⟨n - t - 1, by omega⟩
    have hd := Nat.dvd_of_mod_eq_zero h0
    rw [Nat.pow_add] at hd
    have := Nat.dvd_of_mul_dvd_mul_left (Nat.two_pow_pos t) hd
    rw [Nat.pow_succ] at this
    have h2 : 2 ∣ 2 * m + 1 := Nat.dvd_trans (Nat.dvd_mul_left 2 (2 ^ d)) this
    omega

theorem IsLow.uniq {A t s : Nat} (h : IsLow A t) (h' : IsLow A s) : t = s := by
  rcases Nat.lt_trichotomy t s with h1 | h1 | h1
  · have := (h.mod (n := s)).2 h1
    exact absurd this (fun e => Nat.lt_irrefl _ ((h'.mod (n := s)).1 e))
  · exact h1
  · have := (h'.mod (n := t)).2 h1
    exact absurd this (fun e => Nat.lt_irrefl _ ((h.mod (n := t)).1 e))

theorem IsLow.shift {A t : Nat} (h : IsLow A t) (n : Nat) : IsLow (A * 2 ^ n) (t + n) := by
  obtain ⟨m, rfl⟩ := h
  exact ⟨m, by rw [Nat.pow_add, Nat.mul_assoc, Nat.mul_assoc, Nat.mul_comm (2 * m + 1)]⟩

theorem isLow_two (n : Nat) : IsLow (2 ^ n) n := ⟨0, by simp⟩

theorem ctz_low {x : Nat} (hx : x < 4294967296) (hx0 : x ≠ 0) : ∃ m, x = 2 ^ Lib.ctz 32 x * (2 * m + 1) ∧ Lib.ctz 32 x < 32 := by
  unfold Lib.ctz
  rw [if_neg hx0]
  exact Lib.ctzFrom_spec 32 x (by omega) hx

theorem low_limb {A i : Nat} (h0 : A % 4294967296 ^ i = 0) (hx0 : dg A i ≠ 0) : IsLow A (32 * i + Lib.ctz 32 (dg A i)) := by
  obtain ⟨m, hm, hc⟩ := ctz_low (dg_lt A i) hx0
  generalize Lib.ctz 32 (dg A i) = c at *
  have e1 : A = 4294967296 ^ i * (A / 4294967296 ^ i) := by have := Nat.div_add_mod A (4294967296 ^ i); omega
  have e2 := div_succ A i
  obtain ⟨d, hd⟩ : ∃ d, 32 = c + (d + 1) := ⟨31 - c, by omega⟩
  refine ⟨m + 2 ^ d * (A / 4294967296 ^ (i + 1)), ?_⟩
  generalize A / 4294967296 ^ (i + 1) = R at *
  rw [e1, e2, hm, pw_two, Nat.pow_add, Nat.mul_assoc]
  congr 1
  have e3 : (4294967296 : Nat) = 2 ^ c * (2 ^ d * 2) := by rw [← Nat.pow_succ, ← Nat.pow_add, ← hd]
  rw [e3]
  generalize 2 ^ c = P
  generalize 2 ^ d = Q
  grind

set_option maxRecDepth 100000 in
set_option maxHeartbeats 1000000 in
theorem Low_row {S : Nat → Prop} (v : Value) (k A t : Nat) (w : World) (h : RowX S w v k A) (hn : Nrm k A) (hk : k ≤ 8192) (hT : Tab w) (ht : IsLow A t) :
    Calls Tryd.prog 41 #[v] w fun e w' => e = .returned (.int .i64 t) ∧ w' = w := by
  have HC := hide (check_ok v k A w h hn hk)
  obtain ⟨hN, _, ad, cap, rfl, _, hcell⟩ := h
  have HX : Hid (0 < k → ∃ g o, ad = some ⟨g, o, none⟩ ∧ S g ∧ ∀ j, j < k → w.cell? ⟨g, o + j, none⟩ = some (.int .u32 (dg A j : Nat))) := hcell
  have Ht := hide (And.intro ht (And.intro hN hT))
  clear hn hcell hN ht hT
  go_enter Tryd.func41, Tryd.ntmps41
  go_wp2_with fail
  refine HC.out.mono ?_
  rintro e w1 ⟨rfl, rfl⟩
  go_wp2_with fail
  go_loop [9] (fun t9 => ∃ i : Nat, i ≤ k ∧ t9 = .int .i64 i ∧ Hid (A % 4294967296 ^ i = 0)) (fun t9 => k - (intOf t9).toNat)
  case atStart => exact ⟨0, by omega, rfl, by show _ = _; rw [mod_zero]⟩
  case round =>
    obtain ⟨i, hi, rfl, HI⟩ := hrel
    have hlt : i < k := by
      rcases Nat.lt_or_ge i k with h1 | h1
      · exact h1
      · exfalso
        have h2 := HI.out
        rw [show i = k by omega, mod_self Ht.out.2.1] at h2
        obtain ⟨m, hm⟩ := Ht.out.1
        rw [h2] at hm
        have h3 : 0 < 2 ^ t * (2 * m + 1) := Nat.mul_pos (Nat.two_pow_pos t) (by omega)
        omega
    have hlt' : (i : Int) < (k : Int) := by omega
    obtain ⟨g, o, rfl, _, hj⟩ := HX.out (by omega)
    have hx := hj i hlt
    clear hj
    by_cases h0 : dg A i = 0
    · rw [h0] at hx
      have HN : Hid (A % 4294967296 ^ (i + 1) = 0) := by show _ = _; rw [mod_succ, HI.out, h0, Nat.mul_zero]
      clear HI
      go_wp2_with fail
      go_round
      case rel => exact ⟨i + 1, by omega, by go_num, HN⟩
      case measure => simp [intOf]; omega
    · have HL : Hid (32 * i + Lib.ctz 32 (dg A i) = t) := (low_limb HI.out h0).uniq Ht.out.1
      have hxl := dg_lt A i
      have HZ := hide (tz_any (dg A i) w1 hxl h0 Ht.out.2.2)
      have hne : ((dg A i : Int) == 0) = false := by simp; omega
      have hne2 : ((dg A i : Int) != 0) = true := by simp; omega
      have hcl : Lib.ctz 32 (dg A i) < 32 := by obtain ⟨m, _, hc⟩ := ctz_low hxl h0; exact hc
      generalize Lib.ctz 32 (dg A i) = c at *
      generalize dg A i = x at *
      go_wp2_with fail
      refine HZ.out.mono ?_
      rintro e w2 ⟨rfl, rfl⟩
      go_wp2_with fail
      go_ret
      refine ⟨?_, rfl⟩
      refine ret_int ?_
      have := HL.out
      omega

set_option maxRecDepth 100000 in
theorem Low_zero {S : Nat → Prop} (v : Value) (k : Nat) (w : World) (h : RowX S w v k 0) (hn : Nrm k 0) :
    Calls Tryd.prog 41 #[v] w fun e w' => e = .returned (.int .i64 0) ∧ w' = w := by
  obtain rfl : k = 0 := hn.zero_iff.2 rfl
  have HC := hide (check_ok v 0 0 w h hn (by omega))
  obtain ⟨hN, _, ad, cap, rfl, _, hcell⟩ := h
  clear hcell hN
  go_enter Tryd.func41, Tryd.ntmps41
  go_wp2_with fail
  refine HC.out.mono ?_
  rintro e w1 ⟨rfl, rfl⟩
  go_wp2_with fail
  go_loop [9] (fun t9 => t9 = .int .i64 0) (fun t9 => 0)
  case atStart => rfl
  case round =>
    subst hrel
    go_wp2_with fail
    go_ret
    exact ⟨rfl, rfl⟩

end Go.Proofs.YtmfimhpbdbbpoaaDoor
