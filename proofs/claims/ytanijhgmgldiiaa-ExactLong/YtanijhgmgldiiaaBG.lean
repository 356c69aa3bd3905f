/- Left. -/
import Derived.Test.YtanijhgmgldiiaaZ
import Derived.Test.YtanijhgmgldiiaaAE
namespace Go.Proofs.Ytanijhgmgldiiaa
open Go.RowKit
open M
set_option linter.unusedVariables false
set_option linter.unusedSimpArgs false

theorem pw_two (k : Nat) : 4294967296 ^ k = 2 ^ (32 * k) := by rw [Nat.pow_mul]

theorem fits_shift {A n : Nat} (hA : A ≠ 0) : Fits (A * 2 ^ n) ↔ bitLen A + n ≤ 262144 := by
  have hs := bitLen_spec A
  have hs2 := hs.2 hA
  have hb : 0 < bitLen A := by
    rcases Nat.eq_zero_or_pos (bitLen A) with h0 | h0
    · have := hs.1
      rw [h0] at this
      omega
    · exact h0
  generalize bitLen A = b at *
  constructor
  · rintro ⟨k, hk, hlt⟩
    rw [pw_two] at hlt
    have h1 : 2 ^ (b - 1) * 2 ^ n ≤ A * 2 ^ n := Nat.mul_le_mul_right _ hs2
    rw [← Nat.pow_add] at h1
    have h2 := (Nat.pow_lt_pow_iff_right (by omega : 1 < 2)).1 (Nat.lt_of_le_of_lt h1 hlt)
    omega
  · intro h
    refine ⟨(b + n + 31) / 32, by omega, ?_⟩
    rw [pw_two]
    have h1 : A * 2 ^ n < 2 ^ b * 2 ^ n := Nat.mul_lt_mul_of_pos_right hs.1 (Nat.two_pow_pos n)
    rw [← Nat.pow_add] at h1
    exact Nat.lt_of_lt_of_le h1 (Nat.pow_le_pow_right (by omega) (by omega))

theorem bitLen_row {k A : Nat} (h : Nrm k A) : bitLen A ≤ 32 * k := bitLen_le (by rw [← pw_two]; exact h.1)

set_option maxRecDepth 100000 in
set_option maxHeartbeats 1000000 in
theorem Left_told {S : Nat → Prop} (v : Value) (k A n : Nat) (w : World) (h : RowX S w v k A) (hn : Nrm k A) (hk : k ≤ 8192) (hnn : n < 9223372036854775808) :
    Calls Try.prog 38 #[v, .int .i64 n] w fun e w' => ∃ u c, e = .returned (.tuple #[u, .int .i64 c]) ∧ Told w' w.heap.size u c (A * 2 ^ n) ∧ Below w.heap.size w w' := by
  have HC := hide (check_ok v k A w h hn hk)
  have HL := hide (Len_row v k A w h hn hk)
  have HR := hide h
  have hb := bitLen_row hn
  have hz := hn.zero_iff
  obtain ⟨_, _, ad, cap, rfl, _, _⟩ := h
  have hneg : ¬ (n : Int) < 0 := by omega
  by_cases hk0 : k = 0
  · obtain rfl : A = 0 := hz.1 hk0
    subst hk0
    clear hz
    go_enter Try.func38, Try.ntmps38
    go_wp2_with fail
    refine HC.out.mono ?_
    rintro e w1 ⟨rfl, rfl⟩
    go_wp2_with fail
    go_ret2
    exact ⟨_, 0, rfl, .inl ⟨⟨0, by omega, by simp⟩, rfl, 0, by rw [Nat.zero_mul]; exact Own.nil _ _, by rw [Nat.zero_mul]; exact nrm_zero⟩, Below.refl _ _⟩
  · have hA : A ≠ 0 := fun e => hk0 (hz.2 e)
    have HF := hide (fits_shift (n := n) hA)
    have hk1 : ((k : Int) == 0) = false := by simp; omega
    clear hz hA
    generalize bitLen A = b at *
    by_cases hlong : 262144 < b + n
    · have hl' : (262144 : Int) - (b : Int) < (n : Int) := by omega
      go_enter Try.func38, Try.ntmps38
      go_wp2_with fail
      refine HC.out.mono ?_
      rintro e w1 ⟨rfl, rfl⟩
      go_wp2_with fail
      refine HL.out.mono ?_
      rintro e w1 ⟨rfl, rfl⟩
      go_wp2_with fail
      go_ret2
      exact ⟨_, 21, rfl, .inr ⟨fun hf => by have := HF.out.1 hf; omega, rfl, rfl⟩, Below.refl _ _⟩
    · have hl' : ¬ (262144 : Int) - (b : Int) < (n : Int) := by omega
      go_enter Try.func38, Try.ntmps38
      go_wp2_with fail
      refine HC.out.mono ?_
      rintro e w1 ⟨rfl, rfl⟩
      go_wp2_with fail
      refine HL.out.mono ?_
      rintro e w1 ⟨rfl, rfl⟩
      go_wp2_with fail
      refine (shiftUp_any _ k A n w1 HR.out (by omega)).mono ?_
      rintro e w2 ⟨r, rfl, m, hr, hm, _, hb2⟩
      have H2 := hide (And.intro hr (And.intro hm hb2))
      clear hr hm hb2
      go_wp2_with fail
      refine (tell_any r m _ w2 H2.out.1).mono ?_
      rintro e w3 ⟨u, c, rfl, ht, hb3⟩
      have H3 : Hid (Told w3 w1.heap.size u c (A * 2 ^ n) ∧ Below w1.heap.size w1 w3) := ⟨ht.mono H2.out.2.2.size, H2.out.2.2.trans (hb3.mono H2.out.2.2.size)⟩
      clear ht hb3
      go_wp2_with fail
      go_ret2
      exact ⟨u, c, rfl, H3.out.1, H3.out.2⟩

set_option maxRecDepth 100000 in
set_option maxHeartbeats 1000000 in
theorem Left_neg {S : Nat → Prop} (v : Value) (k A : Nat) (n : Int) (w : World) (h : RowX S w v k A) (hn : Nrm k A) (hk : k ≤ 8192) (hnn : n < 0) :
    Calls Try.prog 38 #[v, .int .i64 n] w fun e w' => e = .returned (.tuple #[.slice none 0 0, .int .i64 24]) ∧ w' = w := by
  have HC := hide (check_ok v k A w h hn hk)
  clear h hn
  go_enter Try.func38, Try.ntmps38
  go_wp2_with fail
  refine HC.out.mono ?_
  rintro e w1 ⟨rfl, rfl⟩
  go_wp2_with fail
  go_ret2
  exact ⟨rfl, rfl⟩

set_option maxRecDepth 100000 in
set_option maxHeartbeats 1000000 in
theorem Left_bad {S : Nat → Prop} (v : Value) (k A : Nat) (n : Int) (w : World) (h : RowX S w v k A) (hc : chk k A ≠ 0) :
    Calls Try.prog 38 #[v, .int .i64 n] w fun e w' => e = .returned (.tuple #[.slice none 0 0, .int .i64 (chk k A)]) ∧ w' = w := by
  have HC := hide (check_any v k A w h)
  clear h
  generalize chk k A = c at *
  go_enter Try.func38, Try.ntmps38
  go_wp2_with fail
  refine HC.out.mono ?_
  rintro e w1 ⟨rfl, rfl⟩
  go_wp2_with fail
  go_ret2
  exact ⟨rfl, rfl⟩

end Go.Proofs.Ytanijhgmgldiiaa
