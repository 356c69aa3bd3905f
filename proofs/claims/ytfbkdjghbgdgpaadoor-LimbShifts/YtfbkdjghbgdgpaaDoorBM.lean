/- Right, Bit. -/
import Derived.Test.YtfbkdjghbgdgpaaDoorBL
namespace Go.Proofs.YtfbkdjghbgdgpaaDoor
open Go.RowKit
open M
set_option linter.unusedVariables false
set_option linter.unusedSimpArgs false

theorem low_exists {A : Nat} (h : A ≠ 0) : ∃ t, IsLow A t := by
  obtain ⟨m, hm, _⟩ := Lib.ctzFrom_spec (bitLen A) A (by omega) (bitLen_spec A).1
  exact ⟨_, m, hm⟩

set_option maxRecDepth 100000 in
set_option maxHeartbeats 1000000 in
theorem Right_own {S : Nat → Prop} (v : Value) (k A n : Nat) (w : World) (h : RowX S w v k A) (hn : Nrm k A) (hk : k ≤ 8192) (hT : Tab w) (hnn : n < 9223372036854775808) :
    Calls Tryd.prog 19 #[v, .int .i64 n] w fun e w' => ∃ r m, e = .returned (.tuple #[r, .bool (decide (A % 2 ^ n ≠ 0)), .int .i64 0]) ∧ Own w' w.heap.size r m (A / 2 ^ n) ∧ Nrm m (A / 2 ^ n) ∧ Below w.heap.size w w' := by
  have HC := hide (check_ok v k A w h hn hk)
  have HL := hide (Len_row v k A w h hn hk)
  have HR := hide (And.intro h (And.intro hn hT))
  have hs := bitLen_spec A
  have hb := bitLen_row hn
  have hneg : ¬ (n : Int) < 0 := by omega
  by_cases hbn : bitLen A ≤ n
  · have hlt : A < 2 ^ n := Nat.lt_of_lt_of_le hs.1 (Nat.pow_le_pow_right (by omega) hbn)
    have e1 : A / 2 ^ n = 0 := Nat.div_eq_of_lt hlt
    have e2 : A % 2 ^ n = A := Nat.mod_eq_of_lt hlt
    rw [e1, e2]
    have hd : decide (A ≠ 0) = decide (0 < k) := by
      have := hn.zero_iff
      by_cases h0 : A = 0
      · have : k = 0 := this.2 h0
        simp [h0, this]
      · have : ¬ k = 0 := fun e => h0 (this.1 e)
        simp [h0]; omega
    rw [hd]
    clear hs hd e1 e2 hlt
    generalize bitLen A = b at *
    have hbn' : (b : Int) ≤ (n : Int) := by omega
    obtain ⟨_, _, ad, cap, rfl, _, _⟩ := h
    clear hn hT
    go_enter Tryd.func19, Tryd.ntmps19
    go_wp2_with fail
    refine HC.out.mono ?_
    rintro e w1 ⟨rfl, rfl⟩
    go_wp2_with fail
    refine HL.out.mono ?_
    rintro e w1 ⟨rfl, rfl⟩
    go_wp2_with fail
    go_ret3
    exact ⟨_, 0, rfl, Own.nil _ _, nrm_zero, Below.refl _ _⟩
  · have hA : A ≠ 0 := by rintro rfl; simp [bitLen] at hbn
    obtain ⟨t, ht⟩ := low_exists hA
    have hd : decide (A % 2 ^ n ≠ 0) = decide (t < n) := by
      have := ht.mod (n := n)
      by_cases h0 : t < n
      · have h1 := this.2 h0
        rw [decide_eq_true h1, decide_eq_true h0]
      · have h1 : ¬ (A % 2 ^ n ≠ 0) := fun e => h0 (this.1 e)
        rw [decide_eq_false h1, decide_eq_false h0]
    rw [hd]
    have HLo : Hid (∀ w', Row w' v k A → Tab w' → Calls Tryd.prog 24 #[v] w' fun e w'' => e = .returned (.int .i64 t) ∧ w'' = w') := fun w' h hT => Low_row v k A t w' h hn hk hT ht
    clear hs hd
    generalize bitLen A = b at *
    have hbn' : ¬ (b : Int) ≤ (n : Int) := by omega
    clear hn hT h ht hA
    go_enter Tryd.func19, Tryd.ntmps19
    go_wp2_with fail
    refine HC.out.mono ?_
    rintro e w1 ⟨rfl, rfl⟩
    go_wp2_with fail
    refine HL.out.mono ?_
    rintro e w1 ⟨rfl, rfl⟩
    go_wp2_with fail
    refine (shiftDown_any v k A n w1 HR.out.1 (by omega)).mono ?_
    rintro e w2 ⟨r, rfl, m, hr, hm, _, hb2⟩
    have H2 := hide (And.intro hr (And.intro hm hb2))
    clear hr hm hb2
    go_wp2_with fail
    refine (fresh_any r m _ w2 H2.out.1).mono ?_
    rintro e w3 ⟨u, rfl, hown, hb3⟩
    have H3 : Hid (Own w3 w1.heap.size u m (A / 2 ^ n) ∧ Row w3 v k A ∧ Tab w3 ∧ Below w1.heap.size w1 w3) :=
      ⟨hown.mono H2.out.2.2.size, HR.out.1.row.below (H2.out.2.2.trans (hb3.mono H2.out.2.2.size)), HR.out.2.2.below (H2.out.2.2.trans (hb3.mono H2.out.2.2.size)), H2.out.2.2.trans (hb3.mono H2.out.2.2.size)⟩
    clear hown hb3
    go_wp2_with fail
    refine (HLo.out w3 H3.out.2.1 H3.out.2.2.1).mono ?_
    rintro e w4 ⟨rfl, rfl⟩
    go_wp2_with fail
    go_ret3
    exact ⟨u, m, rfl, H3.out.1, H2.out.2.1, H3.out.2.2.2⟩

set_option maxRecDepth 100000 in
theorem Right_neg {S : Nat → Prop} (v : Value) (k A : Nat) (n : Int) (w : World) (h : RowX S w v k A) (hn : Nrm k A) (hk : k ≤ 8192) (hnn : n < 0) :
    Calls Tryd.prog 19 #[v, .int .i64 n] w fun e w' => e = .returned (.tuple #[.slice none 0 0, .bool false, .int .i64 24]) ∧ w' = w := by
  have HC := hide (check_ok v k A w h hn hk)
  clear h hn
  go_enter Tryd.func19, Tryd.ntmps19
  go_wp2_with fail
  refine HC.out.mono ?_
  rintro e w1 ⟨rfl, rfl⟩
  go_wp2_with fail
  go_ret3
  exact ⟨rfl, rfl⟩

set_option maxRecDepth 100000 in
theorem Right_bad {S : Nat → Prop} (v : Value) (k A : Nat) (n : Int) (w : World) (h : RowX S w v k A) (hc : chk k A ≠ 0) :
    Calls Tryd.prog 19 #[v, .int .i64 n] w fun e w' => e = .returned (.tuple #[.slice none 0 0, .bool false, .int .i64 (chk k A)]) ∧ w' = w := by
  have HC := hide (check_any v k A w h)
  clear h
  generalize chk k A = c at *
  go_enter Tryd.func19, Tryd.ntmps19
  go_wp2_with fail
  refine HC.out.mono ?_
  rintro e w1 ⟨rfl, rfl⟩
  go_wp2_with fail
  go_ret3
  exact ⟨rfl, rfl⟩

set_option maxRecDepth 100000 in
theorem Bit_neg {S : Nat → Prop} (v : Value) (k A : Nat) (n : Int) (w : World) (h : RowX S w v k A) (hn : Nrm k A) (hk : k ≤ 8192) (hnn : n < 0) :
    Calls Tryd.prog 20 #[v, .int .i64 n] w fun e w' => e = .returned (.bool false) ∧ w' = w := by
  have HC := hide (check_ok v k A w h hn hk)
  clear h hn
  go_enter Tryd.func20, Tryd.ntmps20
  go_wp2_with fail
  refine HC.out.mono ?_
  rintro e w1 ⟨rfl, rfl⟩
  go_wp2_with fail
  go_ret
  exact ⟨rfl, rfl⟩

theorem bit_limb (A n : Nat) : dg A (n / 32) / 2 ^ (n % 32) % 2 = A / 2 ^ n % 2 := by
  have hr : n % 32 < 32 := Nat.mod_lt _ (by omega)
  rw [← shift_split A n]
  unfold dg
  generalize A / 4294967296 ^ (n / 32) = x
  generalize n % 32 = r at *
  obtain ⟨d, hd⟩ : ∃ d, 32 = r + (d + 1) := ⟨31 - r, by omega⟩
  have e : (4294967296 : Nat) = 2 ^ r * (2 ^ d * 2) := by rw [← Nat.pow_succ, ← Nat.pow_add, ← hd]
  rw [e]
  have h1 := Nat.mod_mul_right_div_self x (2 ^ r) (2 ^ d * 2)
  rw [h1, Nat.mul_comm (2 ^ d), Nat.mod_mul_right_mod]

theorem and_one (x : Nat) (hx : x < 4294967296) : bits BinOp.and IntKind.u32 (x : Int) 1 = ((x % 2 : Nat) : Int) := by
  have := and32 x 1 hx (by omega)
  rw [Nat.and_one_is_mod] at this
  exact this

set_option maxRecDepth 100000 in
set_option maxHeartbeats 1000000 in
theorem Bit_row {S : Nat → Prop} (v : Value) (k A n : Nat) (w : World) (h : RowX S w v k A) (hn : Nrm k A) (hk : k ≤ 8192) (hnn : n < 9223372036854775808) :
    Calls Tryd.prog 20 #[v, .int .i64 n] w fun e w' => e = .returned (.bool (decide (A / 2 ^ n % 2 = 1))) ∧ w' = w := by
  have HC := hide (check_ok v k A w h hn hk)
  have HL := hide (Len_row v k A w h hn hk)
  have hs := bitLen_spec A
  have hb := bitLen_row hn
  have hneg : ¬ (n : Int) < 0 := by omega
  by_cases hbn : bitLen A ≤ n
  · have hlt : A < 2 ^ n := Nat.lt_of_lt_of_le hs.1 (Nat.pow_le_pow_right (by omega) hbn)
    have e1 : A / 2 ^ n = 0 := Nat.div_eq_of_lt hlt
    rw [e1]
    clear hs e1 hlt
    generalize bitLen A = b at *
    have hbn' : (b : Int) ≤ (n : Int) := by omega
    clear hn h
    go_enter Tryd.func20, Tryd.ntmps20
    go_wp2_with fail
    refine HC.out.mono ?_
    rintro e w1 ⟨rfl, rfl⟩
    go_wp2_with fail
    refine HL.out.mono ?_
    rintro e w1 ⟨rfl, rfl⟩
    go_wp2_with fail
    go_ret
    exact ⟨rfl, rfl⟩
  · generalize bitLen A = b at *
    have hbn' : ¬ (b : Int) ≤ (n : Int) := by omega
    obtain ⟨_, _, ad, cap, rfl, _, hcell⟩ := h
    obtain ⟨g, o, rfl, _, hj⟩ := hcell (by omega)
    have hqk0 : n / 32 < k := by omega
    have hx := hj (n / 32) hqk0
    have Hbit := hide (bit_limb A n)
    have hxl := dg_lt A (n / 32)
    obtain ⟨q, hq, hq1, hq2⟩ : ∃ q : Nat, n / 32 = q ∧ (n : Int) / 32 = (q : Int) ∧ (n : Int).tdiv 32 = (q : Int) := ⟨n / 32, rfl, by omega, rfl⟩
    obtain ⟨r, hr, hr1, hr2⟩ : ∃ r : Nat, n % 32 = r ∧ (n : Int) % 32 = (r : Int) ∧ (n : Int).tmod 32 = (r : Int) := ⟨n % 32, rfl, by omega, rfl⟩
    have hrl : r < 32 := by omega
    rw [hq] at hx hxl Hbit hqk0
    rw [hr] at Hbit
    have hqk' : (q : Int) < (k : Int) := by omega
    generalize dg A q = x at *
    rw [← Hbit.out]
    obtain ⟨y, hy, hy1⟩ : ∃ y : Nat, x / 2 ^ r = y ∧ (x : Int) / 2 ^ r = (y : Int) := ⟨x / 2 ^ r, rfl, by simp⟩
    have hyl : y < 4294967296 := by rw [← hy]; exact Nat.lt_of_le_of_lt (Nat.div_le_self _ _) hxl
    have hand := and_one y hyl
    rw [hy]
    clear hj hcell hs hn hq hr Hbit hy
    go_enter Tryd.func20, Tryd.ntmps20
    go_wp2_with fail
    refine HC.out.mono ?_
    rintro e w1 ⟨rfl, rfl⟩
    go_wp2_with fail
    refine HL.out.mono ?_
    rintro e w1 ⟨rfl, rfl⟩
    go_wp2_with fail
    go_ret
    refine ⟨?_, rfl⟩
    show Ending.returned (.bool ((y : Int) % 2 == 1)) = _
    have e : ((y : Int) % 2 == 1) = decide (y % 2 = 1) := by
      by_cases h0 : y % 2 = 1
      · have h1 : (y : Int) % 2 = 1 := by omega
        simp [h0, h1]
      · have h1 : ¬ (y : Int) % 2 = 1 := by omega
        rw [decide_eq_false h0, beq_eq_false_iff_ne]; exact h1
    rw [e]

end Go.Proofs.YtfbkdjghbgdgpaaDoor
