/- The document's Check, Both, at, Order, Bits, On. -/
import Derived.Test.YtmfimhpbdbbpoaaDoorBL
import Derived.Test.YtmfimhpbdbbpoaaDoorJ
/- Right, Bit. -/
namespace Go.Proofs.YtmfimhpbdbbpoaaDoor
open Go.RowKit
open M
set_option linter.unusedVariables false
set_option linter.unusedSimpArgs false

theorem low_exists {A : Nat} (h : A ≠ 0) : ∃ t, IsLow A t := by
  obtain ⟨m, hm, _⟩ := Lib.ctzFrom_spec (bitLen A) A (by omega) (bitLen_spec A).1
  exact ⟨_, m, hm⟩

set_option maxRecDepth 100000 in
set_option maxHeartbeats 1000000 in
theorem Right_own {S : Nat → Prop} (v : Value) (k A n : Nat) (w : World) (h : RowX S w v k A) (hn : Nrm k A) (hk : k ≤ 8192) (hT : Tab w) (hnn : n < 9223372036854775808) :
    Calls Tryd.prog 37 #[v, .int .i64 n] w fun e w' => ∃ r m, e = .returned (.tuple #[r, .bool (decide (A % 2 ^ n ≠ 0)), .int .i64 0]) ∧ Own w' w.heap.size r m (A / 2 ^ n) ∧ Nrm m (A / 2 ^ n) ∧ Below w.heap.size w w' := by
  have HC := hide (check_ok v k A w h hn hk)
  have HL := hide (Len_row v k A w h hn hk)
  have HR := hide (And.intro h (And.intro hn hT))
  have hs := bitLen_spec A
  have hb := bitLen_row hn
  have hneg : ¬ (n : Int) < 0 := by omega
  by_cases hbn : bitLen A ≤ n
  · have hlt : A < 2 ^ n := Nat.lt_of_lt_of_le hs.1 (Nat.pow_le_pow_right (by omega) hbn)
    have e1 : A / 2 ^ n = 0 := Nat.div_eq_of_lt hlt
    have e2 : A % 2 ^ n = A := Nat.mod_eq_of_lt hlt
    rw [e1, e2]
    have hd : decide (A ≠ 0) = decide (0 < k) := by
      have := hn.zero_iff
      by_cases h0 : A = 0
      · have : k = 0 := this.2 h0
        simp [h0, this]
      · have : ¬ k = 0 := fun e => h0 (this.1 e)
        simp [h0]; omega
    rw [hd]
    clear hs hd e1 e2 hlt
    generalize bitLen A = b at *
    have hbn' : (b : Int) ≤ (n : Int) := by omega
    obtain ⟨_, _, ad, cap, rfl, _, _⟩ := h
    clear hn hT
    go_enter Tryd.func37, Tryd.ntmps37
    go_wp2_with fail
    refine HC.out.mono ?_
    rintro e w1 ⟨rfl, rfl⟩
    go_wp2_with fail
    refine HL.out.mono ?_
    rintro e w1 ⟨rfl, rfl⟩
    go_wp2_with fail
    go_ret3
    exact ⟨_, 0, rfl, Own.nil _ _, nrm_zero, Below.refl _ _⟩
  · have hA : A ≠ 0 := by rintro rfl; simp [bitLen] at hbn
    obtain ⟨t, ht⟩ := low_exists hA
    have hd : decide (A % 2 ^ n ≠ 0) = decide (t < n) := by
      have := ht.mod (n := n)
      by_cases h0 : t < n
      · have h1 := this.2 h0
        rw [decide_eq_true h1, decide_eq_true h0]
      · have h1 : ¬ (A % 2 ^ n ≠ 0) := fun e => h0 (this.1 e)
        rw [decide_eq_false h1, decide_eq_false h0]
    rw [hd]
    have HLo : Hid (∀ w', Row w' v k A → Tab w' → Calls Tryd.prog 41 #[v] w' fun e w'' => e = .returned (.int .i64 t) ∧ w'' = w') := fun w' h hT => Low_row v k A t w' h hn hk hT ht
    clear hs hd
    generalize bitLen A = b at *
    have hbn' : ¬ (b : Int) ≤ (n : Int) := by omega
    clear hn hT h ht hA
    go_enter Tryd.func37, Tryd.ntmps37
    go_wp2_with fail
    refine HC.out.mono ?_
    rintro e w1 ⟨rfl, rfl⟩
    go_wp2_with fail
    refine HL.out.mono ?_
    rintro e w1 ⟨rfl, rfl⟩
    go_wp2_with fail
    refine (shiftDown_any v k A n w1 HR.out.1 (by omega)).mono ?_
    rintro e w2 ⟨r, rfl, m, hr, hm, _, hb2⟩
    have H2 := hide (And.intro hr (And.intro hm hb2))
    clear hr hm hb2
    go_wp2_with fail
    refine (fresh_any r m _ w2 H2.out.1).mono ?_
    rintro e w3 ⟨u, rfl, hown, hb3⟩
    have H3 : Hid (Own w3 w1.heap.size u m (A / 2 ^ n) ∧ Row w3 v k A ∧ Tab w3 ∧ Below w1.heap.size w1 w3) :=
      ⟨hown.mono H2.out.2.2.size, HR.out.1.row.below (H2.out.2.2.trans (hb3.mono H2.out.2.2.size)), HR.out.2.2.below (H2.out.2.2.trans (hb3.mono H2.out.2.2.size)), H2.out.2.2.trans (hb3.mono H2.out.2.2.size)⟩
    clear hown hb3
    go_wp2_with fail
    refine (HLo.out w3 H3.out.2.1 H3.out.2.2.1).mono ?_
    rintro e w4 ⟨rfl, rfl⟩
    go_wp2_with fail
    go_ret3
    exact ⟨u, m, rfl, H3.out.1, H2.out.2.1, H3.out.2.2.2⟩

set_option maxRecDepth 100000 in
theorem Right_neg {S : Nat → Prop} (v : Value) (k A : Nat) (n : Int) (w : World) (h : RowX S w v k A) (hn : Nrm k A) (hk : k ≤ 8192) (hnn : n < 0) :
    Calls Tryd.prog 37 #[v, .int .i64 n] w fun e w' => e = .returned (.tuple #[.slice none 0 0, .bool false, .int .i64 24]) ∧ w' = w := by
  have HC := hide (check_ok v k A w h hn hk)
  clear h hn
  go_enter Tryd.func37, Tryd.ntmps37
  go_wp2_with fail
  refine HC.out.mono ?_
  rintro e w1 ⟨rfl, rfl⟩
  go_wp2_with fail
  go_ret3
  exact ⟨rfl, rfl⟩

set_option maxRecDepth 100000 in
theorem Right_bad {S : Nat → Prop} (v : Value) (k A : Nat) (n : Int) (w : World) (h : RowX S w v k A) (hc : chk k A ≠ 0) :
    Calls Tryd.prog 37 #[v, .int .i64 n] w fun e w' => e = .returned (.tuple #[.slice none 0 0, .bool false, .int .i64 (chk k A)]) ∧ w' = w := by
  have HC := hide (check_any v k A w h)
  clear h
  generalize chk k A = c at *
  go_enter Tryd.func37, Tryd.ntmps37
  go_wp2_with fail
  refine HC.out.mono ?_
  rintro e w1 ⟨rfl, rfl⟩
  go_wp2_with fail
  go_ret3
  exact ⟨rfl, rfl⟩

set_option maxRecDepth 100000 in
theorem Bit_neg {S : Nat → Prop} (v : Value) (k A : Nat) (n : Int) (w : World) (h : RowX S w v k A) (hn : Nrm k A) (hk : k ≤ 8192) (hnn : n < 0) :
    Calls Tryd.prog 43 #[v, .int .i64 n] w fun e w' => e = .returned (.bool false) ∧ w' = w := by
  have HC := hide (check_ok v k A w h hn hk)
  clear h hn
  go_enter Tryd.func43, Tryd.ntmps43
  go_wp2_with fail
  refine HC.out.mono ?_
  rintro e w1 ⟨rfl, rfl⟩
  go_wp2_with fail
  go_ret
  exact ⟨rfl, rfl⟩

theorem bit_limb (A n : Nat) : dg A (n / 32) / 2 ^ (n % 32) % 2 = A / 2 ^ n % 2 := by
  have hr : n % 32 < 32 := Nat.mod_lt _ (by omega)
  rw [← shift_split A n]
  unfold dg
  generalize A / 4294967296 ^ (n / 32) = x
  generalize n % 32 = r at *
  obtain ⟨d, hd⟩ : ∃ d, 32 = r + (d + 1) := ⟨31 - r, by omega⟩
  have e : (4294967296 : Nat) = 2 ^ r * (2 ^ d * 2) := by rw [← Nat.pow_succ, ← Nat.pow_add, ← hd]
  rw [e]
  have h1 := Nat.mod_mul_right_div_self x (2 ^ r) (2 ^ d * 2)
  rw [h1, Nat.mul_comm (2 ^ d), Nat.mod_mul_right_mod]

theorem and_one (x : Nat) (hx : x < 4294967296) : bits BinOp.and IntKind.u32 (x : Int) 1 = ((x % 2 : Nat) : Int) := by
  have := and32 x 1 hx (by omega)
  rw [Nat.and_one_is_mod] at this
  exact this

set_option maxRecDepth 100000 in
set_option maxHeartbeats 1000000 in
theorem Bit_row {S : Nat → Prop} (v : Value) (k A n : Nat) (w : World) (h : RowX S w v k A) (hn : Nrm k A) (hk : k ≤ 8192) (hnn : n < 9223372036854775808) :
    Calls Tryd.prog 43 #[v, .int .i64 n] w fun e w' => e = .returned (.bool (decide (A / 2 ^ n % 2 = 1))) ∧ w' = w := by
  have HC := hide (check_ok v k A w h hn hk)
  have HL := hide (Len_row v k A w h hn hk)
  have hs := bitLen_spec A
  have hb := bitLen_row hn
  have hneg : ¬ (n : Int) < 0 := by omega
  by_cases hbn : bitLen A ≤ n
  · have hlt : A < 2 ^ n := Nat.lt_of_lt_of_le hs.1 (Nat.pow_le_pow_right (by omega) hbn)
    have e1 : A / 2 ^ n = 0 := Nat.div_eq_of_lt hlt
    rw [e1]
    clear hs e1 hlt
    generalize bitLen A = b at *
    have hbn' : (b : Int) ≤ (n : Int) := by omega
    clear hn h
    go_enter Tryd.func43, Tryd.ntmps43
    go_wp2_with fail
    refine HC.out.mono ?_
    rintro e w1 ⟨rfl, rfl⟩
    go_wp2_with fail
    refine HL.out.mono ?_
    rintro e w1 ⟨rfl, rfl⟩
    go_wp2_with fail
    go_ret
    exact ⟨rfl, rfl⟩
  · generalize bitLen A = b at *
    have hbn' : ¬ (b : Int) ≤ (n : Int) := by omega
    obtain ⟨_, _, ad, cap, rfl, _, hcell⟩ := h
    obtain ⟨g, o, rfl, _, hj⟩ := hcell (by omega)
    have hqk0 : n / 32 < k := by omega
    have hx := hj (n / 32) hqk0
    have Hbit := hide (bit_limb A n)
    have hxl := dg_lt A (n / 32)
    obtain ⟨q, hq, hq1, hq2⟩ : ∃ q : Nat, n / 32 = q ∧ (n : Int) / 32 = (q : Int) ∧ (n : Int).tdiv 32 = (q : Int) := ⟨n / 32, rfl, by omega, rfl⟩
    obtain ⟨r, hr, hr1, hr2⟩ : ∃ r : Nat, n % 32 = r ∧ (n : Int) % 32 = (r : Int) ∧ (n : Int).tmod 32 = (r : Int) := ⟨n % 32, rfl, by omega, rfl⟩
    have hrl : r < 32 := by omega
    rw [hq] at hx hxl Hbit hqk0
    rw [hr] at Hbit
    have hqk' : (q : Int) < (k : Int) := by omega
    generalize dg A q = x at *
    rw [← Hbit.out]
    obtain ⟨y, hy, hy1⟩ : ∃ y : Nat, x / 2 ^ r = y ∧ (x : Int) / 2 ^ r = (y : Int) := ⟨x / 2 ^ r, rfl, by simp⟩
    have hyl : y < 4294967296 := by rw [← hy]; exact Nat.lt_of_le_of_lt (Nat.div_le_self _ _) hxl
    have hand := and_one y hyl
    rw [hy]
    clear hj hcell hs hn hq hr Hbit hy
    go_enter Tryd.func43, Tryd.ntmps43
    go_wp2_with fail
    refine HC.out.mono ?_
    rintro e w1 ⟨rfl, rfl⟩
    go_wp2_with fail
    refine HL.out.mono ?_
    rintro e w1 ⟨rfl, rfl⟩
    go_wp2_with fail
    go_ret
    refine ⟨?_, rfl⟩
    show Ending.returned (.bool ((y : Int) % 2 == 1)) = _
    have e : ((y : Int) % 2 == 1) = decide (y % 2 = 1) := by
      by_cases h0 : y % 2 = 1
      · have h1 : (y : Int) % 2 = 1 := by omega
        simp [h0, h1]
      · have h1 : ¬ (y : Int) % 2 = 1 := by omega
        rw [decide_eq_false h0, beq_eq_false_iff_ne]; exact h1
    rw [e]

end Go.Proofs.YtmfimhpbdbbpoaaDoor

namespace Go.Proofs.YtmfimhpbdbbpoaaDoor
open Go.RowKit
open M
set_option linter.unusedVariables false
set_option linter.unusedSimpArgs false

set_option maxRecDepth 100000 in
set_option maxHeartbeats 400000 in
theorem rcheck_any {S : Nat → Prop} (v : Value) (k N : Nat) (w : World) (h : RowX S w v k N) :
    Calls Tryd.prog 21 #[v] w fun e w' => e = .returned (.int .i64 (chk k N)) ∧ w' = w := by
  obtain ⟨hN, hk, ad, cap, rfl, hc, hcell⟩ := h
  unfold chk
  by_cases h1 : 8192 < k
  · rw [if_pos h1]
    have h1' : (8192 : Int) < (k : Int) := by omega
    clear hcell
    go_enter Tryd.func21, Tryd.ntmps21
    go_wp2
    go_ret
    exact ⟨rfl, rfl⟩
  · rw [if_neg h1]
    have h1' : ¬ (8192 : Int) < (k : Int) := by omega
    by_cases h0 : k = 0
    · subst h0
      rw [if_neg (by omega)]
      clear hcell
      go_enter Tryd.func21, Tryd.ntmps21
      go_wp2
      go_ret
      exact ⟨rfl, rfl⟩
    · obtain ⟨g, o, rfl, _, hj⟩ := hcell (by omega)
      obtain ⟨m, rfl⟩ : ∃ m, k = m + 1 := ⟨k - 1, by omega⟩
      have hci := hj m (by omega)
      have h2' : (0 : Int) < ((m + 1 : Nat) : Int) := by omega
      clear hj hcell hN h0
      show Calls _ _ _ _ fun e w' => e = .returned (.int .i64 (if 0 < m + 1 ∧ dg N m = 0 then 20 else 0)) ∧ w' = w
      generalize dg N m = x at *
      by_cases hx : x = 0
      · subst hx
        rw [if_pos ⟨by omega, rfl⟩]
        go_enter Tryd.func21, Tryd.ntmps21
        go_wp2
        go_ret
        exact ⟨rfl, rfl⟩
      · rw [if_neg (fun h => hx h.2)]
        have hx' : ((x : Int) == 0) = false := by rw [beq_eq_false_iff_ne]; omega
        clear hx
        go_enter Tryd.func21, Tryd.ntmps21
        go_wp2
        go_ret
        exact ⟨rfl, rfl⟩

theorem rboth_any {S S' : Nat → Prop} (v u : Value) (k N m P : Nat) (w : World) (h : RowX S w v k N) (h' : RowX S' w u m P) :
    Calls Tryd.prog 7 #[v, u] w fun e w' => e = .returned (.int .i64 (if chk k N = 0 then chk m P else chk k N)) ∧ w' = w := by
  by_cases h0 : chk k N = 0
  · rw [if_pos h0]
    have hc := rcheck_any v k N w h
    rw [h0] at hc
    have Hc := hide hc
    clear hc
    go_enter Tryd.func7, Tryd.ntmps7
    go_wp2_with fail
    refine Hc.out.mono ?_
    rintro e w' ⟨rfl, rfl⟩
    go_wp2_with fail
    refine (rcheck_any u m P _ h').mono ?_
    rintro e w' ⟨rfl, rfl⟩
    go_wp2_with fail
    go_ret
    exact ⟨rfl, rfl⟩
  · rw [if_neg h0]
    have hc := rcheck_any v k N w h
    have h0' : (chk k N == 0) = false := by rw [beq_eq_false_iff_ne]; exact h0
    have h0'' : (chk k N != 0) = true := by rw [bne_iff_ne]; exact h0
    have Hc := hide hc
    clear hc
    generalize chk k N = c at *
    go_enter Tryd.func7, Tryd.ntmps7
    go_wp2_with fail
    refine Hc.out.mono ?_
    rintro e w' ⟨rfl, rfl⟩
    go_wp2_with fail
    go_ret
    exact ⟨rfl, rfl⟩

set_option maxRecDepth 100000 in
theorem rat_any {S : Nat → Prop} (v : Value) (k N i : Nat) (w : World) (h : RowX S w v k N) (hi : i ≤ 70368744177664) :
    Calls Tryd.prog 86 #[v, .int .i64 i] w fun e w' => e = .returned (.int .u64 (dg N i : Nat)) ∧ w' = w := by
  obtain ⟨hN, hk, ad, cap, rfl, hc, hcell⟩ := h
  have h0 : ¬ (i : Int) < 0 := by omega
  by_cases hik : i < k
  · have h1 : ¬ (k : Int) ≤ (i : Int) := by omega
    have h1' : (i : Int) < (k : Int) := by omega
    obtain ⟨g, o, rfl, _, hj⟩ := hcell (by omega)
    have hx := hj i hik
    have hl := dg_lt N i
    clear hj hcell hN
    generalize dg N i = x at *
    go_enter Tryd.func86, Tryd.ntmps86
    go_wp2_with fail
    go_ret
    exact ⟨rfl, rfl⟩
  · have h1 : (k : Int) ≤ (i : Int) := by omega
    rw [dg_high hN (by omega)]
    clear hcell hN
    go_enter Tryd.func86, Tryd.ntmps86
    go_wp2_with fail
    go_ret
    exact ⟨rfl, rfl⟩

theorem bitLen_half {x : Nat} (h : 0 < x) : bitLen x = bitLen (x / 2) + 1 := by
  by_cases h1 : x / 2 = 0
  · obtain rfl : x = 1 := by omega
    decide
  · have := bitLen_shift x 1 (by rw [Nat.pow_one]; exact h1)
    rw [Nat.pow_one] at this
    omega

set_option maxRecDepth 100000 in
theorem rbits_any {S : Nat → Prop} (v : Value) (k A : Nat) (w : World) (h : RowX S w v k A) (hn : Nrm k A) (hkb : k ≤ 1000000) :
    Calls Tryd.prog 58 #[v] w fun e w' => e = .returned (.int .i64 (bitLen A : Nat)) ∧ w' = w := by
  obtain ⟨hN, hk, ad, cap, rfl, hc, hcell⟩ := h
  by_cases h0 : k = 0
  · obtain rfl : A = 0 := hn.zero_iff.1 h0
    subst h0
    clear hcell hN
    have hb : bitLen 0 = 0 := by decide
    rw [hb]
    go_enter Tryd.func58, Tryd.ntmps58
    go_wp2_with fail
    go_ret
    exact ⟨rfl, rfl⟩
  · obtain ⟨m, rfl⟩ : ∃ m, k = m + 1 := ⟨k - 1, by omega⟩
    obtain ⟨g, o, rfl, _, hj⟩ := hcell (by omega)
    have hx := hj m (by omega)
    have HB := hide (bitLen_nrm hn)
    have hl := dg_lt A m
    have hm1 : ((m : Int) + 1 == 0) = false := by simp; omega
    clear hj hcell hN hn h0
    generalize dg A m = x at *
    generalize bitLen A = b at *
    have hm2 : ¬ (m : Int) + 1 = 0 := by omega
    go_enter Tryd.func58, Tryd.ntmps58
    go_wp2_with fail
    go_loop [3, 4] (fun t3 t4 => ∃ n y : Nat, t3 = .int .i64 n ∧ t4 = .int .u32 y ∧ y < 4294967296 ∧ n ≤ 40000000 ∧ Hid (n + bitLen y = b ∧ n + bitLen y ≤ 32 * m + 32)) (fun _ t4 => (intOf t4).toNat)
    case atStart => exact ⟨32 * m, x, by go_num, rfl, hl, by omega, HB.out.symm, by have := bitLen_le (n := x) (k := 32) (by omega); omega⟩
    case round =>
      obtain ⟨n, y, rfl, rfl, hyl, hnl, HI⟩ := hrel
      by_cases hy : y = 0
      · subst hy
        have HE : Hid (n = b) := by show _ = _; have := HI.out.1; rw [show bitLen 0 = 0 from by decide] at this; omega
        clear HI HB
        go_wp2_with fail
        go_ret
        exact ⟨ret_int (by have := HE.out; omega), rfl⟩
      · have hy1 : (0 : Int) < (y : Int) := by omega
        have HN : Hid (n + 1 + bitLen (y / 2) = b ∧ n + 1 + bitLen (y / 2) ≤ 32 * m + 32) := by have := bitLen_half (x := y) (by omega); have := HI.out; constructor <;> omega
        obtain ⟨z, hz, hz1, hz2⟩ : ∃ z : Nat, y / 2 = z ∧ (y : Int) / 2 = (z : Int) ∧ (y : Int).tdiv 2 = (z : Int) := ⟨y / 2, rfl, by omega, rfl⟩
        have hzl : z < y := by omega
        have hzb : n + 1 ≤ 40000000 := by have := HN.out.2; omega
        rw [hz] at HN
        clear HI hz HB
        go_wp2_with fail
        go_round
        case rel => exact ⟨n + 1, z, by go_num, rfl, by omega, hzb, HN.out⟩
        case measure => simp [intOf]; omega

set_option maxRecDepth 100000 in
theorem ron_neg (ad : Option Addr) (k cap : Nat) (n : Int) (w : World) (hn : n < 0) :
    Calls Tryd.prog 78 #[.slice ad k cap, .int .i64 n] w fun e w' => e = .returned (.bool false) ∧ w' = w := by
  go_enter Tryd.func78, Tryd.ntmps78
  go_wp2_with fail
  go_ret
  exact ⟨rfl, rfl⟩

set_option maxRecDepth 100000 in
theorem ron_any {S : Nat → Prop} (v : Value) (k A n : Nat) (w : World) (h : RowX S w v k A) (hnn : n < 9223372036854775808) :
    Calls Tryd.prog 78 #[v, .int .i64 n] w fun e w' => e = .returned (.bool (decide (A / 2 ^ n % 2 = 1))) ∧ w' = w := by
  obtain ⟨hN, hk, ad, cap, rfl, hc, hcell⟩ := h
  have h0 : ¬ (n : Int) < 0 := by omega
  have Hbit := hide (bit_limb A n)
  obtain ⟨q, hq, hq1, hq2⟩ : ∃ q : Nat, n / 32 = q ∧ (n : Int) / 32 = (q : Int) ∧ (n : Int).tdiv 32 = (q : Int) := ⟨n / 32, rfl, by omega, rfl⟩
  obtain ⟨r, hr, hr1, hr2⟩ : ∃ r : Nat, n % 32 = r ∧ (n : Int) % 32 = (r : Int) ∧ (n : Int).tmod 32 = (r : Int) := ⟨n % 32, rfl, by omega, rfl⟩
  have hrl : r < 32 := by omega
  rw [hq, hr] at Hbit
  rw [← Hbit.out]
  by_cases hqk : q < k
  · have h1 : ¬ (k : Int) ≤ (q : Int) := by omega
    have h1' : (q : Int) < (k : Int) := by omega
    obtain ⟨g, o, rfl, _, hj⟩ := hcell (by omega)
    have hx := hj q hqk
    have hl := dg_lt A q
    clear hj hcell hN Hbit hq hr
    generalize dg A q = x at *
    have h2p := Nat.two_pow_pos r
    have h2l : 2 ^ r < 4294967296 := Nat.lt_of_lt_of_le ((Nat.pow_lt_pow_iff_right (by omega : 1 < 2)).2 hrl) (by decide)
    obtain ⟨P, hP, hP1⟩ : ∃ P : Nat, 2 ^ r = P ∧ (2 : Int) ^ r = (P : Int) := ⟨2 ^ r, rfl, by simp⟩
    rw [hP] at h2p h2l ⊢
    have hP2 : (P : Int) % 4294967296 = (P : Int) := by omega
    have hP3 : ¬ (P : Int) = 0 := by omega
    obtain ⟨y, hy, hy1, hy2⟩ : ∃ y : Nat, x / P = y ∧ (x : Int) / (P : Int) = (y : Int) ∧ (x : Int).tdiv (P : Int) = (y : Int) := ⟨x / P, rfl, by simp, by rw [Int.tdiv_eq_ediv_of_nonneg (by omega)]; simp⟩
    have hyl : y < 4294967296 := by rw [← hy]; exact Nat.lt_of_le_of_lt (Nat.div_le_self _ _) hl
    have hyt : (y : Int).tmod 2 = (y : Int) % 2 := by rw [Int.tmod_eq_emod_of_nonneg (by omega)]
    rw [hy]
    clear hy hP
    go_enter Tryd.func78, Tryd.ntmps78
    go_wp2_with fail
    go_ret
    refine ⟨?_, rfl⟩
    have e : ((y : Int) % 2 == 1) = decide (y % 2 = 1) := by
      by_cases h0 : y % 2 = 1
      · have h1 : (y : Int) % 2 = 1 := by omega
        simp [h0, h1]
      · have h1 : ¬ (y : Int) % 2 = 1 := by omega
        rw [decide_eq_false h0, beq_eq_false_iff_ne]; exact h1
    show Ending.returned (.bool ((y : Int) % 2 == 1)) = _
    rw [e]
  · have h1 : (k : Int) ≤ (q : Int) := by omega
    rw [dg_high hN (by omega)]
    clear hcell hN Hbit hq hr
    have e : decide (0 / 2 ^ r % 2 = 1) = false := by simp
    rw [e]
    go_enter Tryd.func78, Tryd.ntmps78
    go_wp2_with fail
    go_ret
    exact ⟨rfl, rfl⟩

set_option maxRecDepth 100000 in
set_option maxHeartbeats 1000000 in
theorem rorder_any {S S' : Nat → Prop} (v u : Value) (k A m C : Nat) (w : World) (h : RowX S w v k A) (h' : RowX S' w u m C) (hn : Nrm k A) (hn' : Nrm m C) :
    Calls Tryd.prog 71 #[v, u] w fun e w' => e = .returned (.int .i64 (cmpI A C)) ∧ ∃ n, w' = w.drewN n := by
  obtain ⟨hN, hk, ad, cap, rfl, hc, hcell⟩ := h
  obtain ⟨hN', hk', ad', cap', rfl, hc', hcell'⟩ := h'
  by_cases hkm : k = m
  · subst hkm
    have HC : Hid (0 < k → ∃ g o, ad = some ⟨g, o, none⟩ ∧ S g ∧ ∀ j, j < k → w.cell? ⟨g, o + j, none⟩ = some (.int .u32 (dg A j : Nat))) := hcell
    have HC' : Hid (0 < k → ∃ g o, ad' = some ⟨g, o, none⟩ ∧ S' g ∧ ∀ j, j < k → w.cell? ⟨g, o + j, none⟩ = some (.int .u32 (dg C j : Nat))) := hcell'
    have HN : Hid (A < 4294967296 ^ k ∧ C < 4294967296 ^ k) := ⟨hN, hN'⟩
    clear hcell hcell' hN hN' hn hn'
    go_enter Tryd.func71, Tryd.ntmps71
    go_wp2_with fail
    go_loopw [5] (fun t5 wr => ∃ j : Nat, j ≤ k ∧ t5 = .int .i64 ((j : Int) - 1) ∧ Hid (A / 4294967296 ^ j = C / 4294967296 ^ j ∧ ∃ n, wr = w.drewN n)) (fun t5 _ => (intOf t5 + 1).toNat)
    case atStart => exact ⟨k, Nat.le_refl _, by go_num, by show _ = _; rw [Nat.div_eq_of_lt HN.out.1, Nat.div_eq_of_lt HN.out.2], 0, rfl⟩
    case round =>
      obtain ⟨j, hj, rfl, HI⟩ := hrel
      by_cases hj0 : j = 0
      · subst hj0
        have HE : Hid (cmpI A C = 0) := by
          have := HI.out.1
          rw [Nat.pow_zero, Nat.div_one, Nat.div_one] at this
          rw [this]; exact cmpI_eq C
        go_wp2_with fail
        go_ret
        exact ⟨by rw [HE.out]; rfl, HI.out.2⟩
      · obtain ⟨i, rfl⟩ : ∃ i, j = i + 1 := ⟨j - 1, by omega⟩
        have hij : ((i + 1 : Nat) : Int) - 1 = (i : Int) := by omega
        rw [hij]
        have hik : (i : Int) < (k : Int) := by omega
        obtain ⟨g, o, rfl, _, hc1⟩ := HC.out (by omega)
        obtain ⟨g', o', rfl, _, hc2⟩ := HC'.out (by omega)
        have HW := hide HI.out.2
        have hx : wr.cell? ⟨g, o + i, none⟩ = some (.int .u32 (dg A i : Nat)) := by obtain ⟨n, rfl⟩ := HW.out; exact hc1 i (by omega)
        have hy : wr.cell? ⟨g', o' + i, none⟩ = some (.int .u32 (dg C i : Nat)) := by obtain ⟨n, rfl⟩ := HW.out; exact hc2 i (by omega)
        have HD : Hid (A / 4294967296 ^ i = A / 4294967296 ^ (i + 1) * 4294967296 + dg A i ∧ C / 4294967296 ^ i = C / 4294967296 ^ (i + 1) * 4294967296 + dg C i ∧ A / 4294967296 ^ (i + 1) = C / 4294967296 ^ (i + 1)) := ⟨div_succ A i, div_succ C i, HI.out.1⟩
        clear hc1 hc2 HI HC HC'
        generalize dg A i = x at *
        generalize dg C i = y at *
        by_cases hxy : x < y
        · have hxy' : (x : Int) < (y : Int) := by omega
          have HQ : Hid (cmpI A C = -1) := cmpI_lt (lt_of_div (i := i) (by rw [HD.out.1, HD.out.2.1, HD.out.2.2]; omega))
          go_wp2_with fail
          go_quiet (fail)
          go_wp2_with fail
          go_ret
          refine ⟨by rw [HQ.out]; rfl, ?_⟩
          obtain ⟨n, rfl⟩ := HW.out
          exact ⟨_, World.drewN_drewN _ _ _⟩
        · have hxy' : ¬ (x : Int) < (y : Int) := by omega
          by_cases hyx : y < x
          · have hyx' : (y : Int) < (x : Int) := by omega
            have HQ : Hid (cmpI A C = 1) := cmpI_gt (lt_of_div (i := i) (by rw [HD.out.1, HD.out.2.1, HD.out.2.2]; omega))
            go_wp2_with fail
            go_quiet (fail)
            have hx2 : (wr.drewN nq).cell? ⟨g, o + i, none⟩ = some (.int .u32 (x : Nat)) := hx
            have hy2 : (wr.drewN nq).cell? ⟨g', o' + i, none⟩ = some (.int .u32 (y : Nat)) := hy
            have HW2 : Hid (∃ n, wr.drewN nq = w.drewN n) := by obtain ⟨n, rfl⟩ := HW.out; exact ⟨_, World.drewN_drewN _ _ _⟩
            generalize wr.drewN nq = wq at *
            go_wp2_with fail
            go_quiet (fail)
            go_wp2_with fail
            go_ret
            refine ⟨by rw [HQ.out]; rfl, ?_⟩
            obtain ⟨n, rfl⟩ := HW2.out
            exact ⟨_, World.drewN_drewN _ _ _⟩
          · obtain rfl : x = y := by omega
            have HQ : Hid (A / 4294967296 ^ i = C / 4294967296 ^ i) := by show _ = _; rw [HD.out.1, HD.out.2.1, HD.out.2.2]
            go_wp2_with fail
            go_quiet (fail)
            have hx2 : (wr.drewN nq).cell? ⟨g, o + i, none⟩ = some (.int .u32 (x : Nat)) := hx
            have hy2 : (wr.drewN nq).cell? ⟨g', o' + i, none⟩ = some (.int .u32 (x : Nat)) := hy
            have HW2 : Hid (∃ n, wr.drewN nq = w.drewN n) := by obtain ⟨n, rfl⟩ := HW.out; exact ⟨_, World.drewN_drewN _ _ _⟩
            generalize wr.drewN nq = wq at *
            go_wp2_with fail
            go_quiet (fail)
            go_wp2_with fail
            go_roundw
            case rel =>
              refine ⟨i, by omega, by go_num, HQ.out, ?_⟩
              obtain ⟨n, rfl⟩ := HW2.out
              exact ⟨_, World.drewN_drewN _ _ _⟩
            case measure => simp [intOf]
  · have hne : ((k : Int) == (m : Int)) = false := by simp; omega
    have hne2 : ((k : Int) != (m : Int)) = true := by simp; omega
    by_cases hlt : k < m
    · have hlt' : (k : Int) < (m : Int) := by omega
      have HQ : Hid (cmpI A C = -1) := cmpI_lt (hn.lt_of hn' hlt)
      clear hcell hcell'
      go_enter Tryd.func71, Tryd.ntmps71
      go_wp2_with fail
      go_ret
      exact ⟨by rw [HQ.out]; rfl, 0, rfl⟩
    · have hlt' : ¬ (k : Int) < (m : Int) := by omega
      have HQ : Hid (cmpI A C = 1) := cmpI_gt (hn'.lt_of hn (by omega))
      clear hcell hcell'
      go_enter Tryd.func71, Tryd.ntmps71
      go_wp2_with fail
      go_ret
      exact ⟨by rw [HQ.out]; rfl, 0, rfl⟩

end Go.Proofs.YtmfimhpbdbbpoaaDoor
