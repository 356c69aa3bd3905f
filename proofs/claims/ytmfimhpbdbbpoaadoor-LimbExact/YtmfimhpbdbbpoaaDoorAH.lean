/- raise, Power. -/
import Derived.Test.YtmfimhpbdbbpoaaDoorAF
import Derived.Laws.BitsLemmas
namespace Go.Proofs.YtmfimhpbdbbpoaaDoor
open Go.RowKit
open M
set_option linter.unusedVariables false
set_option linter.unusedSimpArgs false

theorem and1_i64 (x : Nat) (h : x < 9223372036854775808) : bits BinOp.and IntKind.i64 (x : Int) 1 = ((x % 2 : Nat) : Int) := by
  have := bits_mask .i64 63 (by decide) (fun n h0 h1 => by rw [IntKind.wrap_i64]; omega) 1 (by omega) (x : Int) (by omega) (by omega)
  simpa using this

/-- The power so far. -/
def RaiseSt (w : World) (b m : Nat) (v : Value) (wr : World) : Prop := Fits (b ^ m) ∧ (∃ n, Own wr w.heap.size v n (b ^ m) ∧ Nrm n (b ^ m)) ∧ Below w.heap.size w wr

theorem pow_fits_le {b m n : Nat} (hb : 0 < b) (h : ¬ Fits (b ^ m)) (hmn : m ≤ n) : ¬ Fits (b ^ n) := fun hf => h (hf.le (Nat.pow_le_pow_right hb hmn))

set_option maxRecDepth 100000 in
set_option maxHeartbeats 4000000 in
theorem raise_any {v : Value} {b n : Nat} {w : World} (h : Num w v b) (hb : 0 < b) (hn0 : 0 < n) (hn : n < 4294967296) :
    Calls Tryd.prog 51 #[v, .int .i64 n] w fun e w' => ∃ r c, e = .returned (.tuple #[r, .int .i64 c]) ∧ Told w' w.heap.size r c (b ^ n) ∧ Below w.heap.size w w' := by
  have hsp := bitLen_spec n
  have hbl := hsp.2 (by omega)
  have hbl2 := hsp.1
  have hbl0 : 0 < bitLen n := by
    rcases Nat.eq_zero_or_pos (bitLen n) with h0 | h0
    · rw [h0] at hbl2; simp at hbl2; omega
    · exact h0
  have hblb : bitLen n ≤ 32 := bitLen_le (by omega)
  have HBL := hide (fun w => blen_any n w hn)
  generalize bitLen n = bl at *
  have H := hide h
  have HB2 := hide hbl2
  have hwrap : IntKind.u64.wrap (n : Int) = (n : Int) := by rw [IntKind.wrap_u64]; omega
  obtain ⟨tp, htp, htp'⟩ : ∃ tp : Nat, bl = tp + 1 ∧ (bl : Int) - 1 = (tp : Int) := ⟨bl - 1, by omega, by omega⟩
  have htp2 : (tp : Int) + 1 = (bl : Int) := by omega
  have HTP := hide htp
  clear h hsp hbl hbl2 htp
  go_enter Tryd.func51, Tryd.ntmps51
  go_wp2_with fail
  refine (From_any 1 w (by omega)).mono ?_
  rintro e w1 ⟨r1, rfl, k1, ho1, hn1, hk1, hb1⟩
  have H1 : Hid (RaiseSt w b 0 r1 w1) := ⟨⟨1, by omega, by rw [Nat.pow_zero]; decide⟩, ⟨k1, by rw [Nat.pow_zero]; exact ho1, by rw [Nat.pow_zero]; exact hn1⟩, hb1⟩
  clear ho1 hn1 hk1 hb1
  go_wp2_with fail
  refine (HBL.out _).mono ?_
  rintro e w2 ⟨rfl, rfl⟩
  go_wp2_with fail
  go_loopw [4, 15] (fun t4 t15 wr => ∃ i : Nat, i ≤ bl ∧ t15 = .int .i64 i ∧ Hid (RaiseSt w b (n / 2 ^ (bl - i)) t4 wr)) (fun _ t15 _ => bl - (intOf t15).toNat)
  case atStart => exact ⟨0, by omega, rfl, by rw [Nat.sub_zero, Nat.div_eq_of_lt HB2.out]; exact H1⟩
  case round =>
    obtain ⟨i, hi, rfl, HI⟩ := hrel
    by_cases hlt : i < bl
    · have hlt' : (i : Int) < (bl : Int) := by omega
      obtain ⟨e, he, he'⟩ : ∃ e : Nat, bl - i = e + 1 ∧ (tp : Int) - (i : Int) = (e : Int) := ⟨tp - i, by have := HTP.out; omega, by have := HTP.out; omega⟩
      have hcd : n / 2 ^ (bl - i) = n / 2 ^ e / 2 := by rw [he, Nat.pow_succ, Nat.div_div_eq_div_mul]
      have Hnext : Hid (n / 2 ^ (bl - (i + 1)) = n / 2 ^ e) := by show _ = _; rw [show bl - (i + 1) = e from by omega]
      have hdn : n / 2 ^ e ≤ n := Nat.div_le_self _ _
      have hdv : (n : Int) / 2 ^ e = ((n / 2 ^ e : Nat) : Int) := by simp
      have he2 : (e : Int) < 64 := by omega
      rw [hcd] at HI
      clear hcd he
      generalize n / 2 ^ e = d at *
      have hand := and1_i64 d (by omega)
      obtain ⟨c, hc⟩ : ∃ c, c = d / 2 := ⟨_, rfl⟩
      obtain ⟨bt, hbt⟩ : ∃ bt, bt = d % 2 := ⟨_, rfl⟩
      rw [← hbt] at hand
      rw [← hc] at HI
      have HCB : Hid (d = 2 * c + bt ∧ bt ≤ 1 ∧ d ≤ n) := ⟨by omega, by omega, hdn⟩
      clear hc hbt hdn
      obtain ⟨hf, ⟨k0, hok0, hnk0⟩, hbel⟩ := HI.out
      have HN0 := hide (And.intro (hok0.num hnk0 hf) hbel)
      clear hf hok0 hnk0 hbel
      go_wp2_with fail
      refine (Mul_ok HN0.out.1 HN0.out.1).mono ?_
      rintro e w3 ⟨r3, c3, rfl, ht3, hb3⟩
      rw [← Nat.pow_add, show c + c = 2 * c from by omega] at ht3
      have HB3 := hide (HN0.out.2.trans (hb3.mono HN0.out.2.size))
      rcases ht3 with ⟨hf3, rfl, n3, ho3, hn3⟩ | ⟨hnf, rfl, rfl⟩
      · have H3 : Hid (RaiseSt w b (2 * c) r3 w3) := ⟨hf3, ⟨n3, ho3.mono HN0.out.2.size, hn3⟩, HB3.out⟩
        have HN3 := hide (And.intro (ho3.num hn3 hf3) hb3)
        clear ho3 hn3 hb3 hf3
        by_cases hb0 : bt = 0
        · subst hb0
          have HD : Hid (d = 2 * c) := by show _ = _; have := HCB.out; omega
          go_wp2_with fail
          go_roundw
          case rel => exact ⟨i + 1, by omega, by go_num, by rw [Hnext.out, HD.out]; exact H3⟩
          case measure => simp [intOf]; omega
        · obtain rfl : bt = 1 := by have := HCB.out; omega
          have HD : Hid (d = 2 * c + 1) := HCB.out.1
          clear hb0
          go_wp2_with fail
          refine (Mul_ok HN3.out.1 ((H.out.below (show Below w.heap.size w w3 from HB3.out)))).mono ?_
          rintro e w4 ⟨r4, c4, rfl, ht4, hb4⟩
          rw [← Nat.pow_succ] at ht4
          have HB4 := hide (HB3.out.trans (hb4.mono HB3.out.size))
          rcases ht4 with ⟨hf4, rfl, n4, ho4, hn4⟩ | ⟨hnf, rfl, rfl⟩
          · have H4 : Hid (RaiseSt w b (2 * c + 1) r4 w4) := ⟨hf4, ⟨n4, ho4.mono HB3.out.size, hn4⟩, HB4.out⟩
            clear ho4 hn4 hb4 hf4
            go_wp2_with fail
            go_roundw
            case rel => exact ⟨i + 1, by omega, by go_num, by rw [Hnext.out, HD.out]; exact H4⟩
            case measure => simp [intOf]; omega
          · have HL : Hid (¬ Fits (b ^ n)) := pow_fits_le hb hnf (by have := HCB.out; omega)
            clear hb4 hnf
            go_wp2_with fail
            go_ret2
            exact ⟨_, _, rfl, .inr ⟨HL.out, rfl, rfl⟩, HB4.out⟩
      · have HL : Hid (¬ Fits (b ^ n)) := pow_fits_le hb hnf (by have := HCB.out; omega)
        clear hb3 hnf
        go_wp2_with fail
        go_ret2
        exact ⟨_, _, rfl, .inr ⟨HL.out, rfl, rfl⟩, HB3.out⟩
    · obtain rfl : i = bl := by omega
      have HE : Hid (Fits (b ^ n) ∧ (∃ k, Own wr w.heap.size u4 k (b ^ n) ∧ Nrm k (b ^ n)) ∧ Below w.heap.size w wr) := by
        have := HI.out
        rw [Nat.sub_self, Nat.pow_zero, Nat.div_one] at this
        exact this
      clear HI
      go_wp2_with fail
      go_ret2
      exact ⟨_, _, rfl, .inl ⟨HE.out.1, rfl, HE.out.2.1⟩, HE.out.2.2⟩


theorem pow_long {b n : Nat} (hb : 2 ≤ b) (hn : 262144 ≤ n) : ¬ Fits (b ^ n) := by
  rintro ⟨k, hk, hlt⟩
  have h1 : (4294967296 : Nat) ^ k = 2 ^ (32 * k) := by rw [Nat.pow_mul]
  have h2 : (2 : Nat) ^ (32 * k) ≤ 2 ^ n := Nat.pow_le_pow_right (by omega) (by omega)
  have h3 : (2 : Nat) ^ n ≤ b ^ n := Nat.pow_le_pow_left hb n
  rw [h1] at hlt
  omega

set_option maxRecDepth 100000 in
set_option maxHeartbeats 1000000 in
theorem Power_neg (b : Nat) (n : Int) (w : World) (hn : n < 0) :
    Calls Tryd.prog 9 #[.int .u32 b, .int .i64 n] w fun e w' => e = .returned (.tuple #[.slice none 0 0, .int .i64 24]) ∧ w' = w := by
  go_enter Tryd.func9, Tryd.ntmps9
  go_wp2_with fail
  go_ret2
  exact ⟨rfl, rfl⟩

set_option maxRecDepth 100000 in
set_option maxHeartbeats 1000000 in
theorem Power_any (b n : Nat) (w : World) (hb : b < 4294967296) (hn : n ≤ 9223372036854775807) :
    Calls Tryd.prog 9 #[.int .u32 b, .int .i64 n] w fun e w' => ∃ r c, e = .returned (.tuple #[r, .int .i64 c]) ∧ Told w' w.heap.size r c (b ^ n) ∧ Below w.heap.size w w' := by
  have hnn : ¬ (n : Int) < 0 := by omega
  by_cases hn0 : n = 0
  · have HE : Hid (b ^ n = 1) := by show _ = _; rw [hn0, Nat.pow_zero]
    subst hn0
    go_enter Tryd.func9, Tryd.ntmps9
    go_wp2_with fail
    refine (From_any 1 w (by omega)).mono ?_
    rintro e w1 ⟨r1, rfl, k1, ho1, hn1, hk1, hb1⟩
    have H1 : Hid (Told w1 w.heap.size r1 0 1 ∧ Below w.heap.size w w1) := ⟨.inl ⟨⟨1, by omega, by decide⟩, rfl, k1, ho1, hn1⟩, hb1⟩
    clear ho1 hn1 hb1
    go_wp2_with fail
    go_ret2
    exact ⟨_, _, rfl, by rw [HE.out]; exact H1.out.1, H1.out.2⟩
  · have hnz : ((n : Int) == 0) = false := by rw [beq_eq_false_iff_ne]; omega
    by_cases hb1 : b = 1
    · have HE : Hid (b ^ n = 1) := by show _ = _; rw [hb1, Nat.one_pow]
      subst hb1
      go_enter Tryd.func9, Tryd.ntmps9
      go_wp2_with fail
      refine (From_any 1 w (by omega)).mono ?_
      rintro e w1 ⟨r1, rfl, k1, ho1, hn1, hk1, hb1⟩
      have H1 : Hid (Told w1 w.heap.size r1 0 1 ∧ Below w.heap.size w w1) := ⟨.inl ⟨⟨1, by omega, by decide⟩, rfl, k1, ho1, hn1⟩, hb1⟩
      clear ho1 hn1 hb1
      go_wp2_with fail
      go_ret2
      exact ⟨_, _, rfl, by rw [HE.out]; exact H1.out.1, H1.out.2⟩
    · have hbz1 : ((b : Int) == 1) = false := by rw [beq_eq_false_iff_ne]; omega
      by_cases hb0 : b = 0
      · have HE : Hid (b ^ n = 0) := by show _ = _; rw [hb0]; exact Nat.zero_pow (by omega)
        subst hb0
        go_enter Tryd.func9, Tryd.ntmps9
        go_wp2_with fail
        go_ret2
        exact ⟨_, _, rfl, by rw [HE.out]; exact .inl ⟨⟨0, by omega, by decide⟩, rfl, 0, Own.nil _ _, nrm_zero⟩, Below.refl _ _⟩
      · have hbz0 : ((b : Int) == 0) = false := by rw [beq_eq_false_iff_ne]; omega
        by_cases hnl : 262144 ≤ n
        · have hnl' : (262144 : Int) ≤ (n : Int) := by omega
          have HL := hide (pow_long (b := b) (by omega) hnl)
          go_enter Tryd.func9, Tryd.ntmps9
          go_wp2_with fail
          go_ret2
          exact ⟨_, _, rfl, .inr ⟨HL.out, rfl, rfl⟩, Below.refl _ _⟩
        · have hnl' : decide ((262144 : Int) ≤ (n : Int)) = false := by simp; omega
          have HN := hide (And.intro (show 0 < b from by omega) (And.intro (show 0 < n from by omega) (show n < 4294967296 from by omega)))
          clear hnl hn0
          go_enter Tryd.func9, Tryd.ntmps9
          go_wp2_with fail
          refine (From_any b w (by omega)).mono ?_
          rintro e w1 ⟨r1, rfl, k1, ho1, hn1, hk1, hb1⟩
          have H1 : Hid (Num w1 r1 b ∧ Below w.heap.size w w1) := ⟨⟨k1, ho1.row, hn1, by omega⟩, hb1⟩
          clear ho1 hn1 hb1 hk1
          go_wp2_with fail
          refine (raise_any H1.out.1 HN.out.1 HN.out.2.1 HN.out.2.2).mono ?_
          rintro e w2 ⟨r2, c2, rfl, ht2, hb2⟩
          have H2 := hide (And.intro (ht2.mono H1.out.2.size) (H1.out.2.trans (hb2.mono H1.out.2.size)))
          clear ht2 hb2
          go_wp2_with fail
          go_ret2
          exact ⟨_, _, rfl, H2.out⟩

end Go.Proofs.YtmfimhpbdbbpoaaDoor
