/- shiftDown, shiftUp. -/
import Derived.Test.YtmfimhpbdbbpoaaDoorK
import Derived.Laws.MathBits
import Derived.Test.YtmfimhpbdbbpoaaDoorX
/- math/bits. -/
namespace Go.Proofs.YtmfimhpbdbbpoaaDoor
open Go.RowKit
open M
set_option linter.unusedVariables false
set_option linter.unusedSimpArgs false

theorem wrap64_small (n : Nat) (h : n ≤ 64) : wrap64 ((n : Nat) : Int) = (n : Int) := by unfold wrap64; omega

set_option maxRecDepth 1000000 in
set_option maxHeartbeats 4000000 in
theorem len32_a (x : Nat) (w : World) (hx : x < 4294967296) (h : x < 256) : Calls Tryd.prog 79 #[.int .u32 x] w fun e w' => e = .returned (.int .i64 (bitLen x : Nat)) ∧ w' = w := by
  have h1' : ¬ (65536 : Int) ≤ (x : Int) := by omega
  have h2' : ¬ (256 : Int) ≤ (x : Int) := by omega
  have Hz := hide (bitLen_le8 x (by omega))
  go_enter Tryd.func79, Tryd.ntmps79
  go_wp2_with fail
  go_ret
  refine ⟨?_, rfl⟩
  apply ret_int
  rw [len8tab_get]
  have := Hz.out
  simp only [wrap64]; omega

set_option maxRecDepth 1000000 in
set_option maxHeartbeats 4000000 in
theorem len32_b (x : Nat) (w : World) (hx : x < 4294967296) (h : 256 ≤ x) (h2 : x < 65536) : Calls Tryd.prog 79 #[.int .u32 x] w fun e w' => e = .returned (.int .i64 (bitLen x : Nat)) ∧ w' = w := by
  have h1' : decide ((65536 : Int) ≤ (x : Int)) = false := by simp; omega
  have h2' : (256 : Int) ≤ (x : Int) := by omega
  obtain ⟨z, hz, hz'⟩ : ∃ z : Nat, z = x / 256 ∧ (x : Int) / 256 = (z : Int) := ⟨x / 256, rfl, by simp⟩
  have Hy : Hid (bitLen x = 8 + bitLen z) := by show _ = _; rw [hz]; exact bitLen_shift x 8 (by omega)
  have hzl : z < 256 := by omega
  have Hz := hide (bitLen_le8 z hzl)
  clear hz h h2 hx
  go_enter Tryd.func79, Tryd.ntmps79
  go_wp2_with fail
  go_ret
  refine ⟨?_, rfl⟩
  apply ret_int
  rw [len8tab_get]
  have q1 := Hz.out
  have q2 := Hy.out
  simp only [wrap64]
  clear h1' h2' hz'
  omega

set_option maxRecDepth 1000000 in
set_option maxHeartbeats 4000000 in
theorem len32_c (x : Nat) (w : World) (hx : x < 4294967296) (h : 65536 ≤ x) (h2 : x / 65536 < 256) : Calls Tryd.prog 79 #[.int .u32 x] w fun e w' => e = .returned (.int .i64 (bitLen x : Nat)) ∧ w' = w := by
  have h1' : (65536 : Int) ≤ (x : Int) := by omega
  obtain ⟨y, hy, hy'⟩ : ∃ y : Nat, y = x / 65536 ∧ (x : Int) / 65536 = (y : Int) := ⟨x / 65536, rfl, by simp⟩
  have Hx : Hid (bitLen x = 16 + bitLen y) := by show _ = _; rw [hy]; exact bitLen_shift x 16 (by omega)
  have hyl : y < 65536 := by omega
  have h2' : ¬ (256 : Int) ≤ (y : Int) := by omega
  have hy2 : y < 256 := by omega
  have Hz := hide (bitLen_le8 y (by omega))
  clear hy hyl h2
  go_enter Tryd.func79, Tryd.ntmps79
  go_wp2_with fail
  go_ret
  refine ⟨?_, rfl⟩
  apply ret_int
  rw [len8tab_get]
  have q1 := Hz.out
  have q2 := Hx.out
  simp only [wrap64]
  clear h1' h2' hy' h hx
  omega

set_option maxRecDepth 1000000 in
set_option maxHeartbeats 4000000 in
theorem len32_d (x : Nat) (w : World) (hx : x < 4294967296) (h : 65536 ≤ x) (h2 : 256 ≤ x / 65536) : Calls Tryd.prog 79 #[.int .u32 x] w fun e w' => e = .returned (.int .i64 (bitLen x : Nat)) ∧ w' = w := by
  have h1' : (65536 : Int) ≤ (x : Int) := by omega
  obtain ⟨y, hy, hy'⟩ : ∃ y : Nat, y = x / 65536 ∧ (x : Int) / 65536 = (y : Int) := ⟨x / 65536, rfl, by simp⟩
  have Hx : Hid (bitLen x = 16 + bitLen y) := by show _ = _; rw [hy]; exact bitLen_shift x 16 (by omega)
  have hyl : y < 65536 := by omega
  have h2' : (256 : Int) ≤ (y : Int) := by omega
  clear hy h2
  obtain ⟨z, hz, hz'⟩ : ∃ z : Nat, z = y / 256 ∧ (y : Int) / 256 = (z : Int) := ⟨y / 256, rfl, by simp⟩
  have Hy : Hid (bitLen y = 8 + bitLen z) := by show _ = _; rw [hz]; exact bitLen_shift y 8 (by omega)
  have hzl : z < 256 := by omega
  have Hz := hide (bitLen_le8 z hzl)
  clear hz
  go_enter Tryd.func79, Tryd.ntmps79
  go_wp2_with fail
  go_ret
  refine ⟨?_, rfl⟩
  apply ret_int
  rw [len8tab_get]
  have q1 := Hz.out
  have q2 := Hx.out
  have q3 := Hy.out
  simp only [wrap64]
  clear h1' h2' hy' hz' h hx
  omega

theorem len32_any (x : Nat) (w : World) (hx : x < 4294967296) : Calls Tryd.prog 79 #[.int .u32 x] w fun e w' => e = .returned (.int .i64 (bitLen x : Nat)) ∧ w' = w := by
  by_cases h : x < 256
  · exact len32_a x w hx h
  · by_cases h1 : x < 65536
    · exact len32_b x w hx (by omega) h1
    · by_cases h2 : x / 65536 < 256
      · exact len32_c x w hx (by omega) h2
      · exact len32_d x w hx (by omega) (by omega)

theorem bitLen_le {n k : Nat} (h : n < 2 ^ k) : bitLen n ≤ k := by
  rcases Nat.lt_or_ge k (bitLen n) with h1 | h1
  · have h2 := (bitLen_spec n).2 (by rintro rfl; simp [bitLen] at h1)
    have := Nat.pow_le_pow_right (n := 2) (by omega) (show k ≤ bitLen n - 1 from by omega)
    omega
  · exact h1

theorem lz32_any (x : Nat) (w : World) (hx : x < 4294967296) : Calls Tryd.prog 98 #[.int .u32 x] w fun e w' => e = .returned (.int .i64 (32 - bitLen x : Nat)) ∧ w' = w := by
  have hb : bitLen x ≤ 32 := bitLen_le (by omega)
  have HL := hide (len32_any x w hx)
  generalize bitLen x = b at *
  go_enter Tryd.func98, Tryd.ntmps98
  go_wp2_with fail
  refine HL.out.mono ?_
  rintro e w1 ⟨rfl, rfl⟩
  go_wp2_with fail
  go_ret
  exact ⟨ret_int (by omega), rfl⟩

end Go.Proofs.YtmfimhpbdbbpoaaDoor

namespace Go.Proofs.YtmfimhpbdbbpoaaDoor
open Go.RowKit
open M
set_option linter.unusedVariables false
set_option linter.unusedSimpArgs false

theorem down_two (t z r : Nat) (hr : r < 32) : (t * 4294967296 * 4294967296 + z) / 2 ^ r % 4294967296 = z / 2 ^ r % 4294967296 := by
  have h2 : (4294967296 : Nat) = 2 ^ r * 2 ^ (32 - r) := by rw [← Nat.pow_add, show r + (32 - r) = 32 from by omega]
  have e : t * 4294967296 = 2 ^ r * (2 ^ (32 - r) * t) := by
    rw [Nat.mul_comm t, ← Nat.mul_assoc, ← h2]
  rw [e, Nat.mul_assoc (2 ^ r), Nat.add_comm, Nat.add_mul_div_left _ _ (Nat.two_pow_pos r), Nat.add_mul_mod_self_right]

/-- A limb of a number that is shifted down. -/
theorem dg_down (N i r : Nat) (hr : r < 32) : (dg N (i + 1) * 4294967296 + dg N i) / 2 ^ r % 4294967296 = dg (N / 2 ^ r) i := by
  have hd1 : N / 4294967296 ^ i = N / 4294967296 ^ (i + 1 + 1) * 4294967296 * 4294967296 + (dg N (i + 1) * 4294967296 + dg N i) := by
    rw [div_succ N i, div_succ N (i + 1), Nat.add_mul, Nat.add_assoc]
  have e : dg (N / 2 ^ r) i = N / 4294967296 ^ i / 2 ^ r % 4294967296 := by
    unfold dg
    rw [Nat.div_div_eq_div_mul, Nat.mul_comm, ← Nat.div_div_eq_div_mul]
  rw [e, hd1, down_two _ _ r hr]

theorem or_hi_w (r d : Nat) (hr : r < 4294967296) (hd : d < 4294967296) :
    bits BinOp.or IntKind.u64 (IntKind.u64.wrap ((r : Int) * 4294967296)) (d : Int) = ((r * 4294967296 + d : Nat) : Int) := by
  rw [show IntKind.u64.wrap ((r : Int) * 4294967296) = (r : Int) * 4294967296 from by rw [IntKind.wrap_u64]; omega]
  exact or_hi r d hr hd

theorem down_lt {N k r : Nat} (h : N < 4294967296 ^ k) : N / 2 ^ r < 4294967296 ^ k := Nat.lt_of_le_of_lt (Nat.div_le_self _ _) h

theorem shift_split (N n : Nat) : N / 4294967296 ^ (n / 32) / 2 ^ (n % 32) = N / 2 ^ n := by
  rw [show (4294967296 : Nat) = 2 ^ 32 from by decide, ← Nat.pow_mul, Nat.div_div_eq_div_mul, ← Nat.pow_add, show 32 * (n / 32) + n % 32 = n from by omega]

set_option maxRecDepth 100000 in
set_option maxHeartbeats 2000000 in
theorem shiftDown_any {S : Nat → Prop} (v : Value) (k N n : Nat) (w : World) (h : RowX S w v k N) (hn : n < 32 * k) :
    Calls Tryd.prog 76 #[v, .int .i64 n] w fun e w' => ∃ r, e = .returned r ∧ ∃ m, RowX (w.heap.size ≤ ·) w' r m (N / 2 ^ n) ∧ Nrm m (N / 2 ^ n) ∧ m ≤ k - n / 32 ∧ Below w.heap.size w w' := by
  obtain ⟨i5, hi5⟩ := info32
  have Hi := hide hi5
  clear hi5
  obtain ⟨hN, hk, ad, cap, rfl, hc, hcell⟩ := Row.old h.row
  obtain ⟨g, o, rfl, hg, hj⟩ := hcell (by omega)
  obtain ⟨q, hq, hq'⟩ : ∃ q : Nat, q = n / 32 ∧ (n : Int).tdiv 32 = (q : Int) := ⟨n / 32, rfl, rfl⟩
  obtain ⟨rr, hrr, hrr'⟩ : ∃ r : Nat, r = n % 32 ∧ (n : Int).tmod 32 = (r : Int) := ⟨n % 32, rfl, rfl⟩
  have hq2 : (n : Int) / 32 = (q : Int) := by omega
  have hrr2 : (n : Int) % 32 = (rr : Int) := by omega
  have hqk : q < k := by omega
  obtain ⟨K, hK, hK'⟩ : ∃ K : Nat, K = k - q ∧ (k : Int) - (q : Int) = (K : Int) := ⟨k - q, rfl, by omega⟩
  have hkept : RowX (· < w.heap.size) w (.slice (some ⟨g, o + q, none⟩) K K) K (N / 4294967296 ^ q) := by
    refine ⟨div_lt_pow (by rw [hK, show q + (k - q) = k from by omega]; exact hN), by omega, _, K, rfl, Nat.le_refl _, fun _ => ⟨g, o + q, rfl, hg, fun j hjk => ?_⟩⟩
    rw [← dg_shift, Nat.add_assoc]
    exact hj (q + j) (by omega)
  have hb1 : Below w.heap.size w (w.alloc (.cells (madeCells #[Value.int .u32 0] K) 24)) := (Below.refl _ _).alloc (Nat.le_refl _) _
  have HF : Hid (Wk (w.alloc (.cells (madeCells #[Value.int .u32 0] K) 24)) w.heap.size 0 K 0 ∧ Below w.heap.size w (w.alloc (.cells (madeCells #[Value.int .u32 0] K) 24)) ∧ N / 4294967296 ^ q / 2 ^ rr = N / 2 ^ n ∧ K = k - n / 32) :=
    ⟨wk_of_block (pw_pos _) (make_block w K), hb1, by rw [hq, hrr]; exact shift_split N n, by rw [hK, hq]⟩
  have HKp := hide hkept
  have hrl : rr < 32 := by omega
  have hrl' : (rr : Int) < 32 := by omega
  have hKb : K ≤ 70368744177664 := by omega
  have hsub : k - q = K := hK.symm
  have hqk' : (q : Int) ≤ (k : Int) := by omega
  have hkc : (k : Int) ≤ (cap : Int) := by omega
  have hne : ¬ k = q := by omega
  have hK0 : 0 < K := by omega
  clear hcell hj hN h hkept hb1 hq hrr hK
  generalize N / 4294967296 ^ q = M at *
  go_enter Tryd.func76, Tryd.ntmps76
  go_wp2_with (at_make; refine wpList_make_row _ rfl _ _ _ rfl 24 i5 (.int .u32 0) Tryd.underlying23 Hi.out.1 Hi.out.2.1 Hi.out.2.2.1 rfl .i64 .i64 K rfl rfl (by rw [Hi.out.2.2.2]; omega) (by omega) ?_)
  generalize w.alloc (.cells (madeCells #[Value.int .u32 0] K) 24) = wa at *
  go_loopw [22] (fun t22 wr => ∃ i : Nat, i ≤ K ∧ t22 = .int .i64 i ∧ Hid (Mid wr w.heap.size 0 K i 0 (M / 2 ^ rr) ∧ Below w.heap.size w wr)) (fun t22 _ => K - (intOf t22).toNat)
  case atStart => exact ⟨0, by omega, rfl, HF.out.1.mid _, HF.out.2.1⟩
  case round =>
    obtain ⟨i, hi, rfl, HM⟩ := hrel
    by_cases hlt : i < K
    · have hlt' : (i : Int) < (K : Int) := by omega
      have HR := hide (HKp.out.belowB HM.out.2)
      obtain ⟨_, _, ad3, cap3, hv3, _, hcell3⟩ := HR.out
      obtain ⟨g3, o3, ha3, _, hj3⟩ := hcell3 hK0
      simp only [Value.slice.injEq] at hv3
      rw [← hv3.1, Option.some.injEq, Addr.mk.injEq] at ha3
      obtain ⟨rfl, rfl, _⟩ := ha3
      have hx := hj3 i hlt
      have hy := HM.out.1.hi i (Nat.le_refl _) hlt
      have hf := HM.out.1.free i hlt
      rw [Nat.zero_add] at hy hf
      have hxl := dg_lt M i
      have hyl := dg_lt M (i + 1)
      have Hs := hide (dg_down M i rr hrl)
      have hcast : ((i : Int) + 1) = ((i + 1 : Nat) : Int) := by omega
      have HL : Hid (∀ n, Calls Tryd.prog 90 #[.slice (some ⟨g, o + q, none⟩) K K, .int .i64 (i + 1)] (wr.drewN n) fun e w' => e = .returned (.int .u64 (dg M (i + 1) : Nat)) ∧ w' = wr.drewN n) := fun n => by
        rw [hcast]; exact limbAt_any _ K M (i + 1) _ (HR.out.drewN n) (by omega)
      clear hj3 hcell3 hv3 hcast
      generalize dg M i = x at *
      generalize dg M (i + 1) = y at *
      have ho1 := or_hi y x hyl hxl
      have ho2 := or_hi_w y x hyl hxl
      obtain ⟨z, hz⟩ : ∃ z, z = y * 4294967296 + x := ⟨_, rfl⟩
      have hzl : z < 18446744073709551616 := by omega
      rw [← hz] at ho1 ho2 Hs
      clear hz
      go_wp2_with fail
      go_quiet ((go_at_call 90; exact Calls.quiet_of_same (HL.out _)))
      go_wp2_with fail
      go_roundw
      case rel =>
        refine ⟨i + 1, by omega, by go_num, ?_⟩
        have hst := (HM.out.1.drewN nq).step hlt ((z : Int) / 2 ^ rr % 4294967296) (by rw [← Hs.out]; simp)
        rw [Nat.zero_add] at hst
        exact ⟨hst, (below_drewN HM.out.2 nq).setCell (Nat.le_refl _) _⟩
      case measure => simp [intOf]; omega
    · obtain rfl : i = K := by omega
      have HW : Hid (RowX (w.heap.size ≤ ·) wr (.slice (some ⟨w.heap.size, 0, none⟩) i i) i (N / 2 ^ n) ∧ Below w.heap.size w wr) := by
        have h1 := HM.out.1.wk (down_lt HKp.out.1)
        rw [HF.out.2.2.1] at h1
        exact ⟨h1.row hKb (Nat.le_refl _) (Nat.le_refl _) _ (fun _ => rfl), HM.out.2⟩
      go_wp2_with fail
      refine (trim_any _ i (N / 2 ^ n) wr HW.out.1).mono ?_
      rintro e w3 ⟨r, rfl, m, hrow, hnrm, hnk, rfl⟩
      have HZ := hide (And.intro hrow (And.intro hnrm hnk))
      clear hrow hnrm hnk
      go_wp2_with fail
      go_ret
      exact ⟨r, rfl, m, HZ.out.1, HZ.out.2.1, by have := HZ.out.2.2; have := HF.out.2.2.2; omega, HW.out.2⟩

theorem Wk.lift {w w' : World} {g q m X : Nat} (h : Wk w g 0 (q + m) 0) (ho : Only g q (q + m) w w') (h' : Wk w' g q m X) : Wk w' g 0 (q + m) (X * 4294967296 ^ q) := by
  refine ⟨?_, fun j hj => ?_, fun j hj => by rw [ho.frozen]; exact h.free j hj⟩
  · rw [Nat.add_comm q m, Nat.pow_add]; exact Nat.mul_lt_mul_of_pos_right h'.lt (pw_pos q)
  · rw [Nat.zero_add]
    rcases Nat.lt_or_ge j q with h1 | h1
    · rw [ho.cell j (.inl h1)]
      have e : dg (X * 4294967296 ^ q) j = 0 := by
        have := dg_low (a := 0) (k := q) (b := X) h1
        rw [Nat.zero_add, dg_zero, Nat.mul_comm] at this; exact this
      rw [e]
      have := h.cell j hj
      rw [Nat.zero_add, dg_zero] at this; exact this
    · obtain ⟨t, rfl⟩ : ∃ t, j = q + t := ⟨j - q, by omega⟩
      rw [dg_shift, Nat.mul_div_cancel _ (pw_pos q)]
      exact h'.cell t (by omega)

theorem up_split (N n : Nat) : N * 2 ^ (n % 32) * 4294967296 ^ (n / 32) = N * 2 ^ n := by
  rw [show (4294967296 : Nat) = 2 ^ 32 from by decide, ← Nat.pow_mul, Nat.mul_assoc, ← Nat.pow_add, show n % 32 + 32 * (n / 32) = n from by omega]

theorem up_lt {N k r : Nat} (h : N < 4294967296 ^ k) (hr : r < 32) : N * 2 ^ r < 4294967296 ^ (k + 1) := by
  rw [pw_succ]
  have h2 : (2 : Nat) ^ r ≤ 2 ^ 32 := Nat.pow_le_pow_right (by omega) (by omega)
  have h3 : N * 2 ^ r ≤ N * 2 ^ 32 := Nat.mul_le_mul_left _ h2
  have h4 : N * 2 ^ 32 < 4294967296 ^ k * 2 ^ 32 := Nat.mul_lt_mul_of_pos_right h (by decide)
  omega

set_option maxRecDepth 100000 in
set_option maxHeartbeats 2000000 in
theorem shiftUp_any {S : Nat → Prop} (v : Value) (k N n : Nat) (w : World) (h : RowX S w v k N) (hn : n / 32 + k + 1 ≤ 70368744177664) :
    Calls Tryd.prog 74 #[v, .int .i64 n] w fun e w' => ∃ r, e = .returned r ∧ ∃ m, RowX (w.heap.size ≤ ·) w' r m (N * 2 ^ n) ∧ Nrm m (N * 2 ^ n) ∧ m ≤ n / 32 + k + 1 ∧ Below w.heap.size w w' := by
  obtain ⟨i5, hi5⟩ := info32
  have Hi := hide hi5
  clear hi5
  obtain ⟨q, hq, hq'⟩ : ∃ q : Nat, q = n / 32 ∧ (n : Int).tdiv 32 = (q : Int) := ⟨n / 32, rfl, rfl⟩
  obtain ⟨rr, hrr, hrr'⟩ : ∃ r : Nat, r = n % 32 ∧ (n : Int).tmod 32 = (r : Int) := ⟨n % 32, rfl, rfl⟩
  have hq2 : (n : Int) / 32 = (q : Int) := by omega
  have hrr2 : (n : Int) % 32 = (rr : Int) := by omega
  obtain ⟨k1, hk1, hk1'⟩ : ∃ k1 : Nat, k1 = q + k ∧ (q : Int) + (k : Int) = (k1 : Int) := ⟨q + k, rfl, by omega⟩
  obtain ⟨K, hK, hK'⟩ : ∃ K : Nat, K = q + (k + 1) ∧ (k1 : Int) + 1 = (K : Int) := ⟨q + (k + 1), rfl, by omega⟩
  have hKb : K ≤ 70368744177664 := by omega
  have HF : Hid (Wk (w.alloc (.cells (madeCells #[Value.int .u32 0] K) 24)) w.heap.size 0 K 0 ∧ Below w.heap.size w (w.alloc (.cells (madeCells #[Value.int .u32 0] K) 24)) ∧ RowX (· ≠ w.heap.size) (w.alloc (.cells (madeCells #[Value.int .u32 0] K) 24)) v k N ∧ N < 4294967296 ^ k) :=
    ⟨wk_of_block (pw_pos _) (make_block w K), (Below.refl _ _).alloc (Nat.le_refl _) _, (RowX.belowB (Row.old h.row) ((Below.refl _ _).alloc (Nat.le_refl _) _)).mono (fun g _ hg => Nat.ne_of_lt hg), h.1⟩
  have HE : Hid (N * 2 ^ rr * 4294967296 ^ q = N * 2 ^ n) := by show _ = _; rw [hq, hrr]; exact up_split N n
  obtain ⟨_, hk, ad, cap, rfl, hc, _⟩ := h
  have hrl : rr < 32 := by omega
  have hsub : K - q = k + 1 := by omega
  have hqK : (q : Int) ≤ (K : Int) := by omega
  have hne : ¬ K = q := by omega
  have hqn : q ≤ K := by omega
  have HK := hide (And.intro hK hq)
  clear hq hrr hk1 hK
  go_enter Tryd.func74, Tryd.ntmps74
  go_wp2_with (at_make; refine wpList_make_row _ rfl _ _ _ rfl 24 i5 (.int .u32 0) Tryd.underlying23 Hi.out.1 Hi.out.2.1 Hi.out.2.2.1 rfl .i64 .i64 K rfl rfl (by rw [Hi.out.2.2.2]; omega) (by omega) ?_)
  have hwsz : w.heap.size < (w.alloc (.cells (madeCells #[Value.int .u32 0] K) 24)).heap.size := by simp
  generalize w.alloc (.cells (madeCells #[Value.int .u32 0] K) 24) = wa at *
  have HW1 : Hid (Wk wa w.heap.size q (k + 1) (0 / 4294967296 ^ q % 4294967296 ^ (k + 1))) := by
    have := HF.out.1.sub q (k + 1) (by have := HK.out.1; omega)
    rwa [Nat.zero_add] at this
  refine (shiftInto_any _ w.heap.size q (k + 1) (k + 1) _ _ k N rr wa HW1.out (by omega) (Nat.le_refl _) (fun _ => rfl) HF.out.2.2.1 hrl).mono ?_
  rintro e w2 ⟨rfl, hW2, hO2⟩
  have HZ : Hid (RowX (w.heap.size ≤ ·) w2 (.slice (some ⟨w.heap.size, 0, none⟩) K K) K (N * 2 ^ n) ∧ Below w.heap.size w w2) := by
    rw [mod_self (up_lt HF.out.2.2.2 hrl)] at hW2
    have h0 := HF.out.1
    rw [HK.out.1] at h0
    have h1 := Wk.lift h0 (hO2.wider (Nat.le_refl _) (by omega)) hW2
    rw [HE.out, ← HK.out.1] at h1
    exact ⟨h1.row hKb (Nat.le_refl _) (Nat.le_refl _) _ (fun _ => rfl), HF.out.2.1.trans (hO2.below (Nat.le_refl _) (by omega))⟩
  clear hW2 hO2
  go_wp2_with fail
  refine (trim_any _ K (N * 2 ^ n) w2 HZ.out.1).mono ?_
  rintro e w3 ⟨r, rfl, m, hrow, hnrm, hnk, rfl⟩
  have HY := hide (And.intro hrow (And.intro hnrm hnk))
  clear hrow hnrm hnk
  go_wp2_with fail
  go_ret
  exact ⟨r, rfl, m, HY.out.1, HY.out.2.1, by have := HY.out.2.2; have := HK.out; omega, HZ.out.2⟩

end Go.Proofs.YtmfimhpbdbbpoaaDoor
