/- DivMod, of what divide tells (limb's P without Text). -/
import Derived.Test.YtleeahigceppiaaDoorY
import Derived.Test.YtleeahigceppiaaDoorW
/- shiftDown, shiftUp. -/
namespace Go.Proofs.YtleeahigceppiaaDoor
open Go.RowKit
open M
set_option linter.unusedVariables false
set_option linter.unusedSimpArgs false

theorem down_two (t z r : Nat) (hr : r < 32) : (t * 4294967296 * 4294967296 + z) / 2 ^ r % 4294967296 = z / 2 ^ r % 4294967296 := by
  have h2 : (4294967296 : Nat) = 2 ^ r * 2 ^ (32 - r) := by rw [← Nat.pow_add, show r + (32 - r) = 32 from by omega]
  have e : t * 4294967296 = 2 ^ r * (2 ^ (32 - r) * t) := by
    rw [Nat.mul_comm t, ← Nat.mul_assoc, ← h2]
  rw [e, Nat.mul_assoc (2 ^ r), Nat.add_comm, Nat.add_mul_div_left _ _ (Nat.two_pow_pos r), Nat.add_mul_mod_self_right]

/-- A limb of a number that is shifted down. -/
theorem dg_down (N i r : Nat) (hr : r < 32) : (dg N (i + 1) * 4294967296 + dg N i) / 2 ^ r % 4294967296 = dg (N / 2 ^ r) i := by
  have hd1 : N / 4294967296 ^ i = N / 4294967296 ^ (i + 1 + 1) * 4294967296 * 4294967296 + (dg N (i + 1) * 4294967296 + dg N i) := by
    rw [div_succ N i, div_succ N (i + 1), Nat.add_mul, Nat.add_assoc]
  have e : dg (N / 2 ^ r) i = N / 4294967296 ^ i / 2 ^ r % 4294967296 := by
    unfold dg
    rw [Nat.div_div_eq_div_mul, Nat.mul_comm, ← Nat.div_div_eq_div_mul]
  rw [e, hd1, down_two _ _ r hr]

theorem or_hi_w (r d : Nat) (hr : r < 4294967296) (hd : d < 4294967296) :
    bits BinOp.or IntKind.u64 (IntKind.u64.wrap ((r : Int) * 4294967296)) (d : Int) = ((r * 4294967296 + d : Nat) : Int) := by
  rw [show IntKind.u64.wrap ((r : Int) * 4294967296) = (r : Int) * 4294967296 from by rw [IntKind.wrap_u64]; omega]
  exact or_hi r d hr hd

theorem down_lt {N k r : Nat} (h : N < 4294967296 ^ k) : N / 2 ^ r < 4294967296 ^ k := Nat.lt_of_le_of_lt (Nat.div_le_self _ _) h

theorem shift_split (N n : Nat) : N / 4294967296 ^ (n / 32) / 2 ^ (n % 32) = N / 2 ^ n := by
  rw [show (4294967296 : Nat) = 2 ^ 32 from by decide, ← Nat.pow_mul, Nat.div_div_eq_div_mul, ← Nat.pow_add, show 32 * (n / 32) + n % 32 = n from by omega]

set_option maxRecDepth 100000 in
set_option maxHeartbeats 2000000 in
theorem shiftDown_any {S : Nat → Prop} (v : Value) (k N n : Nat) (w : World) (h : RowX S w v k N) (hn : n < 32 * k) :
    Calls Tryd.prog 77 #[v, .int .i64 n] w fun e w' => ∃ r, e = .returned r ∧ ∃ m, RowX (w.heap.size ≤ ·) w' r m (N / 2 ^ n) ∧ Nrm m (N / 2 ^ n) ∧ m ≤ k - n / 32 ∧ Below w.heap.size w w' := by
  obtain ⟨i5, hi5⟩ := info32
  have Hi := hide hi5
  clear hi5
  obtain ⟨hN, hk, ad, cap, rfl, hc, hcell⟩ := Row.old h.row
  obtain ⟨g, o, rfl, hg, hj⟩ := hcell (by omega)
  obtain ⟨q, hq, hq'⟩ : ∃ q : Nat, q = n / 32 ∧ (n : Int).tdiv 32 = (q : Int) := ⟨n / 32, rfl, rfl⟩
  obtain ⟨rr, hrr, hrr'⟩ : ∃ r : Nat, r = n % 32 ∧ (n : Int).tmod 32 = (r : Int) := ⟨n % 32, rfl, rfl⟩
  have hq2 : (n : Int) / 32 = (q : Int) := by omega
  have hrr2 : (n : Int) % 32 = (rr : Int) := by omega
  have hqk : q < k := by omega
  obtain ⟨K, hK, hK'⟩ : ∃ K : Nat, K = k - q ∧ (k : Int) - (q : Int) = (K : Int) := ⟨k - q, rfl, by omega⟩
  have hkept : RowX (· < w.heap.size) w (.slice (some ⟨g, o + q, none⟩) K K) K (N / 4294967296 ^ q) := by
    refine ⟨div_lt_pow (by rw [hK, show q + (k - q) = k from by omega]; exact hN), by omega, _, K, rfl, Nat.le_refl _, fun _ => ⟨g, o + q, rfl, hg, fun j hjk => ?_⟩⟩
    rw [← dg_shift, Nat.add_assoc]
    exact hj (q + j) (by omega)
  have hb1 : Below w.heap.size w (w.alloc (.cells (madeCells #[Value.int .u32 0] K) 85)) := (Below.refl _ _).alloc (Nat.le_refl _) _
  have HF : Hid (Wk (w.alloc (.cells (madeCells #[Value.int .u32 0] K) 85)) w.heap.size 0 K 0 ∧ Below w.heap.size w (w.alloc (.cells (madeCells #[Value.int .u32 0] K) 85)) ∧ N / 4294967296 ^ q / 2 ^ rr = N / 2 ^ n ∧ K = k - n / 32) :=
    ⟨wk_of_block (pw_pos _) (make_block w K), hb1, by rw [hq, hrr]; exact shift_split N n, by rw [hK, hq]⟩
  have HKp := hide hkept
  have hrl : rr < 32 := by omega
  have hrl' : (rr : Int) < 32 := by omega
  have hKb : K ≤ 70368744177664 := by omega
  have hsub : k - q = K := hK.symm
  have hqk' : (q : Int) ≤ (k : Int) := by omega
  have hkc : (k : Int) ≤ (cap : Int) := by omega
  have hne : ¬ k = q := by omega
  have hK0 : 0 < K := by omega
  clear hcell hj hN h hkept hb1 hq hrr hK
  generalize N / 4294967296 ^ q = M at *
  go_enter Tryd.func77, Tryd.ntmps77
  go_wp2_with (at_make; refine wpList_make_row _ rfl _ _ _ rfl 85 i5 (.int .u32 0) Tryd.underlying63 Hi.out.1 Hi.out.2.1 Hi.out.2.2.1 rfl .i64 .i64 K rfl rfl (by rw [Hi.out.2.2.2]; omega) (by omega) ?_)
  generalize w.alloc (.cells (madeCells #[Value.int .u32 0] K) 85) = wa at *
  go_loopw [22] (fun t22 wr => ∃ i : Nat, i ≤ K ∧ t22 = .int .i64 i ∧ Hid (Mid wr w.heap.size 0 K i 0 (M / 2 ^ rr) ∧ Below w.heap.size w wr)) (fun t22 _ => K - (intOf t22).toNat)
  case atStart => exact ⟨0, by omega, rfl, HF.out.1.mid _, HF.out.2.1⟩
  case round =>
    obtain ⟨i, hi, rfl, HM⟩ := hrel
    by_cases hlt : i < K
    · have hlt' : (i : Int) < (K : Int) := by omega
      have HR := hide (HKp.out.belowB HM.out.2)
      obtain ⟨_, _, ad3, cap3, hv3, _, hcell3⟩ := HR.out
      obtain ⟨g3, o3, ha3, _, hj3⟩ := hcell3 hK0
      simp only [Value.slice.injEq] at hv3
      rw [← hv3.1, Option.some.injEq, Addr.mk.injEq] at ha3
      obtain ⟨rfl, rfl, _⟩ := ha3
      have hx := hj3 i hlt
      have hy := HM.out.1.hi i (Nat.le_refl _) hlt
      have hf := HM.out.1.free i hlt
      rw [Nat.zero_add] at hy hf
      have hxl := dg_lt M i
      have hyl := dg_lt M (i + 1)
      have Hs := hide (dg_down M i rr hrl)
      have hcast : ((i : Int) + 1) = ((i + 1 : Nat) : Int) := by omega
      have HL : Hid (∀ n, Calls Tryd.prog 78 #[.slice (some ⟨g, o + q, none⟩) K K, .int .i64 (i + 1)] (wr.drewN n) fun e w' => e = .returned (.int .u64 (dg M (i + 1) : Nat)) ∧ w' = wr.drewN n) := fun n => by
        rw [hcast]; exact limbAt_any _ K M (i + 1) _ (HR.out.drewN n) (by omega)
      clear hj3 hcell3 hv3 hcast
      generalize dg M i = x at *
      generalize dg M (i + 1) = y at *
      have ho1 := or_hi y x hyl hxl
      have ho2 := or_hi_w y x hyl hxl
      obtain ⟨z, hz⟩ : ∃ z, z = y * 4294967296 + x := ⟨_, rfl⟩
      have hzl : z < 18446744073709551616 := by omega
      rw [← hz] at ho1 ho2 Hs
      clear hz
      go_wp2_with fail
      go_quiet ((go_at_call 78; exact Calls.quiet_of_same (HL.out _)))
      go_wp2_with fail
      go_roundw
      case rel =>
        refine ⟨i + 1, by omega, by go_num, ?_⟩
        have hst := (HM.out.1.drewN nq).step hlt ((z : Int) / 2 ^ rr % 4294967296) (by rw [← Hs.out]; simp)
        rw [Nat.zero_add] at hst
        exact ⟨hst, (below_drewN HM.out.2 nq).setCell (Nat.le_refl _) _⟩
      case measure => simp [intOf]; omega
    · obtain rfl : i = K := by omega
      have HW : Hid (RowX (w.heap.size ≤ ·) wr (.slice (some ⟨w.heap.size, 0, none⟩) i i) i (N / 2 ^ n) ∧ Below w.heap.size w wr) := by
        have h1 := HM.out.1.wk (down_lt HKp.out.1)
        rw [HF.out.2.2.1] at h1
        exact ⟨h1.row hKb (Nat.le_refl _) (Nat.le_refl _) _ (fun _ => rfl), HM.out.2⟩
      go_wp2_with fail
      refine (trim_any _ i (N / 2 ^ n) wr HW.out.1).mono ?_
      rintro e w3 ⟨r, rfl, m, hrow, hnrm, hnk, rfl⟩
      have HZ := hide (And.intro hrow (And.intro hnrm hnk))
      clear hrow hnrm hnk
      go_wp2_with fail
      go_ret
      exact ⟨r, rfl, m, HZ.out.1, HZ.out.2.1, by have := HZ.out.2.2; have := HF.out.2.2.2; omega, HW.out.2⟩

theorem Wk.lift {w w' : World} {g q m X : Nat} (h : Wk w g 0 (q + m) 0) (ho : Only g q (q + m) w w') (h' : Wk w' g q m X) : Wk w' g 0 (q + m) (X * 4294967296 ^ q) := by
  refine ⟨?_, fun j hj => ?_, fun j hj => by rw [ho.frozen]; exact h.free j hj⟩
  · rw [Nat.add_comm q m, Nat.pow_add]; exact Nat.mul_lt_mul_of_pos_right h'.lt (pw_pos q)
  · rw [Nat.zero_add]
    rcases Nat.lt_or_ge j q with h1 | h1
    · rw [ho.cell j (.inl h1)]
      have e : dg (X * 4294967296 ^ q) j = 0 := by
        have := dg_low (a := 0) (k := q) (b := X) h1
        rw [Nat.zero_add, dg_zero, Nat.mul_comm] at this; exact this
      rw [e]
      have := h.cell j hj
      rw [Nat.zero_add, dg_zero] at this; exact this
    · obtain ⟨t, rfl⟩ : ∃ t, j = q + t := ⟨j - q, by omega⟩
      rw [dg_shift, Nat.mul_div_cancel _ (pw_pos q)]
      exact h'.cell t (by omega)

theorem up_split (N n : Nat) : N * 2 ^ (n % 32) * 4294967296 ^ (n / 32) = N * 2 ^ n := by
  rw [show (4294967296 : Nat) = 2 ^ 32 from by decide, ← Nat.pow_mul, Nat.mul_assoc, ← Nat.pow_add, show n % 32 + 32 * (n / 32) = n from by omega]

theorem up_lt {N k r : Nat} (h : N < 4294967296 ^ k) (hr : r < 32) : N * 2 ^ r < 4294967296 ^ (k + 1) := by
  rw [pw_succ]
  have h2 : (2 : Nat) ^ r ≤ 2 ^ 32 := Nat.pow_le_pow_right (by omega) (by omega)
  have h3 : N * 2 ^ r ≤ N * 2 ^ 32 := Nat.mul_le_mul_left _ h2
  have h4 : N * 2 ^ 32 < 4294967296 ^ k * 2 ^ 32 := Nat.mul_lt_mul_of_pos_right h (by decide)
  omega

set_option maxRecDepth 100000 in
set_option maxHeartbeats 2000000 in
theorem shiftUp_any {S : Nat → Prop} (v : Value) (k N n : Nat) (w : World) (h : RowX S w v k N) (hn : n / 32 + k + 1 ≤ 70368744177664) :
    Calls Tryd.prog 70 #[v, .int .i64 n] w fun e w' => ∃ r, e = .returned r ∧ ∃ m, RowX (w.heap.size ≤ ·) w' r m (N * 2 ^ n) ∧ Nrm m (N * 2 ^ n) ∧ m ≤ n / 32 + k + 1 ∧ Below w.heap.size w w' := by
  obtain ⟨i5, hi5⟩ := info32
  have Hi := hide hi5
  clear hi5
  obtain ⟨q, hq, hq'⟩ : ∃ q : Nat, q = n / 32 ∧ (n : Int).tdiv 32 = (q : Int) := ⟨n / 32, rfl, rfl⟩
  obtain ⟨rr, hrr, hrr'⟩ : ∃ r : Nat, r = n % 32 ∧ (n : Int).tmod 32 = (r : Int) := ⟨n % 32, rfl, rfl⟩
  have hq2 : (n : Int) / 32 = (q : Int) := by omega
  have hrr2 : (n : Int) % 32 = (rr : Int) := by omega
  obtain ⟨k1, hk1, hk1'⟩ : ∃ k1 : Nat, k1 = q + k ∧ (q : Int) + (k : Int) = (k1 : Int) := ⟨q + k, rfl, by omega⟩
  obtain ⟨K, hK, hK'⟩ : ∃ K : Nat, K = q + (k + 1) ∧ (k1 : Int) + 1 = (K : Int) := ⟨q + (k + 1), rfl, by omega⟩
  have hKb : K ≤ 70368744177664 := by omega
  have HF : Hid (Wk (w.alloc (.cells (madeCells #[Value.int .u32 0] K) 85)) w.heap.size 0 K 0 ∧ Below w.heap.size w (w.alloc (.cells (madeCells #[Value.int .u32 0] K) 85)) ∧ RowX (· ≠ w.heap.size) (w.alloc (.cells (madeCells #[Value.int .u32 0] K) 85)) v k N ∧ N < 4294967296 ^ k) :=
    ⟨wk_of_block (pw_pos _) (make_block w K), (Below.refl _ _).alloc (Nat.le_refl _) _, (RowX.belowB (Row.old h.row) ((Below.refl _ _).alloc (Nat.le_refl _) _)).mono (fun g _ hg => Nat.ne_of_lt hg), h.1⟩
  have HE : Hid (N * 2 ^ rr * 4294967296 ^ q = N * 2 ^ n) := by show _ = _; rw [hq, hrr]; exact up_split N n
  obtain ⟨_, hk, ad, cap, rfl, hc, _⟩ := h
  have hrl : rr < 32 := by omega
  have hsub : K - q = k + 1 := by omega
  have hqK : (q : Int) ≤ (K : Int) := by omega
  have hne : ¬ K = q := by omega
  have hqn : q ≤ K := by omega
  have HK := hide (And.intro hK hq)
  clear hq hrr hk1 hK
  go_enter Tryd.func70, Tryd.ntmps70
  go_wp2_with (at_make; refine wpList_make_row _ rfl _ _ _ rfl 85 i5 (.int .u32 0) Tryd.underlying63 Hi.out.1 Hi.out.2.1 Hi.out.2.2.1 rfl .i64 .i64 K rfl rfl (by rw [Hi.out.2.2.2]; omega) (by omega) ?_)
  have hwsz : w.heap.size < (w.alloc (.cells (madeCells #[Value.int .u32 0] K) 85)).heap.size := by simp
  generalize w.alloc (.cells (madeCells #[Value.int .u32 0] K) 85) = wa at *
  have HW1 : Hid (Wk wa w.heap.size q (k + 1) (0 / 4294967296 ^ q % 4294967296 ^ (k + 1))) := by
    have := HF.out.1.sub q (k + 1) (by have := HK.out.1; omega)
    rwa [Nat.zero_add] at this
  refine (shiftInto_any _ w.heap.size q (k + 1) (k + 1) _ _ k N rr wa HW1.out (by omega) (Nat.le_refl _) (fun _ => rfl) HF.out.2.2.1 hrl).mono ?_
  rintro e w2 ⟨rfl, hW2, hO2⟩
  have HZ : Hid (RowX (w.heap.size ≤ ·) w2 (.slice (some ⟨w.heap.size, 0, none⟩) K K) K (N * 2 ^ n) ∧ Below w.heap.size w w2) := by
    rw [mod_self (up_lt HF.out.2.2.2 hrl)] at hW2
    have h0 := HF.out.1
    rw [HK.out.1] at h0
    have h1 := Wk.lift h0 (hO2.wider (Nat.le_refl _) (by omega)) hW2
    rw [HE.out, ← HK.out.1] at h1
    exact ⟨h1.row hKb (Nat.le_refl _) (Nat.le_refl _) _ (fun _ => rfl), HF.out.2.1.trans (hO2.below (Nat.le_refl _) (by omega))⟩
  clear hW2 hO2
  go_wp2_with fail
  refine (trim_any _ K (N * 2 ^ n) w2 HZ.out.1).mono ?_
  rintro e w3 ⟨r, rfl, m, hrow, hnrm, hnk, rfl⟩
  have HY := hide (And.intro hrow (And.intro hnrm hnk))
  clear hrow hnrm hnk
  go_wp2_with fail
  go_ret
  exact ⟨r, rfl, m, HY.out.1, HY.out.2.1, by have := HY.out.2.2; have := HK.out; omega, HZ.out.2⟩

end Go.Proofs.YtleeahigceppiaaDoor

namespace Go.Proofs.YtleeahigceppiaaDoor
open Go.RowKit
open M
set_option linter.unusedVariables false
set_option linter.unusedSimpArgs false

/-- What DivMod tells. -/
def Divided (w : World) (base : Nat) (q r : Value) (A C : Nat) : Prop :=
  ∃ mid n1 n2, base ≤ mid ∧ Own w base q n1 (A / C) ∧ Nrm n1 (A / C) ∧ RowX (· < mid) w q n1 (A / C) ∧ Own w mid r n2 (A % C) ∧ Nrm n2 (A % C)

set_option maxRecDepth 100000 in
set_option maxHeartbeats 400000 in
theorem DivMod_of {v u : Value} {A C k m : Nat} {w : World} (h1 : Row w v k A) (h2 : Nrm k A) (h3 : k ≤ 8192) (g1 : Row w u m C) (g2 : Nrm m C) (g3 : m ≤ 8192) (hC : 0 < C)
    (hd : Calls Tryd.prog 62 #[v, u] w fun e w' => ∃ q r, e = .returned (.tuple #[q, r]) ∧ Parts w' q r A C ∧ Below w.heap.size w w') :
    Calls Tryd.prog 54 #[v, u] w fun e w' => ∃ q r, e = .returned (.tuple #[q, r, .int .i64 0]) ∧ Divided w' w.heap.size q r A C ∧ Below w.heap.size w w' := by
  have HC := hide (checkBoth_ok v u k A m C w h1 g1 h2 g2 h3 g3)
  have HD := hide hd
  have hm0 : ((m : Int) == 0) = false := by
    rw [beq_eq_false_iff_ne]
    intro e
    have := g2.zero_iff.1 (by omega)
    omega
  obtain ⟨_, _, ad', cap', rfl, _, _⟩ := g1
  clear h1 h2 g2 hd
  go_enter Tryd.func54, Tryd.ntmps54
  go_wp2_with fail
  refine HC.out.mono ?_
  rintro e w1 ⟨rfl, rfl⟩
  go_wp2_with fail
  refine HD.out.mono ?_
  rintro e w2 ⟨q, r, rfl, ⟨⟨n1, hq, hq'⟩, n2, hr, hr'⟩, hb2⟩
  have H2 := hide (And.intro (And.intro hq hr) (And.intro (And.intro hq' hr') hb2))
  clear hq hq' hr hr' hb2
  go_wp2_with fail
  refine (fresh_any q n1 (A / C) w2 H2.out.1.1).mono ?_
  rintro e w3 ⟨q3, rfl, ho3, hb3⟩
  have H3 := hide (And.intro ho3 hb3)
  clear ho3 hb3
  go_wp2_with fail
  refine (fresh_any r n2 (A % C) w3 (H2.out.1.2.below H3.out.2)).mono ?_
  rintro e w4 ⟨r4, rfl, ho4, hb4⟩
  have H4 : Hid (Divided w4 w1.heap.size q3 r4 A C ∧ Below w1.heap.size w1 w4) := by
    have hs2 := H2.out.2.2.size
    have hs3 := H3.out.2.size
    exact ⟨⟨w3.heap.size, n1, n2, by omega, (H3.out.1.below hb4).mono hs2, H2.out.2.1.1, RowX.below (Row.old H3.out.1.row) hb4, ho4, H2.out.2.1.2⟩, H2.out.2.2.trans ((H3.out.2.mono hs2).trans (hb4.mono (by omega)))⟩
  clear ho4 hb4
  go_wp2_with fail
  go_ret3
  exact ⟨_, _, rfl, H4.out⟩

end Go.Proofs.YtleeahigceppiaaDoor
