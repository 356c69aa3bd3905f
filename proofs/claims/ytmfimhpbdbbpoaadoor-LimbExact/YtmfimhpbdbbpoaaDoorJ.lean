/- From, shrink. -/
import Derived.Test.YtmfimhpbdbbpoaaDoorH
/- Add, Sub, Mul, Cmp. -/
namespace Go.Proofs.YtmfimhpbdbbpoaaDoor
open Go.RowKit
open M
set_option linter.unusedVariables false
set_option linter.unusedSimpArgs false

theorem compare_below {S S' : Nat → Prop} (v u : Value) (k A m C : Nat) (w : World) (h : RowX S w v k A) (h' : RowX S' w u m C) (hn : Nrm k A) (hn' : Nrm m C) :
    Calls Tryd.prog 69 #[v, u] w fun e w' => e = .returned (.int .i64 (cmpI A C)) ∧ Below w.heap.size w w' :=
  (compare_any v u k A m C w h h' hn hn').mono fun e w' ⟨h1, n, h2⟩ => ⟨h1, by rw [h2]; exact below_drewN (Below.refl _ _) n⟩

set_option maxRecDepth 100000 in
set_option maxHeartbeats 400000 in
theorem Add_ok {v u : Value} {A C : Nat} {w : World} (h : Num w v A) (h' : Num w u C) :
    Calls Tryd.prog 27 #[v, u] w fun e w' => ∃ r c, e = .returned (.tuple #[r, .int .i64 c]) ∧ Told w' w.heap.size r c (A + C) ∧ Below w.heap.size w w' := by
  obtain ⟨k, h1, h2, h3⟩ := h
  obtain ⟨m, g1, g2, g3⟩ := h'
  have H := hide (And.intro h1 g1)
  have HN := hide (And.intro h2 g2)
  clear h1 h2 g1 g2
  go_enter Tryd.func27, Tryd.ntmps27
  go_wp2_with fail
  refine (checkBoth_ok v u k A m C w H.out.1 H.out.2 HN.out.1 HN.out.2 h3 g3).mono ?_
  rintro e w1 ⟨rfl, rfl⟩
  go_wp2_with fail
  refine (sum_any v u k A m C _ H.out.1 H.out.2 (by omega) (by omega)).mono ?_
  rintro e w2 ⟨r, rfl, n, hrow, hnrm, hnk, hb⟩
  have HR := hide (And.intro hrow hb)
  clear hrow hb hnrm
  go_wp2_with fail
  refine (tell_any r n (A + C) w2 HR.out.1).mono ?_
  rintro e w3 ⟨r3, c3, rfl, ht, hb3⟩
  have HT := hide (And.intro ht hb3)
  clear ht hb3
  go_wp2_with fail
  go_ret2
  exact ⟨r3, c3, rfl, HT.out.1.mono HR.out.2.size, HR.out.2.trans (HT.out.2.mono HR.out.2.size)⟩

set_option maxRecDepth 100000 in
set_option maxHeartbeats 400000 in
theorem Sub_ok {v u : Value} {A C : Nat} {w : World} (h : Num w v A) (h' : Num w u C) (hle : C ≤ A) :
    Calls Tryd.prog 29 #[v, u] w fun e w' => ∃ r c, e = .returned (.tuple #[r, .int .i64 c]) ∧ Told w' w.heap.size r c (A - C) ∧ Below w.heap.size w w' := by
  obtain ⟨k, h1, h2, h3⟩ := h
  obtain ⟨m, g1, g2, g3⟩ := h'
  have H := hide (And.intro h1 g1)
  have HN := hide (And.intro h2 g2)
  have hcmp : ¬ cmpI A C < 0 := by rw [cmpI_neg]; omega
  clear h1 h2 g1 g2
  go_enter Tryd.func29, Tryd.ntmps29
  go_wp2_with fail
  refine (checkBoth_ok v u k A m C w H.out.1 H.out.2 HN.out.1 HN.out.2 h3 g3).mono ?_
  rintro e w1 ⟨rfl, rfl⟩
  go_wp2_with fail
  refine (compare_below v u k A m C _ H.out.1 H.out.2 HN.out.1 HN.out.2).mono ?_
  rintro e w2 ⟨rfl, hb2⟩
  have HB2 := hide hb2
  clear hb2
  generalize cmpI A C = cc at *
  go_wp2_with fail
  refine (difference_any v u k A m C _ (H.out.1.below HB2.out) (H.out.2.below HB2.out) hle).mono ?_
  rintro e w3 ⟨r, rfl, n, hrow, hnrm, hnk, hb⟩
  have HR := hide (And.intro hrow (HB2.out.trans (hb.mono HB2.out.size)))
  clear hrow hb hnrm
  go_wp2_with fail
  refine (tell_any r n (A - C) w3 HR.out.1).mono ?_
  rintro e w4 ⟨r4, c4, rfl, ht, hb4⟩
  have HT := hide (And.intro ht hb4)
  clear ht hb4
  go_wp2_with fail
  go_ret2
  exact ⟨r4, c4, rfl, HT.out.1.mono HR.out.2.size, HR.out.2.trans (HT.out.2.mono HR.out.2.size)⟩

set_option maxRecDepth 100000 in
set_option maxHeartbeats 400000 in
theorem Sub_less {v u : Value} {A C : Nat} {w : World} (h : Num w v A) (h' : Num w u C) (hlt : A < C) :
    Calls Tryd.prog 29 #[v, u] w fun e w' => e = .returned (.tuple #[.slice none 0 0, .int .i64 22]) ∧ Below w.heap.size w w' := by
  obtain ⟨k, h1, h2, h3⟩ := h
  obtain ⟨m, g1, g2, g3⟩ := h'
  have H := hide (And.intro h1 g1)
  have HN := hide (And.intro h2 g2)
  have hcmp : cmpI A C < 0 := cmpI_neg.2 hlt
  clear h1 h2 g1 g2
  go_enter Tryd.func29, Tryd.ntmps29
  go_wp2_with fail
  refine (checkBoth_ok v u k A m C w H.out.1 H.out.2 HN.out.1 HN.out.2 h3 g3).mono ?_
  rintro e w1 ⟨rfl, rfl⟩
  go_wp2_with fail
  refine (compare_below v u k A m C _ H.out.1 H.out.2 HN.out.1 HN.out.2).mono ?_
  rintro e w2 ⟨rfl, hb2⟩
  have HB2 := hide hb2
  clear hb2
  generalize cmpI A C = cc at *
  go_wp2_with fail
  go_ret2
  exact ⟨rfl, HB2.out⟩

/-- What is too long for sure. -/
theorem prod_long {k m A C : Nat} (h : Nrm k A) (h' : Nrm m C) (hl : 8192 < k + m - 1) (hm : m ≤ 8192) (hk : k ≤ 8192) : ¬ Fits (A * C) := by
  rintro ⟨t, ht, hlt⟩
  have h1 : 4294967296 ^ (k - 1) ≤ A := by
    rcases h.2 with h0 | h0
    · omega
    · exact h0
  have h2 : 4294967296 ^ (m - 1) ≤ C := by
    rcases h'.2 with h0 | h0
    · omega
    · exact h0
  have h3 : 4294967296 ^ (k - 1) * 4294967296 ^ (m - 1) ≤ A * C := Nat.mul_le_mul h1 h2
  rw [← Nat.pow_add] at h3
  have h4 := Nat.pow_le_pow_right (n := 4294967296) (by omega) (show t ≤ k - 1 + (m - 1) from by omega)
  omega

set_option maxRecDepth 100000 in
set_option maxHeartbeats 400000 in
theorem Mul_ok {v u : Value} {A C : Nat} {w : World} (h : Num w v A) (h' : Num w u C) :
    Calls Tryd.prog 33 #[v, u] w fun e w' => ∃ r c, e = .returned (.tuple #[r, .int .i64 c]) ∧ Told w' w.heap.size r c (A * C) ∧ Below w.heap.size w w' := by
  obtain ⟨k, h1, h2, h3⟩ := h
  obtain ⟨m, g1, g2, g3⟩ := h'
  have H := hide (And.intro h1 g1)
  have HN := hide (And.intro h2 g2)
  have HC := hide (checkBoth_ok v u k A m C w h1 g1 h2 g2 h3 g3)
  obtain ⟨_, _, ad, cap, rfl, _, _⟩ := h1
  obtain ⟨_, _, ad', cap', rfl, _, _⟩ := g1
  clear h2 g2
  by_cases hl : 8192 < k + m - 1
  · have hl' : (8192 : Int) < (k : Int) + (m : Int) - 1 := by omega
    have HL := hide (prod_long HN.out.1 HN.out.2 hl g3 h3)
    go_enter Tryd.func33, Tryd.ntmps33
    go_wp2_with fail
    refine HC.out.mono ?_
    rintro e w1 ⟨rfl, rfl⟩
    go_wp2_with fail
    go_ret2
    exact ⟨_, _, rfl, .inr ⟨HL.out, rfl, rfl⟩, Below.refl _ _⟩
  · have hl' : ¬ (8192 : Int) < (k : Int) + (m : Int) - 1 := by omega
    go_enter Tryd.func33, Tryd.ntmps33
    go_wp2_with fail
    refine HC.out.mono ?_
    rintro e w1 ⟨rfl, rfl⟩
    go_wp2_with fail
    refine (product_any _ _ k A m C _ H.out.1 H.out.2 (by omega)).mono ?_
    rintro e w2 ⟨r, rfl, n, hrow, hnrm, hnk, hb⟩
    have HR := hide (And.intro hrow hb)
    clear hrow hb hnrm
    go_wp2_with fail
    refine (tell_any r n (A * C) w2 HR.out.1).mono ?_
    rintro e w3 ⟨r3, c3, rfl, ht, hb3⟩
    have HT := hide (And.intro ht hb3)
    clear ht hb3
    go_wp2_with fail
    go_ret2
    exact ⟨r3, c3, rfl, HT.out.1.mono HR.out.2.size, HR.out.2.trans (HT.out.2.mono HR.out.2.size)⟩

set_option maxHeartbeats 400000 in
theorem Cmp_ok {v u : Value} {A C : Nat} {w : World} (h : Num w v A) (h' : Num w u C) :
    Calls Tryd.prog 31 #[v, u] w fun e w' => e = .returned (.int .i64 (cmpI A C)) ∧ ∃ n, w' = w.drewN n := by
  obtain ⟨k, h1, h2, h3⟩ := h
  obtain ⟨m, g1, g2, g3⟩ := h'
  have H := hide (And.intro h1 g1)
  have HN := hide (And.intro h2 g2)
  clear h1 h2 g1 g2
  go_enter Tryd.func31, Tryd.ntmps31
  go_wp2_with fail
  refine (checkBoth_ok v u k A m C w H.out.1 H.out.2 HN.out.1 HN.out.2 h3 g3).mono ?_
  rintro e w1 ⟨rfl, rfl⟩
  go_wp2_with fail
  refine (compare_any v u k A m C _ H.out.1 H.out.2 HN.out.1 HN.out.2).mono ?_
  rintro e w2 ⟨rfl, n, rfl⟩
  go_wp2_with fail
  go_ret
  exact ⟨rfl, n, rfl⟩

end Go.Proofs.YtmfimhpbdbbpoaaDoor

namespace Go.Proofs.YtmfimhpbdbbpoaaDoor
open Go.RowKit
open M
set_option linter.unusedVariables false
set_option linter.unusedSimpArgs false

theorem Own.wk {w : World} {base : Nat} {v : Value} {k N : Nat} (h : Own w base v k N) : ∃ ad g cap, v = .slice ad k cap ∧ k ≤ cap ∧ base ≤ g ∧ (0 < k → ad = some ⟨g, 0, none⟩ ∧ g < w.heap.size) ∧ Wk w g 0 k N := by
  obtain ⟨h1, h2, h3, h4⟩ := id h
  rcases h4 with ⟨rfl, rfl⟩ | ⟨g, cap, cur, rfl, hb, hg, hc, hm, hs, ht⟩
  · exact ⟨none, base, 0, rfl, Nat.le_refl _, Nat.le_refl _, fun h => by omega, ⟨h1, fun j hj => by omega, fun j hj => by omega⟩⟩
  · have hx := h.rowX
    refine ⟨_, g, cap, rfl, hc, hb, fun _ => ⟨rfl, ?_⟩, h1, fun j hj => ?_, fun j hj => frozen_of_row w g _ _ _ hg⟩
    · rcases Nat.lt_or_ge g w.heap.size with h1 | h1
      · exact h1
      · rw [Array.getElem?_eq_none h1] at hg; cases hg
    · obtain ⟨_, _, ad', cap', hv, _, hcell⟩ := hx
      simp only [Value.slice.injEq] at hv
      obtain ⟨g', o', ha, _, hj'⟩ := hcell (by omega)
      rw [← hv.1, Option.some.injEq] at ha
      simp only [Addr.mk.injEq] at ha
      obtain ⟨rfl, rfl, _⟩ := ha
      exact hj' j hj

theorem or_hi (r d : Nat) (hr : r < 4294967296) (hd : d < 4294967296) :
    bits BinOp.or IntKind.u64 ((r : Int) * 4294967296) (d : Int) = ((r * 4294967296 + d : Nat) : Int) := by
  have e : ((r : Int) * 4294967296) = ((r * 4294967296 : Nat) : Int) := by simp
  have hm : r * 4294967296 % 2 ^ 32 = 0 := Nat.mul_mod_left _ _
  rw [e]
  generalize hz : r * 4294967296 = z at *
  have hzl : z ≤ 18446744069414584320 := by omega
  rw [u64_or _ _ (by omega) (by omega) (by omega) (by omega)]
  simp only [Int.toNat_natCast]
  rw [nat_join 32 z d hm hd]

set_option maxRecDepth 100000 in
set_option maxHeartbeats 1000000 in
theorem shrink_any (ad : Option Addr) (g o k cap N b : Nat) (w : World) (hW : Wk w g o k N) (hk : k ≤ 70368744177664) (hcap : k ≤ cap) (had : 0 < k → ad = some ⟨g, o, none⟩) (hb0 : 0 < b) (hb : b < 4294967296) :
    Calls Tryd.prog 87 #[.slice ad k cap, .int .u32 b] w fun e w' => e = .returned (.int .u32 (N % b : Nat)) ∧ Wk w' g o k (N / b) ∧ Only g o (o + k) w w' := by
  have HW := hide hW
  have Had := hide had
  clear hW had
  have hbz : ((b : Int) == 0) = false := by rw [beq_eq_false_iff_ne]; omega
  have hbz' : ¬ (b : Int) = 0 := by omega
  go_enter Tryd.func87, Tryd.ntmps87
  go_wp2_with fail
  go_loopw [5, 10] (fun t5 t10 wr => ∃ i : Nat, i ≤ k ∧ t5 = .int .u64 (N / 4294967296 ^ (k - i) % b : Nat) ∧ t10 = .int .i64 i ∧ Hid (Dim wr g o k (k - i) N (N / b) ∧ Only g o (o + k) w wr)) (fun _ t10 _ => k - (intOf t10).toNat)
  case atStart => exact ⟨0, by omega, by rw [Nat.sub_zero, Nat.div_eq_of_lt HW.out.lt, Nat.zero_mod]; rfl, rfl, HW.out.dim _, Only.refl _ _ _ _⟩
  case round =>
    obtain ⟨i, hi, rfl, rfl, HM⟩ := hrel
    by_cases hlt : i < k
    · have hlt' : (i : Int) < (k : Int) := by omega
      obtain rfl := Had.out (by omega)
      obtain ⟨j, hj, hj'⟩ : ∃ j : Nat, k - i = j + 1 ∧ (k : Int) - 1 - (i : Int) = (j : Int) := ⟨k - 1 - i, by omega, by omega⟩
      have hjk : j < k := by omega
      have hjk' : (j : Int) < (k : Int) := by omega
      have HM2 : Hid (Dim wr g o k (j + 1) N (N / b) ∧ Only g o (o + k) w wr) := by have := HM.out; rw [hj] at this; exact this
      have hx := HM2.out.1.lo j (by omega)
      have hf := HM2.out.1.free j hjk
      have Hs := hide (shrink_step N b j hb0 hb)
      have hrl : N / 4294967296 ^ (j + 1) % b < b := Nat.mod_lt _ hb0
      have hdl := dg_lt N j
      rw [hj]
      have Hj := hide hj
      clear hj HM
      generalize N / 4294967296 ^ (j + 1) % b = r at *
      generalize dg N j = d at *
      have hor := or_hi r d (by omega) hdl
      have hroom : r * 4294967296 + d < 18446744073709551616 := by omega
      have Hor : Hid (r * 4294967296 + d < b * 4294967296) := Hs.out.2.2
      have hq : Hid (((r * 4294967296 + d) / b : Nat) < 4294967296) := by show _ < _; rw [Nat.div_lt_iff_lt_mul hb0, Nat.mul_comm 4294967296]; exact Hor.out
      obtain ⟨z, hz⟩ : ∃ z, z = r * 4294967296 + d := ⟨_, rfl⟩
      rw [← hz] at hor hroom Hs hq
      clear hz
      obtain ⟨q, hq1, hq2⟩ : ∃ q : Nat, q = z / b ∧ (z : Int).tdiv (b : Int) = (q : Int) := ⟨z / b, rfl, rfl⟩
      obtain ⟨t, ht1, ht2⟩ : ∃ t : Nat, t = z % b ∧ (z : Int).tmod (b : Int) = (t : Int) := ⟨z % b, rfl, rfl⟩
      have hql : q < 4294967296 := by rw [hq1]; exact hq.out
      rw [← hq1, ← ht1] at Hs
      clear hq hq1 ht1
      go_wp2_with fail
      go_roundw
      case rel =>
        refine ⟨i + 1, by omega, ?_, by go_num, ?_⟩
        · rw [show k - (i + 1) = j from by have := Hj.out; omega, ← Hs.out.2.1]
        · rw [show k - (i + 1) = j from by have := Hj.out; omega]
          exact ⟨HM2.out.1.step hjk _ (by rw [← Hs.out.1]), HM2.out.2.setCell _ (by omega) (by omega) _⟩
      case measure => simp [intOf]; omega
    · obtain rfl : i = k := by omega
      have Hq : Hid (Wk wr g o i (N / b) ∧ Only g o (o + i) w wr) := by
        have := HM.out
        rw [Nat.sub_self] at this
        exact ⟨this.1.wk (Nat.lt_of_le_of_lt (Nat.div_le_self _ _) HW.out.lt), this.2⟩
      have hr : N / 4294967296 ^ (i - i) % b = N % b := by rw [Nat.sub_self, Nat.pow_zero, Nat.div_one]
      have hrl : N % b < b := Nat.mod_lt _ hb0
      rw [hr]
      clear hr HM
      generalize hm : N % b = m at *
      have Hm := hide hm
      clear hm
      go_wp2_with fail
      go_ret
      refine ⟨?_, Hq.out⟩
      rw [Hm.out]
      apply ret_int
      omega

theorem from_row (w : World) (n : Nat) (hn : n < 18446744073709551616) : RowX (fun _ => True) (w.alloc (.cells #[.int .u32 ((n : Int) % 4294967296), .int .u32 ((n : Int) / 4294967296)] 71)) (.slice (some ⟨w.heap.size, 0, none⟩) 2 2) 2 n := by
  refine ⟨by omega, by omega, _, 2, rfl, by omega, fun _ => ⟨w.heap.size, 0, rfl, trivial, fun j hj => ?_⟩⟩
  rw [Nat.zero_add, cell_of_row _ _ _ _ _ _ (heap_alloc_new _ _)]
  have : j = 0 ∨ j = 1 := by omega
  rcases this with rfl | rfl
  · simp [dg]
  · simp [dg]; omega

set_option maxRecDepth 100000 in
set_option maxHeartbeats 400000 in
theorem From_any (n : Nat) (w : World) (hn : n < 18446744073709551616) :
    Calls Tryd.prog 13 #[.int .u64 n] w fun e w' => ∃ r, e = .returned r ∧ ∃ k, Own w' w.heap.size r k n ∧ Nrm k n ∧ k ≤ 2 ∧ Below w.heap.size w w' := by
  have HR := hide (from_row w n hn)
  have hb1 : Hid (Below w.heap.size w (w.alloc (.cells #[.int .u32 ((n : Int) % 4294967296), .int .u32 ((n : Int) / 4294967296)] 71))) := (Below.refl _ _).alloc (Nat.le_refl _) _
  go_enter Tryd.func13, Tryd.ntmps13
  go_wp2_with fail
  refine (trim_any _ 2 n _ (by exact HR.out)).mono ?_
  rintro e w1 ⟨u, rfl, m, hrow, hnrm, hnk, rfl⟩
  have H1 := hide (And.intro hrow hnrm)
  clear hrow hnrm
  go_wp2_with fail
  refine (fresh_any u m n _ H1.out.1).mono ?_
  rintro e w2 ⟨r, rfl, hown, hb⟩
  have H2 := hide (And.intro hown hb)
  clear hown hb
  go_wp2_with fail
  go_ret
  exact ⟨r, rfl, m, H2.out.1.mono hb1.out.size, H1.out.2, hnk, hb1.out.trans (H2.out.2.mono hb1.out.size)⟩

end Go.Proofs.YtmfimhpbdbbpoaaDoor
