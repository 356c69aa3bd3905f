/- Long division: plain mathematics. -/
import Derived.Test.YtolaaemkcmiabaaDoorI
import Derived.Test.YtolaaemkcmiabaaDoorB
/- From, shrink. -/
namespace Go.Proofs.YtolaaemkcmiabaaDoor
open Go.RowKit
open M
set_option linter.unusedVariables false
set_option linter.unusedSimpArgs false

theorem Own.wk {w : World} {base : Nat} {v : Value} {k N : Nat} (h : Own w base v k N) : ∃ ad g cap, v = .slice ad k cap ∧ k ≤ cap ∧ base ≤ g ∧ (0 < k → ad = some ⟨g, 0, none⟩ ∧ g < w.heap.size) ∧ Wk w g 0 k N := by
  obtain ⟨h1, h2, h3, h4⟩ := id h
  rcases h4 with ⟨rfl, rfl⟩ | ⟨g, cap, cur, rfl, hb, hg, hc, hm, hs, ht⟩
  · exact ⟨none, base, 0, rfl, Nat.le_refl _, Nat.le_refl _, fun h => by omega, ⟨h1, fun j hj => by omega, fun j hj => by omega⟩⟩
  · have hx := h.rowX
    refine ⟨_, g, cap, rfl, hc, hb, fun _ => ⟨rfl, ?_⟩, h1, fun j hj => ?_, fun j hj => frozen_of_row w g _ _ _ hg⟩
    · rcases Nat.lt_or_ge g w.heap.size with h1 | h1
      · exact h1
      · rw [Array.getElem?_eq_none h1] at hg; cases hg
    · obtain ⟨_, _, ad', cap', hv, _, hcell⟩ := hx
      simp only [Value.slice.injEq] at hv
      obtain ⟨g', o', ha, _, hj'⟩ := hcell (by omega)
      rw [← hv.1, Option.some.injEq] at ha
      simp only [Addr.mk.injEq] at ha
      obtain ⟨rfl, rfl, _⟩ := ha
      exact hj' j hj

theorem or_hi (r d : Nat) (hr : r < 4294967296) (hd : d < 4294967296) :
    bits BinOp.or IntKind.u64 ((r : Int) * 4294967296) (d : Int) = ((r * 4294967296 + d : Nat) : Int) := by
  have e : ((r : Int) * 4294967296) = ((r * 4294967296 : Nat) : Int) := by simp
  have hm : r * 4294967296 % 2 ^ 32 = 0 := Nat.mul_mod_left _ _
  rw [e]
  generalize hz : r * 4294967296 = z at *
  have hzl : z ≤ 18446744069414584320 := by omega
  rw [u64_or _ _ (by omega) (by omega) (by omega) (by omega)]
  simp only [Int.toNat_natCast]
  rw [nat_join 32 z d hm hd]

set_option maxRecDepth 100000 in
set_option maxHeartbeats 1000000 in
theorem shrink_any (ad : Option Addr) (g o k cap N b : Nat) (w : World) (hW : Wk w g o k N) (hk : k ≤ 70368744177664) (hcap : k ≤ cap) (had : 0 < k → ad = some ⟨g, o, none⟩) (hb0 : 0 < b) (hb : b < 4294967296) :
    Calls Tryd.prog 94 #[.slice ad k cap, .int .u32 b] w fun e w' => e = .returned (.int .u32 (N % b : Nat)) ∧ Wk w' g o k (N / b) ∧ Only g o (o + k) w w' := by
  have HW := hide hW
  have Had := hide had
  clear hW had
  have hbz : ((b : Int) == 0) = false := by rw [beq_eq_false_iff_ne]; omega
  have hbz' : ¬ (b : Int) = 0 := by omega
  go_enter Tryd.func94, Tryd.ntmps94
  go_wp2_with fail
  go_loopw [5, 10] (fun t5 t10 wr => ∃ i : Nat, i ≤ k ∧ t5 = .int .u64 (N / 4294967296 ^ (k - i) % b : Nat) ∧ t10 = .int .i64 i ∧ Hid (Dim wr g o k (k - i) N (N / b) ∧ Only g o (o + k) w wr)) (fun _ t10 _ => k - (intOf t10).toNat)
  case atStart => exact ⟨0, by omega, by rw [Nat.sub_zero, Nat.div_eq_of_lt HW.out.lt, Nat.zero_mod]; rfl, rfl, HW.out.dim _, Only.refl _ _ _ _⟩
  case round =>
    obtain ⟨i, hi, rfl, rfl, HM⟩ := hrel
    by_cases hlt : i < k
    · have hlt' : (i : Int) < (k : Int) := by omega
      obtain rfl := Had.out (by omega)
      obtain ⟨j, hj, hj'⟩ : ∃ j : Nat, k - i = j + 1 ∧ (k : Int) - 1 - (i : Int) = (j : Int) := ⟨k - 1 - i, by omega, by omega⟩
      have hjk : j < k := by omega
      have hjk' : (j : Int) < (k : Int) := by omega
      have HM2 : Hid (Dim wr g o k (j + 1) N (N / b) ∧ Only g o (o + k) w wr) := by have := HM.out; rw [hj] at this; exact this
      have hx := HM2.out.1.lo j (by omega)
      have hf := HM2.out.1.free j hjk
      have Hs := hide (shrink_step N b j hb0 hb)
      have hrl : N / 4294967296 ^ (j + 1) % b < b := Nat.mod_lt _ hb0
      have hdl := dg_lt N j
      rw [hj]
      have Hj := hide hj
      clear hj HM
      generalize N / 4294967296 ^ (j + 1) % b = r at *
      generalize dg N j = d at *
      have hor := or_hi r d (by omega) hdl
      have hroom : r * 4294967296 + d < 18446744073709551616 := by omega
      have Hor : Hid (r * 4294967296 + d < b * 4294967296) := Hs.out.2.2
      have hq : Hid (((r * 4294967296 + d) / b : Nat) < 4294967296) := by show _ < _; rw [Nat.div_lt_iff_lt_mul hb0, Nat.mul_comm 4294967296]; exact Hor.out
      obtain ⟨z, hz⟩ : ∃ z, z = r * 4294967296 + d := ⟨_, rfl⟩
      rw [← hz] at hor hroom Hs hq
      clear hz
      obtain ⟨q, hq1, hq2⟩ : ∃ q : Nat, q = z / b ∧ (z : Int).tdiv (b : Int) = (q : Int) := ⟨z / b, rfl, rfl⟩
      obtain ⟨t, ht1, ht2⟩ : ∃ t : Nat, t = z % b ∧ (z : Int).tmod (b : Int) = (t : Int) := ⟨z % b, rfl, rfl⟩
      have hql : q < 4294967296 := by rw [hq1]; exact hq.out
      rw [← hq1, ← ht1] at Hs
      clear hq hq1 ht1
      go_wp2_with fail
      go_roundw
      case rel =>
        refine ⟨i + 1, by omega, ?_, by go_num, ?_⟩
        · rw [show k - (i + 1) = j from by have := Hj.out; omega, ← Hs.out.2.1]
        · rw [show k - (i + 1) = j from by have := Hj.out; omega]
          exact ⟨HM2.out.1.step hjk _ (by rw [← Hs.out.1]), HM2.out.2.setCell _ (by omega) (by omega) _⟩
      case measure => simp [intOf]; omega
    · obtain rfl : i = k := by omega
      have Hq : Hid (Wk wr g o i (N / b) ∧ Only g o (o + i) w wr) := by
        have := HM.out
        rw [Nat.sub_self] at this
        exact ⟨this.1.wk (Nat.lt_of_le_of_lt (Nat.div_le_self _ _) HW.out.lt), this.2⟩
      have hr : N / 4294967296 ^ (i - i) % b = N % b := by rw [Nat.sub_self, Nat.pow_zero, Nat.div_one]
      have hrl : N % b < b := Nat.mod_lt _ hb0
      rw [hr]
      clear hr HM
      generalize hm : N % b = m at *
      have Hm := hide hm
      clear hm
      go_wp2_with fail
      go_ret
      refine ⟨?_, Hq.out⟩
      rw [Hm.out]
      apply ret_int
      omega

theorem from_row (w : World) (n : Nat) (hn : n < 18446744073709551616) : RowX (fun _ => True) (w.alloc (.cells #[.int .u32 ((n : Int) % 4294967296), .int .u32 ((n : Int) / 4294967296)] 98)) (.slice (some ⟨w.heap.size, 0, none⟩) 2 2) 2 n := by
  refine ⟨by omega, by omega, _, 2, rfl, by omega, fun _ => ⟨w.heap.size, 0, rfl, trivial, fun j hj => ?_⟩⟩
  rw [Nat.zero_add, cell_of_row _ _ _ _ _ _ (heap_alloc_new _ _)]
  have : j = 0 ∨ j = 1 := by omega
  rcases this with rfl | rfl
  · simp [dg]
  · simp [dg]; omega

set_option maxRecDepth 100000 in
set_option maxHeartbeats 400000 in
theorem From_any (n : Nat) (w : World) (hn : n < 18446744073709551616) :
    Calls Tryd.prog 35 #[.int .u64 n] w fun e w' => ∃ r, e = .returned r ∧ ∃ k, Own w' w.heap.size r k n ∧ Nrm k n ∧ k ≤ 2 ∧ Below w.heap.size w w' := by
  have HR := hide (from_row w n hn)
  have hb1 : Hid (Below w.heap.size w (w.alloc (.cells #[.int .u32 ((n : Int) % 4294967296), .int .u32 ((n : Int) / 4294967296)] 98))) := (Below.refl _ _).alloc (Nat.le_refl _) _
  go_enter Tryd.func35, Tryd.ntmps35
  go_wp2_with fail
  refine (trim_any _ 2 n _ (by exact HR.out)).mono ?_
  rintro e w1 ⟨u, rfl, m, hrow, hnrm, hnk, rfl⟩
  have H1 := hide (And.intro hrow hnrm)
  clear hrow hnrm
  go_wp2_with fail
  refine (fresh_any u m n _ H1.out.1).mono ?_
  rintro e w2 ⟨r, rfl, hown, hb⟩
  have H2 := hide (And.intro hown hb)
  clear hown hb
  go_wp2_with fail
  go_ret
  exact ⟨r, rfl, m, H2.out.1.mono hb1.out.size, H1.out.2, hnk, hb1.out.trans (H2.out.2.mono hb1.out.size)⟩

end Go.Proofs.YtolaaemkcmiabaaDoor

/- divide by one limb; DivMod. -/
namespace Go.Proofs.YtolaaemkcmiabaaDoor
open Go.RowKit
open M
set_option linter.unusedVariables false
set_option linter.unusedSimpArgs false

/-- What divide tells: quotient and remainder, rows that may lie where a lies. -/
def Parts (w : World) (q r : Value) (A C : Nat) : Prop :=
  (∃ n, Row w q n (A / C) ∧ Nrm n (A / C)) ∧ ∃ n, Row w r n (A % C) ∧ Nrm n (A % C)

set_option maxRecDepth 100000 in
set_option maxHeartbeats 400000 in
theorem divide_less {S S' : Nat → Prop} (v u : Value) (k A m C : Nat) (w : World) (h : RowX S w v k A) (h' : RowX S' w u m C) (hn : Nrm k A) (hn' : Nrm m C) (hlt : A < C) :
    Calls Tryd.prog 79 #[v, u] w fun e w' => ∃ q r, e = .returned (.tuple #[q, r]) ∧ Parts w' q r A C ∧ Below w.heap.size w w' := by
  have H := hide (And.intro h h')
  have HN := hide (And.intro hn hn')
  have hcmp : cmpI A C < 0 := cmpI_neg.2 hlt
  have HE : Hid (A / C = 0 ∧ A % C = A) := ⟨Nat.div_eq_of_lt hlt, Nat.mod_eq_of_lt hlt⟩
  clear h h' hn hn'
  go_enter Tryd.func79, Tryd.ntmps79
  go_wp2_with fail
  refine (compare_below v u k A m C _ H.out.1 H.out.2 HN.out.1 HN.out.2).mono ?_
  rintro e w2 ⟨rfl, hb2⟩
  have HB2 := hide hb2
  clear hb2
  generalize cmpI A C = cc at *
  go_wp2_with fail
  go_ret2
  refine ⟨_, v, rfl, ⟨⟨0, ?_, ?_⟩, k, ?_, ?_⟩, HB2.out⟩
  · rw [HE.out.1]; exact Row.nil _
  · rw [HE.out.1]; exact nrm_zero
  · rw [HE.out.2]; exact (H.out.1.below HB2.out).row
  · rw [HE.out.2]; exact HN.out.1

set_option maxRecDepth 100000 in
set_option maxHeartbeats 1000000 in
theorem divide_one {S S' : Nat → Prop} (v u : Value) (k A C : Nat) (w : World) (h : RowX S w v k A) (h' : RowX S' w u 1 C) (hn : Nrm k A) (hn' : Nrm 1 C) (hle : C ≤ A) :
    Calls Tryd.prog 79 #[v, u] w fun e w' => ∃ q r, e = .returned (.tuple #[q, r]) ∧ Parts w' q r A C ∧ Below w.heap.size w w' := by
  have hC1 : C < 4294967296 := by simpa using h'.1
  have hC0 : 0 < C := by
    rcases hn'.2 with h0 | h0
    · omega
    · simp at h0; omega
  have H := hide (And.intro h.row h'.row)
  have HN := hide (And.intro hn hn')
  have hcmp : ¬ cmpI A C < 0 := by rw [cmpI_neg]; omega
  have HU := hide (Row.old h'.row)
  obtain ⟨_, hk', adu, capu, rfl, hcu, hcellu⟩ := Row.old h'.row
  obtain ⟨gu, ou, rfl, hgu, hju⟩ := hcellu (by omega)
  have hd0 : dg C 0 = C := by unfold dg; simp; omega
  have hcu0 := hju 0 (by omega)
  rw [hd0] at hcu0
  have Hcu0 := hide hcu0
  clear h h' hn hn' hcellu hju hd0 hcu0
  obtain ⟨n1, hn1⟩ := nrm_exists (A / C)
  obtain ⟨n2, hn2⟩ := nrm_exists (A % C)
  have HQR := hide (And.intro hn1 hn2)
  clear hn1 hn2
  go_enter Tryd.func79, Tryd.ntmps79
  go_wp2_with fail
  refine (compare_below v _ k A 1 C _ H.out.1 H.out.2 HN.out.1 HN.out.2).mono ?_
  rintro e w2 ⟨rfl, hb2⟩
  have HB2 := hide hb2
  clear hb2
  generalize cmpI A C = cc at *
  go_wp2_with fail
  refine (fresh_any v k A _ (H.out.1.below HB2.out)).mono ?_
  rintro e w3 ⟨r, rfl, hown, hb3⟩
  have HB3 := hide (HB2.out.trans (hb3.mono HB2.out.size))
  have hc3 : w3.cell? ⟨gu, ou, none⟩ = some (.int .u32 (C : Nat)) := by rw [HB3.out.cell (p := ⟨gu, ou, none⟩) hgu]; exact Hcu0.out
  obtain ⟨ad, g, cap, rfl, hc, hg, had, hwk⟩ := hown.wk
  have HO := hide (And.intro hwk had)
  have hg' : w.heap.size ≤ g := Nat.le_trans HB2.out.size hg
  have hkb : k ≤ 70368744177664 := hown.2.1
  clear hown hb3 hwk had
  go_wp2_with fail
  refine (shrink_any ad g 0 k cap A C w3 HO.out.1 hkb hc (fun h => (HO.out.2 h).1) hC0 hC1).mono ?_
  rintro e w4 ⟨rfl, hW4, hO4⟩
  have H4 : Hid (RowX (w.heap.size ≤ ·) w4 (.slice ad k cap) k (A / C) ∧ Below w.heap.size w w4) :=
    ⟨hW4.row hkb hc hg' _ (fun h => (HO.out.2 h).1), HB3.out.trans (hO4.below hg' HB3.out.size)⟩
  clear hW4 hO4
  have hrl : A % C < C := Nat.mod_lt _ hC0
  have HRR : Hid (RowX (w.heap.size ≤ ·) (w4.alloc (.cells #[.int .u32 (A % C : Nat)] 129)) (.slice (some ⟨w4.heap.size, 0, none⟩) 1 1) 1 (A % C)) := by
    refine ⟨by simp; omega, by omega, _, 1, rfl, Nat.le_refl _, fun _ => ⟨w4.heap.size, 0, rfl, H4.out.2.size, fun j hj => ?_⟩⟩
    obtain rfl : j = 0 := by omega
    rw [Nat.zero_add, cell_of_row _ _ _ _ _ _ (heap_alloc_new _ _)]
    have : dg (A % C) 0 = A % C := by unfold dg; simp; omega
    rw [this]; rfl
  have H5 : Hid (RowX (w.heap.size ≤ ·) (w4.alloc (.cells #[.int .u32 (A % C : Nat)] 129)) (.slice ad k cap) k (A / C) ∧ Below w.heap.size w (w4.alloc (.cells #[.int .u32 (A % C : Nat)] 129))) :=
    ⟨H4.out.1.below ((Below.refl _ _).alloc (Nat.le_refl _) _), H4.out.2.alloc H4.out.2.size _⟩
  have hcast : ((A : Int) % (C : Int)) = ((A % C : Nat) : Int) := by simp
  have HF : Hid (Parts (w4.alloc (.cells #[.int .u32 (A % C : Nat)] 129)) (.slice ad n1 n1) (.slice (some ⟨w4.heap.size, 0, none⟩) n2 n2) A C) :=
    ⟨⟨n1, (trim_row H5.out.1 HQR.out.1).1.row, HQR.out.1⟩, n2, (trim_row HRR.out HQR.out.2).1.row, HQR.out.2⟩
  have HT1 : Hid (∀ n, Calls Tryd.prog 57 #[.slice ad k cap] ((w4.alloc (.cells #[.int .u32 (A % C : Nat)] 129)).drewN n) fun e w' => e = .returned (.slice ad n1 n1) ∧ w' = (w4.alloc (.cells #[.int .u32 (A % C : Nat)] 129)).drewN n) :=
    fun n => trim_val ad cap k (A / C) n1 _ (H5.out.1.drewN n) HQR.out.1
  have HT2 : Hid (∀ n, Calls Tryd.prog 57 #[.slice (some ⟨w4.heap.size, 0, none⟩) 1 1] ((w4.alloc (.cells #[.int .u32 (A % C : Nat)] 129)).drewN n) fun e w' => e = .returned (.slice (some ⟨w4.heap.size, 0, none⟩) n2 n2) ∧ w' = (w4.alloc (.cells #[.int .u32 (A % C : Nat)] 129)).drewN n) :=
    fun n => trim_val _ 1 1 (A % C) n2 _ (HRR.out.drewN n) HQR.out.2
  clear HRR
  generalize A % C = rm at *
  go_wp2_with fail
  generalize hww : w4.alloc (.cells #[.int .u32 (rm : Nat)] 129) = w5 at *
  have Hww := hide hww
  clear hww
  go_quiet (first | (go_at_call_of 57 (Value.slice ad k cap); exact Calls.quiet_of_same (HT1.out _)) | (go_at_call_of 57 (Value.slice (some (Addr.mk w4.heap.size 0 none)) 1 1); exact Calls.quiet_of_same (HT2.out _)))
  go_wp2_with fail
  go_ret2
  exact ⟨_, _, rfl, HF.out, below_drewN H5.out.2 nq⟩

end Go.Proofs.YtolaaemkcmiabaaDoor

namespace Go.Proofs.YtolaaemkcmiabaaDoor
namespace M
set_option linter.unusedVariables false
set_option linter.unusedSimpArgs false

/-- The uppermost limbs of a row. -/
theorem two_top {D m : Nat} (hD : D < 4294967296 ^ (m + 2)) : D / 4294967296 ^ m = dg D (m + 1) * 4294967296 + dg D m := by
  rw [div_succ D m]
  congr 2
  have h := div_succ D (m + 1)
  rw [Nat.div_eq_of_lt (show D < 4294967296 ^ (m + 1 + 1) from hD), Nat.zero_mul, Nat.zero_add] at h
  exact h

theorem three_top {P m : Nat} (hP : P < 4294967296 ^ (m + 3)) : P / 4294967296 ^ m = (dg P (m + 2) * 4294967296 + dg P (m + 1)) * 4294967296 + dg P m := by
  rw [div_succ P m, two_top (m := m + 1) hP]

/-- How often D goes into P is not more than the uppermost limbs say. -/
theorem quo_top (P D m : Nat) : P / D * (D / 4294967296 ^ m) ≤ P / 4294967296 ^ m := by
  rw [Nat.le_div_iff_mul_le (pw_pos m), Nat.mul_assoc]
  have h1 : D / 4294967296 ^ m * 4294967296 ^ m ≤ D := Nat.div_mul_le_self _ _
  have h2 : P / D * D ≤ P := Nat.div_mul_le_self _ _
  exact Nat.le_trans (Nat.mul_le_mul_left _ h1) h2

/-- A guess that the uppermost limbs bear is one too great at most. -/
theorem guess_le {P D m f : Nat} (hD : 0 < D) (hf : f * (D / 4294967296 ^ m) ≤ P / 4294967296 ^ m) (hfb : f ≤ D / 4294967296 ^ m + 1) : f ≤ P / D + 1 := by
  rcases Nat.eq_zero_or_pos f with h0 | h0
  · rw [h0]; exact Nat.zero_le _
  obtain ⟨e, rfl⟩ : ∃ e, f = e + 1 := ⟨f - 1, by omega⟩
  have : e ≤ P / D := by
    rw [Nat.le_div_iff_mul_le hD]
    have h1 : D < (D / 4294967296 ^ m + 1) * 4294967296 ^ m := by
      have := Nat.lt_mul_div_succ D (pw_pos m)
      rw [Nat.mul_comm] at this; exact this
    have h2 : e * D ≤ e * ((D / 4294967296 ^ m + 1) * 4294967296 ^ m) := Nat.mul_le_mul_left _ (Nat.le_of_lt h1)
    have h3 : P / 4294967296 ^ m * 4294967296 ^ m ≤ P := Nat.div_mul_le_self _ _
    have h4 : e * (D / 4294967296 ^ m + 1) ≤ P / 4294967296 ^ m := by
      rw [Nat.add_mul, Nat.one_mul] at hf
      rw [Nat.mul_add, Nat.mul_one]
      omega
    have h5 := Nat.mul_le_mul_right (4294967296 ^ m) h4
    rw [Nat.mul_assoc] at h5
    omega
  exact Nat.succ_le_succ this

/-- Where a test says that the guess is too great. -/
theorem guess_test (f top next rest h p : Nat) (hh : f * top + rest = h) : (f * next > rest * 4294967296 + p) ↔ f * (top * 4294967296 + next) > h * 4294967296 + p := by
  rw [← hh, Nat.mul_add, ← Nat.mul_assoc, Nat.add_mul]
  omega

theorem guess_dec {f V U Q : Nat} (hV : 0 < V) (hQ : Q * V ≤ U) (hf : U < f * V) : Q < f := by
  rcases Nat.lt_or_ge Q f with h | h
  · exact h
  · have := Nat.mul_le_mul_right V h; omega

/-- What takeOut leaves. -/
theorem take_exact {P D f : Nat} (hD : 0 < D) (h1 : P / D ≤ f) (h2 : f ≤ P / D + 1) : (f * D ≤ P → f = P / D ∧ P - f * D = P % D) ∧ (P < f * D → f - 1 = P / D ∧ P + D - f * D = P % D ∧ 0 < f) := by
  have hdm := Nat.div_add_mod P D
  have hml := Nat.mod_lt P hD
  have hc : D * (P / D) = P / D * D := Nat.mul_comm _ _
  have hle := fun h : f * D ≤ P => (Nat.le_div_iff_mul_le hD).2 h
  generalize P / D = q at *
  generalize P % D = r at *
  constructor
  · intro h
    have e : f = q := by
      have := hle h
      omega
    exact ⟨e, by rw [e]; omega⟩
  · intro h
    have e : f = q + 1 := by
      rcases Nat.lt_or_ge q f with h3 | h3
      · omega
      · have := Nat.mul_le_mul_right D h3; omega
    refine ⟨by omega, ?_, by omega⟩
    rw [e, Nat.add_mul, Nat.one_mul]; omega

/-- The two uppermost limbs are not far above the divisor's uppermost one. -/
theorem high_le {P D m : Nat} (hD : D < 4294967296 ^ (m + 2)) (hP : P < D * 4294967296) : dg P (m + 2) * 4294967296 + dg P (m + 1) < (dg D (m + 1) + 1) * 4294967296 := by
  have hPl : P < 4294967296 ^ (m + 3) := by
    rw [show m + 3 = m + 2 + 1 from rfl, pw_succ]
    exact Nat.lt_of_lt_of_le hP (Nat.mul_le_mul_right _ (Nat.le_of_lt hD))
  have h1 := two_top (m := m + 1) (D := P) hPl
  rw [← h1, Nat.div_lt_iff_lt_mul (pw_pos (m + 1))]
  have h2 := div_succ D (m + 1)
  rw [Nat.div_eq_of_lt (show D < 4294967296 ^ (m + 1 + 1) from hD), Nat.zero_mul, Nat.zero_add] at h2
  have h3 := Nat.lt_mul_div_succ D (pw_pos (m + 1))
  rw [h2] at h3
  have h4 : D * 4294967296 ≤ 4294967296 ^ (m + 1) * (dg D (m + 1) + 1) * 4294967296 := Nat.mul_le_mul_right _ (Nat.le_of_lt h3)
  have h5 : (dg D (m + 1) + 1) * 4294967296 * 4294967296 ^ (m + 1) = 4294967296 ^ (m + 1) * (dg D (m + 1) + 1) * 4294967296 := by
    rw [Nat.mul_comm, Nat.mul_assoc]
  omega

/-- One limb of a quotient: R is what is left, over j limbs. -/
theorem long_step {R D j : Nat} (hD : 0 < D) (hR : R < D * 4294967296 ^ (j + 1)) :
    R / 4294967296 ^ j < D * 4294967296 ∧ R % 4294967296 ^ j + 4294967296 ^ j * (R / 4294967296 ^ j % D) < D * 4294967296 ^ j ∧
    R = (R % 4294967296 ^ j + 4294967296 ^ j * (R / 4294967296 ^ j % D)) + 4294967296 ^ j * (R / 4294967296 ^ j / D) * D := by
  have hp := pw_pos j
  refine ⟨?_, ?_, ?_⟩
  · rw [Nat.div_lt_iff_lt_mul hp, Nat.mul_assoc, Nat.mul_comm 4294967296, ← pw_succ]; exact hR
  · have h1 := mod_lt R j
    have h2 := Nat.mod_lt (R / 4294967296 ^ j) hD
    have h3 : 4294967296 ^ j * (R / 4294967296 ^ j % D + 1) ≤ 4294967296 ^ j * D := Nat.mul_le_mul_left _ h2
    rw [Nat.mul_add, Nat.mul_one] at h3
    rw [Nat.mul_comm D]; omega
  · have h1 := Nat.mod_add_div R (4294967296 ^ j)
    have h2 := Nat.mod_add_div (R / 4294967296 ^ j) D
    have h3 : 4294967296 ^ j * (R / 4294967296 ^ j) = 4294967296 ^ j * (R / 4294967296 ^ j % D) + 4294967296 ^ j * (R / 4294967296 ^ j / D) * D := by
      conv => lhs; rw [← h2]
      rw [Nat.mul_add, Nat.mul_comm D, Nat.mul_assoc]
    omega


/-- A limb of a quotient, and what is left behind it. -/
theorem long_mod (R D j : Nat) (hD : 0 < D) :
    R % (D * 4294967296 ^ (j + 1)) / 4294967296 ^ j < D * 4294967296 ∧
    R % (D * 4294967296 ^ (j + 1)) / 4294967296 ^ j / D = dg (R / D) j ∧
    R % (D * 4294967296 ^ (j + 1)) % 4294967296 ^ j + 4294967296 ^ j * (R % (D * 4294967296 ^ (j + 1)) / 4294967296 ^ j % D) = R % (D * 4294967296 ^ j) := by
  have hp := pw_pos j
  have hX : D * 4294967296 ^ (j + 1) = 4294967296 ^ j * D * 4294967296 := by rw [pw_succ, ← Nat.mul_assoc, Nat.mul_comm D]
  refine ⟨?_, ?_, ?_⟩
  · have := Nat.mod_lt R (show 0 < D * 4294967296 ^ (j + 1) from Nat.mul_pos hD (pw_pos _))
    rw [Nat.div_lt_iff_lt_mul hp, Nat.mul_assoc, Nat.mul_comm 4294967296, ← pw_succ]; exact this
  · rw [hX, Nat.div_div_eq_div_mul, Nat.mod_mul_right_div_self]
    unfold dg
    rw [Nat.div_div_eq_div_mul, Nat.mul_comm D]
  · rw [← Nat.mod_mul, hX, Nat.mod_mul_right_mod, Nat.mul_comm D]

/-- The divisor's uppermost limb, shifted. -/
theorem norm_by {C m b : Nat} (hC : C < 4294967296 ^ (m + 2)) (hb : dg C (m + 1) < 2 ^ b) (hb2 : b ≤ 32) : C * 2 ^ (32 - b) < 4294967296 ^ (m + 2) := by
  have h2 := div_succ C (m + 1)
  rw [Nat.div_eq_of_lt (show C < 4294967296 ^ (m + 1 + 1) from hC), Nat.zero_mul, Nat.zero_add] at h2
  have h3 := Nat.lt_mul_div_succ C (pw_pos (m + 1))
  rw [h2] at h3
  have h4 : 4294967296 ^ (m + 1) * (dg C (m + 1) + 1) ≤ 4294967296 ^ (m + 1) * 2 ^ b := Nat.mul_le_mul_left _ hb
  have h5 : C * 2 ^ (32 - b) < 4294967296 ^ (m + 1) * 2 ^ b * 2 ^ (32 - b) := Nat.mul_lt_mul_of_pos_right (Nat.lt_of_lt_of_le h3 h4) (Nat.two_pow_pos _)
  rw [Nat.mul_assoc, ← Nat.pow_add, show b + (32 - b) = 32 from by omega] at h5
  rw [show m + 2 = m + 1 + 1 from rfl, pw_succ]
  exact h5

/-- Where the search for a guess ends. -/
theorem guess_end {P D m f rest : Nat} (hD0 : 0 < D) (hD : D < 4294967296 ^ (m + 2)) (hP : P < D * 4294967296) (ht : 0 < dg D (m + 1))
    (hh : f * dg D (m + 1) + rest = dg P (m + 2) * 4294967296 + dg P (m + 1)) (hend : 4294967295 < rest ∨ (f ≤ 4294967295 ∧ ¬ f * dg D m > rest * 4294967296 + dg P m)) : f ≤ P / D + 1 ∧ f ≤ 4294967295 := by
  have hPl : P < 4294967296 ^ (m + 3) := by
    rw [show m + 3 = m + 2 + 1 from rfl, pw_succ]
    exact Nat.lt_of_lt_of_le hP (Nat.mul_le_mul_right _ (Nat.le_of_lt hD))
  have hV := two_top hD
  have hU := three_top hPl
  have hhi := high_le hD hP
  have hn := dg_lt D m
  have hp := dg_lt P m
  generalize dg D (m + 1) = top at *
  generalize dg D m = next at *
  generalize dg P (m + 2) = a2 at *
  generalize dg P (m + 1) = a1 at *
  generalize dg P m = p at *
  have hfb : f ≤ 4294967295 ∧ ¬ f * next > rest * 4294967296 + p := by
    rcases hend with h1 | h1
    · have hf : f ≤ 4294967295 := by
        rcases Nat.lt_or_ge 4294967295 f with h2 | h2
        · have : 4294967296 * top ≤ f * top := Nat.mul_le_mul_right _ h2
          rw [Nat.add_mul] at hhi
          omega
        · exact h2
      refine ⟨hf, ?_⟩
      have : f * next ≤ 4294967295 * 4294967295 := Nat.mul_le_mul hf (by omega)
      omega
    · exact h1
  refine ⟨guess_le (m := m) hD0 ?_ ?_, hfb.1⟩
  · rw [hV, hU]
    have := (not_congr (guess_test f top next rest (a2 * 4294967296 + a1) p hh)).1 hfb.2
    omega
  · rw [hV]; have := hfb.1; omega

/-- A step of the search. -/
theorem guess_next {P D m f rest : Nat} (hD0 : 0 < D) (hD : D < 4294967296 ^ (m + 2)) (hP : P < D * 4294967296) (ht : 0 < dg D (m + 1))
    (hh : f * dg D (m + 1) + rest = dg P (m + 2) * 4294967296 + dg P (m + 1)) (hQ : P / D ≤ f) (hgo : 4294967295 < f ∨ f * dg D m > rest * 4294967296 + dg P m) :
    0 < f ∧ (f - 1) * dg D (m + 1) + (rest + dg D (m + 1)) = dg P (m + 2) * 4294967296 + dg P (m + 1) ∧ P / D ≤ f - 1 := by
  have hPl : P < 4294967296 ^ (m + 3) := by
    rw [show m + 3 = m + 2 + 1 from rfl, pw_succ]
    exact Nat.lt_of_lt_of_le hP (Nat.mul_le_mul_right _ (Nat.le_of_lt hD))
  have hqt := quo_top P D m
  have hQl : P / D < 4294967296 := by rw [Nat.div_lt_iff_lt_mul hD0, Nat.mul_comm]; exact hP
  rw [two_top hD, three_top hPl] at hqt
  generalize dg D (m + 1) = top at *
  generalize dg D m = next at *
  generalize dg P (m + 2) = a2 at *
  generalize dg P (m + 1) = a1 at *
  generalize dg P m = p at *
  generalize P / D = Q at *
  have hlt : Q < f := by
    rcases hgo with h1 | h1
    · omega
    · exact guess_dec (by omega) hqt ((guess_test f top next rest (a2 * 4294967296 + a1) p hh).1 h1)
  obtain ⟨e, rfl⟩ : ∃ e, f = e + 1 := ⟨f - 1, by omega⟩
  rw [Nat.add_mul] at hh
  refine ⟨by omega, ?_, by omega⟩
  rw [Nat.add_sub_cancel]; omega

theorem guess_start {P D m : Nat} (hD0 : 0 < D) (hD : D < 4294967296 ^ (m + 2)) (hP : P < D * 4294967296) (ht : 0 < dg D (m + 1)) :
    P / D ≤ (dg P (m + 2) * 4294967296 + dg P (m + 1)) / dg D (m + 1) := by
  have hPl : P < 4294967296 ^ (m + 3) := by
    rw [show m + 3 = m + 2 + 1 from rfl, pw_succ]
    exact Nat.lt_of_lt_of_le hP (Nat.mul_le_mul_right _ (Nat.le_of_lt hD))
  rw [Nat.le_div_iff_mul_le ht, ← two_top (m := m + 1) (D := P) hPl]
  have h2 := div_succ D (m + 1)
  rw [Nat.div_eq_of_lt (show D < 4294967296 ^ (m + 1 + 1) from hD), Nat.zero_mul, Nat.zero_add] at h2
  rw [← h2]
  exact quo_top P D (m + 1)

end M
end Go.Proofs.YtolaaemkcmiabaaDoor
