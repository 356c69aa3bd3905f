/- nearRoot, Root. -/
import Derived.Test.YtanijhgmgldiiaaAE
import Derived.Test.YtanijhgmgldiiaaAD
namespace Go.Proofs.Ytanijhgmgldiiaa
open Go.RowKit
open M
set_option linter.unusedVariables false
set_option linter.unusedSimpArgs false

/-- A root of the bits that are known, or one more. -/
def RootSt (w : World) (S half kn : Nat) (v : Value) (wr : World) : Prop :=
  (∃ n x, RowX (fun _ => True) wr v n x ∧ Nrm n x ∧ (x = S / 2 ^ (half - kn) ∨ x = S / 2 ^ (half - kn) + 1)) ∧ Below w.heap.size w wr

/-- What one step of nearRoot needs. -/
theorem root_step {A S half c d x : Nat} (hS : Sq S A) (hA : 4 ^ half ≤ A) (hc : c = d / 2) (hd : 1 ≤ d) (hdh : d ≤ half) (hx : x = S / 2 ^ (half - c) ∨ x = S / 2 ^ (half - c) + 1) :
    0 < x ∧ (x * 2 ^ (d - c - 1) + A / 2 ^ (2 * half - c - d + 1) / x = S / 2 ^ (half - d) ∨ x * 2 ^ (d - c - 1) + A / 2 ^ (2 * half - c - d + 1) / x = S / 2 ^ (half - d) + 1) := by
  have hSh : 2 ^ half ≤ S := by
    rcases Nat.lt_or_ge S (2 ^ half) with h1 | h1
    · have h2 : (S + 1) * (S + 1) ≤ 2 ^ half * 2 ^ half := Nat.mul_le_mul h1 h1
      rw [← four_pow] at h2
      have := hS.2
      omega
    · exact h1
  have hSc : 2 ^ c ≤ S / 2 ^ (half - c) := by
    rw [Nat.le_div_iff_mul_le (Nat.two_pow_pos _), ← Nat.pow_add, show c + (half - c) = half from by omega]; exact hSh
  have hcp := Nat.two_pow_pos c
  have hx0 : 0 < x := by omega
  refine ⟨hx0, ?_⟩
  have hq := hS.shift (half - d)
  have e1 : S / 2 ^ (half - d) / 2 ^ (d - c) = S / 2 ^ (half - c) := by
    rw [Nat.div_div_eq_div_mul, ← Nat.pow_add, show half - d + (d - c) = half - c from by omega]
  have e2 : A / 4 ^ (half - d) / 2 ^ (d - c + 1) = A / 2 ^ (2 * half - c - d + 1) := by
    rw [show (4 : Nat) = 2 ^ 2 from by decide, ← Nat.pow_mul, Nat.div_div_eq_div_mul, ← Nat.pow_add, show 2 * (half - d) + (d - c + 1) = 2 * half - c - d + 1 from by omega]
  have hn := newton (t := d - c) (x := x) hq (by omega) (by rw [e1]; exact hx) (by
    have : 2 ^ (d - c) ≤ 2 ^ (c + 1) := Nat.pow_le_pow_right (by omega) (by omega)
    rw [Nat.pow_succ] at this
    omega)
  rw [e2] at hn
  exact hn

set_option maxRecDepth 100000 in
set_option maxHeartbeats 4000000 in
theorem nearRoot_any {S' : Nat → Prop} (v : Value) (k A S : Nat) (w : World) (h : RowX S' w v k A) (hn : Nrm k A) (hk : k ≤ 8192) (hA0 : 0 < A) (hS : Sq S A) :
    Calls Try.prog 27 #[v] w fun e w' => ∃ r, e = .returned r ∧ ∃ n x, RowX (fun _ => True) w' r n x ∧ Nrm n x ∧ (x = S ∨ x = S + 1) ∧ Below w.heap.size w w' := by
  have hsp := bitLen_spec A
  have hT1 := hsp.2 (by omega)
  have hT2 := hsp.1
  have hTk : bitLen A ≤ 32 * k := bitLen_le (by rw [Nat.pow_mul]; exact hn.1)
  have HLen := hide (Len_row v k A w h hn hk)
  have hT0 : 0 < bitLen A := by
    rcases Nat.eq_zero_or_pos (bitLen A) with h0 | h0
    · rw [h0] at hT2; simp at hT2; omega
    · exact h0
  generalize bitLen A = T at *
  obtain ⟨hf, hhf, hhf'⟩ : ∃ hf : Nat, hf = (T - 1) / 2 ∧ ((T : Int) - 1).tdiv 2 = (hf : Int) := ⟨(T - 1) / 2, rfl, by rw [Int.tdiv_eq_ediv_of_nonneg (by omega)]; omega⟩
  have hhf2 : ((T : Int) - 1) / 2 = (hf : Int) := by omega
  have h4A : 4 ^ hf ≤ A := by
    rw [show (4 : Nat) = 2 ^ 2 from by decide, ← Nat.pow_mul]
    exact Nat.le_trans (Nat.pow_le_pow_right (by omega) (by omega)) hT1
  have h4A2 : A < 4 ^ (hf + 1) := by
    rw [show (4 : Nat) = 2 ^ 2 from by decide, ← Nat.pow_mul]
    exact Nat.lt_of_lt_of_le hT2 (Nat.pow_le_pow_right (by omega) (by omega))
  have hS1 : S / 2 ^ hf = 1 := by
    have hq := hS.shift hf
    have hq2 : Sq 1 (A / 4 ^ hf) := by
      refine ⟨by rw [Nat.mul_one]; exact Nat.div_pos h4A (Nat.pow_pos (by omega)), ?_⟩
      rw [Nat.div_lt_iff_lt_mul (Nat.pow_pos (by omega))]
      rw [Nat.pow_succ] at h4A2
      omega
    exact hq.uniq hq2
  have hfb : hf ≤ 131072 := by omega
  have hst := bitLen_spec hf
  have hstb : bitLen hf ≤ 18 := bitLen_le (by omega)
  have hst0 : hf = 0 → bitLen hf = 0 := fun h0 => by rw [h0]; rfl
  have HBL := hide (fun w => blen_any hf w (by omega))
  generalize bitLen hf = st at *
  have HT : Hid (T ≤ 32 * k ∧ hf = (T - 1) / 2 ∧ 0 < T) := ⟨hTk, hhf, hT0⟩
  have HR := hide h.row
  have HN := hide hn
  have HSq := hide hS
  have H4 := hide h4A
  have HST := hide hst
  have HST0 := hide hst0
  have hwrap : IntKind.u64.wrap (hf : Int) = (hf : Int) := by rw [IntKind.wrap_u64]; omega
  clear hsp hT1 hT2 h4A h4A2 hS hn h hst hst0 hhf
  have HS0 : Hid (RootSt w S hf 0 (.slice (some ⟨w.heap.size, 0, none⟩) 1 1) (w.alloc (.cells #[.int .u32 1] 24))) := by
    refine ⟨⟨1, 1, ⟨by decide, by omega, _, 1, rfl, Nat.le_refl _, fun _ => ⟨w.heap.size, 0, rfl, trivial, fun j hj => ?_⟩⟩, ⟨by decide, .inr (by decide)⟩, .inl ?_⟩, (Below.refl _ _).alloc (Nat.le_refl _) _⟩
    · obtain rfl : j = 0 := by omega
      rw [Nat.zero_add, cell_of_row _ _ _ _ _ _ (heap_alloc_new _ _)]; rfl
    · rw [Nat.sub_zero]; exact hS1.symm
  go_enter Try.func27, Try.ntmps27
  go_wp2_with fail
  refine HLen.out.mono ?_
  rintro e w1 ⟨rfl, rfl⟩
  go_wp2_with fail
  refine (HBL.out _).mono ?_
  rintro e w2 ⟨rfl, rfl⟩
  go_wp2_with fail
  go_loopw [5, 6, 21] (fun t5 t6 t21 wr => ∃ i : Nat, i ≤ st ∧ t21 = .int .i64 i ∧ t6 = .int .i64 (hf / 2 ^ (st - i) : Nat) ∧ Hid (RootSt w2 S hf (hf / 2 ^ (st - i)) t5 wr)) (fun _ _ t21 _ => st - (intOf t21).toNat)
  case atStart => exact ⟨0, by omega, rfl, by rw [Nat.sub_zero, Nat.div_eq_of_lt HST.out.1]; rfl, by rw [Nat.sub_zero, Nat.div_eq_of_lt HST.out.1]; exact HS0⟩
  case round =>
    obtain ⟨i, hi, rfl, rfl, HI⟩ := hrel
    by_cases hlt : i < st
    · have hlt' : (i : Int) < (st : Int) := by omega
      obtain ⟨e, he, he'⟩ : ∃ e : Nat, st - i = e + 1 ∧ (st : Int) - 1 - (i : Int) = (e : Int) := ⟨st - 1 - i, by omega, by omega⟩
      have hcd : hf / 2 ^ (st - i) = hf / 2 ^ e / 2 := by rw [he, Nat.pow_succ, Nat.div_div_eq_div_mul]
      have hd1 : 1 ≤ hf / 2 ^ e := by
        rw [Nat.le_div_iff_mul_le (Nat.two_pow_pos _), Nat.one_mul]
        have h0 : hf ≠ 0 := fun h0 => by have := HST0.out h0; omega
        exact Nat.le_trans (Nat.pow_le_pow_right (by omega) (by omega)) (HST.out.2 h0)
      have hdh : hf / 2 ^ e ≤ hf := Nat.div_le_self _ _
      have hdv : (hf : Int) / 2 ^ e = ((hf / 2 ^ e : Nat) : Int) := by simp
      have Hnext : Hid (hf / 2 ^ (st - (i + 1)) = hf / 2 ^ e) := by show _ = _; rw [show st - (i + 1) = e from by omega]
      have hel : e ≤ 63 := by omega
      rw [hcd] at HI ⊢
      have he2 : (e : Int) < 64 := by omega
      clear hcd he
      generalize hf / 2 ^ e = d at *
      obtain ⟨c, hc⟩ : ∃ c, c = d / 2 := ⟨_, rfl⟩
      rw [← hc] at HI ⊢
      have hcd : c ≤ d := by omega
      obtain ⟨⟨n0, x, hrow, hnr, hxs⟩, hbel⟩ := HI.out
      have hst := root_step HSq.out H4.out hc hd1 hdh hxs
      have HX := hide (And.intro hrow (And.intro hnr hbel))
      have HXs := hide hst.2
      have hx0 := hst.1
      have hxb : n0 ≤ k + 1 := by
        refine hnr.le ?_
        rw [pw_succ]
        have h1 : S / 2 ^ (hf - c) ≤ S := Nat.div_le_self _ _
        have h2 : S ≤ A := by have h3 := HSq.out.1; rcases Nat.eq_zero_or_pos S with h0 | h0; (· omega); (· exact Nat.le_trans (Nat.le_mul_of_pos_right S h0) h3)
        have h3 := HN.out.1
        omega
      obtain ⟨n1, hn1, hn1'⟩ : ∃ n1 : Nat, n1 = 2 * hf - c - d + 1 ∧ 2 * (hf : Int) - (c : Int) - (d : Int) + 1 = (n1 : Int) := ⟨2 * hf - c - d + 1, rfl, by omega⟩
      obtain ⟨n2, hn2, hn2'⟩ : ∃ n2 : Nat, n2 = d - c - 1 ∧ (d : Int) - (c : Int) - 1 = (n2 : Int) := ⟨d - c - 1, rfl, by omega⟩
      rw [← hn1, ← hn2] at HXs
      have hn1k : n1 < 32 * k := by have := HT.out; omega
      have hn2b : n2 ≤ 131072 := by omega
      clear hrow hnr hxs hbel hst hn1 hn2 HI hc
      go_wp2_with fail
      refine (shiftDown_any v k A n1 wr (HR.out.below HX.out.2.2) hn1k).mono ?_
      rintro e w3 ⟨r3, rfl, m3, hr3, hm3, hk3, hb3⟩
      have H3 := hide (And.intro hr3 (And.intro hm3 (And.intro hb3 (HX.out.2.2.trans (hb3.mono HX.out.2.2.size)))))
      have hm3b : m3 ≤ k := by omega
      clear hr3 hm3 hk3 hb3
      go_wp2_with fail
      refine (divide_any r3 _ m3 (A / 2 ^ n1) n0 x w3 H3.out.1 (HX.out.1.below H3.out.2.2.1) H3.out.2.1 HX.out.2.1 hx0 (by omega)).mono ?_
      rintro e w4 ⟨q4, r4, rfl, ⟨⟨m4, hq4, hm4⟩, _⟩, hb4⟩
      have hm4b : m4 ≤ k := hm4.le (Nat.lt_of_le_of_lt (Nat.div_le_self _ _) (Nat.lt_of_le_of_lt (Nat.div_le_self _ _) HN.out.1))
      have H4w := hide (And.intro hq4 (And.intro hm4 (And.intro (H3.out.2.2.1.trans (hb4.mono H3.out.2.2.1.size)) (H3.out.2.2.2.trans (hb4.mono H3.out.2.2.2.size)))))
      clear hq4 hm4 hb4
      go_wp2_with fail
      refine (shiftUp_any _ n0 x n2 w4 (HX.out.1.below H4w.out.2.2.1) (by omega)).mono ?_
      rintro e w5 ⟨r5, rfl, m5, hr5, hm5, hk5, hb5⟩
      have H5 := hide (And.intro hr5 (And.intro (RowX.below H4w.out.1 hb5) (H4w.out.2.2.2.trans (hb5.mono H4w.out.2.2.2.size))))
      have hm5b : m5 ≤ 100000 := by omega
      clear hr5 hm5 hb5 hk5
      go_wp2_with fail
      refine (sum_any r5 q4 m5 (x * 2 ^ n2) m4 (A / 2 ^ n1 / x) w5 H5.out.1 H5.out.2.1 (by omega) (by omega)).mono ?_
      rintro e w6 ⟨r6, rfl, m6, hr6, hm6, _, hb6⟩
      have H6 : Hid (RootSt w2 S hf d r6 w6) := ⟨⟨m6, _, hr6.row, hm6, HXs.out⟩, H5.out.2.2.trans (hb6.mono H5.out.2.2.size)⟩
      clear hr6 hm6 hb6
      go_wp2_with fail
      go_roundw
      case rel => exact ⟨i + 1, by omega, by go_num, by rw [Hnext.out], by rw [Hnext.out]; exact H6⟩
      case measure => simp [intOf]; omega
    · obtain rfl : i = st := by omega
      have HE : Hid (∃ n x, RowX (fun _ => True) wr u5 n x ∧ Nrm n x ∧ (x = S ∨ x = S + 1) ∧ Below w2.heap.size w2 wr) := by
        obtain ⟨⟨n, x, h1, h2, h3⟩, h4⟩ := HI.out
        rw [Nat.sub_self, Nat.pow_zero, Nat.div_one, Nat.sub_self, Nat.pow_zero, Nat.div_one] at h3
        exact ⟨n, x, h1, h2, h3, h4⟩
      clear HI
      generalize ((hf / 2 ^ (i - i) : Nat) : Int) = kk at *
      go_wp2_with fail
      go_ret
      exact ⟨_, rfl, HE.out⟩


theorem sq_le {S A : Nat} (h : Sq S A) : S ≤ A := by
  have h3 := h.1
  rcases Nat.eq_zero_or_pos S with h0 | h0
  · omega
  · exact Nat.le_trans (Nat.le_mul_of_pos_right S h0) h3

theorem cmp_sq {S A : Nat} (h : Sq S A) : ¬ 0 < cmpI (S * S) A ∧ (cmpI (S * S) A == 0) = decide (S * S = A) := by
  have h1 := h.1
  rcases Nat.lt_or_ge (S * S) A with h2 | h2
  · rw [cmpI_lt h2, decide_eq_false (by omega)]; decide
  · have e : S * S = A := by omega
    rw [decide_eq_true e, e, cmpI_eq]; decide

set_option maxRecDepth 100000 in
set_option maxHeartbeats 2000000 in
theorem Root_num {v : Value} {A S : Nat} {w : World} (h : Num w v A) (hS : Sq S A) :
    Calls Try.prog 20 #[v] w fun e w' => ∃ r n, e = .returned (.tuple #[r, .bool (decide (S * S = A)), .int .i64 0]) ∧ Own w' w.heap.size r n S ∧ Nrm n S ∧ Below w.heap.size w w' := by
  obtain ⟨k, h1, h2, h3⟩ := h
  have HC := hide (check_ok v k A w h1 h2 h3)
  by_cases hA0 : A = 0
  · have hk0 := h2.zero_iff.2 hA0
    subst hk0
    have hS0 : S = 0 := by have := sq_le hS; omega
    have HD : Hid (decide (S * S = A) = true) := decide_eq_true (by rw [hS0, hA0])
    have HS := hide hS0
    obtain ⟨_, _, ad, cap, rfl, _, _⟩ := h1
    clear h2 hS hS0
    go_enter Try.func20, Try.ntmps20
    go_wp2_with fail
    refine HC.out.mono ?_
    rintro e w1 ⟨rfl, rfl⟩
    go_wp2_with fail
    go_ret3
    exact ⟨_, 0, by rw [HD.out]; rfl, by rw [HS.out]; exact Own.nil _ _, by rw [HS.out]; exact nrm_zero, Below.refl _ _⟩
  · have hkz : ((k : Int) == 0) = false := by
      rw [beq_eq_false_iff_ne]
      intro e
      exact hA0 (h2.zero_iff.1 (by omega))
    have HNR := hide (nearRoot_any v k A S w h1 h2 h3 (by omega) hS)
    have HR := hide h1
    have HN := hide h2
    have HS := hide hS
    have hcs := cmp_sq hS
    have HD := hide hcs.2
    have hng := hcs.1
    have hSk : S < 4294967296 ^ k := Nat.lt_of_le_of_lt (sq_le hS) h2.1
    have HSk := hide hSk
    obtain ⟨_, _, ad, cap, rfl, _, _⟩ := h1
    clear h2 hS hcs hA0 hSk
    go_enter Try.func20, Try.ntmps20
    go_wp2_with fail
    refine HC.out.mono ?_
    rintro e w1 ⟨rfl, rfl⟩
    go_wp2_with fail
    refine HNR.out.mono ?_
    rintro e w2 ⟨r2, rfl, n2, x, hr2, hn2, hx, hb2⟩
    have hn2b : n2 ≤ k + 1 := hn2.le (by rw [pw_succ]; have := HSk.out; omega)
    have H2 := hide (And.intro hr2 (And.intro hn2 hb2))
    clear hr2 hn2 hb2 HNR
    go_wp2_with fail
    refine (product_any r2 r2 n2 x n2 x w2 H2.out.1 H2.out.1 (by omega)).mono ?_
    rintro e w3 ⟨r3, rfl, n3, hr3, hn3, _, hb3⟩
    have H3 := hide (And.intro hr3 (And.intro hn3 hb3))
    clear hr3 hn3 hb3
    go_wp2_with fail
    refine (compare_below r3 _ n3 (x * x) k A w3 H3.out.1 ((HR.out.below H2.out.2.2).below H3.out.2.2) H3.out.2.1 HN.out).mono ?_
    rintro e w4 ⟨rfl, hb4⟩
    have H4 := hide ((H3.out.2.2).trans (hb4.mono H3.out.2.2.size))
    clear hb4
    rcases hx with rfl | rfl
    · generalize cmpI (x * x) A = cc at *
      go_wp2_with fail
      refine (fresh_any r2 n2 x w4 (H2.out.1.below H4.out)).mono ?_
      rintro e w5 ⟨r5, rfl, ho5, hb5⟩
      have H5 : Hid (Own w5 w1.heap.size r5 n2 x ∧ Below w1.heap.size w1 w5) := by
        have hs2 := H2.out.2.2.size
        have hs4 := H4.out.size
        exact ⟨ho5.mono (by omega), H2.out.2.2.trans ((H4.out.mono hs2).trans (hb5.mono (by omega)))⟩
      clear ho5 hb5
      go_wp2_with fail
      go_ret3
      exact ⟨r5, n2, by rw [← HD.out]; rfl, H5.out.1, H2.out.2.1, H5.out.2⟩
    · have hgt : cmpI ((S + 1) * (S + 1)) A = 1 := cmpI_gt HS.out.2
      rw [hgt]
      clear hgt
      go_wp2_with fail
      refine (From_any 1 w4 (by omega)).mono ?_
      rintro e w5 ⟨r5, rfl, k5, ho5, hn5, hk5, hb5⟩
      have H5 := hide (And.intro ho5.row (H4.out.trans (hb5.mono H4.out.size)))
      clear ho5 hn5 hb5
      go_wp2_with fail
      refine (difference_any r2 r5 n2 (S + 1) k5 1 w5 (H2.out.1.below H5.out.2) H5.out.1 (by omega)).mono ?_
      rintro e w6 ⟨r6, rfl, n6, hr6, hn6, hk6, hb6⟩
      rw [Nat.add_sub_cancel] at hr6 hn6
      have H6 := hide (And.intro hr6.row (And.intro hn6 (H5.out.2.trans (hb6.mono H5.out.2.size))))
      clear hr6 hn6 hb6
      go_wp2_with fail
      refine (product_any r6 r6 n6 S n6 S w6 H6.out.1 H6.out.1 (by omega)).mono ?_
      rintro e w7 ⟨r7, rfl, n7, hr7, hn7, _, hb7⟩
      have H7 := hide (And.intro hr7 (And.intro hn7 (And.intro hb7 (H6.out.2.2.trans (hb7.mono H6.out.2.2.size)))))
      clear hr7 hn7 hb7
      go_wp2_with fail
      refine (compare_below r7 _ n7 (S * S) k A w7 H7.out.1 ((HR.out.below H2.out.2.2).below H7.out.2.2.2) H7.out.2.1 HN.out).mono ?_
      rintro e w8 ⟨rfl, hb8⟩
      have H8 := hide (And.intro (H7.out.2.2.1.trans (hb8.mono H7.out.2.2.1.size)) (H7.out.2.2.2.trans (hb8.mono H7.out.2.2.2.size)))
      clear hb8
      generalize cmpI (S * S) A = cc at *
      go_wp2_with fail
      refine (fresh_any r6 n6 S w8 (RowX.below H6.out.1 H8.out.1)).mono ?_
      rintro e w9 ⟨r9, rfl, ho9, hb9⟩
      have H9 : Hid (Own w9 w1.heap.size r9 n6 S ∧ Below w1.heap.size w1 w9) := by
        have hs2 := H2.out.2.2.size
        have hs8 := H8.out.2.size
        exact ⟨ho9.mono (by omega), H2.out.2.2.trans ((H8.out.2.mono hs2).trans (hb9.mono (by omega)))⟩
      clear ho9 hb9
      go_wp2_with fail
      go_ret3
      exact ⟨r9, n6, by rw [← HD.out]; rfl, H9.out.1, H6.out.2.1, H9.out.2⟩

end Go.Proofs.Ytanijhgmgldiiaa
