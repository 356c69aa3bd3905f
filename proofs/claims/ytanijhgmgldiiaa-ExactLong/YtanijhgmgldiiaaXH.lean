/- ExactLong: its numbers, its walk. -/
import Derived.Test.YtanijhgmgldiiaaXG
namespace Go.Proofs.Ytanijhgmgldiiaa
open Go.RowKit
open M
open Flt (cutN)
set_option linter.unusedVariables false
set_option linter.unusedSimpArgs false

theorem dg_top {J j : Nat} (h : j ≤ J) : dg (4294967296 ^ J) j = if j = J then 1 else 0 := by
  unfold dg
  obtain ⟨d, rfl⟩ : ∃ d, J = j + d := ⟨J - j, by omega⟩
  rw [Nat.pow_add, Nat.mul_div_cancel_left _ (pw_pos j)]
  cases d with
  | zero => simp
  | succ d => rw [if_neg (by omega), pw_succ, Nat.mul_mod_left]

theorem top_set {w : World} {g k j J : Nat} (h : Wk w g 0 k 0) (hj : j + 1 = k) (hJ : J = j) : Wk (w.setCell ⟨g, j, none⟩ (.int .u32 1)) g 0 k (4294967296 ^ J) := by
  refine ⟨by rw [← hj, hJ]; exact Nat.pow_lt_pow_right (by omega) (Nat.lt_succ_self _), ?_, ?_⟩
  · intro i hi
    have hc := h.cell i hi
    rw [Nat.zero_add] at hc ⊢
    by_cases e : i = j
    · subst e
      rw [cell_setCell_eq _ _ _ _ _ hc, dg_top (by omega), if_pos hJ.symm]; rfl
    · rw [cell_setCell_ne _ _ _ _ _ e, hc, dg_zero, dg_top (by omega), if_neg (by omega)]
  · intro i hi
    rw [frozen_setCell]; exact h.free i hi

theorem bitLen_pow (a : Nat) : bitLen (2 ^ a) = a + 1 := by
  have := bitLen_mul 1 a (by omega)
  rw [Nat.one_mul] at this
  rw [this]
  have : bitLen 1 = 1 := by decide
  omega

theorem upI_pow (a b s : Nat) : upI (2 ^ a) (2 ^ b) s = (b : Int) + (s : Int) - 1 - (a : Int) := by
  unfold upI; rw [bitLen_pow, bitLen_pow]; omega

theorem pow_quot {a b s N D : Nat} (hs : 1 ≤ s) (hD : 0 < D) (h : N * (2 ^ b * 2 ^ (-upI (2 ^ a) (2 ^ b) s).toNat) = 2 ^ a * 2 ^ (upI (2 ^ a) (2 ^ b) s).toNat * D) : N / D = 2 ^ (s - 1) ∧ mrB N D = false := by
  rw [upI_pow] at h
  have hq : 0 < 2 ^ b * 2 ^ (-((b : Int) + (s : Int) - 1 - (a : Int))).toNat := Nat.mul_pos (Nat.two_pow_pos _) (Nat.two_pow_pos _)
  have e : 2 ^ a * 2 ^ ((b : Int) + (s : Int) - 1 - (a : Int)).toNat = 2 ^ b * 2 ^ (-((b : Int) + (s : Int) - 1 - (a : Int))).toNat * 2 ^ (s - 1) := by
    rw [← Nat.pow_add, ← Nat.pow_add, ← Nat.pow_add]; congr 1; omega
  obtain ⟨c1, c2⟩ := cross_div hD hq h
  rw [e] at c1 c2
  constructor
  · rw [c1, Nat.mul_div_cancel_left _ hq]
  · unfold mrB
    rw [decide_eq_false]
    rw [Nat.mul_mod_right] at c2
    simp [c2]

theorem leadQ_pow {a b : Nat} {e : Int} {head : Nat} {more : Bool} {e' : Int} (h : LeadQ (2 ^ a) (2 ^ b) e head more e') : head = 9223372036854775808 ∧ more = false ∧ e' = nr e - ((b : Int) + 63 - (a : Int)) := by
  rcases h with ⟨h0, _⟩ | ⟨_, N, D, hD, hN, rfl, rfl, he, _⟩
  · exact absurd h0 (Nat.ne_of_gt (Nat.two_pow_pos a))
  · obtain ⟨q1, q2⟩ := pow_quot (by omega) hD hN
    rw [upI_pow] at he
    exact ⟨by rw [q1], q2, by omega⟩

theorem leadR_pow {a b : Nat} {e : Int} {head : Nat} {more : Bool} {e' : Int} (h : LeadR (2 ^ a) (2 ^ b) e head more e') (hp : (nr e + (a : Int) - (b : Int)) % 2 = 0) : head = 9223372036854775808 ∧ more = false ∧ 2 * e' = nr e - ((b : Int) + 126 - (a : Int)) := by
  rcases h with ⟨h0, _⟩ | ⟨_, s, N, D, hs, hD, hN, hS, rfl, he, _⟩
  · exact absurd h0 (Nat.ne_of_gt (Nat.two_pow_pos a))
  · rw [bitLen_pow, bitLen_pow] at hs
    obtain rfl : s = 127 := by omega
    obtain ⟨q1, q2⟩ := pow_quot (by omega) hD hN
    rw [upI_pow] at he
    rw [q1] at hS
    have h63 : Sq 9223372036854775808 (2 ^ (127 - 1)) := ⟨by decide, by decide⟩
    have e1 := hS.uniq h63
    refine ⟨e1, ?_, by omega⟩
    rw [q2, q1, e1]
    decide

theorem uns_one : unsF 53 1074 9218868437227405312 9223372036854775808 false (-63) = 4607182418800017408 := by decide +kernel
theorem uns_two : unsF 53 1074 9218868437227405312 9223372036854775808 false (-62) = 4611686018427387904 := by decide +kernel
theorem bl63 : bitLen 9223372036854775808 = 64 := by decide +kernel
theorem uns_none (e : Int) (h : e ≤ -10000) : unsF 53 1074 9218868437227405312 9223372036854775808 false e = 0 := by
  unfold unsF
  rw [if_neg (by omega)]
  have hs : stp 53 1074 9223372036854775808 e = -1074 := by unfold stp; rw [bl63]; omega
  rw [hs]
  have hc : cutN 9223372036854775808 ((-1074 - e).toNat - 1) false = 0 := cutN_far _ _ _ (by
    have := Nat.pow_le_pow_right (n := 2) (by omega) (show 64 ≤ (-1074 - e).toNat - 1 by omega)
    have h64 : (2 : Nat) ^ 64 = 18446744073709551616 := by decide
    omega)
  rw [hc]
  rfl
theorem uns_all (e : Int) (h : 10000 ≤ e) : unsF 53 1074 9218868437227405312 9223372036854775808 false e = 9218868437227405312 := by
  unfold unsF
  rw [if_neg (by omega)]
  have hs : 2048 ≤ (stp 53 1074 9223372036854775808 e + (1074 : Nat)).toNat := by unfold stp; rw [bl63]; omega
  generalize (stp 53 1074 9223372036854775808 e + (1074 : Nat)).toNat = k at *
  generalize cutN 9223372036854775808 ((stp 53 1074 9223372036854775808 e - e).toNat - 1) false = c
  refine Nat.min_eq_right ?_
  have h1 : 2048 * 2 ^ (53 - 1) ≤ k * 2 ^ (53 - 1) := Nat.mul_le_mul_right _ hs
  have h2 : 9218868437227405312 ≤ 2048 * 2 ^ (53 - 1) := by decide
  exact Nat.le_trans h2 (Nat.le_trans h1 (Nat.le_add_right _ _))

theorem num4 (e : Int) (w : World) : Calls Try.prog 7 #[.int .i64 e] w fun r w' => r = .returned (.int .i64 e) ∧ w' = w := by
  go_enter Try.func7, Try.ntmps7
  go_wp2_with fail
  go_ret
  exact ⟨rfl, rfl⟩

/-- What stands behind the start. -/
structure XLongSt (w wr : World) (J : Nat) (big long one : Value) (k9 N9 : Nat) : Prop where
  big : Num wr big (2 ^ (32 * J))
  one : Num wr one (2 ^ 0)
  long : Row wr long k9 N9
  bel : Below w.heap.size w wr

theorem XLongSt.below {w wr x : World} {J : Nat} {big long one : Value} {k9 N9 : Nat} (h : XLongSt w wr J big long one k9 N9) (hb : Below wr.heap.size wr x) : XLongSt w x J big long one k9 N9 :=
  ⟨h.big.below hb, h.one.below hb, Row.below h.long hb, h.bel.trans (hb.mono h.bel.size)⟩

/-- What a ratio of powers of 2 tells. -/
theorem ratio_pow {v u : Value} {a b : Nat} {w : World} (neg : Bool) (e0 : Int) (val : Nat) (h : Num w v (2 ^ a)) (h' : Num w u (2 ^ b)) (hv : wdX neg 9223372036854775808 (unsF 53 1074 9218868437227405312 9223372036854775808 false (nr e0 - ((b : Int) + 63 - (a : Int)))) = val) :
    Calls Try.prog 4 #[.bool neg, v, u, .int .i64 e0] w fun e w' => e = .returned (.tuple #[.int .u64 (val : Int), .int .i64 0]) ∧ Below w.heap.size w w' := by
  refine (Ratio_num neg e0 h h' (Nat.two_pow_pos b)).mono ?_
  rintro e w' ⟨head, more, e', rfl, hl, hb⟩
  obtain ⟨rfl, rfl, rfl⟩ := leadQ_pow hl
  rw [hv]
  exact ⟨rfl, hb⟩

theorem root_pow {v u : Value} {a b : Nat} {w : World} (e0 e' : Int) (val : Nat) (h : Num w v (2 ^ a)) (h' : Num w u (2 ^ b)) (hp : (nr e0 + (a : Int) - (b : Int)) % 2 = 0) (he : 2 * e' = nr e0 - ((b : Int) + 126 - (a : Int))) (hv : unsF 53 1074 9218868437227405312 9223372036854775808 false e' = val) :
    Calls Try.prog 5 #[v, u, .int .i64 e0] w fun e w' => e = .returned (.tuple #[.int .u64 (val : Int), .int .i64 0]) ∧ Below w.heap.size w w' := by
  refine (XRoot_num e0 h h' (Nat.two_pow_pos b)).mono ?_
  rintro e w' ⟨head, more, e2, rfl, hl, hb⟩
  obtain ⟨rfl, rfl, h3⟩ := leadR_pow hl hp
  obtain rfl : e2 = e' := by omega
  rw [hv]
  exact ⟨rfl, hb⟩

theorem one_row (w : World) (t : TypeId) : Num (w.alloc (.cells #[.int .u32 1] t)) (.slice (some ⟨w.heap.size, 0, none⟩) 1 1) (2 ^ 0) := by
  refine ⟨1, ⟨by decide, by decide, _, _, rfl, Nat.le_refl _, fun _ => ⟨w.heap.size, 0, rfl, trivial, fun j hj => ?_⟩⟩, ⟨by decide, .inr (by decide)⟩, by decide⟩
  obtain rfl : j = 0 := by omega
  exact cell_row w _ _ 0 _ rfl

theorem two_row (w : World) (t : TypeId) : Row (w.alloc (.cells #[.int .u32 1, .int .u32 0] t)) (.slice (some ⟨w.heap.size, 0, none⟩) 2 2) 2 1 := by
  refine ⟨by decide, by decide, _, _, rfl, Nat.le_refl _, fun _ => ⟨w.heap.size, 0, rfl, trivial, fun j hj => ?_⟩⟩
  have : j = 0 ∨ j = 1 := by omega
  rcases this with rfl | rfl
  · exact cell_row w _ _ 0 _ rfl
  · exact cell_row w _ _ 1 _ rfl

theorem big_num {wa : World} {g k8 J : Nat} (h : Wk wa g 0 k8 0) (h8 : 8191 + 1 = k8) (hJ : J = 8191) : Num (wa.setCell ⟨g, 8191, none⟩ (.int .u32 1)) (.slice (some ⟨g, 0, none⟩) k8 k8) (2 ^ (32 * J)) := by
  have hw := top_set (J := J) h h8 hJ
  rw [pw_two] at hw
  refine ⟨k8, hw.row (S := fun _ => True) (by omega) (Nat.le_refl _) trivial _ (fun _ => rfl), ⟨hw.lt, .inr ?_⟩, by omega⟩
  rw [pw_two, show k8 - 1 = J by omega]
  exact Nat.le_refl _

theorem long_row {wa : World} {g k9 : Nat} (h : Wk wa g 0 k9 0) (h9 : 8192 + 1 = k9) : ∃ N, Row (wa.setCell ⟨g, 8192, none⟩ (.int .u32 1)) (.slice (some ⟨g, 0, none⟩) k9 k9) k9 N := by
  obtain ⟨I, hI⟩ : ∃ I : Nat, I = 8192 := ⟨_, rfl⟩
  have hw := top_set (J := I) h h9 hI
  exact ⟨_, hw.row (S := fun _ => True) (by omega) (Nat.le_refl _) trivial _ (fun _ => rfl)⟩

theorem wk_made (w : World) (k : Nat) : Wk (w.alloc (.cells (madeCells #[Value.int .u32 0] k) 24)) w.heap.size 0 k 0 ∧ Below w.heap.size w (w.alloc (.cells (madeCells #[Value.int .u32 0] k) 24)) :=
  ⟨wk_of_block (pw_pos _) (make_block w k), (Below.refl _ _).alloc (Nat.le_refl _) _⟩

set_option maxRecDepth 100000 in
set_option maxHeartbeats 8000000 in
theorem long_any (w : World) : Calls Try.prog 3 #[] w fun e w' => e = .returned (.bool true) ∧ Below w.heap.size w w' := by
  obtain ⟨i5, hi5⟩ := info32
  have Hi := hide hi5
  clear hi5
  obtain ⟨J, hJ⟩ : ∃ J : Nat, J = 8191 := ⟨_, rfl⟩
  obtain ⟨k8, hk8⟩ : ∃ k8 : Nat, k8 = 8192 := ⟨_, rfl⟩
  obtain ⟨k9, hk9⟩ : ∃ k9 : Nat, k9 = 8193 := ⟨_, rfl⟩
  have hk8i : (k8 : Int) = 8192 := by omega
  have hk9i : (k9 : Int) = 8193 := by omega
  have HJ := hide (And.intro hJ (And.intro hk8 hk9))
  clear hJ hk8 hk9
  go_enter Try.func3, Try.ntmps3
  go_wp2_with (first | (at_make; refine wpList_make_row _ rfl _ _ _ rfl 24 i5 (.int .u32 0) Try.underlying23 Hi.out.1 Hi.out.2.1 Hi.out.2.2.1 rfl .i64 .i64 k8 (by rw [hk8i]; rfl) (by rw [hk8i]; rfl) (by rw [Hi.out.2.2.2]; omega) (by omega) ?_; have HF := hide (wk_made w k8); generalize (w.alloc (.cells (madeCells #[Value.int .u32 0] k8) 24)) = wa at *; have c8 : wa.cell? ⟨w.heap.size, 8191, none⟩ = some (.int .u32 0) := (by have := HF.out.1.cell 8191 (by have := HJ.out.2.1; omega); rw [dg_zero] at this; simpa using this); have f8 : wa.frozen? ⟨w.heap.size, 8191, none⟩ = false := (by have := HF.out.1.free 8191 (by have := HJ.out.2.1; omega); simpa using this)) | (at_make; go_must (refine wpList_make_row _ rfl _ _ _ rfl 24 i5 (.int .u32 0) Try.underlying23 Hi.out.1 Hi.out.2.1 Hi.out.2.2.1 rfl .i64 .i64 k9 (by rw [hk9i]; rfl) (by rw [hk9i]; rfl) (by rw [Hi.out.2.2.2]; omega) (by omega) ?_); go_must (have HG : Hid (Num (wa.setCell ⟨w.heap.size, 8191, none⟩ (.int .u32 1)) (.slice (some ⟨w.heap.size, 0, none⟩) k8 k8) (2 ^ (32 * J)) ∧ Below w.heap.size w (wa.setCell ⟨w.heap.size, 8191, none⟩ (.int .u32 1))) := ⟨big_num (J := J) HF.out.1 (by have := HJ.out.2.1; omega) HJ.out.1, HF.out.2.setCell (Nat.le_refl _) _⟩); go_must (generalize wa.setCell ⟨w.heap.size, 8191, none⟩ (.int .u32 1) = wb at *); go_must (have HF2 := hide (wk_made wb k9)); go_must (generalize (wb.alloc (.cells (madeCells #[Value.int .u32 0] k9) 24)) = wc at *); go_must (have c9 : wc.cell? ⟨wb.heap.size, 8192, none⟩ = some (.int .u32 0) := (by have := HF2.out.1.cell 8192 (by have := HJ.out.2.2; omega); rw [dg_zero] at this; simpa using this)); go_must (have f9 : wc.frozen? ⟨wb.heap.size, 8192, none⟩ = false := (by have := HF2.out.1.free 8192 (by have := HJ.out.2.2; omega); simpa using this)); clear c8 f8 HF))
  obtain ⟨N9, hlong⟩ := long_row HF2.out.1 (by have := HJ.out.2.2; omega)
  have hbc : Below wb.heap.size wb (wc.setCell ⟨wb.heap.size, 8192, none⟩ (.int .u32 1)) := HF2.out.2.setCell (Nat.le_refl _) _
  have hsz : (wc.setCell ⟨wb.heap.size, 8192, none⟩ (.int .u32 1)).heap.size = wc.heap.size := by simp
  have hone := one_row (wc.setCell ⟨wb.heap.size, 8192, none⟩ (.int .u32 1)) 24
  rw [hsz] at hone
  have hbd : Below (wc.setCell ⟨wb.heap.size, 8192, none⟩ (.int .u32 1)).heap.size (wc.setCell ⟨wb.heap.size, 8192, none⟩ (.int .u32 1)) ((wc.setCell ⟨wb.heap.size, 8192, none⟩ (.int .u32 1)).alloc (.cells #[.int .u32 1] 24)) := (Below.refl _ _).alloc (Nat.le_refl _) _
  have L0 : Hid (XLongSt w ((wc.setCell ⟨wb.heap.size, 8192, none⟩ (.int .u32 1)).alloc (.cells #[.int .u32 1] 24)) J (.slice (some ⟨w.heap.size, 0, none⟩) k8 k8) (.slice (some ⟨wb.heap.size, 0, none⟩) k9 k9) (.slice (some ⟨wc.heap.size, 0, none⟩) 1 1) k9 N9) :=
    ⟨(HG.out.1.below hbc).below hbd, hone, Row.below hlong hbd, (HG.out.2.trans (hbc.mono HG.out.2.size)).trans (hbd.mono (Nat.le_trans HG.out.2.size hbc.size))⟩
  generalize ((wc.setCell ⟨wb.heap.size, 8192, none⟩ (.int .u32 1)).alloc (.cells #[.int .u32 1] 24)) = y0 at *
  have hj := HJ.out
  have v1 : wdX false 9223372036854775808 (unsF 53 1074 9218868437227405312 9223372036854775808 false (nr 0 - (((32 * J : Nat) : Int) + 63 - ((32 * J : Nat) : Int)))) = 4607182418800017408 := by
    rw [show nr 0 - (((32 * J : Nat) : Int) + 63 - ((32 * J : Nat) : Int)) = -63 by unfold nr; omega, uns_one]; rfl
  have v6 : wdX false 9223372036854775808 (unsF 53 1074 9218868437227405312 9223372036854775808 false (nr (-4611686018427387904) - (((0 : Nat) : Int) + 63 - ((32 * J : Nat) : Int)))) = 0 := by
    rw [uns_none _ (by unfold nr; omega)]; rfl
  have v7 : wdX true 9223372036854775808 (unsF 53 1074 9218868437227405312 9223372036854775808 false (nr 4611686018427387904 - (((32 * J : Nat) : Int) + 63 - ((0 : Nat) : Int)))) = 18442240474082181120 := by
    rw [uns_all _ (by unfold nr; omega)]; rfl
  have p2 : (nr (-262110) + ((32 * J : Nat) : Int) - ((0 : Nat) : Int)) % 2 = 0 := by unfold nr; omega
  have q2 : 2 * (-62 : Int) = nr (-262110) - (((0 : Nat) : Int) + 126 - ((32 * J : Nat) : Int)) := by unfold nr; omega
  have c9' : chk k9 N9 ≠ 0 := by unfold chk; rw [if_pos (by omega)]; omega
  have c2' : chk 2 1 ≠ 0 := by decide
  have V1 := hide v1
  have V2 := hide (And.intro p2 q2)
  have V6 := hide v6
  have V7 := hide v7
  have C9 := hide c9'
  clear v1 v6 v7 p2 q2 c9' hj hlong hbc hsz hone hbd c9 f9 HF2 HG
  refine (ratio_pow false 0 _ L0.out.big L0.out.big V1.out).mono ?_
  rintro e y1 ⟨rfl, hb⟩
  have L1 := hide (L0.out.below hb)
  clear hb L0
  go_wp2_with fail
  refine (root_pow (-262110) (-62) _ L1.out.big L1.out.one V2.out.1 V2.out.2 uns_two).mono ?_
  rintro e y2 ⟨rfl, hb⟩
  have L2 := hide (L1.out.below hb)
  clear hb L1
  go_wp2_with fail
  refine (Ratio_bad 41 true 0 rfl (chkR_badp L2.out.long C9.out)).mono ?_
  rintro e y3 ⟨rfl, hw⟩
  have hw := hw.symm
  subst hw
  have L3 := L2
  clear L2
  go_wp2_with fail
  have hb4 : Below y2.heap.size y2 (y2.alloc (.cells #[.int .u32 1, .int .u32 0] 24)) := (Below.refl _ _).alloc (Nat.le_refl _) _
  have L3b := hide (L3.out.below hb4)
  have T2 := hide (two_row y2 24)
  clear hb4 L3
  refine (Root_bad 41 0 rfl (chkR_badq L3b.out.one T2.out c2')).mono ?_
  rintro e y4 ⟨rfl, hw⟩
  have hw := hw.symm
  subst hw
  have L4 := L3b
  clear L3b T2
  generalize (y2.alloc (.cells #[.int .u32 1, .int .u32 0] 24)) = z4 at *
  go_wp2_with fail
  refine (Ratio32_bad 42 false 0 rfl (chkR_zero L4.out.one)).mono ?_
  rintro e y5 ⟨rfl, hw⟩
  have hw := hw.symm
  subst hw
  have L5 := L4
  clear L4
  go_wp2_with fail
  refine (ratio_pow false (-4611686018427387904) _ L5.out.big L5.out.one V6.out).mono ?_
  rintro e y6 ⟨rfl, hb⟩
  have L6 := hide (L5.out.below hb)
  clear hb L5
  go_wp2_with fail
  refine (ratio_pow true 4611686018427387904 _ L6.out.one L6.out.big V7.out).mono ?_
  rintro e y7 ⟨rfl, hb⟩
  have L7 := hide (L6.out.below hb)
  clear hb L6
  go_wp2_with fail
  refine (num4 _ _).mono ?_
  rintro e u0 ⟨rfl, hw⟩
  have hw := hw.symm
  subst hw
  go_wp2_with fail
  refine (num4 _ _).mono ?_
  rintro e u0 ⟨rfl, hw⟩
  have hw := hw.symm
  subst hw
  go_wp2_with fail
  refine (num4 _ _).mono ?_
  rintro e u0 ⟨rfl, hw⟩
  have hw := hw.symm
  subst hw
  go_wp2_with fail
  refine (num4 _ _).mono ?_
  rintro e u0 ⟨rfl, hw⟩
  have hw := hw.symm
  subst hw
  go_wp2_with fail
  refine (num4 _ _).mono ?_
  rintro e u0 ⟨rfl, hw⟩
  have hw := hw.symm
  subst hw
  go_wp2_with fail
  refine (num4 _ _).mono ?_
  rintro e u0 ⟨rfl, hw⟩
  have hw := hw.symm
  subst hw
  go_wp2_with fail
  refine (num4 _ _).mono ?_
  rintro e u0 ⟨rfl, hw⟩
  have hw := hw.symm
  subst hw
  go_wp2_with fail
  go_ret
  exact ⟨rfl, L7.out.bel⟩
end Go.Proofs.Ytanijhgmgldiiaa
