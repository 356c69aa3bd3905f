/- LimbRing's walk. -/
import Derived.Test.YtfbkdjghbgdgpaaT
namespace Go.Proofs.Ytfbkdjghbgdgpaa
open Go.RowKit
open M
set_option linter.unusedVariables false
set_option linter.unusedSimpArgs false

theorem IsRows.below {w w' : World} {aL : Option Addr} {nL : Nat} (h : IsRows w aL nL) (hb : Below w.heap.size w w') : IsRows w' aL nL := by
  refine ⟨h.1, fun hn => ?_⟩
  obtain ⟨g, o, ha, hg, hj⟩ := h.2 hn
  refine ⟨g, o, ha, Nat.lt_of_lt_of_le hg hb.size, fun i hi => ?_⟩
  obtain ⟨v, k, N, h1, h2⟩ := hj i hi
  exact ⟨v, k, N, by rw [hb.cell (p := ⟨g, o + i, none⟩) hg]; exact h1, h2.belowB hb⟩

theorem eq_true {v u : Value} {A C : Nat} {w : World} (h : Num w v A) (h' : Num w u C) (hAC : A = C) :
    Calls Try.prog 16 #[v, u] w fun e w' => e = .returned (.bool true) ∧ Below w.heap.size w w' := by
  have := eq_num h h'; rwa [decide_eq_true hAC] at this

theorem eq_false {v u : Value} {A C : Nat} {w : World} (h : Num w v A) (h' : Num w u C) (hAC : A ≠ C) :
    Calls Try.prog 16 #[v, u] w fun e w' => e = .returned (.bool false) ∧ Below w.heap.size w w' := by
  have := eq_num h h'; rwa [decide_eq_false hAC] at this

theorem cmp_is {v u : Value} {A C : Nat} {w : World} (h : Num w v A) (h' : Num w u C) (c : Int) (hc : cmpI A C = c) :
    Calls Try.prog 21 #[v, u] w fun e w' => e = .returned (.int .i64 c) ∧ Below w.heap.size w w' :=
  (Cmp_ok h h').mono fun e w' ⟨h1, n, h2⟩ => ⟨by rw [h1, hc], by rw [h2]; exact below_drewN (Below.refl _ _) n⟩

theorem from_num (n : Nat) (w : World) (hn : n < 18446744073709551616) :
    Calls Try.prog 20 #[.int .u64 n] w fun e w' => ∃ r, e = .returned r ∧ Num w' r n ∧ Below w.heap.size w w' :=
  (From_any n w hn).mono fun e w' ⟨r, h1, k, h2, h3, h4, h5⟩ => ⟨r, h1, ⟨k, h2.row, h3, by omega⟩, h5⟩

theorem add_lt_pow {a b i : Nat} (h : a < 4294967296 ^ i) (h' : b < 4294967296 ^ i) : a + b < 4294967296 ^ (i + 1) := by rw [pw_succ]; omega

theorem lt_pow_succ {a i : Nat} (h : a < 4294967296 ^ i) : a < 4294967296 ^ (i + 1) := by rw [pw_succ]; omega

theorem ring_fits0 {A B C m : Nat} (hAl : A < 4294967296 ^ m) (hBl : B < 4294967296 ^ m) (hCl : C < 4294967296 ^ m) (hm : m ≤ 300) : Fits (A + B) ∧ Fits (B + A) ∧ Fits (A + B + C) ∧ Fits (B + C) ∧ Fits (A + (B + C)) ∧ Fits (A + 0) := by
  have h1 := add_lt_pow hAl hBl
  have h2 := add_lt_pow hBl hCl
  have hC2 := lt_pow_succ hCl
  have hA2 := lt_pow_succ hAl
  exact ⟨fits_of (k := m + 1) (by omega) h1, by rw [Nat.add_comm]; exact fits_of (k := m + 1) (by omega) h1, fits_of (k := m + 1 + 1) (by omega) (add_lt_pow h1 hC2), fits_of (k := m + 1) (by omega) h2, fits_of (k := m + 1 + 1) (by omega) (add_lt_pow hA2 h2), fits_of (k := m) (by omega) hAl⟩

theorem ring_fits1 {A B C m : Nat} (hAl : A < 4294967296 ^ m) (hBl : B < 4294967296 ^ m) (hCl : C < 4294967296 ^ m) (hm : m ≤ 300) : Fits (A * B) ∧ Fits (B * A) ∧ Fits (A * B * C) ∧ Fits (B * C) ∧ Fits (A * (B * C)) ∧ Fits (A * (B + C)) ∧ Fits (A * C) ∧ Fits (A * B + A * C) ∧ Fits (A * 1) ∧ Fits (A * 0) := by
  have h1 := mul_lt_pow hAl hBl
  have h2 := mul_lt_pow hBl hCl
  have h3 := mul_lt_pow hAl hCl
  have hs := add_lt_pow hBl hCl
  exact ⟨fits_of (k := m + m) (by omega) h1, by rw [Nat.mul_comm]; exact fits_of (k := m + m) (by omega) h1, fits_of (k := m + m + m) (by omega) (mul_lt_pow h1 hCl), fits_of (k := m + m) (by omega) h2, fits_of (k := m + (m + m)) (by omega) (mul_lt_pow hAl h2), fits_of (k := m + (m + 1)) (by omega) (mul_lt_pow hAl hs), fits_of (k := m + m) (by omega) h3, fits_of (k := m + m + 1) (by omega) (add_lt_pow h1 h3), by rw [Nat.mul_one]; exact fits_of (k := m) (by omega) hAl, by rw [Nat.mul_zero]; exact fits_of (k := 0) (by omega) (by simp)⟩

theorem num_len {v : Value} {N : Nat} {w : World} (h : Num w v N) : ∃ ad k cap, v = .slice ad k cap ∧ (k = 0 ↔ N = 0) ∧ k ≤ 8192 := by
  obtain ⟨k, h1, h2, h3⟩ := h
  obtain ⟨_, _, ad, cap, hv, _⟩ := h1
  exact ⟨ad, k, cap, hv, h2.zero_iff, h3⟩

set_option maxRecDepth 100000 in
set_option maxHeartbeats 4000000 in
theorem ring_any (aL aN : Option Addr) (nL cL nN cN : Nat) (w : World) (h : IsRows w aL nL) :
    Calls Try.prog 4 #[.agg #[.slice aL nL cL, .slice aN nN cN]] w fun e w' => e = .returned (.bool true) ∧ Below w.heap.size w w' := by
  have HB0 : Hid (Below w.heap.size w (w.alloc (.cells #[.slice aL nL cL, .slice aN nN cN] 43))) := (Below.refl _ _).alloc (Nat.le_refl _) _
  have HR := hide (h.below HB0.out)
  clear h
  go_enter Try.func4, Try.ntmps4
  go_wp2_with fail
  refine (three_any aL aN nL cL nN cN 300 _ HR.out (by omega)).mono ?_
  rintro e w0 ⟨a, b, c, rfl, A, B, C, hA, hB, hC, hAl, hBl, hCl, hb⟩
  have HL := hide (And.intro hAl (And.intro hBl hCl))
  have F0 := hide (ring_fits0 hAl hBl hCl (by omega))
  have F1 := hide (ring_fits1 hAl hBl hCl (by omega))

  have H0 : Hid (Num w0 a (A) ∧ Num w0 b (B) ∧ Num w0 c (C) ∧ Below w.heap.size w w0) := ⟨hA, hB, hC, HB0.out.trans (hb.mono HB0.out.size)⟩
  clear hA hB hC hAl hBl hCl hb HB0 HR
  go_wp2_with fail
  refine (add_num H0.out.1 H0.out.2.1 F0.out.1).mono ?_
  rintro e w1 ⟨x1, rfl, hr, hb⟩
  have H1 : Hid (Num w1 a (A) ∧ Num w1 b (B) ∧ Num w1 c (C) ∧ Num w1 x1 (A + B) ∧ Below w.heap.size w w1) := ⟨H0.out.1.below hb, H0.out.2.1.below hb, H0.out.2.2.1.below hb, hr, H0.out.2.2.2.trans (hb.mono H0.out.2.2.2.size)⟩
  clear H0 hb hr
  go_wp2_with fail
  refine (add_num H1.out.2.1 H1.out.1 F0.out.2.1).mono ?_
  rintro e w2 ⟨x2, rfl, hr, hb⟩
  have H2 : Hid (Num w2 a (A) ∧ Num w2 b (B) ∧ Num w2 c (C) ∧ Num w2 x1 (A + B) ∧ Num w2 x2 (B + A) ∧ Below w.heap.size w w2) := ⟨H1.out.1.below hb, H1.out.2.1.below hb, H1.out.2.2.1.below hb, H1.out.2.2.2.1.below hb, hr, H1.out.2.2.2.2.trans (hb.mono H1.out.2.2.2.2.size)⟩
  clear H1 hb hr
  go_wp2_with fail
  refine (eq_true H2.out.2.2.2.1 H2.out.2.2.2.2.1 (Nat.add_comm _ _)).mono ?_
  rintro e w3 ⟨rfl, hb⟩
  have H3 : Hid (Num w3 a (A) ∧ Num w3 b (B) ∧ Num w3 c (C) ∧ Below w.heap.size w w3) := ⟨H2.out.1.below hb, H2.out.2.1.below hb, H2.out.2.2.1.below hb, H2.out.2.2.2.2.2.trans (hb.mono H2.out.2.2.2.2.2.size)⟩
  clear H2 hb
  go_wp2_with fail
  refine (add_num H3.out.1 H3.out.2.1 F0.out.1).mono ?_
  rintro e w4 ⟨x3, rfl, hr, hb⟩
  have H4 : Hid (Num w4 a (A) ∧ Num w4 b (B) ∧ Num w4 c (C) ∧ Num w4 x3 (A + B) ∧ Below w.heap.size w w4) := ⟨H3.out.1.below hb, H3.out.2.1.below hb, H3.out.2.2.1.below hb, hr, H3.out.2.2.2.trans (hb.mono H3.out.2.2.2.size)⟩
  clear H3 hb hr
  go_wp2_with fail
  refine (add_num H4.out.2.2.2.1 H4.out.2.2.1 F0.out.2.2.1).mono ?_
  rintro e w5 ⟨x4, rfl, hr, hb⟩
  have H5 : Hid (Num w5 a (A) ∧ Num w5 b (B) ∧ Num w5 c (C) ∧ Num w5 x4 (A + B + C) ∧ Below w.heap.size w w5) := ⟨H4.out.1.below hb, H4.out.2.1.below hb, H4.out.2.2.1.below hb, hr, H4.out.2.2.2.2.trans (hb.mono H4.out.2.2.2.2.size)⟩
  clear H4 hb hr
  go_wp2_with fail
  refine (add_num H5.out.2.1 H5.out.2.2.1 F0.out.2.2.2.1).mono ?_
  rintro e w6 ⟨x5, rfl, hr, hb⟩
  have H6 : Hid (Num w6 a (A) ∧ Num w6 b (B) ∧ Num w6 c (C) ∧ Num w6 x4 (A + B + C) ∧ Num w6 x5 (B + C) ∧ Below w.heap.size w w6) := ⟨H5.out.1.below hb, H5.out.2.1.below hb, H5.out.2.2.1.below hb, H5.out.2.2.2.1.below hb, hr, H5.out.2.2.2.2.trans (hb.mono H5.out.2.2.2.2.size)⟩
  clear H5 hb hr
  go_wp2_with fail
  refine (add_num H6.out.1 H6.out.2.2.2.2.1 F0.out.2.2.2.2.1).mono ?_
  rintro e w7 ⟨x6, rfl, hr, hb⟩
  have H7 : Hid (Num w7 a (A) ∧ Num w7 b (B) ∧ Num w7 c (C) ∧ Num w7 x4 (A + B + C) ∧ Num w7 x6 (A + (B + C)) ∧ Below w.heap.size w w7) := ⟨H6.out.1.below hb, H6.out.2.1.below hb, H6.out.2.2.1.below hb, H6.out.2.2.2.1.below hb, hr, H6.out.2.2.2.2.2.trans (hb.mono H6.out.2.2.2.2.2.size)⟩
  clear H6 hb hr
  go_wp2_with fail
  refine (eq_true H7.out.2.2.2.1 H7.out.2.2.2.2.1 (Nat.add_assoc _ _ _)).mono ?_
  rintro e w8 ⟨rfl, hb⟩
  have H8 : Hid (Num w8 a (A) ∧ Num w8 b (B) ∧ Num w8 c (C) ∧ Below w.heap.size w w8) := ⟨H7.out.1.below hb, H7.out.2.1.below hb, H7.out.2.2.1.below hb, H7.out.2.2.2.2.2.trans (hb.mono H7.out.2.2.2.2.2.size)⟩
  clear H7 hb
  go_wp2_with fail
  refine (add_num H8.out.1 H8.out.2.1 F0.out.1).mono ?_
  rintro e w9 ⟨x7, rfl, hr, hb⟩
  have H9 : Hid (Num w9 a (A) ∧ Num w9 b (B) ∧ Num w9 c (C) ∧ Num w9 x7 (A + B) ∧ Below w.heap.size w w9) := ⟨H8.out.1.below hb, H8.out.2.1.below hb, H8.out.2.2.1.below hb, hr, H8.out.2.2.2.trans (hb.mono H8.out.2.2.2.size)⟩
  clear H8 hb hr
  go_wp2_with fail
  refine (sub_num H9.out.2.2.2.1 H9.out.2.1 (Nat.le_add_left _ _)).mono ?_
  rintro e w10 ⟨x8, rfl, hr, hb⟩
  have H10 : Hid (Num w10 a (A) ∧ Num w10 b (B) ∧ Num w10 c (C) ∧ Num w10 x8 ((A + B) - B) ∧ Below w.heap.size w w10) := ⟨H9.out.1.below hb, H9.out.2.1.below hb, H9.out.2.2.1.below hb, hr, H9.out.2.2.2.2.trans (hb.mono H9.out.2.2.2.2.size)⟩
  clear H9 hb hr
  go_wp2_with fail
  refine (eq_true H10.out.2.2.2.1 H10.out.1 (Nat.add_sub_cancel _ _)).mono ?_
  rintro e w11 ⟨rfl, hb⟩
  have H11 : Hid (Num w11 a (A) ∧ Num w11 b (B) ∧ Num w11 c (C) ∧ Below w.heap.size w w11) := ⟨H10.out.1.below hb, H10.out.2.1.below hb, H10.out.2.2.1.below hb, H10.out.2.2.2.2.trans (hb.mono H10.out.2.2.2.2.size)⟩
  clear H10 hb
  go_wp2_with fail
  refine (add_num H11.out.1 (Num.nil _) F0.out.2.2.2.2.2).mono ?_
  rintro e w12 ⟨x9, rfl, hr, hb⟩
  have H12 : Hid (Num w12 a (A) ∧ Num w12 b (B) ∧ Num w12 c (C) ∧ Num w12 x9 (A + 0) ∧ Below w.heap.size w w12) := ⟨H11.out.1.below hb, H11.out.2.1.below hb, H11.out.2.2.1.below hb, hr, H11.out.2.2.2.trans (hb.mono H11.out.2.2.2.size)⟩
  clear H11 hb hr
  go_wp2_with fail
  refine (eq_true H12.out.2.2.2.1 H12.out.1 (Nat.add_zero _)).mono ?_
  rintro e w13 ⟨rfl, hb⟩
  have H13 : Hid (Num w13 a (A) ∧ Num w13 b (B) ∧ Num w13 c (C) ∧ Below w.heap.size w w13) := ⟨H12.out.1.below hb, H12.out.2.1.below hb, H12.out.2.2.1.below hb, H12.out.2.2.2.2.trans (hb.mono H12.out.2.2.2.2.size)⟩
  clear H12 hb
  go_wp2_with fail
  refine (mul_num H13.out.1 H13.out.2.1 F1.out.1).mono ?_
  rintro e w14 ⟨y1, rfl, hr, hb⟩
  have H14 : Hid (Num w14 a (A) ∧ Num w14 b (B) ∧ Num w14 c (C) ∧ Num w14 y1 (A * B) ∧ Below w.heap.size w w14) := ⟨H13.out.1.below hb, H13.out.2.1.below hb, H13.out.2.2.1.below hb, hr, H13.out.2.2.2.trans (hb.mono H13.out.2.2.2.size)⟩
  clear H13 hb hr
  go_wp2_with fail
  refine (mul_num H14.out.2.1 H14.out.1 F1.out.2.1).mono ?_
  rintro e w15 ⟨y2, rfl, hr, hb⟩
  have H15 : Hid (Num w15 a (A) ∧ Num w15 b (B) ∧ Num w15 c (C) ∧ Num w15 y1 (A * B) ∧ Num w15 y2 (B * A) ∧ Below w.heap.size w w15) := ⟨H14.out.1.below hb, H14.out.2.1.below hb, H14.out.2.2.1.below hb, H14.out.2.2.2.1.below hb, hr, H14.out.2.2.2.2.trans (hb.mono H14.out.2.2.2.2.size)⟩
  clear H14 hb hr
  go_wp2_with fail
  refine (eq_true H15.out.2.2.2.1 H15.out.2.2.2.2.1 (Nat.mul_comm _ _)).mono ?_
  rintro e w16 ⟨rfl, hb⟩
  have H16 : Hid (Num w16 a (A) ∧ Num w16 b (B) ∧ Num w16 c (C) ∧ Below w.heap.size w w16) := ⟨H15.out.1.below hb, H15.out.2.1.below hb, H15.out.2.2.1.below hb, H15.out.2.2.2.2.2.trans (hb.mono H15.out.2.2.2.2.2.size)⟩
  clear H15 hb
  go_wp2_with fail
  refine (mul_num H16.out.1 H16.out.2.1 F1.out.1).mono ?_
  rintro e w17 ⟨y3, rfl, hr, hb⟩
  have H17 : Hid (Num w17 a (A) ∧ Num w17 b (B) ∧ Num w17 c (C) ∧ Num w17 y3 (A * B) ∧ Below w.heap.size w w17) := ⟨H16.out.1.below hb, H16.out.2.1.below hb, H16.out.2.2.1.below hb, hr, H16.out.2.2.2.trans (hb.mono H16.out.2.2.2.size)⟩
  clear H16 hb hr
  go_wp2_with fail
  refine (mul_num H17.out.2.2.2.1 H17.out.2.2.1 F1.out.2.2.1).mono ?_
  rintro e w18 ⟨y4, rfl, hr, hb⟩
  have H18 : Hid (Num w18 a (A) ∧ Num w18 b (B) ∧ Num w18 c (C) ∧ Num w18 y4 ((A * B) * C) ∧ Below w.heap.size w w18) := ⟨H17.out.1.below hb, H17.out.2.1.below hb, H17.out.2.2.1.below hb, hr, H17.out.2.2.2.2.trans (hb.mono H17.out.2.2.2.2.size)⟩
  clear H17 hb hr
  go_wp2_with fail
  refine (mul_num H18.out.2.1 H18.out.2.2.1 F1.out.2.2.2.1).mono ?_
  rintro e w19 ⟨y5, rfl, hr, hb⟩
  have H19 : Hid (Num w19 a (A) ∧ Num w19 b (B) ∧ Num w19 c (C) ∧ Num w19 y4 ((A * B) * C) ∧ Num w19 y5 (B * C) ∧ Below w.heap.size w w19) := ⟨H18.out.1.below hb, H18.out.2.1.below hb, H18.out.2.2.1.below hb, H18.out.2.2.2.1.below hb, hr, H18.out.2.2.2.2.trans (hb.mono H18.out.2.2.2.2.size)⟩
  clear H18 hb hr
  go_wp2_with fail
  refine (mul_num H19.out.1 H19.out.2.2.2.2.1 F1.out.2.2.2.2.1).mono ?_
  rintro e w20 ⟨y6, rfl, hr, hb⟩
  have H20 : Hid (Num w20 a (A) ∧ Num w20 b (B) ∧ Num w20 c (C) ∧ Num w20 y4 ((A * B) * C) ∧ Num w20 y6 (A * (B * C)) ∧ Below w.heap.size w w20) := ⟨H19.out.1.below hb, H19.out.2.1.below hb, H19.out.2.2.1.below hb, H19.out.2.2.2.1.below hb, hr, H19.out.2.2.2.2.2.trans (hb.mono H19.out.2.2.2.2.2.size)⟩
  clear H19 hb hr
  go_wp2_with fail
  refine (eq_true H20.out.2.2.2.1 H20.out.2.2.2.2.1 (Nat.mul_assoc _ _ _)).mono ?_
  rintro e w21 ⟨rfl, hb⟩
  have H21 : Hid (Num w21 a (A) ∧ Num w21 b (B) ∧ Num w21 c (C) ∧ Below w.heap.size w w21) := ⟨H20.out.1.below hb, H20.out.2.1.below hb, H20.out.2.2.1.below hb, H20.out.2.2.2.2.2.trans (hb.mono H20.out.2.2.2.2.2.size)⟩
  clear H20 hb
  go_wp2_with fail
  refine (add_num H21.out.2.1 H21.out.2.2.1 F0.out.2.2.2.1).mono ?_
  rintro e w22 ⟨z1, rfl, hr, hb⟩
  have H22 : Hid (Num w22 a (A) ∧ Num w22 b (B) ∧ Num w22 c (C) ∧ Num w22 z1 (B + C) ∧ Below w.heap.size w w22) := ⟨H21.out.1.below hb, H21.out.2.1.below hb, H21.out.2.2.1.below hb, hr, H21.out.2.2.2.trans (hb.mono H21.out.2.2.2.size)⟩
  clear H21 hb hr
  go_wp2_with fail
  refine (mul_num H22.out.1 H22.out.2.2.2.1 F1.out.2.2.2.2.2.1).mono ?_
  rintro e w23 ⟨z2, rfl, hr, hb⟩
  have H23 : Hid (Num w23 a (A) ∧ Num w23 b (B) ∧ Num w23 c (C) ∧ Num w23 z2 (A * (B + C)) ∧ Below w.heap.size w w23) := ⟨H22.out.1.below hb, H22.out.2.1.below hb, H22.out.2.2.1.below hb, hr, H22.out.2.2.2.2.trans (hb.mono H22.out.2.2.2.2.size)⟩
  clear H22 hb hr
  go_wp2_with fail
  refine (mul_num H23.out.1 H23.out.2.1 F1.out.1).mono ?_
  rintro e w24 ⟨z3, rfl, hr, hb⟩
  have H24 : Hid (Num w24 a (A) ∧ Num w24 b (B) ∧ Num w24 c (C) ∧ Num w24 z2 (A * (B + C)) ∧ Num w24 z3 (A * B) ∧ Below w.heap.size w w24) := ⟨H23.out.1.below hb, H23.out.2.1.below hb, H23.out.2.2.1.below hb, H23.out.2.2.2.1.below hb, hr, H23.out.2.2.2.2.trans (hb.mono H23.out.2.2.2.2.size)⟩
  clear H23 hb hr
  go_wp2_with fail
  refine (mul_num H24.out.1 H24.out.2.2.1 F1.out.2.2.2.2.2.2.1).mono ?_
  rintro e w25 ⟨z4, rfl, hr, hb⟩
  have H25 : Hid (Num w25 a (A) ∧ Num w25 b (B) ∧ Num w25 c (C) ∧ Num w25 z2 (A * (B + C)) ∧ Num w25 z3 (A * B) ∧ Num w25 z4 (A * C) ∧ Below w.heap.size w w25) := ⟨H24.out.1.below hb, H24.out.2.1.below hb, H24.out.2.2.1.below hb, H24.out.2.2.2.1.below hb, H24.out.2.2.2.2.1.below hb, hr, H24.out.2.2.2.2.2.trans (hb.mono H24.out.2.2.2.2.2.size)⟩
  clear H24 hb hr
  go_wp2_with fail
  refine (add_num H25.out.2.2.2.2.1 H25.out.2.2.2.2.2.1 F1.out.2.2.2.2.2.2.2.1).mono ?_
  rintro e w26 ⟨z5, rfl, hr, hb⟩
  have H26 : Hid (Num w26 a (A) ∧ Num w26 b (B) ∧ Num w26 c (C) ∧ Num w26 z2 (A * (B + C)) ∧ Num w26 z5 (A * B + A * C) ∧ Below w.heap.size w w26) := ⟨H25.out.1.below hb, H25.out.2.1.below hb, H25.out.2.2.1.below hb, H25.out.2.2.2.1.below hb, hr, H25.out.2.2.2.2.2.2.trans (hb.mono H25.out.2.2.2.2.2.2.size)⟩
  clear H25 hb hr
  go_wp2_with fail
  refine (eq_true H26.out.2.2.2.1 H26.out.2.2.2.2.1 (Nat.mul_add _ _ _)).mono ?_
  rintro e w27 ⟨rfl, hb⟩
  have H27 : Hid (Num w27 a (A) ∧ Num w27 b (B) ∧ Num w27 c (C) ∧ Below w.heap.size w w27) := ⟨H26.out.1.below hb, H26.out.2.1.below hb, H26.out.2.2.1.below hb, H26.out.2.2.2.2.2.trans (hb.mono H26.out.2.2.2.2.2.size)⟩
  clear H26 hb
  go_wp2_with fail
  refine (from_num 1 _ (by omega)).mono ?_
  rintro e w28 ⟨one, rfl, hr, hb⟩
  have H28 : Hid (Num w28 a (A) ∧ Num w28 b (B) ∧ Num w28 c (C) ∧ Num w28 one (1) ∧ Below w.heap.size w w28) := ⟨H27.out.1.below hb, H27.out.2.1.below hb, H27.out.2.2.1.below hb, hr, H27.out.2.2.2.trans (hb.mono H27.out.2.2.2.size)⟩
  clear H27 hb hr
  go_wp2_with fail
  refine (mul_num H28.out.1 H28.out.2.2.2.1 F1.out.2.2.2.2.2.2.2.2.1).mono ?_
  rintro e w29 ⟨z6, rfl, hr, hb⟩
  have H29 : Hid (Num w29 a (A) ∧ Num w29 b (B) ∧ Num w29 c (C) ∧ Num w29 z6 (A * 1) ∧ Below w.heap.size w w29) := ⟨H28.out.1.below hb, H28.out.2.1.below hb, H28.out.2.2.1.below hb, hr, H28.out.2.2.2.2.trans (hb.mono H28.out.2.2.2.2.size)⟩
  clear H28 hb hr
  go_wp2_with fail
  refine (eq_true H29.out.2.2.2.1 H29.out.1 (Nat.mul_one _)).mono ?_
  rintro e w30 ⟨rfl, hb⟩
  have H30 : Hid (Num w30 a (A) ∧ Num w30 b (B) ∧ Num w30 c (C) ∧ Below w.heap.size w w30) := ⟨H29.out.1.below hb, H29.out.2.1.below hb, H29.out.2.2.1.below hb, H29.out.2.2.2.2.trans (hb.mono H29.out.2.2.2.2.size)⟩
  clear H29 hb
  go_wp2_with fail
  refine (mul_num H30.out.1 (Num.nil _) F1.out.2.2.2.2.2.2.2.2.2).mono ?_
  rintro e w31 ⟨z7, rfl, hr, hb⟩
  have H31 : Hid (Num w31 a (A) ∧ Num w31 b (B) ∧ Num w31 c (C) ∧ Num w31 z7 (A * 0) ∧ Below w.heap.size w w31) := ⟨H30.out.1.below hb, H30.out.2.1.below hb, H30.out.2.2.1.below hb, hr, H30.out.2.2.2.trans (hb.mono H30.out.2.2.2.size)⟩
  clear H30 hb hr
  obtain ⟨ad7, k7, cap7, rfl, hk7, _⟩ := num_len H31.out.2.2.2.1
  obtain rfl : k7 = 0 := hk7.2 (Nat.mul_zero _)
  clear hk7
  go_wp2_with fail
  refine (add_num H31.out.1 H31.out.2.1 F0.out.1).mono ?_
  rintro e w32 ⟨s, rfl, hr, hb⟩
  have H32 : Hid (Num w32 a (A) ∧ Num w32 b (B) ∧ Num w32 c (C) ∧ Num w32 s (A + B) ∧ Below w.heap.size w w32) := ⟨H31.out.1.below hb, H31.out.2.1.below hb, H31.out.2.2.1.below hb, hr, H31.out.2.2.2.2.trans (hb.mono H31.out.2.2.2.2.size)⟩
  clear H31 hb hr
  obtain ⟨adb, kb, capb, rfl, hkb, hkb2⟩ := num_len H32.out.2.1
  have HB := hide hkb
  clear hkb
  by_cases hB0 : B = 0
  · have hkz : kb = 0 := HB.out.2 hB0
    subst hkz
    go_wp2_with fail
    refine (cmp_is H32.out.2.2.2.1 H32.out.1 (0) (by rw [hB0]; exact cmpI_eq _)).mono ?_
    rintro e w33 ⟨rfl, hb⟩
    have H33 : Hid (Num w33 a (A) ∧ Num w33 (.slice adb 0 capb) (B) ∧ Num w33 c (C) ∧ Num w33 s (A + B) ∧ Below w.heap.size w w33) := ⟨H32.out.1.below hb, H32.out.2.1.below hb, H32.out.2.2.1.below hb, H32.out.2.2.2.1.below hb, H32.out.2.2.2.2.trans (hb.mono H32.out.2.2.2.2.size)⟩
    clear H32 hb
    go_wp2_with fail
    refine (cmp_is H33.out.2.2.2.1 H33.out.1 (0) (by rw [hB0]; exact cmpI_eq _)).mono ?_
    rintro e w34 ⟨rfl, hb⟩
    have H34 : Hid (Num w34 a (A) ∧ Num w34 (.slice adb 0 capb) (B) ∧ Num w34 c (C) ∧ Num w34 s (A + B) ∧ Below w.heap.size w w34) := ⟨H33.out.1.below hb, H33.out.2.1.below hb, H33.out.2.2.1.below hb, H33.out.2.2.2.1.below hb, H33.out.2.2.2.2.trans (hb.mono H33.out.2.2.2.2.size)⟩
    clear H33 hb
    go_wp2_with fail
    refine (cmp_is H34.out.1 H34.out.2.2.2.1 (0) (by rw [hB0]; exact cmpI_eq _)).mono ?_
    rintro e w35 ⟨rfl, hb⟩
    have H35 : Hid (Num w35 a (A) ∧ Num w35 (.slice adb 0 capb) (B) ∧ Num w35 c (C) ∧ Num w35 s (A + B) ∧ Below w.heap.size w w35) := ⟨H34.out.1.below hb, H34.out.2.1.below hb, H34.out.2.2.1.below hb, H34.out.2.2.2.1.below hb, H34.out.2.2.2.2.trans (hb.mono H34.out.2.2.2.2.size)⟩
    clear H34 hb
    go_wp2_with fail
    refine (cmp_is H35.out.2.2.2.1 H35.out.1 (0) (by rw [hB0]; exact cmpI_eq _)).mono ?_
    rintro e w36 ⟨rfl, hb⟩
    have H36 : Hid (Num w36 a (A) ∧ Num w36 (.slice adb 0 capb) (B) ∧ Num w36 c (C) ∧ Num w36 s (A + B) ∧ Below w.heap.size w w36) := ⟨H35.out.1.below hb, H35.out.2.1.below hb, H35.out.2.2.1.below hb, H35.out.2.2.2.1.below hb, H35.out.2.2.2.2.trans (hb.mono H35.out.2.2.2.2.size)⟩
    clear H35 hb
    go_wp2_with fail
    refine (wakes_any _).mono ?_
    rintro e w37 ⟨rfl, hb⟩
    have H37 : Hid (Num w37 a (A) ∧ Num w37 (.slice adb 0 capb) (B) ∧ Num w37 c (C) ∧ Num w37 s (A + B) ∧ Below w.heap.size w w37) := ⟨H36.out.1.below hb, H36.out.2.1.below hb, H36.out.2.2.1.below hb, H36.out.2.2.2.1.below hb, H36.out.2.2.2.2.trans (hb.mono H36.out.2.2.2.2.size)⟩
    clear H36 hb
    go_wp2_with fail
    go_ret
    exact ⟨rfl, H37.out.2.2.2.2⟩
  · have hkz : ¬ kb = 0 := fun e => hB0 (HB.out.1 e)
    have hkz2 : (0 : Int) < (kb : Int) := by omega
    go_wp2_with fail
    refine (cmp_is H32.out.2.2.2.1 H32.out.1 (1) (cmpI_gt (by omega))).mono ?_
    rintro e w33 ⟨rfl, hb⟩
    have H33 : Hid (Num w33 a (A) ∧ Num w33 (.slice adb kb capb) (B) ∧ Num w33 c (C) ∧ Num w33 s (A + B) ∧ Below w.heap.size w w33) := ⟨H32.out.1.below hb, H32.out.2.1.below hb, H32.out.2.2.1.below hb, H32.out.2.2.2.1.below hb, H32.out.2.2.2.2.trans (hb.mono H32.out.2.2.2.2.size)⟩
    clear H32 hb
    go_wp2_with fail
    refine (cmp_is H33.out.2.2.2.1 H33.out.1 (1) (cmpI_gt (by omega))).mono ?_
    rintro e w34 ⟨rfl, hb⟩
    have H34 : Hid (Num w34 a (A) ∧ Num w34 (.slice adb kb capb) (B) ∧ Num w34 c (C) ∧ Num w34 s (A + B) ∧ Below w.heap.size w w34) := ⟨H33.out.1.below hb, H33.out.2.1.below hb, H33.out.2.2.1.below hb, H33.out.2.2.2.1.below hb, H33.out.2.2.2.2.trans (hb.mono H33.out.2.2.2.2.size)⟩
    clear H33 hb
    go_wp2_with fail
    refine (cmp_is H34.out.1 H34.out.2.2.2.1 (-1) (cmpI_lt (by omega))).mono ?_
    rintro e w35 ⟨rfl, hb⟩
    have H35 : Hid (Num w35 a (A) ∧ Num w35 (.slice adb kb capb) (B) ∧ Num w35 c (C) ∧ Num w35 s (A + B) ∧ Below w.heap.size w w35) := ⟨H34.out.1.below hb, H34.out.2.1.below hb, H34.out.2.2.1.below hb, H34.out.2.2.2.1.below hb, H34.out.2.2.2.2.trans (hb.mono H34.out.2.2.2.2.size)⟩
    clear H34 hb
    go_wp2_with fail
    refine (cmp_is H35.out.2.2.2.1 H35.out.1 (1) (cmpI_gt (by omega))).mono ?_
    rintro e w36 ⟨rfl, hb⟩
    have H36 : Hid (Num w36 a (A) ∧ Num w36 (.slice adb kb capb) (B) ∧ Num w36 c (C) ∧ Num w36 s (A + B) ∧ Below w.heap.size w w36) := ⟨H35.out.1.below hb, H35.out.2.1.below hb, H35.out.2.2.1.below hb, H35.out.2.2.2.1.below hb, H35.out.2.2.2.2.trans (hb.mono H35.out.2.2.2.2.size)⟩
    clear H35 hb
    go_wp2_with fail
    refine (wakes_any _).mono ?_
    rintro e w37 ⟨rfl, hb⟩
    have H37 : Hid (Num w37 a (A) ∧ Num w37 (.slice adb kb capb) (B) ∧ Num w37 c (C) ∧ Num w37 s (A + B) ∧ Below w.heap.size w w37) := ⟨H36.out.1.below hb, H36.out.2.1.below hb, H36.out.2.2.1.below hb, H36.out.2.2.2.1.below hb, H36.out.2.2.2.2.trans (hb.mono H36.out.2.2.2.2.size)⟩
    clear H36 hb
    go_wp2_with fail
    go_ret
    exact ⟨rfl, H37.out.2.2.2.2⟩

end Go.Proofs.Ytfbkdjghbgdgpaa
