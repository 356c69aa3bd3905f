/- LimbRoots' walk. -/
import Derived.Test.YtfbkdjghbgdgpaaAC
import Derived.Test.YtfbkdjghbgdgpaaAF
namespace Go.Proofs.Ytfbkdjghbgdgpaa
open Go.RowKit
open M
set_option linter.unusedVariables false
set_option linter.unusedSimpArgs false

theorem root_is {v : Value} {A S : Nat} {w : World} (h : Num w v A) (hS : Sq S A) (E : Bool) (hE : decide (S * S = A) = E) :
    Calls Try.prog 24 #[v] w fun e w' => ∃ r, e = .returned (.tuple #[r, .bool E, .int .i64 0]) ∧ Num w' r S ∧ Below w.heap.size w w' := by
  have hf := h.fits
  refine (Root_num h hS).mono ?_
  rintro e w' ⟨r, n, he, ho, hn, hb⟩
  exact ⟨r, by rw [he, hE], ho.num hn (hf.le (sq_le hS)), hb⟩

theorem root_fits {A B S m : Nat} (hA : A < 4294967296 ^ m) (hB : B < 4294967296 ^ m) (hm : m ≤ 300) (hS : Sq S A) : Fits (S * S) ∧ Fits (S + 1) ∧ Fits ((S + 1) * (S + 1)) ∧ Fits (B * B) ∧ Fits (B * B + 1) := by
  have hs := sq_le hS
  have h1 := mul_lt_pow hB hB
  have h2 : S + 1 < 4294967296 ^ (m + 1) := by rw [pw_succ]; omega
  have h3 := mul_lt_pow h2 h2
  exact ⟨fits_of (k := m) (by omega) (Nat.lt_of_le_of_lt hS.1 hA), fits_of (k := m + 1) (by omega) h2, fits_of (k := m + 1 + (m + 1)) (by omega) h3, fits_of (k := m + m) (by omega) h1, fits_of (k := m + m + 1) (by omega) (by rw [pw_succ]; omega)⟩

theorem sq_self (B : Nat) : Sq B (B * B) := ⟨Nat.le_refl _, Nat.mul_lt_mul'' (Nat.lt_succ_self _) (Nat.lt_succ_self _)⟩

theorem sq_pred {B : Nat} (h : 0 < B) : Sq (B - 1) (B * B - 1) := by
  obtain ⟨b, rfl⟩ : ∃ b, B = b + 1 := ⟨B - 1, by omega⟩
  rw [Nat.add_sub_cancel]
  have e : (b + 1) * (b + 1) = b * b + 2 * b + 1 := by rw [Nat.mul_add, Nat.add_mul]; omega
  exact ⟨by omega, by omega⟩

theorem sq_succ {B : Nat} (h : 0 < B) : Sq B (B * B + 1) := by
  have e : (B + 1) * (B + 1) = B * B + 2 * B + 1 := by rw [Nat.mul_add, Nat.add_mul]; omega
  exact ⟨by omega, by omega⟩

theorem sq_pred_exact {B : Nat} (h : 0 < B) : ((B - 1) * (B - 1) = B * B - 1) ↔ B = 1 := by
  obtain ⟨b, rfl⟩ : ∃ b, B = b + 1 := ⟨B - 1, by omega⟩
  rw [Nat.add_sub_cancel]
  have e : (b + 1) * (b + 1) = b * b + 2 * b + 1 := by rw [Nat.mul_add, Nat.add_mul]; omega
  omega

set_option maxRecDepth 100000 in
set_option maxHeartbeats 8000000 in
theorem roots_any (aL aN : Option Addr) (nL cL nN cN : Nat) (w : World) (h : IsRows w aL nL) :
    Calls Try.prog 6 #[.agg #[.slice aL nL cL, .slice aN nN cN]] w fun e w' => e = .returned (.bool true) ∧ Below w.heap.size w w' := by
  have HB0 : Hid (Below w.heap.size w (w.alloc (.cells #[.slice aL nL cL, .slice aN nN cN] 43))) := (Below.refl _ _).alloc (Nat.le_refl _) _
  have HR := hide (h.below HB0.out)
  clear h
  go_enter Try.func6, Try.ntmps6
  go_wp2_with fail
  refine (three_any aL aN nL cL nN cN 120 _ HR.out (by omega)).mono ?_
  rintro e w0 ⟨a, b, c, rfl, A, B, C, hA, hB, hC, hAl, hBl, hCl, hb⟩
  obtain ⟨S, hS⟩ := sq_exists A
  have F := hide (root_fits hAl hBl (by omega) hS)
  have HSq := hide hS
  have H0 : Hid (Num w0 a (A) ∧ Num w0 b (B) ∧ Below w.heap.size w w0) := ⟨hA, hB, HB0.out.trans (hb.mono HB0.out.size)⟩
  clear hA hB hC hAl hBl hCl hb HB0 HR hS
  obtain ⟨adb, kb, capb, rfl, hkb, hlb⟩ := num_len H0.out.2.1
  have HKb := hide hkb
  clear hkb
  go_wp2_with fail
  refine (from_num 1 _ (by omega)).mono ?_
  rintro e w1 ⟨one, rfl, hr, hb⟩
  have H1 : Hid (Num w1 a (A) ∧ Num w1 (.slice adb kb capb) (B) ∧ Num w1 one (1) ∧ Below w.heap.size w w1) := ⟨H0.out.1.below hb, H0.out.2.1.below hb, hr, H0.out.2.2.trans (hb.mono H0.out.2.2.size)⟩
  clear H0 hb hr
  by_cases hE : S * S = A
  · have hEq := hide hE
    go_wp2_with fail
    refine (root_is H1.out.1 HSq.out true (decide_eq_true hE)).mono ?_
    rintro e w2 ⟨r, rfl, hr, hb⟩
    have H2 : Hid (Num w2 a (A) ∧ Num w2 (.slice adb kb capb) (B) ∧ Num w2 one (1) ∧ Num w2 r (S) ∧ Below w.heap.size w w2) := ⟨H1.out.1.below hb, H1.out.2.1.below hb, H1.out.2.2.1.below hb, hr, H1.out.2.2.2.trans (hb.mono H1.out.2.2.2.size)⟩
    clear H1 hb hr
    go_wp2_with fail
    refine (num_below 0 _).mono ?_
    rintro e w3 ⟨rfl, hb⟩
    have H3 : Hid (Num w3 a (A) ∧ Num w3 (.slice adb kb capb) (B) ∧ Num w3 one (1) ∧ Num w3 r (S) ∧ Below w.heap.size w w3) := ⟨H2.out.1.below hb, H2.out.2.1.below hb, H2.out.2.2.1.below hb, H2.out.2.2.2.1.below hb, H2.out.2.2.2.2.trans (hb.mono H2.out.2.2.2.2.size)⟩
    clear H2 hb
    go_wp2_with fail
    refine (mul_num H3.out.2.2.2.1 H3.out.2.2.2.1 F.out.1).mono ?_
    rintro e w4 ⟨m1, rfl, hr, hb⟩
    have H4 : Hid (Num w4 a (A) ∧ Num w4 (.slice adb kb capb) (B) ∧ Num w4 one (1) ∧ Num w4 r (S) ∧ Num w4 m1 (S * S) ∧ Below w.heap.size w w4) := ⟨H3.out.1.below hb, H3.out.2.1.below hb, H3.out.2.2.1.below hb, H3.out.2.2.2.1.below hb, hr, H3.out.2.2.2.2.trans (hb.mono H3.out.2.2.2.2.size)⟩
    clear H3 hb hr
    go_wp2_with fail
    refine (cmp_is H4.out.2.2.2.2.1 H4.out.1 (0) (by rw [hE]; exact cmpI_eq _)).mono ?_
    rintro e w5 ⟨rfl, hb⟩
    have H5 : Hid (Num w5 a (A) ∧ Num w5 (.slice adb kb capb) (B) ∧ Num w5 one (1) ∧ Num w5 r (S) ∧ Below w.heap.size w w5) := ⟨H4.out.1.below hb, H4.out.2.1.below hb, H4.out.2.2.1.below hb, H4.out.2.2.2.1.below hb, H4.out.2.2.2.2.2.trans (hb.mono H4.out.2.2.2.2.2.size)⟩
    clear H4 hb
    go_wp2_with fail
    refine (add_num H5.out.2.2.2.1 H5.out.2.2.1 F.out.2.1).mono ?_
    rintro e w6 ⟨p1, rfl, hr, hb⟩
    have H6 : Hid (Num w6 a (A) ∧ Num w6 (.slice adb kb capb) (B) ∧ Num w6 one (1) ∧ Num w6 r (S) ∧ Num w6 p1 (S + 1) ∧ Below w.heap.size w w6) := ⟨H5.out.1.below hb, H5.out.2.1.below hb, H5.out.2.2.1.below hb, H5.out.2.2.2.1.below hb, hr, H5.out.2.2.2.2.trans (hb.mono H5.out.2.2.2.2.size)⟩
    clear H5 hb hr
    go_wp2_with fail
    refine (add_num H6.out.2.2.2.1 H6.out.2.2.1 F.out.2.1).mono ?_
    rintro e w7 ⟨p2, rfl, hr, hb⟩
    have H7 : Hid (Num w7 a (A) ∧ Num w7 (.slice adb kb capb) (B) ∧ Num w7 one (1) ∧ Num w7 r (S) ∧ Num w7 p1 (S + 1) ∧ Num w7 p2 (S + 1) ∧ Below w.heap.size w w7) := ⟨H6.out.1.below hb, H6.out.2.1.below hb, H6.out.2.2.1.below hb, H6.out.2.2.2.1.below hb, H6.out.2.2.2.2.1.below hb, hr, H6.out.2.2.2.2.2.trans (hb.mono H6.out.2.2.2.2.2.size)⟩
    clear H6 hb hr
    go_wp2_with fail
    refine (mul_num H7.out.2.2.2.2.1 H7.out.2.2.2.2.2.1 F.out.2.2.1).mono ?_
    rintro e w8 ⟨m2, rfl, hr, hb⟩
    have H8 : Hid (Num w8 a (A) ∧ Num w8 (.slice adb kb capb) (B) ∧ Num w8 one (1) ∧ Num w8 r (S) ∧ Num w8 m2 ((S + 1) * (S + 1)) ∧ Below w.heap.size w w8) := ⟨H7.out.1.below hb, H7.out.2.1.below hb, H7.out.2.2.1.below hb, H7.out.2.2.2.1.below hb, hr, H7.out.2.2.2.2.2.2.trans (hb.mono H7.out.2.2.2.2.2.2.size)⟩
    clear H7 hb hr
    go_wp2_with fail
    refine (cmp_is H8.out.2.2.2.2.1 H8.out.1 (1) (cmpI_gt HSq.out.2)).mono ?_
    rintro e w9 ⟨rfl, hb⟩
    have H9 : Hid (Num w9 a (A) ∧ Num w9 (.slice adb kb capb) (B) ∧ Num w9 one (1) ∧ Num w9 r (S) ∧ Below w.heap.size w w9) := ⟨H8.out.1.below hb, H8.out.2.1.below hb, H8.out.2.2.1.below hb, H8.out.2.2.2.1.below hb, H8.out.2.2.2.2.2.trans (hb.mono H8.out.2.2.2.2.2.size)⟩
    clear H8 hb
    go_wp2_with fail
    refine (mul_num H9.out.2.2.2.1 H9.out.2.2.2.1 F.out.1).mono ?_
    rintro e w10 ⟨m3, rfl, hr, hb⟩
    have H10 : Hid (Num w10 a (A) ∧ Num w10 (.slice adb kb capb) (B) ∧ Num w10 one (1) ∧ Num w10 r (S) ∧ Num w10 m3 (S * S) ∧ Below w.heap.size w w10) := ⟨H9.out.1.below hb, H9.out.2.1.below hb, H9.out.2.2.1.below hb, H9.out.2.2.2.1.below hb, hr, H9.out.2.2.2.2.trans (hb.mono H9.out.2.2.2.2.size)⟩
    clear H9 hb hr
    go_wp2_with fail
    refine (eq_true H10.out.2.2.2.2.1 H10.out.1 hE).mono ?_
    rintro e w11 ⟨rfl, hb⟩
    have H11 : Hid (Num w11 a (A) ∧ Num w11 (.slice adb kb capb) (B) ∧ Num w11 one (1) ∧ Below w.heap.size w w11) := ⟨H10.out.1.below hb, H10.out.2.1.below hb, H10.out.2.2.1.below hb, H10.out.2.2.2.2.2.trans (hb.mono H10.out.2.2.2.2.2.size)⟩
    clear H10 hb
    clear hE
    go_wp2_with fail
    refine (mul_num H11.out.2.1 H11.out.2.1 F.out.2.2.2.1).mono ?_
    rintro e w12 ⟨s, rfl, hr, hb⟩
    have H12 : Hid (Num w12 a (A) ∧ Num w12 (.slice adb kb capb) (B) ∧ Num w12 one (1) ∧ Num w12 s (B * B) ∧ Below w.heap.size w w12) := ⟨H11.out.1.below hb, H11.out.2.1.below hb, H11.out.2.2.1.below hb, hr, H11.out.2.2.2.trans (hb.mono H11.out.2.2.2.size)⟩
    clear H11 hb hr
    go_wp2_with fail
    refine (root_is H12.out.2.2.2.1 (sq_self B) true (decide_eq_true rfl)).mono ?_
    rintro e w13 ⟨r2, rfl, hr, hb⟩
    have H13 : Hid (Num w13 a (A) ∧ Num w13 (.slice adb kb capb) (B) ∧ Num w13 one (1) ∧ Num w13 s (B * B) ∧ Num w13 r2 (B) ∧ Below w.heap.size w w13) := ⟨H12.out.1.below hb, H12.out.2.1.below hb, H12.out.2.2.1.below hb, H12.out.2.2.2.1.below hb, hr, H12.out.2.2.2.2.trans (hb.mono H12.out.2.2.2.2.size)⟩
    clear H12 hb hr
    go_wp2_with fail
    refine (num_below 0 _).mono ?_
    rintro e w14 ⟨rfl, hb⟩
    have H14 : Hid (Num w14 a (A) ∧ Num w14 (.slice adb kb capb) (B) ∧ Num w14 one (1) ∧ Num w14 s (B * B) ∧ Num w14 r2 (B) ∧ Below w.heap.size w w14) := ⟨H13.out.1.below hb, H13.out.2.1.below hb, H13.out.2.2.1.below hb, H13.out.2.2.2.1.below hb, H13.out.2.2.2.2.1.below hb, H13.out.2.2.2.2.2.trans (hb.mono H13.out.2.2.2.2.2.size)⟩
    clear H13 hb
    go_wp2_with fail
    refine (eq_true H14.out.2.2.2.2.1 H14.out.2.1 rfl).mono ?_
    rintro e w15 ⟨rfl, hb⟩
    have H15 : Hid (Num w15 a (A) ∧ Num w15 (.slice adb kb capb) (B) ∧ Num w15 one (1) ∧ Num w15 s (B * B) ∧ Below w.heap.size w w15) := ⟨H14.out.1.below hb, H14.out.2.1.below hb, H14.out.2.2.1.below hb, H14.out.2.2.2.1.below hb, H14.out.2.2.2.2.2.trans (hb.mono H14.out.2.2.2.2.2.size)⟩
    clear H14 hb
    by_cases hB0 : B = 0
    · have hkz : kb = 0 := HKb.out.2 hB0
      subst hkz
      go_wp2_with fail
      refine (wakes_any _).mono ?_
      rintro e w16 ⟨rfl, hb⟩
      have H16 : Hid (Num w16 a (A) ∧ Num w16 (.slice adb 0 capb) (B) ∧ Num w16 one (1) ∧ Num w16 s (B * B) ∧ Below w.heap.size w w16) := ⟨H15.out.1.below hb, H15.out.2.1.below hb, H15.out.2.2.1.below hb, H15.out.2.2.2.1.below hb, H15.out.2.2.2.2.trans (hb.mono H15.out.2.2.2.2.size)⟩
      clear H15 hb
      go_wp2_with fail
      go_ret
      exact ⟨rfl, H16.out.2.2.2.2⟩
    · have hkz : ¬ kb = 0 := fun e => hB0 (HKb.out.1 e)
      have hkz2 : (0 : Int) < (kb : Int) := by omega
      have hBp : 0 < B := Nat.pos_of_ne_zero hB0
      go_wp2_with fail
      refine (sub_num H15.out.2.2.2.1 H15.out.2.2.1 (Nat.mul_pos hBp hBp)).mono ?_
      rintro e w16 ⟨s1, rfl, hr, hb⟩
      have H16 : Hid (Num w16 a (A) ∧ Num w16 (.slice adb kb capb) (B) ∧ Num w16 one (1) ∧ Num w16 s (B * B) ∧ Num w16 s1 ((B * B) - 1) ∧ Below w.heap.size w w16) := ⟨H15.out.1.below hb, H15.out.2.1.below hb, H15.out.2.2.1.below hb, H15.out.2.2.2.1.below hb, hr, H15.out.2.2.2.2.trans (hb.mono H15.out.2.2.2.2.size)⟩
      clear H15 hb hr
      by_cases hB1 : B = 1
      · have hB1c := hide hB1
        go_wp2_with fail
        refine (root_is H16.out.2.2.2.2.1 (sq_pred hBp) true (decide_eq_true ((sq_pred_exact hBp).2 hB1))).mono ?_
        rintro e w17 ⟨r3, rfl, hr, hb⟩
        have H17 : Hid (Num w17 a (A) ∧ Num w17 (.slice adb kb capb) (B) ∧ Num w17 one (1) ∧ Num w17 s (B * B) ∧ Num w17 r3 (B - 1) ∧ Below w.heap.size w w17) := ⟨H16.out.1.below hb, H16.out.2.1.below hb, H16.out.2.2.1.below hb, H16.out.2.2.2.1.below hb, hr, H16.out.2.2.2.2.2.trans (hb.mono H16.out.2.2.2.2.2.size)⟩
        clear H16 hb hr
        go_wp2_with fail
        refine (num_below 0 _).mono ?_
        rintro e w18 ⟨rfl, hb⟩
        have H18 : Hid (Num w18 a (A) ∧ Num w18 (.slice adb kb capb) (B) ∧ Num w18 one (1) ∧ Num w18 s (B * B) ∧ Num w18 r3 (B - 1) ∧ Below w.heap.size w w18) := ⟨H17.out.1.below hb, H17.out.2.1.below hb, H17.out.2.2.1.below hb, H17.out.2.2.2.1.below hb, H17.out.2.2.2.2.1.below hb, H17.out.2.2.2.2.2.trans (hb.mono H17.out.2.2.2.2.2.size)⟩
        clear H17 hb
        go_wp2_with fail
        refine (sub_num H18.out.2.1 H18.out.2.2.1 hBp).mono ?_
        rintro e w19 ⟨b1, rfl, hr, hb⟩
        have H19 : Hid (Num w19 a (A) ∧ Num w19 (.slice adb kb capb) (B) ∧ Num w19 one (1) ∧ Num w19 s (B * B) ∧ Num w19 r3 (B - 1) ∧ Num w19 b1 (B - 1) ∧ Below w.heap.size w w19) := ⟨H18.out.1.below hb, H18.out.2.1.below hb, H18.out.2.2.1.below hb, H18.out.2.2.2.1.below hb, H18.out.2.2.2.2.1.below hb, hr, H18.out.2.2.2.2.2.trans (hb.mono H18.out.2.2.2.2.2.size)⟩
        clear H18 hb hr
        go_wp2_with fail
        refine (eq_true H19.out.2.2.2.2.1 H19.out.2.2.2.2.2.1 rfl).mono ?_
        rintro e w20 ⟨rfl, hb⟩
        have H20 : Hid (Num w20 a (A) ∧ Num w20 (.slice adb kb capb) (B) ∧ Num w20 one (1) ∧ Num w20 s (B * B) ∧ Below w.heap.size w w20) := ⟨H19.out.1.below hb, H19.out.2.1.below hb, H19.out.2.2.1.below hb, H19.out.2.2.2.1.below hb, H19.out.2.2.2.2.2.2.trans (hb.mono H19.out.2.2.2.2.2.2.size)⟩
        clear H19 hb
        go_wp2_with fail
        refine (eq_true H20.out.2.1 H20.out.2.2.1 hB1).mono ?_
        rintro e w21 ⟨rfl, hb⟩
        have H21 : Hid (Num w21 a (A) ∧ Num w21 (.slice adb kb capb) (B) ∧ Num w21 one (1) ∧ Num w21 s (B * B) ∧ Below w.heap.size w w21) := ⟨H20.out.1.below hb, H20.out.2.1.below hb, H20.out.2.2.1.below hb, H20.out.2.2.2.1.below hb, H20.out.2.2.2.2.trans (hb.mono H20.out.2.2.2.2.size)⟩
        clear H20 hb
        clear hB1
        go_wp2_with fail
        refine (add_num H21.out.2.2.2.1 H21.out.2.2.1 F.out.2.2.2.2).mono ?_
        rintro e w22 ⟨s2, rfl, hr, hb⟩
        have H22 : Hid (Num w22 a (A) ∧ Num w22 (.slice adb kb capb) (B) ∧ Num w22 one (1) ∧ Num w22 s (B * B) ∧ Num w22 s2 (B * B + 1) ∧ Below w.heap.size w w22) := ⟨H21.out.1.below hb, H21.out.2.1.below hb, H21.out.2.2.1.below hb, H21.out.2.2.2.1.below hb, hr, H21.out.2.2.2.2.trans (hb.mono H21.out.2.2.2.2.size)⟩
        clear H21 hb hr
        go_wp2_with fail
        refine (root_is H22.out.2.2.2.2.1 (sq_succ hBp) false (decide_eq_false (by omega))).mono ?_
        rintro e w23 ⟨r4, rfl, hr, hb⟩
        have H23 : Hid (Num w23 a (A) ∧ Num w23 (.slice adb kb capb) (B) ∧ Num w23 one (1) ∧ Num w23 s (B * B) ∧ Num w23 r4 (B) ∧ Below w.heap.size w w23) := ⟨H22.out.1.below hb, H22.out.2.1.below hb, H22.out.2.2.1.below hb, H22.out.2.2.2.1.below hb, hr, H22.out.2.2.2.2.2.trans (hb.mono H22.out.2.2.2.2.2.size)⟩
        clear H22 hb hr
        go_wp2_with fail
        refine (num_below 0 _).mono ?_
        rintro e w24 ⟨rfl, hb⟩
        have H24 : Hid (Num w24 a (A) ∧ Num w24 (.slice adb kb capb) (B) ∧ Num w24 one (1) ∧ Num w24 s (B * B) ∧ Num w24 r4 (B) ∧ Below w.heap.size w w24) := ⟨H23.out.1.below hb, H23.out.2.1.below hb, H23.out.2.2.1.below hb, H23.out.2.2.2.1.below hb, H23.out.2.2.2.2.1.below hb, H23.out.2.2.2.2.2.trans (hb.mono H23.out.2.2.2.2.2.size)⟩
        clear H23 hb
        go_wp2_with fail
        refine (eq_true H24.out.2.2.2.2.1 H24.out.2.1 rfl).mono ?_
        rintro e w25 ⟨rfl, hb⟩
        have H25 : Hid (Num w25 a (A) ∧ Num w25 (.slice adb kb capb) (B) ∧ Num w25 one (1) ∧ Num w25 s (B * B) ∧ Below w.heap.size w w25) := ⟨H24.out.1.below hb, H24.out.2.1.below hb, H24.out.2.2.1.below hb, H24.out.2.2.2.1.below hb, H24.out.2.2.2.2.2.trans (hb.mono H24.out.2.2.2.2.2.size)⟩
        clear H24 hb
        go_wp2_with fail
        refine (wakes_any _).mono ?_
        rintro e w26 ⟨rfl, hb⟩
        have H26 : Hid (Num w26 a (A) ∧ Num w26 (.slice adb kb capb) (B) ∧ Num w26 one (1) ∧ Num w26 s (B * B) ∧ Below w.heap.size w w26) := ⟨H25.out.1.below hb, H25.out.2.1.below hb, H25.out.2.2.1.below hb, H25.out.2.2.2.1.below hb, H25.out.2.2.2.2.trans (hb.mono H25.out.2.2.2.2.size)⟩
        clear H25 hb
        go_wp2_with fail
        go_ret
        exact ⟨rfl, H26.out.2.2.2.2⟩
      · have hB1c := hide hB1
        go_wp2_with fail
        refine (root_is H16.out.2.2.2.2.1 (sq_pred hBp) false (decide_eq_false (fun e => hB1 ((sq_pred_exact hBp).1 e)))).mono ?_
        rintro e w17 ⟨r3, rfl, hr, hb⟩
        have H17 : Hid (Num w17 a (A) ∧ Num w17 (.slice adb kb capb) (B) ∧ Num w17 one (1) ∧ Num w17 s (B * B) ∧ Num w17 r3 (B - 1) ∧ Below w.heap.size w w17) := ⟨H16.out.1.below hb, H16.out.2.1.below hb, H16.out.2.2.1.below hb, H16.out.2.2.2.1.below hb, hr, H16.out.2.2.2.2.2.trans (hb.mono H16.out.2.2.2.2.2.size)⟩
        clear H16 hb hr
        go_wp2_with fail
        refine (num_below 0 _).mono ?_
        rintro e w18 ⟨rfl, hb⟩
        have H18 : Hid (Num w18 a (A) ∧ Num w18 (.slice adb kb capb) (B) ∧ Num w18 one (1) ∧ Num w18 s (B * B) ∧ Num w18 r3 (B - 1) ∧ Below w.heap.size w w18) := ⟨H17.out.1.below hb, H17.out.2.1.below hb, H17.out.2.2.1.below hb, H17.out.2.2.2.1.below hb, H17.out.2.2.2.2.1.below hb, H17.out.2.2.2.2.2.trans (hb.mono H17.out.2.2.2.2.2.size)⟩
        clear H17 hb
        go_wp2_with fail
        refine (sub_num H18.out.2.1 H18.out.2.2.1 hBp).mono ?_
        rintro e w19 ⟨b1, rfl, hr, hb⟩
        have H19 : Hid (Num w19 a (A) ∧ Num w19 (.slice adb kb capb) (B) ∧ Num w19 one (1) ∧ Num w19 s (B * B) ∧ Num w19 r3 (B - 1) ∧ Num w19 b1 (B - 1) ∧ Below w.heap.size w w19) := ⟨H18.out.1.below hb, H18.out.2.1.below hb, H18.out.2.2.1.below hb, H18.out.2.2.2.1.below hb, H18.out.2.2.2.2.1.below hb, hr, H18.out.2.2.2.2.2.trans (hb.mono H18.out.2.2.2.2.2.size)⟩
        clear H18 hb hr
        go_wp2_with fail
        refine (eq_true H19.out.2.2.2.2.1 H19.out.2.2.2.2.2.1 rfl).mono ?_
        rintro e w20 ⟨rfl, hb⟩
        have H20 : Hid (Num w20 a (A) ∧ Num w20 (.slice adb kb capb) (B) ∧ Num w20 one (1) ∧ Num w20 s (B * B) ∧ Below w.heap.size w w20) := ⟨H19.out.1.below hb, H19.out.2.1.below hb, H19.out.2.2.1.below hb, H19.out.2.2.2.1.below hb, H19.out.2.2.2.2.2.2.trans (hb.mono H19.out.2.2.2.2.2.2.size)⟩
        clear H19 hb
        go_wp2_with fail
        refine (eq_false H20.out.2.1 H20.out.2.2.1 hB1).mono ?_
        rintro e w21 ⟨rfl, hb⟩
        have H21 : Hid (Num w21 a (A) ∧ Num w21 (.slice adb kb capb) (B) ∧ Num w21 one (1) ∧ Num w21 s (B * B) ∧ Below w.heap.size w w21) := ⟨H20.out.1.below hb, H20.out.2.1.below hb, H20.out.2.2.1.below hb, H20.out.2.2.2.1.below hb, H20.out.2.2.2.2.trans (hb.mono H20.out.2.2.2.2.size)⟩
        clear H20 hb
        clear hB1
        go_wp2_with fail
        refine (add_num H21.out.2.2.2.1 H21.out.2.2.1 F.out.2.2.2.2).mono ?_
        rintro e w22 ⟨s2, rfl, hr, hb⟩
        have H22 : Hid (Num w22 a (A) ∧ Num w22 (.slice adb kb capb) (B) ∧ Num w22 one (1) ∧ Num w22 s (B * B) ∧ Num w22 s2 (B * B + 1) ∧ Below w.heap.size w w22) := ⟨H21.out.1.below hb, H21.out.2.1.below hb, H21.out.2.2.1.below hb, H21.out.2.2.2.1.below hb, hr, H21.out.2.2.2.2.trans (hb.mono H21.out.2.2.2.2.size)⟩
        clear H21 hb hr
        go_wp2_with fail
        refine (root_is H22.out.2.2.2.2.1 (sq_succ hBp) false (decide_eq_false (by omega))).mono ?_
        rintro e w23 ⟨r4, rfl, hr, hb⟩
        have H23 : Hid (Num w23 a (A) ∧ Num w23 (.slice adb kb capb) (B) ∧ Num w23 one (1) ∧ Num w23 s (B * B) ∧ Num w23 r4 (B) ∧ Below w.heap.size w w23) := ⟨H22.out.1.below hb, H22.out.2.1.below hb, H22.out.2.2.1.below hb, H22.out.2.2.2.1.below hb, hr, H22.out.2.2.2.2.2.trans (hb.mono H22.out.2.2.2.2.2.size)⟩
        clear H22 hb hr
        go_wp2_with fail
        refine (num_below 0 _).mono ?_
        rintro e w24 ⟨rfl, hb⟩
        have H24 : Hid (Num w24 a (A) ∧ Num w24 (.slice adb kb capb) (B) ∧ Num w24 one (1) ∧ Num w24 s (B * B) ∧ Num w24 r4 (B) ∧ Below w.heap.size w w24) := ⟨H23.out.1.below hb, H23.out.2.1.below hb, H23.out.2.2.1.below hb, H23.out.2.2.2.1.below hb, H23.out.2.2.2.2.1.below hb, H23.out.2.2.2.2.2.trans (hb.mono H23.out.2.2.2.2.2.size)⟩
        clear H23 hb
        go_wp2_with fail
        refine (eq_true H24.out.2.2.2.2.1 H24.out.2.1 rfl).mono ?_
        rintro e w25 ⟨rfl, hb⟩
        have H25 : Hid (Num w25 a (A) ∧ Num w25 (.slice adb kb capb) (B) ∧ Num w25 one (1) ∧ Num w25 s (B * B) ∧ Below w.heap.size w w25) := ⟨H24.out.1.below hb, H24.out.2.1.below hb, H24.out.2.2.1.below hb, H24.out.2.2.2.1.below hb, H24.out.2.2.2.2.2.trans (hb.mono H24.out.2.2.2.2.2.size)⟩
        clear H24 hb
        go_wp2_with fail
        refine (wakes_any _).mono ?_
        rintro e w26 ⟨rfl, hb⟩
        have H26 : Hid (Num w26 a (A) ∧ Num w26 (.slice adb kb capb) (B) ∧ Num w26 one (1) ∧ Num w26 s (B * B) ∧ Below w.heap.size w w26) := ⟨H25.out.1.below hb, H25.out.2.1.below hb, H25.out.2.2.1.below hb, H25.out.2.2.2.1.below hb, H25.out.2.2.2.2.trans (hb.mono H25.out.2.2.2.2.size)⟩
        clear H25 hb
        go_wp2_with fail
        go_ret
        exact ⟨rfl, H26.out.2.2.2.2⟩
  · have hEq := hide hE
    go_wp2_with fail
    refine (root_is H1.out.1 HSq.out false (decide_eq_false hE)).mono ?_
    rintro e w2 ⟨r, rfl, hr, hb⟩
    have H2 : Hid (Num w2 a (A) ∧ Num w2 (.slice adb kb capb) (B) ∧ Num w2 one (1) ∧ Num w2 r (S) ∧ Below w.heap.size w w2) := ⟨H1.out.1.below hb, H1.out.2.1.below hb, H1.out.2.2.1.below hb, hr, H1.out.2.2.2.trans (hb.mono H1.out.2.2.2.size)⟩
    clear H1 hb hr
    go_wp2_with fail
    refine (num_below 0 _).mono ?_
    rintro e w3 ⟨rfl, hb⟩
    have H3 : Hid (Num w3 a (A) ∧ Num w3 (.slice adb kb capb) (B) ∧ Num w3 one (1) ∧ Num w3 r (S) ∧ Below w.heap.size w w3) := ⟨H2.out.1.below hb, H2.out.2.1.below hb, H2.out.2.2.1.below hb, H2.out.2.2.2.1.below hb, H2.out.2.2.2.2.trans (hb.mono H2.out.2.2.2.2.size)⟩
    clear H2 hb
    go_wp2_with fail
    refine (mul_num H3.out.2.2.2.1 H3.out.2.2.2.1 F.out.1).mono ?_
    rintro e w4 ⟨m1, rfl, hr, hb⟩
    have H4 : Hid (Num w4 a (A) ∧ Num w4 (.slice adb kb capb) (B) ∧ Num w4 one (1) ∧ Num w4 r (S) ∧ Num w4 m1 (S * S) ∧ Below w.heap.size w w4) := ⟨H3.out.1.below hb, H3.out.2.1.below hb, H3.out.2.2.1.below hb, H3.out.2.2.2.1.below hb, hr, H3.out.2.2.2.2.trans (hb.mono H3.out.2.2.2.2.size)⟩
    clear H3 hb hr
    go_wp2_with fail
    refine (cmp_is H4.out.2.2.2.2.1 H4.out.1 (-1) (cmpI_lt (Nat.lt_of_le_of_ne HSq.out.1 hE))).mono ?_
    rintro e w5 ⟨rfl, hb⟩
    have H5 : Hid (Num w5 a (A) ∧ Num w5 (.slice adb kb capb) (B) ∧ Num w5 one (1) ∧ Num w5 r (S) ∧ Below w.heap.size w w5) := ⟨H4.out.1.below hb, H4.out.2.1.below hb, H4.out.2.2.1.below hb, H4.out.2.2.2.1.below hb, H4.out.2.2.2.2.2.trans (hb.mono H4.out.2.2.2.2.2.size)⟩
    clear H4 hb
    go_wp2_with fail
    refine (add_num H5.out.2.2.2.1 H5.out.2.2.1 F.out.2.1).mono ?_
    rintro e w6 ⟨p1, rfl, hr, hb⟩
    have H6 : Hid (Num w6 a (A) ∧ Num w6 (.slice adb kb capb) (B) ∧ Num w6 one (1) ∧ Num w6 r (S) ∧ Num w6 p1 (S + 1) ∧ Below w.heap.size w w6) := ⟨H5.out.1.below hb, H5.out.2.1.below hb, H5.out.2.2.1.below hb, H5.out.2.2.2.1.below hb, hr, H5.out.2.2.2.2.trans (hb.mono H5.out.2.2.2.2.size)⟩
    clear H5 hb hr
    go_wp2_with fail
    refine (add_num H6.out.2.2.2.1 H6.out.2.2.1 F.out.2.1).mono ?_
    rintro e w7 ⟨p2, rfl, hr, hb⟩
    have H7 : Hid (Num w7 a (A) ∧ Num w7 (.slice adb kb capb) (B) ∧ Num w7 one (1) ∧ Num w7 r (S) ∧ Num w7 p1 (S + 1) ∧ Num w7 p2 (S + 1) ∧ Below w.heap.size w w7) := ⟨H6.out.1.below hb, H6.out.2.1.below hb, H6.out.2.2.1.below hb, H6.out.2.2.2.1.below hb, H6.out.2.2.2.2.1.below hb, hr, H6.out.2.2.2.2.2.trans (hb.mono H6.out.2.2.2.2.2.size)⟩
    clear H6 hb hr
    go_wp2_with fail
    refine (mul_num H7.out.2.2.2.2.1 H7.out.2.2.2.2.2.1 F.out.2.2.1).mono ?_
    rintro e w8 ⟨m2, rfl, hr, hb⟩
    have H8 : Hid (Num w8 a (A) ∧ Num w8 (.slice adb kb capb) (B) ∧ Num w8 one (1) ∧ Num w8 r (S) ∧ Num w8 m2 ((S + 1) * (S + 1)) ∧ Below w.heap.size w w8) := ⟨H7.out.1.below hb, H7.out.2.1.below hb, H7.out.2.2.1.below hb, H7.out.2.2.2.1.below hb, hr, H7.out.2.2.2.2.2.2.trans (hb.mono H7.out.2.2.2.2.2.2.size)⟩
    clear H7 hb hr
    go_wp2_with fail
    refine (cmp_is H8.out.2.2.2.2.1 H8.out.1 (1) (cmpI_gt HSq.out.2)).mono ?_
    rintro e w9 ⟨rfl, hb⟩
    have H9 : Hid (Num w9 a (A) ∧ Num w9 (.slice adb kb capb) (B) ∧ Num w9 one (1) ∧ Num w9 r (S) ∧ Below w.heap.size w w9) := ⟨H8.out.1.below hb, H8.out.2.1.below hb, H8.out.2.2.1.below hb, H8.out.2.2.2.1.below hb, H8.out.2.2.2.2.2.trans (hb.mono H8.out.2.2.2.2.2.size)⟩
    clear H8 hb
    go_wp2_with fail
    refine (mul_num H9.out.2.2.2.1 H9.out.2.2.2.1 F.out.1).mono ?_
    rintro e w10 ⟨m3, rfl, hr, hb⟩
    have H10 : Hid (Num w10 a (A) ∧ Num w10 (.slice adb kb capb) (B) ∧ Num w10 one (1) ∧ Num w10 r (S) ∧ Num w10 m3 (S * S) ∧ Below w.heap.size w w10) := ⟨H9.out.1.below hb, H9.out.2.1.below hb, H9.out.2.2.1.below hb, H9.out.2.2.2.1.below hb, hr, H9.out.2.2.2.2.trans (hb.mono H9.out.2.2.2.2.size)⟩
    clear H9 hb hr
    go_wp2_with fail
    refine (eq_false H10.out.2.2.2.2.1 H10.out.1 hE).mono ?_
    rintro e w11 ⟨rfl, hb⟩
    have H11 : Hid (Num w11 a (A) ∧ Num w11 (.slice adb kb capb) (B) ∧ Num w11 one (1) ∧ Below w.heap.size w w11) := ⟨H10.out.1.below hb, H10.out.2.1.below hb, H10.out.2.2.1.below hb, H10.out.2.2.2.2.2.trans (hb.mono H10.out.2.2.2.2.2.size)⟩
    clear H10 hb
    clear hE
    go_wp2_with fail
    refine (mul_num H11.out.2.1 H11.out.2.1 F.out.2.2.2.1).mono ?_
    rintro e w12 ⟨s, rfl, hr, hb⟩
    have H12 : Hid (Num w12 a (A) ∧ Num w12 (.slice adb kb capb) (B) ∧ Num w12 one (1) ∧ Num w12 s (B * B) ∧ Below w.heap.size w w12) := ⟨H11.out.1.below hb, H11.out.2.1.below hb, H11.out.2.2.1.below hb, hr, H11.out.2.2.2.trans (hb.mono H11.out.2.2.2.size)⟩
    clear H11 hb hr
    go_wp2_with fail
    refine (root_is H12.out.2.2.2.1 (sq_self B) true (decide_eq_true rfl)).mono ?_
    rintro e w13 ⟨r2, rfl, hr, hb⟩
    have H13 : Hid (Num w13 a (A) ∧ Num w13 (.slice adb kb capb) (B) ∧ Num w13 one (1) ∧ Num w13 s (B * B) ∧ Num w13 r2 (B) ∧ Below w.heap.size w w13) := ⟨H12.out.1.below hb, H12.out.2.1.below hb, H12.out.2.2.1.below hb, H12.out.2.2.2.1.below hb, hr, H12.out.2.2.2.2.trans (hb.mono H12.out.2.2.2.2.size)⟩
    clear H12 hb hr
    go_wp2_with fail
    refine (num_below 0 _).mono ?_
    rintro e w14 ⟨rfl, hb⟩
    have H14 : Hid (Num w14 a (A) ∧ Num w14 (.slice adb kb capb) (B) ∧ Num w14 one (1) ∧ Num w14 s (B * B) ∧ Num w14 r2 (B) ∧ Below w.heap.size w w14) := ⟨H13.out.1.below hb, H13.out.2.1.below hb, H13.out.2.2.1.below hb, H13.out.2.2.2.1.below hb, H13.out.2.2.2.2.1.below hb, H13.out.2.2.2.2.2.trans (hb.mono H13.out.2.2.2.2.2.size)⟩
    clear H13 hb
    go_wp2_with fail
    refine (eq_true H14.out.2.2.2.2.1 H14.out.2.1 rfl).mono ?_
    rintro e w15 ⟨rfl, hb⟩
    have H15 : Hid (Num w15 a (A) ∧ Num w15 (.slice adb kb capb) (B) ∧ Num w15 one (1) ∧ Num w15 s (B * B) ∧ Below w.heap.size w w15) := ⟨H14.out.1.below hb, H14.out.2.1.below hb, H14.out.2.2.1.below hb, H14.out.2.2.2.1.below hb, H14.out.2.2.2.2.2.trans (hb.mono H14.out.2.2.2.2.2.size)⟩
    clear H14 hb
    by_cases hB0 : B = 0
    · have hkz : kb = 0 := HKb.out.2 hB0
      subst hkz
      go_wp2_with fail
      refine (wakes_any _).mono ?_
      rintro e w16 ⟨rfl, hb⟩
      have H16 : Hid (Num w16 a (A) ∧ Num w16 (.slice adb 0 capb) (B) ∧ Num w16 one (1) ∧ Num w16 s (B * B) ∧ Below w.heap.size w w16) := ⟨H15.out.1.below hb, H15.out.2.1.below hb, H15.out.2.2.1.below hb, H15.out.2.2.2.1.below hb, H15.out.2.2.2.2.trans (hb.mono H15.out.2.2.2.2.size)⟩
      clear H15 hb
      go_wp2_with fail
      go_ret
      exact ⟨rfl, H16.out.2.2.2.2⟩
    · have hkz : ¬ kb = 0 := fun e => hB0 (HKb.out.1 e)
      have hkz2 : (0 : Int) < (kb : Int) := by omega
      have hBp : 0 < B := Nat.pos_of_ne_zero hB0
      go_wp2_with fail
      refine (sub_num H15.out.2.2.2.1 H15.out.2.2.1 (Nat.mul_pos hBp hBp)).mono ?_
      rintro e w16 ⟨s1, rfl, hr, hb⟩
      have H16 : Hid (Num w16 a (A) ∧ Num w16 (.slice adb kb capb) (B) ∧ Num w16 one (1) ∧ Num w16 s (B * B) ∧ Num w16 s1 ((B * B) - 1) ∧ Below w.heap.size w w16) := ⟨H15.out.1.below hb, H15.out.2.1.below hb, H15.out.2.2.1.below hb, H15.out.2.2.2.1.below hb, hr, H15.out.2.2.2.2.trans (hb.mono H15.out.2.2.2.2.size)⟩
      clear H15 hb hr
      by_cases hB1 : B = 1
      · have hB1c := hide hB1
        go_wp2_with fail
        refine (root_is H16.out.2.2.2.2.1 (sq_pred hBp) true (decide_eq_true ((sq_pred_exact hBp).2 hB1))).mono ?_
        rintro e w17 ⟨r3, rfl, hr, hb⟩
        have H17 : Hid (Num w17 a (A) ∧ Num w17 (.slice adb kb capb) (B) ∧ Num w17 one (1) ∧ Num w17 s (B * B) ∧ Num w17 r3 (B - 1) ∧ Below w.heap.size w w17) := ⟨H16.out.1.below hb, H16.out.2.1.below hb, H16.out.2.2.1.below hb, H16.out.2.2.2.1.below hb, hr, H16.out.2.2.2.2.2.trans (hb.mono H16.out.2.2.2.2.2.size)⟩
        clear H16 hb hr
        go_wp2_with fail
        refine (num_below 0 _).mono ?_
        rintro e w18 ⟨rfl, hb⟩
        have H18 : Hid (Num w18 a (A) ∧ Num w18 (.slice adb kb capb) (B) ∧ Num w18 one (1) ∧ Num w18 s (B * B) ∧ Num w18 r3 (B - 1) ∧ Below w.heap.size w w18) := ⟨H17.out.1.below hb, H17.out.2.1.below hb, H17.out.2.2.1.below hb, H17.out.2.2.2.1.below hb, H17.out.2.2.2.2.1.below hb, H17.out.2.2.2.2.2.trans (hb.mono H17.out.2.2.2.2.2.size)⟩
        clear H17 hb
        go_wp2_with fail
        refine (sub_num H18.out.2.1 H18.out.2.2.1 hBp).mono ?_
        rintro e w19 ⟨b1, rfl, hr, hb⟩
        have H19 : Hid (Num w19 a (A) ∧ Num w19 (.slice adb kb capb) (B) ∧ Num w19 one (1) ∧ Num w19 s (B * B) ∧ Num w19 r3 (B - 1) ∧ Num w19 b1 (B - 1) ∧ Below w.heap.size w w19) := ⟨H18.out.1.below hb, H18.out.2.1.below hb, H18.out.2.2.1.below hb, H18.out.2.2.2.1.below hb, H18.out.2.2.2.2.1.below hb, hr, H18.out.2.2.2.2.2.trans (hb.mono H18.out.2.2.2.2.2.size)⟩
        clear H18 hb hr
        go_wp2_with fail
        refine (eq_true H19.out.2.2.2.2.1 H19.out.2.2.2.2.2.1 rfl).mono ?_
        rintro e w20 ⟨rfl, hb⟩
        have H20 : Hid (Num w20 a (A) ∧ Num w20 (.slice adb kb capb) (B) ∧ Num w20 one (1) ∧ Num w20 s (B * B) ∧ Below w.heap.size w w20) := ⟨H19.out.1.below hb, H19.out.2.1.below hb, H19.out.2.2.1.below hb, H19.out.2.2.2.1.below hb, H19.out.2.2.2.2.2.2.trans (hb.mono H19.out.2.2.2.2.2.2.size)⟩
        clear H19 hb
        go_wp2_with fail
        refine (eq_true H20.out.2.1 H20.out.2.2.1 hB1).mono ?_
        rintro e w21 ⟨rfl, hb⟩
        have H21 : Hid (Num w21 a (A) ∧ Num w21 (.slice adb kb capb) (B) ∧ Num w21 one (1) ∧ Num w21 s (B * B) ∧ Below w.heap.size w w21) := ⟨H20.out.1.below hb, H20.out.2.1.below hb, H20.out.2.2.1.below hb, H20.out.2.2.2.1.below hb, H20.out.2.2.2.2.trans (hb.mono H20.out.2.2.2.2.size)⟩
        clear H20 hb
        clear hB1
        go_wp2_with fail
        refine (add_num H21.out.2.2.2.1 H21.out.2.2.1 F.out.2.2.2.2).mono ?_
        rintro e w22 ⟨s2, rfl, hr, hb⟩
        have H22 : Hid (Num w22 a (A) ∧ Num w22 (.slice adb kb capb) (B) ∧ Num w22 one (1) ∧ Num w22 s (B * B) ∧ Num w22 s2 (B * B + 1) ∧ Below w.heap.size w w22) := ⟨H21.out.1.below hb, H21.out.2.1.below hb, H21.out.2.2.1.below hb, H21.out.2.2.2.1.below hb, hr, H21.out.2.2.2.2.trans (hb.mono H21.out.2.2.2.2.size)⟩
        clear H21 hb hr
        go_wp2_with fail
        refine (root_is H22.out.2.2.2.2.1 (sq_succ hBp) false (decide_eq_false (by omega))).mono ?_
        rintro e w23 ⟨r4, rfl, hr, hb⟩
        have H23 : Hid (Num w23 a (A) ∧ Num w23 (.slice adb kb capb) (B) ∧ Num w23 one (1) ∧ Num w23 s (B * B) ∧ Num w23 r4 (B) ∧ Below w.heap.size w w23) := ⟨H22.out.1.below hb, H22.out.2.1.below hb, H22.out.2.2.1.below hb, H22.out.2.2.2.1.below hb, hr, H22.out.2.2.2.2.2.trans (hb.mono H22.out.2.2.2.2.2.size)⟩
        clear H22 hb hr
        go_wp2_with fail
        refine (num_below 0 _).mono ?_
        rintro e w24 ⟨rfl, hb⟩
        have H24 : Hid (Num w24 a (A) ∧ Num w24 (.slice adb kb capb) (B) ∧ Num w24 one (1) ∧ Num w24 s (B * B) ∧ Num w24 r4 (B) ∧ Below w.heap.size w w24) := ⟨H23.out.1.below hb, H23.out.2.1.below hb, H23.out.2.2.1.below hb, H23.out.2.2.2.1.below hb, H23.out.2.2.2.2.1.below hb, H23.out.2.2.2.2.2.trans (hb.mono H23.out.2.2.2.2.2.size)⟩
        clear H23 hb
        go_wp2_with fail
        refine (eq_true H24.out.2.2.2.2.1 H24.out.2.1 rfl).mono ?_
        rintro e w25 ⟨rfl, hb⟩
        have H25 : Hid (Num w25 a (A) ∧ Num w25 (.slice adb kb capb) (B) ∧ Num w25 one (1) ∧ Num w25 s (B * B) ∧ Below w.heap.size w w25) := ⟨H24.out.1.below hb, H24.out.2.1.below hb, H24.out.2.2.1.below hb, H24.out.2.2.2.1.below hb, H24.out.2.2.2.2.2.trans (hb.mono H24.out.2.2.2.2.2.size)⟩
        clear H24 hb
        go_wp2_with fail
        refine (wakes_any _).mono ?_
        rintro e w26 ⟨rfl, hb⟩
        have H26 : Hid (Num w26 a (A) ∧ Num w26 (.slice adb kb capb) (B) ∧ Num w26 one (1) ∧ Num w26 s (B * B) ∧ Below w.heap.size w w26) := ⟨H25.out.1.below hb, H25.out.2.1.below hb, H25.out.2.2.1.below hb, H25.out.2.2.2.1.below hb, H25.out.2.2.2.2.trans (hb.mono H25.out.2.2.2.2.size)⟩
        clear H25 hb
        go_wp2_with fail
        go_ret
        exact ⟨rfl, H26.out.2.2.2.2⟩
      · have hB1c := hide hB1
        go_wp2_with fail
        refine (root_is H16.out.2.2.2.2.1 (sq_pred hBp) false (decide_eq_false (fun e => hB1 ((sq_pred_exact hBp).1 e)))).mono ?_
        rintro e w17 ⟨r3, rfl, hr, hb⟩
        have H17 : Hid (Num w17 a (A) ∧ Num w17 (.slice adb kb capb) (B) ∧ Num w17 one (1) ∧ Num w17 s (B * B) ∧ Num w17 r3 (B - 1) ∧ Below w.heap.size w w17) := ⟨H16.out.1.below hb, H16.out.2.1.below hb, H16.out.2.2.1.below hb, H16.out.2.2.2.1.below hb, hr, H16.out.2.2.2.2.2.trans (hb.mono H16.out.2.2.2.2.2.size)⟩
        clear H16 hb hr
        go_wp2_with fail
        refine (num_below 0 _).mono ?_
        rintro e w18 ⟨rfl, hb⟩
        have H18 : Hid (Num w18 a (A) ∧ Num w18 (.slice adb kb capb) (B) ∧ Num w18 one (1) ∧ Num w18 s (B * B) ∧ Num w18 r3 (B - 1) ∧ Below w.heap.size w w18) := ⟨H17.out.1.below hb, H17.out.2.1.below hb, H17.out.2.2.1.below hb, H17.out.2.2.2.1.below hb, H17.out.2.2.2.2.1.below hb, H17.out.2.2.2.2.2.trans (hb.mono H17.out.2.2.2.2.2.size)⟩
        clear H17 hb
        go_wp2_with fail
        refine (sub_num H18.out.2.1 H18.out.2.2.1 hBp).mono ?_
        rintro e w19 ⟨b1, rfl, hr, hb⟩
        have H19 : Hid (Num w19 a (A) ∧ Num w19 (.slice adb kb capb) (B) ∧ Num w19 one (1) ∧ Num w19 s (B * B) ∧ Num w19 r3 (B - 1) ∧ Num w19 b1 (B - 1) ∧ Below w.heap.size w w19) := ⟨H18.out.1.below hb, H18.out.2.1.below hb, H18.out.2.2.1.below hb, H18.out.2.2.2.1.below hb, H18.out.2.2.2.2.1.below hb, hr, H18.out.2.2.2.2.2.trans (hb.mono H18.out.2.2.2.2.2.size)⟩
        clear H18 hb hr
        go_wp2_with fail
        refine (eq_true H19.out.2.2.2.2.1 H19.out.2.2.2.2.2.1 rfl).mono ?_
        rintro e w20 ⟨rfl, hb⟩
        have H20 : Hid (Num w20 a (A) ∧ Num w20 (.slice adb kb capb) (B) ∧ Num w20 one (1) ∧ Num w20 s (B * B) ∧ Below w.heap.size w w20) := ⟨H19.out.1.below hb, H19.out.2.1.below hb, H19.out.2.2.1.below hb, H19.out.2.2.2.1.below hb, H19.out.2.2.2.2.2.2.trans (hb.mono H19.out.2.2.2.2.2.2.size)⟩
        clear H19 hb
        go_wp2_with fail
        refine (eq_false H20.out.2.1 H20.out.2.2.1 hB1).mono ?_
        rintro e w21 ⟨rfl, hb⟩
        have H21 : Hid (Num w21 a (A) ∧ Num w21 (.slice adb kb capb) (B) ∧ Num w21 one (1) ∧ Num w21 s (B * B) ∧ Below w.heap.size w w21) := ⟨H20.out.1.below hb, H20.out.2.1.below hb, H20.out.2.2.1.below hb, H20.out.2.2.2.1.below hb, H20.out.2.2.2.2.trans (hb.mono H20.out.2.2.2.2.size)⟩
        clear H20 hb
        clear hB1
        go_wp2_with fail
        refine (add_num H21.out.2.2.2.1 H21.out.2.2.1 F.out.2.2.2.2).mono ?_
        rintro e w22 ⟨s2, rfl, hr, hb⟩
        have H22 : Hid (Num w22 a (A) ∧ Num w22 (.slice adb kb capb) (B) ∧ Num w22 one (1) ∧ Num w22 s (B * B) ∧ Num w22 s2 (B * B + 1) ∧ Below w.heap.size w w22) := ⟨H21.out.1.below hb, H21.out.2.1.below hb, H21.out.2.2.1.below hb, H21.out.2.2.2.1.below hb, hr, H21.out.2.2.2.2.trans (hb.mono H21.out.2.2.2.2.size)⟩
        clear H21 hb hr
        go_wp2_with fail
        refine (root_is H22.out.2.2.2.2.1 (sq_succ hBp) false (decide_eq_false (by omega))).mono ?_
        rintro e w23 ⟨r4, rfl, hr, hb⟩
        have H23 : Hid (Num w23 a (A) ∧ Num w23 (.slice adb kb capb) (B) ∧ Num w23 one (1) ∧ Num w23 s (B * B) ∧ Num w23 r4 (B) ∧ Below w.heap.size w w23) := ⟨H22.out.1.below hb, H22.out.2.1.below hb, H22.out.2.2.1.below hb, H22.out.2.2.2.1.below hb, hr, H22.out.2.2.2.2.2.trans (hb.mono H22.out.2.2.2.2.2.size)⟩
        clear H22 hb hr
        go_wp2_with fail
        refine (num_below 0 _).mono ?_
        rintro e w24 ⟨rfl, hb⟩
        have H24 : Hid (Num w24 a (A) ∧ Num w24 (.slice adb kb capb) (B) ∧ Num w24 one (1) ∧ Num w24 s (B * B) ∧ Num w24 r4 (B) ∧ Below w.heap.size w w24) := ⟨H23.out.1.below hb, H23.out.2.1.below hb, H23.out.2.2.1.below hb, H23.out.2.2.2.1.below hb, H23.out.2.2.2.2.1.below hb, H23.out.2.2.2.2.2.trans (hb.mono H23.out.2.2.2.2.2.size)⟩
        clear H23 hb
        go_wp2_with fail
        refine (eq_true H24.out.2.2.2.2.1 H24.out.2.1 rfl).mono ?_
        rintro e w25 ⟨rfl, hb⟩
        have H25 : Hid (Num w25 a (A) ∧ Num w25 (.slice adb kb capb) (B) ∧ Num w25 one (1) ∧ Num w25 s (B * B) ∧ Below w.heap.size w w25) := ⟨H24.out.1.below hb, H24.out.2.1.below hb, H24.out.2.2.1.below hb, H24.out.2.2.2.1.below hb, H24.out.2.2.2.2.2.trans (hb.mono H24.out.2.2.2.2.2.size)⟩
        clear H24 hb
        go_wp2_with fail
        refine (wakes_any _).mono ?_
        rintro e w26 ⟨rfl, hb⟩
        have H26 : Hid (Num w26 a (A) ∧ Num w26 (.slice adb kb capb) (B) ∧ Num w26 one (1) ∧ Num w26 s (B * B) ∧ Below w.heap.size w w26) := ⟨H25.out.1.below hb, H25.out.2.1.below hb, H25.out.2.2.1.below hb, H25.out.2.2.2.1.below hb, H25.out.2.2.2.2.trans (hb.mono H25.out.2.2.2.2.size)⟩
        clear H25 hb
        go_wp2_with fail
        go_ret
        exact ⟨rfl, H26.out.2.2.2.2⟩

end Go.Proofs.Ytfbkdjghbgdgpaa
