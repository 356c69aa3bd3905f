/- LimbDivides' walk. -/
import Derived.Test.YtfbkdjghbgdgpaaU
import Derived.Test.YtfbkdjghbgdgpaaAB
namespace Go.Proofs.Ytfbkdjghbgdgpaa
open Go.RowKit
open M
set_option linter.unusedVariables false
set_option linter.unusedSimpArgs false

theorem num_below (e : Int) (w : World) : Calls Try.prog 23 #[.int .i64 e] w fun r w' => r = .returned (.int .i64 e) ∧ Below w.heap.size w w' :=
  (num_any e w).mono fun r w' ⟨h1, h2⟩ => ⟨h1, by rw [h2]; exact Below.refl _ _⟩

theorem div_fits {Q B C m : Nat} (hQ : Q < 4294967296 ^ m) (hB : B < 4294967296 ^ m) (hm : m ≤ 300) (hB0 : 0 < B) : Fits (Q * B) ∧ Fits (Q * B + C % B) ∧ Fits (Q + 1) ∧ Fits (B * (Q + 1)) ∧ Fits (B / (Q + 1) * (Q + 1)) ∧ Fits (B / (Q + 1) * (Q + 1) + B % (Q + 1)) := by
  have h1 := mul_lt_pow hQ hB
  have hmod := Nat.mod_lt C hB0
  have h2 : Q * B + C % B < 4294967296 ^ (m + m + 1) := by
    refine add_lt_pow h1 (Nat.lt_of_lt_of_le (Nat.lt_trans hmod hB) (Nat.pow_le_pow_right (by omega) (by omega)))
  have h3 : Q + 1 < 4294967296 ^ (m + 1) := by rw [pw_succ]; omega
  have h4 := mul_lt_pow hB h3
  have h5 : B / (Q + 1) * (Q + 1) ≤ B := Nat.div_mul_le_self _ _
  have h6 : B / (Q + 1) * (Q + 1) + B % (Q + 1) = B := by rw [Nat.mul_comm]; exact Nat.div_add_mod _ _
  exact ⟨fits_of (k := m + m) (by omega) h1, fits_of (k := m + m + 1) (by omega) h2, fits_of (k := m + 1) (by omega) h3, fits_of (k := m + (m + 1)) (by omega) h4, fits_of (k := m) (by omega) (Nat.lt_of_le_of_lt h5 hB), by rw [h6]; exact fits_of (k := m) (by omega) hB⟩

theorem div_back (Q B C : Nat) (hB : 0 < B) : (Q * B + C % B) / B = Q ∧ (Q * B + C % B) % B = C % B := by
  have hm := Nat.mod_lt C hB
  rw [Nat.add_comm, Nat.mul_comm]
  exact ⟨by rw [Nat.add_mul_div_left _ _ hB, Nat.div_eq_of_lt hm, Nat.zero_add], by rw [Nat.add_mul_mod_self_left, Nat.mod_mod]⟩

theorem div_less (Q B : Nat) (hB : 0 < B) : (B * (Q + 1) - 1) / B = Q ∧ (B * (Q + 1) - 1) % B = B - 1 := by
  have e : B * (Q + 1) - 1 = (B - 1) + B * Q := by rw [Nat.mul_add, Nat.mul_one]; omega
  rw [e]
  exact ⟨by rw [Nat.add_mul_div_left _ _ hB, Nat.div_eq_of_lt (by omega), Nat.zero_add], by rw [Nat.add_mul_mod_self_left, Nat.mod_eq_of_lt (by omega)]⟩

theorem DivMod_zero_b {v u : Value} {A : Nat} {w : World} (h : Num w v A) (h' : Num w u 0) :
    Calls Try.prog 22 #[v, u] w fun e w' => e = .returned (.tuple #[.slice none 0 0, .slice none 0 0, .int .i64 23]) ∧ Below w.heap.size w w' :=
  (DivMod_zero h h').mono fun r w' ⟨h1, h2⟩ => ⟨h1, by rw [h2]; exact Below.refl _ _⟩

set_option maxRecDepth 100000 in
set_option maxHeartbeats 8000000 in
theorem divides_any (aL aN : Option Addr) (nL cL nN cN : Nat) (w : World) (h : IsRows w aL nL) :
    Calls Try.prog 5 #[.agg #[.slice aL nL cL, .slice aN nN cN]] w fun e w' => e = .returned (.bool true) ∧ Below w.heap.size w w' := by
  have HB0 : Hid (Below w.heap.size w (w.alloc (.cells #[.slice aL nL cL, .slice aN nN cN] 43))) := (Below.refl _ _).alloc (Nat.le_refl _) _
  have HR := hide (h.below HB0.out)
  clear h
  go_enter Try.func5, Try.ntmps5
  go_wp2_with fail
  refine (three_any aL aN nL cL nN cN 250 _ HR.out (by omega)).mono ?_
  rintro e w0 ⟨q, b, c, rfl, Q, B, C, hA, hB, hC, hAl, hBl, hCl, hb⟩
  have HL := hide (And.intro hAl hBl)
  have H0 : Hid (Num w0 q (Q) ∧ Num w0 b (B) ∧ Num w0 c (C) ∧ Below w.heap.size w w0) := ⟨hA, hB, hC, HB0.out.trans (hb.mono HB0.out.size)⟩
  clear hA hB hC hAl hBl hCl hb HB0 HR
  obtain ⟨adb, kb, capb, rfl, hkb, hlb⟩ := num_len H0.out.2.1
  have HKb := hide hkb
  clear hkb
  by_cases hB0 : B = 0
  · have hkz : kb = 0 := HKb.out.2 hB0
    subst hkz
    subst hB0
    go_wp2_with fail
    refine (DivMod_zero_b H0.out.1 H0.out.2.1).mono ?_
    rintro e w1 ⟨rfl, hb⟩
    have H1 : Hid (Num w1 q (Q) ∧ Num w1 (.slice adb 0 capb) (0) ∧ Num w1 c (C) ∧ Below w.heap.size w w1) := ⟨H0.out.1.below hb, H0.out.2.1.below hb, H0.out.2.2.1.below hb, H0.out.2.2.2.trans (hb.mono H0.out.2.2.2.size)⟩
    clear H0 hb
    go_wp2_with fail
    refine (num_below 23 _).mono ?_
    rintro e w2 ⟨rfl, hb⟩
    have H2 : Hid (Num w2 q (Q) ∧ Num w2 (.slice adb 0 capb) (0) ∧ Num w2 c (C) ∧ Below w.heap.size w w2) := ⟨H1.out.1.below hb, H1.out.2.1.below hb, H1.out.2.2.1.below hb, H1.out.2.2.2.trans (hb.mono H1.out.2.2.2.size)⟩
    clear H1 hb
    go_wp2_with fail
    refine (wakes_any _).mono ?_
    rintro e w3 ⟨rfl, hb⟩
    have H3 : Hid (Num w3 q (Q) ∧ Num w3 (.slice adb 0 capb) (0) ∧ Num w3 c (C) ∧ Below w.heap.size w w3) := ⟨H2.out.1.below hb, H2.out.2.1.below hb, H2.out.2.2.1.below hb, H2.out.2.2.2.trans (hb.mono H2.out.2.2.2.size)⟩
    clear H2 hb
    go_wp2_with fail
    go_ret
    exact ⟨rfl, H3.out.2.2.2⟩
  · have hkz : ((kb : Int) == 0) = false := by rw [beq_eq_false_iff_ne]; intro e; exact hB0 (HKb.out.1 (by omega))
    have hBp : 0 < B := Nat.pos_of_ne_zero hB0
    have F := hide (div_fits (C := C) HL.out.1 HL.out.2 (by omega) hBp)
    have HD := hide (And.intro (div_back Q B C hBp) (div_less Q B hBp))
    have hml := Nat.mod_lt C hBp
    go_wp2_with fail
    refine (DivMod_num H0.out.2.2.1 H0.out.2.1 hBp).mono ?_
    rintro e w1 ⟨x9, r, rfl, hq, hr, hb⟩
    have H1 : Hid (Num w1 q (Q) ∧ Num w1 (.slice adb kb capb) (B) ∧ Num w1 x9 (C / B) ∧ Num w1 r (C % B) ∧ Below w.heap.size w w1) := ⟨H0.out.1.below hb, H0.out.2.1.below hb, hq, hr, H0.out.2.2.2.trans (hb.mono H0.out.2.2.2.size)⟩
    clear H0 hb hr
    clear hq
    obtain ⟨adr, kr, capr, rfl, hkr, hlr⟩ := num_len H1.out.2.2.2.1
    have HKr := hide hkr
    clear hkr
    go_wp2_with fail
    refine (num_below 0 _).mono ?_
    rintro e w2 ⟨rfl, hb⟩
    have H2 : Hid (Num w2 q (Q) ∧ Num w2 (.slice adb kb capb) (B) ∧ Num w2 (.slice adr kr capr) (C % B) ∧ Below w.heap.size w w2) := ⟨H1.out.1.below hb, H1.out.2.1.below hb, H1.out.2.2.2.1.below hb, H1.out.2.2.2.2.trans (hb.mono H1.out.2.2.2.2.size)⟩
    clear H1 hb
    go_wp2_with fail
    refine (cmp_is H2.out.2.2.1 H2.out.2.1 (-1) (cmpI_lt hml)).mono ?_
    rintro e w3 ⟨rfl, hb⟩
    have H3 : Hid (Num w3 q (Q) ∧ Num w3 (.slice adb kb capb) (B) ∧ Num w3 (.slice adr kr capr) (C % B) ∧ Below w.heap.size w w3) := ⟨H2.out.1.below hb, H2.out.2.1.below hb, H2.out.2.2.1.below hb, H2.out.2.2.2.trans (hb.mono H2.out.2.2.2.size)⟩
    clear H2 hb
    go_wp2_with fail
    refine (mul_num H3.out.1 H3.out.2.1 F.out.1).mono ?_
    rintro e w4 ⟨m1, rfl, hr, hb⟩
    have H4 : Hid (Num w4 q (Q) ∧ Num w4 (.slice adb kb capb) (B) ∧ Num w4 (.slice adr kr capr) (C % B) ∧ Num w4 m1 (Q * B) ∧ Below w.heap.size w w4) := ⟨H3.out.1.below hb, H3.out.2.1.below hb, H3.out.2.2.1.below hb, hr, H3.out.2.2.2.trans (hb.mono H3.out.2.2.2.size)⟩
    clear H3 hb hr
    go_wp2_with fail
    refine (add_num H4.out.2.2.2.1 H4.out.2.2.1 F.out.2.1).mono ?_
    rintro e w5 ⟨a, rfl, hr, hb⟩
    have H5 : Hid (Num w5 q (Q) ∧ Num w5 (.slice adb kb capb) (B) ∧ Num w5 (.slice adr kr capr) (C % B) ∧ Num w5 a (Q * B + C % B) ∧ Below w.heap.size w w5) := ⟨H4.out.1.below hb, H4.out.2.1.below hb, H4.out.2.2.1.below hb, hr, H4.out.2.2.2.2.trans (hb.mono H4.out.2.2.2.2.size)⟩
    clear H4 hb hr
    go_wp2_with fail
    refine (DivMod_num H5.out.2.2.2.1 H5.out.2.1 hBp).mono ?_
    rintro e w6 ⟨x, y, rfl, hq, hr, hb⟩
    have H6 : Hid (Num w6 q (Q) ∧ Num w6 (.slice adb kb capb) (B) ∧ Num w6 (.slice adr kr capr) (C % B) ∧ Num w6 x ((Q * B + C % B) / B) ∧ Num w6 y ((Q * B + C % B) % B) ∧ Below w.heap.size w w6) := ⟨H5.out.1.below hb, H5.out.2.1.below hb, H5.out.2.2.1.below hb, hq, hr, H5.out.2.2.2.2.trans (hb.mono H5.out.2.2.2.2.size)⟩
    clear H5 hb hr
    clear hq
    go_wp2_with fail
    refine (num_below 0 _).mono ?_
    rintro e w7 ⟨rfl, hb⟩
    have H7 : Hid (Num w7 q (Q) ∧ Num w7 (.slice adb kb capb) (B) ∧ Num w7 (.slice adr kr capr) (C % B) ∧ Num w7 x ((Q * B + C % B) / B) ∧ Num w7 y ((Q * B + C % B) % B) ∧ Below w.heap.size w w7) := ⟨H6.out.1.below hb, H6.out.2.1.below hb, H6.out.2.2.1.below hb, H6.out.2.2.2.1.below hb, H6.out.2.2.2.2.1.below hb, H6.out.2.2.2.2.2.trans (hb.mono H6.out.2.2.2.2.2.size)⟩
    clear H6 hb
    go_wp2_with fail
    refine (eq_true H7.out.2.2.2.1 H7.out.1 HD.out.1.1).mono ?_
    rintro e w8 ⟨rfl, hb⟩
    have H8 : Hid (Num w8 q (Q) ∧ Num w8 (.slice adb kb capb) (B) ∧ Num w8 (.slice adr kr capr) (C % B) ∧ Num w8 y ((Q * B + C % B) % B) ∧ Below w.heap.size w w8) := ⟨H7.out.1.below hb, H7.out.2.1.below hb, H7.out.2.2.1.below hb, H7.out.2.2.2.2.1.below hb, H7.out.2.2.2.2.2.trans (hb.mono H7.out.2.2.2.2.2.size)⟩
    clear H7 hb
    go_wp2_with fail
    refine (eq_true H8.out.2.2.2.1 H8.out.2.2.1 HD.out.1.2).mono ?_
    rintro e w9 ⟨rfl, hb⟩
    have H9 : Hid (Num w9 q (Q) ∧ Num w9 (.slice adb kb capb) (B) ∧ Num w9 (.slice adr kr capr) (C % B) ∧ Below w.heap.size w w9) := ⟨H8.out.1.below hb, H8.out.2.1.below hb, H8.out.2.2.1.below hb, H8.out.2.2.2.2.trans (hb.mono H8.out.2.2.2.2.size)⟩
    clear H8 hb
    by_cases hR0 : C % B = 0
    · have hrz : kr = 0 := HKr.out.2 hR0
      subst hrz
      go_wp2_with fail
      refine (from_num 1 _ (by omega)).mono ?_
      rintro e w10 ⟨o4, rfl, hr, hb⟩
      have H10 : Hid (Num w10 q (Q) ∧ Num w10 (.slice adb kb capb) (B) ∧ Num w10 (.slice adr 0 capr) (C % B) ∧ Num w10 o4 (1) ∧ Below w.heap.size w w10) := ⟨H9.out.1.below hb, H9.out.2.1.below hb, H9.out.2.2.1.below hb, hr, H9.out.2.2.2.trans (hb.mono H9.out.2.2.2.size)⟩
      clear H9 hb hr
      go_wp2_with fail
      refine (add_num H10.out.1 H10.out.2.2.2.1 F.out.2.2.1).mono ?_
      rintro e w11 ⟨q2, rfl, hr, hb⟩
      have H11 : Hid (Num w11 q (Q) ∧ Num w11 (.slice adb kb capb) (B) ∧ Num w11 (.slice adr 0 capr) (C % B) ∧ Num w11 q2 (Q + 1) ∧ Below w.heap.size w w11) := ⟨H10.out.1.below hb, H10.out.2.1.below hb, H10.out.2.2.1.below hb, hr, H10.out.2.2.2.2.trans (hb.mono H10.out.2.2.2.2.size)⟩
      clear H10 hb hr
      go_wp2_with fail
      refine (DivMod_num H11.out.2.1 H11.out.2.2.2.1 (Nat.succ_pos _)).mono ?_
      rintro e w12 ⟨x3, y3, rfl, hq, hr, hb⟩
      have H12 : Hid (Num w12 q (Q) ∧ Num w12 (.slice adb kb capb) (B) ∧ Num w12 (.slice adr 0 capr) (C % B) ∧ Num w12 x3 (B / (Q + 1)) ∧ Num w12 y3 (B % (Q + 1)) ∧ Below w.heap.size w w12) := ⟨H11.out.1.below hb, H11.out.2.1.below hb, H11.out.2.2.1.below hb, hq, hr, H11.out.2.2.2.2.trans (hb.mono H11.out.2.2.2.2.size)⟩
      clear H11 hb hr
      clear hq
      go_wp2_with fail
      refine (num_below 0 _).mono ?_
      rintro e w13 ⟨rfl, hb⟩
      have H13 : Hid (Num w13 q (Q) ∧ Num w13 (.slice adb kb capb) (B) ∧ Num w13 (.slice adr 0 capr) (C % B) ∧ Num w13 x3 (B / (Q + 1)) ∧ Num w13 y3 (B % (Q + 1)) ∧ Below w.heap.size w w13) := ⟨H12.out.1.below hb, H12.out.2.1.below hb, H12.out.2.2.1.below hb, H12.out.2.2.2.1.below hb, H12.out.2.2.2.2.1.below hb, H12.out.2.2.2.2.2.trans (hb.mono H12.out.2.2.2.2.2.size)⟩
      clear H12 hb
      go_wp2_with fail
      refine (from_num 1 _ (by omega)).mono ?_
      rintro e w14 ⟨o5, rfl, hr, hb⟩
      have H14 : Hid (Num w14 q (Q) ∧ Num w14 (.slice adb kb capb) (B) ∧ Num w14 (.slice adr 0 capr) (C % B) ∧ Num w14 x3 (B / (Q + 1)) ∧ Num w14 y3 (B % (Q + 1)) ∧ Num w14 o5 (1) ∧ Below w.heap.size w w14) := ⟨H13.out.1.below hb, H13.out.2.1.below hb, H13.out.2.2.1.below hb, H13.out.2.2.2.1.below hb, H13.out.2.2.2.2.1.below hb, hr, H13.out.2.2.2.2.2.trans (hb.mono H13.out.2.2.2.2.2.size)⟩
      clear H13 hb hr
      go_wp2_with fail
      refine (add_num H14.out.1 H14.out.2.2.2.2.2.1 F.out.2.2.1).mono ?_
      rintro e w15 ⟨q3, rfl, hr, hb⟩
      have H15 : Hid (Num w15 q (Q) ∧ Num w15 (.slice adb kb capb) (B) ∧ Num w15 (.slice adr 0 capr) (C % B) ∧ Num w15 x3 (B / (Q + 1)) ∧ Num w15 y3 (B % (Q + 1)) ∧ Num w15 q3 (Q + 1) ∧ Below w.heap.size w w15) := ⟨H14.out.1.below hb, H14.out.2.1.below hb, H14.out.2.2.1.below hb, H14.out.2.2.2.1.below hb, H14.out.2.2.2.2.1.below hb, hr, H14.out.2.2.2.2.2.2.trans (hb.mono H14.out.2.2.2.2.2.2.size)⟩
      clear H14 hb hr
      go_wp2_with fail
      refine (mul_num H15.out.2.2.2.1 H15.out.2.2.2.2.2.1 F.out.2.2.2.2.1).mono ?_
      rintro e w16 ⟨m3, rfl, hr, hb⟩
      have H16 : Hid (Num w16 q (Q) ∧ Num w16 (.slice adb kb capb) (B) ∧ Num w16 (.slice adr 0 capr) (C % B) ∧ Num w16 y3 (B % (Q + 1)) ∧ Num w16 m3 ((B / (Q + 1)) * (Q + 1)) ∧ Below w.heap.size w w16) := ⟨H15.out.1.below hb, H15.out.2.1.below hb, H15.out.2.2.1.below hb, H15.out.2.2.2.2.1.below hb, hr, H15.out.2.2.2.2.2.2.trans (hb.mono H15.out.2.2.2.2.2.2.size)⟩
      clear H15 hb hr
      go_wp2_with fail
      refine (add_num H16.out.2.2.2.2.1 H16.out.2.2.2.1 F.out.2.2.2.2.2).mono ?_
      rintro e w17 ⟨a3, rfl, hr, hb⟩
      have H17 : Hid (Num w17 q (Q) ∧ Num w17 (.slice adb kb capb) (B) ∧ Num w17 (.slice adr 0 capr) (C % B) ∧ Num w17 y3 (B % (Q + 1)) ∧ Num w17 a3 (B / (Q + 1) * (Q + 1) + B % (Q + 1)) ∧ Below w.heap.size w w17) := ⟨H16.out.1.below hb, H16.out.2.1.below hb, H16.out.2.2.1.below hb, H16.out.2.2.2.1.below hb, hr, H16.out.2.2.2.2.2.trans (hb.mono H16.out.2.2.2.2.2.size)⟩
      clear H16 hb hr
      go_wp2_with fail
      refine (eq_true H17.out.2.2.2.2.1 H17.out.2.1 (by rw [Nat.mul_comm]; exact Nat.div_add_mod _ _)).mono ?_
      rintro e w18 ⟨rfl, hb⟩
      have H18 : Hid (Num w18 q (Q) ∧ Num w18 (.slice adb kb capb) (B) ∧ Num w18 (.slice adr 0 capr) (C % B) ∧ Num w18 y3 (B % (Q + 1)) ∧ Below w.heap.size w w18) := ⟨H17.out.1.below hb, H17.out.2.1.below hb, H17.out.2.2.1.below hb, H17.out.2.2.2.1.below hb, H17.out.2.2.2.2.2.trans (hb.mono H17.out.2.2.2.2.2.size)⟩
      clear H17 hb
      go_wp2_with fail
      refine (from_num 1 _ (by omega)).mono ?_
      rintro e w19 ⟨o6, rfl, hr, hb⟩
      have H19 : Hid (Num w19 q (Q) ∧ Num w19 (.slice adb kb capb) (B) ∧ Num w19 (.slice adr 0 capr) (C % B) ∧ Num w19 y3 (B % (Q + 1)) ∧ Num w19 o6 (1) ∧ Below w.heap.size w w19) := ⟨H18.out.1.below hb, H18.out.2.1.below hb, H18.out.2.2.1.below hb, H18.out.2.2.2.1.below hb, hr, H18.out.2.2.2.2.trans (hb.mono H18.out.2.2.2.2.size)⟩
      clear H18 hb hr
      go_wp2_with fail
      refine (add_num H19.out.1 H19.out.2.2.2.2.1 F.out.2.2.1).mono ?_
      rintro e w20 ⟨q4, rfl, hr, hb⟩
      have H20 : Hid (Num w20 q (Q) ∧ Num w20 (.slice adb kb capb) (B) ∧ Num w20 (.slice adr 0 capr) (C % B) ∧ Num w20 y3 (B % (Q + 1)) ∧ Num w20 q4 (Q + 1) ∧ Below w.heap.size w w20) := ⟨H19.out.1.below hb, H19.out.2.1.below hb, H19.out.2.2.1.below hb, H19.out.2.2.2.1.below hb, hr, H19.out.2.2.2.2.2.trans (hb.mono H19.out.2.2.2.2.2.size)⟩
      clear H19 hb hr
      go_wp2_with fail
      refine (cmp_is H20.out.2.2.2.1 H20.out.2.2.2.2.1 (-1) (cmpI_lt (Nat.mod_lt _ (Nat.succ_pos _)))).mono ?_
      rintro e w21 ⟨rfl, hb⟩
      have H21 : Hid (Num w21 q (Q) ∧ Num w21 (.slice adb kb capb) (B) ∧ Num w21 (.slice adr 0 capr) (C % B) ∧ Num w21 y3 (B % (Q + 1)) ∧ Num w21 q4 (Q + 1) ∧ Below w.heap.size w w21) := ⟨H20.out.1.below hb, H20.out.2.1.below hb, H20.out.2.2.1.below hb, H20.out.2.2.2.1.below hb, H20.out.2.2.2.2.1.below hb, H20.out.2.2.2.2.2.trans (hb.mono H20.out.2.2.2.2.2.size)⟩
      clear H20 hb
      go_wp2_with fail
      refine (wakes_any _).mono ?_
      rintro e w22 ⟨rfl, hb⟩
      have H22 : Hid (Num w22 q (Q) ∧ Num w22 (.slice adb kb capb) (B) ∧ Num w22 (.slice adr 0 capr) (C % B) ∧ Num w22 y3 (B % (Q + 1)) ∧ Num w22 q4 (Q + 1) ∧ Below w.heap.size w w22) := ⟨H21.out.1.below hb, H21.out.2.1.below hb, H21.out.2.2.1.below hb, H21.out.2.2.2.1.below hb, H21.out.2.2.2.2.1.below hb, H21.out.2.2.2.2.2.trans (hb.mono H21.out.2.2.2.2.2.size)⟩
      clear H21 hb
      go_wp2_with fail
      go_ret
      exact ⟨rfl, H22.out.2.2.2.2.2⟩
    · have hrz : ¬ kr = 0 := fun e => hR0 (HKr.out.1 e)
      have hrz2 : (0 : Int) < (kr : Int) := by omega
      go_wp2_with fail
      refine (from_num 1 _ (by omega)).mono ?_
      rintro e w10 ⟨o1, rfl, hr, hb⟩
      have H10 : Hid (Num w10 q (Q) ∧ Num w10 (.slice adb kb capb) (B) ∧ Num w10 (.slice adr kr capr) (C % B) ∧ Num w10 o1 (1) ∧ Below w.heap.size w w10) := ⟨H9.out.1.below hb, H9.out.2.1.below hb, H9.out.2.2.1.below hb, hr, H9.out.2.2.2.trans (hb.mono H9.out.2.2.2.size)⟩
      clear H9 hb hr
      go_wp2_with fail
      refine (add_num H10.out.1 H10.out.2.2.2.1 F.out.2.2.1).mono ?_
      rintro e w11 ⟨q1, rfl, hr, hb⟩
      have H11 : Hid (Num w11 q (Q) ∧ Num w11 (.slice adb kb capb) (B) ∧ Num w11 (.slice adr kr capr) (C % B) ∧ Num w11 q1 (Q + 1) ∧ Below w.heap.size w w11) := ⟨H10.out.1.below hb, H10.out.2.1.below hb, H10.out.2.2.1.below hb, hr, H10.out.2.2.2.2.trans (hb.mono H10.out.2.2.2.2.size)⟩
      clear H10 hb hr
      go_wp2_with fail
      refine (mul_num H11.out.2.1 H11.out.2.2.2.1 F.out.2.2.2.1).mono ?_
      rintro e w12 ⟨m2, rfl, hr, hb⟩
      have H12 : Hid (Num w12 q (Q) ∧ Num w12 (.slice adb kb capb) (B) ∧ Num w12 (.slice adr kr capr) (C % B) ∧ Num w12 m2 (B * (Q + 1)) ∧ Below w.heap.size w w12) := ⟨H11.out.1.below hb, H11.out.2.1.below hb, H11.out.2.2.1.below hb, hr, H11.out.2.2.2.2.trans (hb.mono H11.out.2.2.2.2.size)⟩
      clear H11 hb hr
      go_wp2_with fail
      refine (from_num 1 _ (by omega)).mono ?_
      rintro e w13 ⟨o2, rfl, hr, hb⟩
      have H13 : Hid (Num w13 q (Q) ∧ Num w13 (.slice adb kb capb) (B) ∧ Num w13 (.slice adr kr capr) (C % B) ∧ Num w13 m2 (B * (Q + 1)) ∧ Num w13 o2 (1) ∧ Below w.heap.size w w13) := ⟨H12.out.1.below hb, H12.out.2.1.below hb, H12.out.2.2.1.below hb, H12.out.2.2.2.1.below hb, hr, H12.out.2.2.2.2.trans (hb.mono H12.out.2.2.2.2.size)⟩
      clear H12 hb hr
      go_wp2_with fail
      refine (sub_num H13.out.2.2.2.1 H13.out.2.2.2.2.1 (Nat.mul_pos hBp (Nat.succ_pos _))).mono ?_
      rintro e w14 ⟨s1, rfl, hr, hb⟩
      have H14 : Hid (Num w14 q (Q) ∧ Num w14 (.slice adb kb capb) (B) ∧ Num w14 (.slice adr kr capr) (C % B) ∧ Num w14 s1 ((B * (Q + 1)) - 1) ∧ Below w.heap.size w w14) := ⟨H13.out.1.below hb, H13.out.2.1.below hb, H13.out.2.2.1.below hb, hr, H13.out.2.2.2.2.2.trans (hb.mono H13.out.2.2.2.2.2.size)⟩
      clear H13 hb hr
      go_wp2_with fail
      refine (DivMod_num H14.out.2.2.2.1 H14.out.2.1 hBp).mono ?_
      rintro e w15 ⟨x2, y2, rfl, hq, hr, hb⟩
      have H15 : Hid (Num w15 q (Q) ∧ Num w15 (.slice adb kb capb) (B) ∧ Num w15 (.slice adr kr capr) (C % B) ∧ Num w15 x2 (((B * (Q + 1)) - 1) / B) ∧ Num w15 y2 (((B * (Q + 1)) - 1) % B) ∧ Below w.heap.size w w15) := ⟨H14.out.1.below hb, H14.out.2.1.below hb, H14.out.2.2.1.below hb, hq, hr, H14.out.2.2.2.2.trans (hb.mono H14.out.2.2.2.2.size)⟩
      clear H14 hb hr
      clear hq
      go_wp2_with fail
      refine (num_below 0 _).mono ?_
      rintro e w16 ⟨rfl, hb⟩
      have H16 : Hid (Num w16 q (Q) ∧ Num w16 (.slice adb kb capb) (B) ∧ Num w16 (.slice adr kr capr) (C % B) ∧ Num w16 x2 (((B * (Q + 1)) - 1) / B) ∧ Num w16 y2 (((B * (Q + 1)) - 1) % B) ∧ Below w.heap.size w w16) := ⟨H15.out.1.below hb, H15.out.2.1.below hb, H15.out.2.2.1.below hb, H15.out.2.2.2.1.below hb, H15.out.2.2.2.2.1.below hb, H15.out.2.2.2.2.2.trans (hb.mono H15.out.2.2.2.2.2.size)⟩
      clear H15 hb
      go_wp2_with fail
      refine (eq_true H16.out.2.2.2.1 H16.out.1 HD.out.2.1).mono ?_
      rintro e w17 ⟨rfl, hb⟩
      have H17 : Hid (Num w17 q (Q) ∧ Num w17 (.slice adb kb capb) (B) ∧ Num w17 (.slice adr kr capr) (C % B) ∧ Num w17 y2 (((B * (Q + 1)) - 1) % B) ∧ Below w.heap.size w w17) := ⟨H16.out.1.below hb, H16.out.2.1.below hb, H16.out.2.2.1.below hb, H16.out.2.2.2.2.1.below hb, H16.out.2.2.2.2.2.trans (hb.mono H16.out.2.2.2.2.2.size)⟩
      clear H16 hb
      go_wp2_with fail
      refine (from_num 1 _ (by omega)).mono ?_
      rintro e w18 ⟨o3, rfl, hr, hb⟩
      have H18 : Hid (Num w18 q (Q) ∧ Num w18 (.slice adb kb capb) (B) ∧ Num w18 (.slice adr kr capr) (C % B) ∧ Num w18 y2 (((B * (Q + 1)) - 1) % B) ∧ Num w18 o3 (1) ∧ Below w.heap.size w w18) := ⟨H17.out.1.below hb, H17.out.2.1.below hb, H17.out.2.2.1.below hb, H17.out.2.2.2.1.below hb, hr, H17.out.2.2.2.2.trans (hb.mono H17.out.2.2.2.2.size)⟩
      clear H17 hb hr
      go_wp2_with fail
      refine (sub_num H18.out.2.1 H18.out.2.2.2.2.1 hBp).mono ?_
      rintro e w19 ⟨b1, rfl, hr, hb⟩
      have H19 : Hid (Num w19 q (Q) ∧ Num w19 (.slice adb kb capb) (B) ∧ Num w19 (.slice adr kr capr) (C % B) ∧ Num w19 y2 (((B * (Q + 1)) - 1) % B) ∧ Num w19 b1 (B - 1) ∧ Below w.heap.size w w19) := ⟨H18.out.1.below hb, H18.out.2.1.below hb, H18.out.2.2.1.below hb, H18.out.2.2.2.1.below hb, hr, H18.out.2.2.2.2.2.trans (hb.mono H18.out.2.2.2.2.2.size)⟩
      clear H18 hb hr
      go_wp2_with fail
      refine (eq_true H19.out.2.2.2.1 H19.out.2.2.2.2.1 HD.out.2.2).mono ?_
      rintro e w20 ⟨rfl, hb⟩
      have H20 : Hid (Num w20 q (Q) ∧ Num w20 (.slice adb kb capb) (B) ∧ Num w20 (.slice adr kr capr) (C % B) ∧ Below w.heap.size w w20) := ⟨H19.out.1.below hb, H19.out.2.1.below hb, H19.out.2.2.1.below hb, H19.out.2.2.2.2.2.trans (hb.mono H19.out.2.2.2.2.2.size)⟩
      clear H19 hb
      go_wp2_with fail
      refine (from_num 1 _ (by omega)).mono ?_
      rintro e w21 ⟨o4, rfl, hr, hb⟩
      have H21 : Hid (Num w21 q (Q) ∧ Num w21 (.slice adb kb capb) (B) ∧ Num w21 (.slice adr kr capr) (C % B) ∧ Num w21 o4 (1) ∧ Below w.heap.size w w21) := ⟨H20.out.1.below hb, H20.out.2.1.below hb, H20.out.2.2.1.below hb, hr, H20.out.2.2.2.trans (hb.mono H20.out.2.2.2.size)⟩
      clear H20 hb hr
      go_wp2_with fail
      refine (add_num H21.out.1 H21.out.2.2.2.1 F.out.2.2.1).mono ?_
      rintro e w22 ⟨q2, rfl, hr, hb⟩
      have H22 : Hid (Num w22 q (Q) ∧ Num w22 (.slice adb kb capb) (B) ∧ Num w22 (.slice adr kr capr) (C % B) ∧ Num w22 q2 (Q + 1) ∧ Below w.heap.size w w22) := ⟨H21.out.1.below hb, H21.out.2.1.below hb, H21.out.2.2.1.below hb, hr, H21.out.2.2.2.2.trans (hb.mono H21.out.2.2.2.2.size)⟩
      clear H21 hb hr
      go_wp2_with fail
      refine (DivMod_num H22.out.2.1 H22.out.2.2.2.1 (Nat.succ_pos _)).mono ?_
      rintro e w23 ⟨x3, y3, rfl, hq, hr, hb⟩
      have H23 : Hid (Num w23 q (Q) ∧ Num w23 (.slice adb kb capb) (B) ∧ Num w23 (.slice adr kr capr) (C % B) ∧ Num w23 x3 (B / (Q + 1)) ∧ Num w23 y3 (B % (Q + 1)) ∧ Below w.heap.size w w23) := ⟨H22.out.1.below hb, H22.out.2.1.below hb, H22.out.2.2.1.below hb, hq, hr, H22.out.2.2.2.2.trans (hb.mono H22.out.2.2.2.2.size)⟩
      clear H22 hb hr
      clear hq
      go_wp2_with fail
      refine (num_below 0 _).mono ?_
      rintro e w24 ⟨rfl, hb⟩
      have H24 : Hid (Num w24 q (Q) ∧ Num w24 (.slice adb kb capb) (B) ∧ Num w24 (.slice adr kr capr) (C % B) ∧ Num w24 x3 (B / (Q + 1)) ∧ Num w24 y3 (B % (Q + 1)) ∧ Below w.heap.size w w24) := ⟨H23.out.1.below hb, H23.out.2.1.below hb, H23.out.2.2.1.below hb, H23.out.2.2.2.1.below hb, H23.out.2.2.2.2.1.below hb, H23.out.2.2.2.2.2.trans (hb.mono H23.out.2.2.2.2.2.size)⟩
      clear H23 hb
      go_wp2_with fail
      refine (from_num 1 _ (by omega)).mono ?_
      rintro e w25 ⟨o5, rfl, hr, hb⟩
      have H25 : Hid (Num w25 q (Q) ∧ Num w25 (.slice adb kb capb) (B) ∧ Num w25 (.slice adr kr capr) (C % B) ∧ Num w25 x3 (B / (Q + 1)) ∧ Num w25 y3 (B % (Q + 1)) ∧ Num w25 o5 (1) ∧ Below w.heap.size w w25) := ⟨H24.out.1.below hb, H24.out.2.1.below hb, H24.out.2.2.1.below hb, H24.out.2.2.2.1.below hb, H24.out.2.2.2.2.1.below hb, hr, H24.out.2.2.2.2.2.trans (hb.mono H24.out.2.2.2.2.2.size)⟩
      clear H24 hb hr
      go_wp2_with fail
      refine (add_num H25.out.1 H25.out.2.2.2.2.2.1 F.out.2.2.1).mono ?_
      rintro e w26 ⟨q3, rfl, hr, hb⟩
      have H26 : Hid (Num w26 q (Q) ∧ Num w26 (.slice adb kb capb) (B) ∧ Num w26 (.slice adr kr capr) (C % B) ∧ Num w26 x3 (B / (Q + 1)) ∧ Num w26 y3 (B % (Q + 1)) ∧ Num w26 q3 (Q + 1) ∧ Below w.heap.size w w26) := ⟨H25.out.1.below hb, H25.out.2.1.below hb, H25.out.2.2.1.below hb, H25.out.2.2.2.1.below hb, H25.out.2.2.2.2.1.below hb, hr, H25.out.2.2.2.2.2.2.trans (hb.mono H25.out.2.2.2.2.2.2.size)⟩
      clear H25 hb hr
      go_wp2_with fail
      refine (mul_num H26.out.2.2.2.1 H26.out.2.2.2.2.2.1 F.out.2.2.2.2.1).mono ?_
      rintro e w27 ⟨m3, rfl, hr, hb⟩
      have H27 : Hid (Num w27 q (Q) ∧ Num w27 (.slice adb kb capb) (B) ∧ Num w27 (.slice adr kr capr) (C % B) ∧ Num w27 y3 (B % (Q + 1)) ∧ Num w27 m3 ((B / (Q + 1)) * (Q + 1)) ∧ Below w.heap.size w w27) := ⟨H26.out.1.below hb, H26.out.2.1.below hb, H26.out.2.2.1.below hb, H26.out.2.2.2.2.1.below hb, hr, H26.out.2.2.2.2.2.2.trans (hb.mono H26.out.2.2.2.2.2.2.size)⟩
      clear H26 hb hr
      go_wp2_with fail
      refine (add_num H27.out.2.2.2.2.1 H27.out.2.2.2.1 F.out.2.2.2.2.2).mono ?_
      rintro e w28 ⟨a3, rfl, hr, hb⟩
      have H28 : Hid (Num w28 q (Q) ∧ Num w28 (.slice adb kb capb) (B) ∧ Num w28 (.slice adr kr capr) (C % B) ∧ Num w28 y3 (B % (Q + 1)) ∧ Num w28 a3 (B / (Q + 1) * (Q + 1) + B % (Q + 1)) ∧ Below w.heap.size w w28) := ⟨H27.out.1.below hb, H27.out.2.1.below hb, H27.out.2.2.1.below hb, H27.out.2.2.2.1.below hb, hr, H27.out.2.2.2.2.2.trans (hb.mono H27.out.2.2.2.2.2.size)⟩
      clear H27 hb hr
      go_wp2_with fail
      refine (eq_true H28.out.2.2.2.2.1 H28.out.2.1 (by rw [Nat.mul_comm]; exact Nat.div_add_mod _ _)).mono ?_
      rintro e w29 ⟨rfl, hb⟩
      have H29 : Hid (Num w29 q (Q) ∧ Num w29 (.slice adb kb capb) (B) ∧ Num w29 (.slice adr kr capr) (C % B) ∧ Num w29 y3 (B % (Q + 1)) ∧ Below w.heap.size w w29) := ⟨H28.out.1.below hb, H28.out.2.1.below hb, H28.out.2.2.1.below hb, H28.out.2.2.2.1.below hb, H28.out.2.2.2.2.2.trans (hb.mono H28.out.2.2.2.2.2.size)⟩
      clear H28 hb
      go_wp2_with fail
      refine (from_num 1 _ (by omega)).mono ?_
      rintro e w30 ⟨o6, rfl, hr, hb⟩
      have H30 : Hid (Num w30 q (Q) ∧ Num w30 (.slice adb kb capb) (B) ∧ Num w30 (.slice adr kr capr) (C % B) ∧ Num w30 y3 (B % (Q + 1)) ∧ Num w30 o6 (1) ∧ Below w.heap.size w w30) := ⟨H29.out.1.below hb, H29.out.2.1.below hb, H29.out.2.2.1.below hb, H29.out.2.2.2.1.below hb, hr, H29.out.2.2.2.2.trans (hb.mono H29.out.2.2.2.2.size)⟩
      clear H29 hb hr
      go_wp2_with fail
      refine (add_num H30.out.1 H30.out.2.2.2.2.1 F.out.2.2.1).mono ?_
      rintro e w31 ⟨q4, rfl, hr, hb⟩
      have H31 : Hid (Num w31 q (Q) ∧ Num w31 (.slice adb kb capb) (B) ∧ Num w31 (.slice adr kr capr) (C % B) ∧ Num w31 y3 (B % (Q + 1)) ∧ Num w31 q4 (Q + 1) ∧ Below w.heap.size w w31) := ⟨H30.out.1.below hb, H30.out.2.1.below hb, H30.out.2.2.1.below hb, H30.out.2.2.2.1.below hb, hr, H30.out.2.2.2.2.2.trans (hb.mono H30.out.2.2.2.2.2.size)⟩
      clear H30 hb hr
      go_wp2_with fail
      refine (cmp_is H31.out.2.2.2.1 H31.out.2.2.2.2.1 (-1) (cmpI_lt (Nat.mod_lt _ (Nat.succ_pos _)))).mono ?_
      rintro e w32 ⟨rfl, hb⟩
      have H32 : Hid (Num w32 q (Q) ∧ Num w32 (.slice adb kb capb) (B) ∧ Num w32 (.slice adr kr capr) (C % B) ∧ Num w32 y3 (B % (Q + 1)) ∧ Num w32 q4 (Q + 1) ∧ Below w.heap.size w w32) := ⟨H31.out.1.below hb, H31.out.2.1.below hb, H31.out.2.2.1.below hb, H31.out.2.2.2.1.below hb, H31.out.2.2.2.2.1.below hb, H31.out.2.2.2.2.2.trans (hb.mono H31.out.2.2.2.2.2.size)⟩
      clear H31 hb
      go_wp2_with fail
      refine (wakes_any _).mono ?_
      rintro e w33 ⟨rfl, hb⟩
      have H33 : Hid (Num w33 q (Q) ∧ Num w33 (.slice adb kb capb) (B) ∧ Num w33 (.slice adr kr capr) (C % B) ∧ Num w33 y3 (B % (Q + 1)) ∧ Num w33 q4 (Q + 1) ∧ Below w.heap.size w w33) := ⟨H32.out.1.below hb, H32.out.2.1.below hb, H32.out.2.2.1.below hb, H32.out.2.2.2.1.below hb, H32.out.2.2.2.2.1.below hb, H32.out.2.2.2.2.2.trans (hb.mono H32.out.2.2.2.2.2.size)⟩
      clear H32 hb
      go_wp2_with fail
      go_ret
      exact ⟨rfl, H33.out.2.2.2.2.2⟩

end Go.Proofs.Ytfbkdjghbgdgpaa
