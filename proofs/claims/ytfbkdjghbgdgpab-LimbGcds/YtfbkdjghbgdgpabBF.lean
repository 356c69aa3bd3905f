/- LimbGcds' walk. -/
import Derived.Test.YtfbkdjghbgdgpabUB
import Derived.Test.YtfbkdjghbgdgpabBE
namespace Go.Proofs.Ytfbkdjghbgdgpab
open Go.RowKit
open M
set_option linter.unusedVariables false
set_option linter.unusedSimpArgs false

theorem gcd_facts {A B C : Nat} (hA : A < 4294967296 ^ 25) (hB : B < 4294967296 ^ 25) (hC : C < 4294967296 ^ 25) (hA0 : 0 < A) (hB0 : 0 < B) :
    0 < Nat.gcd A B ∧ A % Nat.gcd A B = 0 ∧ B % Nat.gcd A B = 0 ∧ Nat.gcd (A / Nat.gcd A B) (B / Nat.gcd A B) = 1 ∧ Nat.gcd (A * C) (B * C) = Nat.gcd A B * C ∧ Fits (A * C) ∧ Fits (B * C) ∧ Fits (Nat.gcd A B * C) := by
  have hg : 0 < Nat.gcd A B := Nat.gcd_pos_of_pos_left _ hA0
  have hf : ∀ D, D < 4294967296 ^ 25 → Fits (D * C) := fun D hD => fits_of (k := 25 + 25) (by omega) (mul_lt_pow hD hC)
  refine ⟨hg, Nat.mod_eq_zero_of_dvd (Nat.gcd_dvd_left _ _), Nat.mod_eq_zero_of_dvd (Nat.gcd_dvd_right _ _), ?_, Nat.gcd_mul_right _ _ _, hf A hA, hf B hB, hf _ (Nat.lt_of_le_of_lt (Nat.gcd_le_left _ hA0) hA)⟩
  rw [Nat.gcd_div (Nat.gcd_dvd_left _ _) (Nat.gcd_dvd_right _ _), Nat.div_self hg]

set_option maxRecDepth 100000 in
set_option maxHeartbeats 8000000 in
theorem gcds_any (aL aN : Option Addr) (nL cL nN cN : Nat) (w : World) (h : IsRows w aL nL) :
    Calls Try.prog 3 #[.agg #[.slice aL nL cL, .slice aN nN cN]] w fun e w' => e = .returned (.bool true) ∧ Below w.heap.size w w' := by
  have HB0 : Hid (Below w.heap.size w (w.alloc (.cells #[.slice aL nL cL, .slice aN nN cN] 25))) := (Below.refl _ _).alloc (Nat.le_refl _) _
  have HR := hide (h.below HB0.out)
  clear h
  go_enter Try.func3, Try.ntmps3
  go_wp2_with fail
  refine (three_any aL aN nL cL nN cN 25 _ HR.out (by omega)).mono ?_
  rintro e w0 ⟨a, b, c, rfl, A, B, C, hA, hB, hC, hAl, hBl, hCl, hb⟩
  have HL := hide (And.intro hAl (And.intro hBl hCl))
  have H0 : Hid (Num w0 a (A) ∧ Num w0 b (B) ∧ Num w0 c (C) ∧ Below w.heap.size w w0) := ⟨hA, hB, hC, HB0.out.trans (hb.mono HB0.out.size)⟩
  clear hA hB hC hAl hBl hCl hb HB0 HR
  go_wp2_with fail
  refine (Gcd_num H0.out.1 H0.out.2.1).mono ?_
  rintro e w1 ⟨g, rfl, hr, hb⟩
  have H1 : Hid (Num w1 a (A) ∧ Num w1 b (B) ∧ Num w1 c (C) ∧ Num w1 g (Nat.gcd A B) ∧ Below w.heap.size w w1) := ⟨H0.out.1.below hb, H0.out.2.1.below hb, H0.out.2.2.1.below hb, hr, H0.out.2.2.2.trans (hb.mono H0.out.2.2.2.size)⟩
  clear H0 hb hr
  go_wp2_with fail
  refine (Gcd_num H1.out.2.1 H1.out.1).mono ?_
  rintro e w2 ⟨h, rfl, hr, hb⟩
  have H2 : Hid (Num w2 a (A) ∧ Num w2 b (B) ∧ Num w2 c (C) ∧ Num w2 g (Nat.gcd A B) ∧ Num w2 h (Nat.gcd B A) ∧ Below w.heap.size w w2) := ⟨H1.out.1.below hb, H1.out.2.1.below hb, H1.out.2.2.1.below hb, H1.out.2.2.2.1.below hb, hr, H1.out.2.2.2.2.trans (hb.mono H1.out.2.2.2.2.size)⟩
  clear H1 hb hr
  go_wp2_with fail
  refine (num_below 0 _).mono ?_
  rintro e w3 ⟨rfl, hb⟩
  have H3 : Hid (Num w3 a (A) ∧ Num w3 b (B) ∧ Num w3 c (C) ∧ Num w3 g (Nat.gcd A B) ∧ Num w3 h (Nat.gcd B A) ∧ Below w.heap.size w w3) := ⟨H2.out.1.below hb, H2.out.2.1.below hb, H2.out.2.2.1.below hb, H2.out.2.2.2.1.below hb, H2.out.2.2.2.2.1.below hb, H2.out.2.2.2.2.2.trans (hb.mono H2.out.2.2.2.2.2.size)⟩
  clear H2 hb
  go_wp2_with fail
  refine (num_below 0 _).mono ?_
  rintro e w4 ⟨rfl, hb⟩
  have H4 : Hid (Num w4 a (A) ∧ Num w4 b (B) ∧ Num w4 c (C) ∧ Num w4 g (Nat.gcd A B) ∧ Num w4 h (Nat.gcd B A) ∧ Below w.heap.size w w4) := ⟨H3.out.1.below hb, H3.out.2.1.below hb, H3.out.2.2.1.below hb, H3.out.2.2.2.1.below hb, H3.out.2.2.2.2.1.below hb, H3.out.2.2.2.2.2.trans (hb.mono H3.out.2.2.2.2.2.size)⟩
  clear H3 hb
  go_wp2_with fail
  refine (eq_true H4.out.2.2.2.1 H4.out.2.2.2.2.1 (Nat.gcd_comm A B)).mono ?_
  rintro e w5 ⟨rfl, hb⟩
  have H5 : Hid (Num w5 a (A) ∧ Num w5 b (B) ∧ Num w5 c (C) ∧ Num w5 g (Nat.gcd A B) ∧ Below w.heap.size w w5) := ⟨H4.out.1.below hb, H4.out.2.1.below hb, H4.out.2.2.1.below hb, H4.out.2.2.2.1.below hb, H4.out.2.2.2.2.2.trans (hb.mono H4.out.2.2.2.2.2.size)⟩
  clear H4 hb
  obtain ⟨ada, ka, capa, rfl, hka, hla⟩ := num_len H5.out.1
  have HKa := hide hka
  clear hka
  obtain ⟨adb, kb, capb, rfl, hkb, hlb⟩ := num_len H5.out.2.1
  have HKb := hide hkb
  clear hkb
  by_cases hA0 : A = 0
  · have hz : ka = 0 := HKa.out.2 hA0
    have HA0 := hide hA0
    clear hA0
    subst hz
    have F : Hid (Fits (A + B)) := by rw [HA0.out, Nat.zero_add]; exact fits_of (k := 25) (by omega) HL.out.2.1
    go_wp2_with fail
    refine (add_num H5.out.1 H5.out.2.1 F.out).mono ?_
    rintro e w6 ⟨s, rfl, hr, hb⟩
    have H6 : Hid (Num w6 (.slice ada 0 capa) (A) ∧ Num w6 (.slice adb kb capb) (B) ∧ Num w6 c (C) ∧ Num w6 g (Nat.gcd A B) ∧ Num w6 s (A + B) ∧ Below w.heap.size w w6) := ⟨H5.out.1.below hb, H5.out.2.1.below hb, H5.out.2.2.1.below hb, H5.out.2.2.2.1.below hb, hr, H5.out.2.2.2.2.trans (hb.mono H5.out.2.2.2.2.size)⟩
    clear H5 hb hr
    go_wp2_with fail
    refine (eq_true H6.out.2.2.2.1 H6.out.2.2.2.2.1 (by rw [HA0.out, Nat.gcd_zero_left, Nat.zero_add])).mono ?_
    rintro e w7 ⟨rfl, hb⟩
    have H7 : Hid (Num w7 (.slice ada 0 capa) (A) ∧ Num w7 (.slice adb kb capb) (B) ∧ Num w7 c (C) ∧ Num w7 g (Nat.gcd A B) ∧ Num w7 s (A + B) ∧ Below w.heap.size w w7) := ⟨H6.out.1.below hb, H6.out.2.1.below hb, H6.out.2.2.1.below hb, H6.out.2.2.2.1.below hb, H6.out.2.2.2.2.1.below hb, H6.out.2.2.2.2.2.trans (hb.mono H6.out.2.2.2.2.2.size)⟩
    clear H6 hb
    go_wp2_with fail
    refine (wakes_any _).mono ?_
    rintro e w8 ⟨rfl, hb⟩
    have H8 : Hid (Num w8 (.slice ada 0 capa) (A) ∧ Num w8 (.slice adb kb capb) (B) ∧ Num w8 c (C) ∧ Num w8 g (Nat.gcd A B) ∧ Num w8 s (A + B) ∧ Below w.heap.size w w8) := ⟨H7.out.1.below hb, H7.out.2.1.below hb, H7.out.2.2.1.below hb, H7.out.2.2.2.1.below hb, H7.out.2.2.2.2.1.below hb, H7.out.2.2.2.2.2.trans (hb.mono H7.out.2.2.2.2.2.size)⟩
    clear H7 hb
    go_wp2_with fail
    go_ret
    exact ⟨rfl, H8.out.2.2.2.2.2⟩
  · have hka : ((ka : Int) == 0) = false := by rw [beq_eq_false_iff_ne]; intro e; exact hA0 (HKa.out.1 (by omega))
    by_cases hB0 : B = 0
    · have hz : kb = 0 := HKb.out.2 hB0
      have HB0 := hide hB0
      clear hB0
      subst hz
      have F : Hid (Fits (A + B)) := by rw [HB0.out, Nat.add_zero]; exact fits_of (k := 25) (by omega) HL.out.1
      go_wp2_with fail
      refine (add_num H5.out.1 H5.out.2.1 F.out).mono ?_
      rintro e w6 ⟨s, rfl, hr, hb⟩
      have H6 : Hid (Num w6 (.slice ada ka capa) (A) ∧ Num w6 (.slice adb 0 capb) (B) ∧ Num w6 c (C) ∧ Num w6 g (Nat.gcd A B) ∧ Num w6 s (A + B) ∧ Below w.heap.size w w6) := ⟨H5.out.1.below hb, H5.out.2.1.below hb, H5.out.2.2.1.below hb, H5.out.2.2.2.1.below hb, hr, H5.out.2.2.2.2.trans (hb.mono H5.out.2.2.2.2.size)⟩
      clear H5 hb hr
      go_wp2_with fail
      refine (eq_true H6.out.2.2.2.1 H6.out.2.2.2.2.1 (by rw [HB0.out, Nat.gcd_zero_right, Nat.add_zero])).mono ?_
      rintro e w7 ⟨rfl, hb⟩
      have H7 : Hid (Num w7 (.slice ada ka capa) (A) ∧ Num w7 (.slice adb 0 capb) (B) ∧ Num w7 c (C) ∧ Num w7 g (Nat.gcd A B) ∧ Num w7 s (A + B) ∧ Below w.heap.size w w7) := ⟨H6.out.1.below hb, H6.out.2.1.below hb, H6.out.2.2.1.below hb, H6.out.2.2.2.1.below hb, H6.out.2.2.2.2.1.below hb, H6.out.2.2.2.2.2.trans (hb.mono H6.out.2.2.2.2.2.size)⟩
      clear H6 hb
      go_wp2_with fail
      refine (wakes_any _).mono ?_
      rintro e w8 ⟨rfl, hb⟩
      have H8 : Hid (Num w8 (.slice ada ka capa) (A) ∧ Num w8 (.slice adb 0 capb) (B) ∧ Num w8 c (C) ∧ Num w8 g (Nat.gcd A B) ∧ Num w8 s (A + B) ∧ Below w.heap.size w w8) := ⟨H7.out.1.below hb, H7.out.2.1.below hb, H7.out.2.2.1.below hb, H7.out.2.2.2.1.below hb, H7.out.2.2.2.2.1.below hb, H7.out.2.2.2.2.2.trans (hb.mono H7.out.2.2.2.2.2.size)⟩
      clear H7 hb
      go_wp2_with fail
      go_ret
      exact ⟨rfl, H8.out.2.2.2.2.2⟩
    · have hkb : ((kb : Int) == 0) = false := by rw [beq_eq_false_iff_ne]; intro e; exact hB0 (HKb.out.1 (by omega))
      have F := hide (gcd_facts HL.out.1 HL.out.2.1 HL.out.2.2 (Nat.pos_of_ne_zero hA0) (Nat.pos_of_ne_zero hB0))
      go_wp2_with fail
      refine (DivMod_num H5.out.1 H5.out.2.2.2.1 F.out.1).mono ?_
      rintro e w6 ⟨x, r, rfl, hq, hr, hb⟩
      have H6 : Hid (Num w6 (.slice ada ka capa) (A) ∧ Num w6 (.slice adb kb capb) (B) ∧ Num w6 c (C) ∧ Num w6 g (Nat.gcd A B) ∧ Num w6 x (A / (Nat.gcd A B)) ∧ Num w6 r (A % (Nat.gcd A B)) ∧ Below w.heap.size w w6) := ⟨H5.out.1.below hb, H5.out.2.1.below hb, H5.out.2.2.1.below hb, H5.out.2.2.2.1.below hb, hq, hr, H5.out.2.2.2.2.trans (hb.mono H5.out.2.2.2.2.size)⟩
      clear H5 hb hr
      clear hq
      go_wp2_with fail
      refine (DivMod_num H6.out.2.1 H6.out.2.2.2.1 F.out.1).mono ?_
      rintro e w7 ⟨y, s, rfl, hq, hr, hb⟩
      have H7 : Hid (Num w7 (.slice ada ka capa) (A) ∧ Num w7 (.slice adb kb capb) (B) ∧ Num w7 c (C) ∧ Num w7 g (Nat.gcd A B) ∧ Num w7 x (A / (Nat.gcd A B)) ∧ Num w7 r (A % (Nat.gcd A B)) ∧ Num w7 y (B / (Nat.gcd A B)) ∧ Num w7 s (B % (Nat.gcd A B)) ∧ Below w.heap.size w w7) := ⟨H6.out.1.below hb, H6.out.2.1.below hb, H6.out.2.2.1.below hb, H6.out.2.2.2.1.below hb, H6.out.2.2.2.2.1.below hb, H6.out.2.2.2.2.2.1.below hb, hq, hr, H6.out.2.2.2.2.2.2.trans (hb.mono H6.out.2.2.2.2.2.2.size)⟩
      clear H6 hb hr
      clear hq
      go_wp2_with fail
      refine (num_below 0 _).mono ?_
      rintro e w8 ⟨rfl, hb⟩
      have H8 : Hid (Num w8 (.slice ada ka capa) (A) ∧ Num w8 (.slice adb kb capb) (B) ∧ Num w8 c (C) ∧ Num w8 g (Nat.gcd A B) ∧ Num w8 x (A / (Nat.gcd A B)) ∧ Num w8 r (A % (Nat.gcd A B)) ∧ Num w8 y (B / (Nat.gcd A B)) ∧ Num w8 s (B % (Nat.gcd A B)) ∧ Below w.heap.size w w8) := ⟨H7.out.1.below hb, H7.out.2.1.below hb, H7.out.2.2.1.below hb, H7.out.2.2.2.1.below hb, H7.out.2.2.2.2.1.below hb, H7.out.2.2.2.2.2.1.below hb, H7.out.2.2.2.2.2.2.1.below hb, H7.out.2.2.2.2.2.2.2.1.below hb, H7.out.2.2.2.2.2.2.2.2.trans (hb.mono H7.out.2.2.2.2.2.2.2.2.size)⟩
      clear H7 hb
      go_wp2_with fail
      refine (num_below 0 _).mono ?_
      rintro e w9 ⟨rfl, hb⟩
      have H9 : Hid (Num w9 (.slice ada ka capa) (A) ∧ Num w9 (.slice adb kb capb) (B) ∧ Num w9 c (C) ∧ Num w9 g (Nat.gcd A B) ∧ Num w9 x (A / (Nat.gcd A B)) ∧ Num w9 r (A % (Nat.gcd A B)) ∧ Num w9 y (B / (Nat.gcd A B)) ∧ Num w9 s (B % (Nat.gcd A B)) ∧ Below w.heap.size w w9) := ⟨H8.out.1.below hb, H8.out.2.1.below hb, H8.out.2.2.1.below hb, H8.out.2.2.2.1.below hb, H8.out.2.2.2.2.1.below hb, H8.out.2.2.2.2.2.1.below hb, H8.out.2.2.2.2.2.2.1.below hb, H8.out.2.2.2.2.2.2.2.1.below hb, H8.out.2.2.2.2.2.2.2.2.trans (hb.mono H8.out.2.2.2.2.2.2.2.2.size)⟩
      clear H8 hb
      obtain ⟨adr, kr, capr, rfl, hkr, hlr⟩ := num_len H9.out.2.2.2.2.2.1
      have HKr := hide hkr
      clear hkr
      have hz : kr = 0 := HKr.out.2 F.out.2.1
      subst hz
      obtain ⟨ads, ks, caps, rfl, hks, hls⟩ := num_len H9.out.2.2.2.2.2.2.2.1
      have HKs := hide hks
      clear hks
      have hz : ks = 0 := HKs.out.2 F.out.2.2.1
      subst hz
      go_wp2_with fail
      refine (Gcd_num H9.out.2.2.2.2.1 H9.out.2.2.2.2.2.2.1).mono ?_
      rintro e w10 ⟨h, rfl, hr, hb⟩
      have H10 : Hid (Num w10 (.slice ada ka capa) (A) ∧ Num w10 (.slice adb kb capb) (B) ∧ Num w10 c (C) ∧ Num w10 g (Nat.gcd A B) ∧ Num w10 h (Nat.gcd (A / (Nat.gcd A B)) (B / (Nat.gcd A B))) ∧ Below w.heap.size w w10) := ⟨H9.out.1.below hb, H9.out.2.1.below hb, H9.out.2.2.1.below hb, H9.out.2.2.2.1.below hb, hr, H9.out.2.2.2.2.2.2.2.2.trans (hb.mono H9.out.2.2.2.2.2.2.2.2.size)⟩
      clear H9 hb hr
      go_wp2_with fail
      refine (num_below 0 _).mono ?_
      rintro e w11 ⟨rfl, hb⟩
      have H11 : Hid (Num w11 (.slice ada ka capa) (A) ∧ Num w11 (.slice adb kb capb) (B) ∧ Num w11 c (C) ∧ Num w11 g (Nat.gcd A B) ∧ Num w11 h (Nat.gcd (A / (Nat.gcd A B)) (B / (Nat.gcd A B))) ∧ Below w.heap.size w w11) := ⟨H10.out.1.below hb, H10.out.2.1.below hb, H10.out.2.2.1.below hb, H10.out.2.2.2.1.below hb, H10.out.2.2.2.2.1.below hb, H10.out.2.2.2.2.2.trans (hb.mono H10.out.2.2.2.2.2.size)⟩
      clear H10 hb
      go_wp2_with fail
      refine (from_num 1 _ (by omega)).mono ?_
      rintro e w12 ⟨o, rfl, hr, hb⟩
      have H12 : Hid (Num w12 (.slice ada ka capa) (A) ∧ Num w12 (.slice adb kb capb) (B) ∧ Num w12 c (C) ∧ Num w12 g (Nat.gcd A B) ∧ Num w12 h (Nat.gcd (A / (Nat.gcd A B)) (B / (Nat.gcd A B))) ∧ Num w12 o (1) ∧ Below w.heap.size w w12) := ⟨H11.out.1.below hb, H11.out.2.1.below hb, H11.out.2.2.1.below hb, H11.out.2.2.2.1.below hb, H11.out.2.2.2.2.1.below hb, hr, H11.out.2.2.2.2.2.trans (hb.mono H11.out.2.2.2.2.2.size)⟩
      clear H11 hb hr
      go_wp2_with fail
      refine (eq_true H12.out.2.2.2.2.1 H12.out.2.2.2.2.2.1 F.out.2.2.2.1).mono ?_
      rintro e w13 ⟨rfl, hb⟩
      have H13 : Hid (Num w13 (.slice ada ka capa) (A) ∧ Num w13 (.slice adb kb capb) (B) ∧ Num w13 c (C) ∧ Num w13 g (Nat.gcd A B) ∧ Below w.heap.size w w13) := ⟨H12.out.1.below hb, H12.out.2.1.below hb, H12.out.2.2.1.below hb, H12.out.2.2.2.1.below hb, H12.out.2.2.2.2.2.2.trans (hb.mono H12.out.2.2.2.2.2.2.size)⟩
      clear H12 hb
      go_wp2_with fail
      refine (mul_num H13.out.1 H13.out.2.2.1 F.out.2.2.2.2.2.1).mono ?_
      rintro e w14 ⟨m, rfl, hr, hb⟩
      have H14 : Hid (Num w14 (.slice ada ka capa) (A) ∧ Num w14 (.slice adb kb capb) (B) ∧ Num w14 c (C) ∧ Num w14 g (Nat.gcd A B) ∧ Num w14 m (A * C) ∧ Below w.heap.size w w14) := ⟨H13.out.1.below hb, H13.out.2.1.below hb, H13.out.2.2.1.below hb, H13.out.2.2.2.1.below hb, hr, H13.out.2.2.2.2.trans (hb.mono H13.out.2.2.2.2.size)⟩
      clear H13 hb hr
      go_wp2_with fail
      refine (mul_num H14.out.2.1 H14.out.2.2.1 F.out.2.2.2.2.2.2.1).mono ?_
      rintro e w15 ⟨n, rfl, hr, hb⟩
      have H15 : Hid (Num w15 (.slice ada ka capa) (A) ∧ Num w15 (.slice adb kb capb) (B) ∧ Num w15 c (C) ∧ Num w15 g (Nat.gcd A B) ∧ Num w15 m (A * C) ∧ Num w15 n (B * C) ∧ Below w.heap.size w w15) := ⟨H14.out.1.below hb, H14.out.2.1.below hb, H14.out.2.2.1.below hb, H14.out.2.2.2.1.below hb, H14.out.2.2.2.2.1.below hb, hr, H14.out.2.2.2.2.2.trans (hb.mono H14.out.2.2.2.2.2.size)⟩
      clear H14 hb hr
      go_wp2_with fail
      refine (Gcd_num H15.out.2.2.2.2.1 H15.out.2.2.2.2.2.1).mono ?_
      rintro e w16 ⟨h2, rfl, hr, hb⟩
      have H16 : Hid (Num w16 (.slice ada ka capa) (A) ∧ Num w16 (.slice adb kb capb) (B) ∧ Num w16 c (C) ∧ Num w16 g (Nat.gcd A B) ∧ Num w16 h2 (Nat.gcd (A * C) (B * C)) ∧ Below w.heap.size w w16) := ⟨H15.out.1.below hb, H15.out.2.1.below hb, H15.out.2.2.1.below hb, H15.out.2.2.2.1.below hb, hr, H15.out.2.2.2.2.2.2.trans (hb.mono H15.out.2.2.2.2.2.2.size)⟩
      clear H15 hb hr
      go_wp2_with fail
      refine (num_below 0 _).mono ?_
      rintro e w17 ⟨rfl, hb⟩
      have H17 : Hid (Num w17 (.slice ada ka capa) (A) ∧ Num w17 (.slice adb kb capb) (B) ∧ Num w17 c (C) ∧ Num w17 g (Nat.gcd A B) ∧ Num w17 h2 (Nat.gcd (A * C) (B * C)) ∧ Below w.heap.size w w17) := ⟨H16.out.1.below hb, H16.out.2.1.below hb, H16.out.2.2.1.below hb, H16.out.2.2.2.1.below hb, H16.out.2.2.2.2.1.below hb, H16.out.2.2.2.2.2.trans (hb.mono H16.out.2.2.2.2.2.size)⟩
      clear H16 hb
      go_wp2_with fail
      refine (mul_num H17.out.2.2.2.1 H17.out.2.2.1 F.out.2.2.2.2.2.2.2).mono ?_
      rintro e w18 ⟨p, rfl, hr, hb⟩
      have H18 : Hid (Num w18 (.slice ada ka capa) (A) ∧ Num w18 (.slice adb kb capb) (B) ∧ Num w18 c (C) ∧ Num w18 g (Nat.gcd A B) ∧ Num w18 h2 (Nat.gcd (A * C) (B * C)) ∧ Num w18 p ((Nat.gcd A B) * C) ∧ Below w.heap.size w w18) := ⟨H17.out.1.below hb, H17.out.2.1.below hb, H17.out.2.2.1.below hb, H17.out.2.2.2.1.below hb, H17.out.2.2.2.2.1.below hb, hr, H17.out.2.2.2.2.2.trans (hb.mono H17.out.2.2.2.2.2.size)⟩
      clear H17 hb hr
      go_wp2_with fail
      refine (eq_true H18.out.2.2.2.2.1 H18.out.2.2.2.2.2.1 F.out.2.2.2.2.1).mono ?_
      rintro e w19 ⟨rfl, hb⟩
      have H19 : Hid (Num w19 (.slice ada ka capa) (A) ∧ Num w19 (.slice adb kb capb) (B) ∧ Num w19 c (C) ∧ Num w19 g (Nat.gcd A B) ∧ Below w.heap.size w w19) := ⟨H18.out.1.below hb, H18.out.2.1.below hb, H18.out.2.2.1.below hb, H18.out.2.2.2.1.below hb, H18.out.2.2.2.2.2.2.trans (hb.mono H18.out.2.2.2.2.2.2.size)⟩
      clear H18 hb
      go_wp2_with fail
      refine (wakes_any _).mono ?_
      rintro e w20 ⟨rfl, hb⟩
      have H20 : Hid (Num w20 (.slice ada ka capa) (A) ∧ Num w20 (.slice adb kb capb) (B) ∧ Num w20 c (C) ∧ Num w20 g (Nat.gcd A B) ∧ Below w.heap.size w w20) := ⟨H19.out.1.below hb, H19.out.2.1.below hb, H19.out.2.2.1.below hb, H19.out.2.2.2.1.below hb, H19.out.2.2.2.2.trans (hb.mono H19.out.2.2.2.2.size)⟩
      clear H19 hb
      go_wp2_with fail
      go_ret
      exact ⟨rfl, H20.out.2.2.2.2⟩

end Go.Proofs.Ytfbkdjghbgdgpab
