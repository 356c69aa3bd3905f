/- LimbShifts' walk. -/
import Derived.Test.YtfbkdjghbgdgpaaDoorBM
import Derived.Test.YtfbkdjghbgdgpaaDoorUB
import Derived.Test.YtfbkdjghbgdgpaaDoorAH
import Derived.Test.YtfbkdjghbgdgpaaDoorAB
namespace Go.Proofs.YtfbkdjghbgdgpaaDoor
open Go.RowKit
open M
set_option linter.unusedVariables false
set_option linter.unusedSimpArgs false

/-- A slice of ints that came in. -/
def IsInts (w : World) (a : Option Addr) (n : Nat) : Prop :=
  n ≤ 9223372036854775807 ∧ (0 < n → ∃ g o, a = some ⟨g, o, none⟩ ∧ g < w.heap.size ∧ ∀ j, j < n → ∃ x : Int, w.cell? ⟨g, o + j, none⟩ = some (.int .i64 x) ∧ -9223372036854775808 ≤ x ∧ x < 9223372036854775808)

theorem left_num {v : Value} {A n N : Nat} {w : World} (h : Num w v A) (hn : n < 5000) (hN : A * 2 ^ n = N) (hf : Fits N) :
    Calls Tryd.prog 18 #[v, .int .i64 n] w fun e w' => ∃ r, e = .returned (.tuple #[r, .int .i64 0]) ∧ Num w' r N ∧ Below w.heap.size w w' := by
  obtain ⟨k, h1, h2, h3⟩ := h
  refine (Left_told v k A n w h1 h2 h3 (by omega)).mono ?_
  rintro e w' ⟨u, c, rfl, ht, hb⟩
  rw [hN] at ht
  obtain ⟨rfl, n, ho, hn⟩ := ht.ok hf
  exact ⟨u, rfl, ho.num hn hf, hb⟩

theorem pow_num {n N : Nat} {w : World} (hn : n < 5000) (hN : 2 ^ n = N) (hf : Fits N) :
    Calls Tryd.prog 10 #[.int .u32 2, .int .i64 n] w fun e w' => ∃ r, e = .returned (.tuple #[r, .int .i64 0]) ∧ Num w' r N ∧ Below w.heap.size w w' := by
  refine (Power_any 2 n w (by omega) (by omega)).mono ?_
  rintro e w' ⟨u, c, rfl, ht, hb⟩
  rw [hN] at ht
  obtain ⟨rfl, n, ho, hn⟩ := ht.ok hf
  exact ⟨u, rfl, ho.num hn hf, hb⟩

theorem right_num {v : Value} {A n Q : Nat} {w : World} (h : Num w v A) (hT : Tab w) (hn : n < 5000) (hQ : A / 2 ^ n = Q) (g : Bool) (hg : decide (A % 2 ^ n ≠ 0) = g) :
    Calls Tryd.prog 19 #[v, .int .i64 n] w fun e w' => ∃ r, e = .returned (.tuple #[r, .bool g, .int .i64 0]) ∧ Num w' r Q ∧ Below w.heap.size w w' := by
  have hf := h.fits.le (Nat.div_le_self A (2 ^ n))
  rw [hQ] at hf
  obtain ⟨k, h1, h2, h3⟩ := h
  refine (Right_own v k A n w h1 h2 h3 hT (by omega)).mono ?_
  rintro e w' ⟨r, m, rfl, ho, hm, hb⟩
  rw [hQ] at ho hm
  rw [hg]
  exact ⟨r, rfl, ho.num hm hf, hb⟩

theorem bit_num {v : Value} {A n : Nat} {w : World} (h : Num w v A) (hn : n < 5000) (b : Bool) (hb : decide (A / 2 ^ n % 2 = 1) = b) :
    Calls Tryd.prog 20 #[v, .int .i64 n] w fun e w' => e = .returned (.bool b) ∧ Below w.heap.size w w' := by
  obtain ⟨k, h1, h2, h3⟩ := h
  exact (Bit_row v k A n w h1 h2 h3 (by omega)).mono fun e w' ⟨he, hw⟩ => ⟨by rw [he, hb], by rw [hw]; exact Below.refl _ _⟩

theorem low_num {v : Value} {A t : Nat} {w : World} (h : Num w v A) (hT : Tab w) (ht : IsLow A t) :
    Calls Tryd.prog 24 #[v] w fun e w' => e = .returned (.int .i64 t) ∧ Below w.heap.size w w' := by
  obtain ⟨k, h1, h2, h3⟩ := h
  exact (Low_row v k A t w h1 h2 h3 hT ht).mono fun e w' ⟨he, hw⟩ => ⟨he, by rw [hw]; exact Below.refl _ _⟩

theorem leng_num {v : Value} {A b : Nat} {w : World} (h : Num w v A) (hb : bitLen A = b) :
    Calls Tryd.prog 23 #[v] w fun e w' => e = .returned (.int .i64 b) ∧ Below w.heap.size w w' := by
  obtain ⟨k, h1, h2, h3⟩ := h
  exact (Len_row v k A w h1 h2 h3).mono fun e w' ⟨he, hw⟩ => ⟨by rw [he, hb], by rw [hw]; exact Below.refl _ _⟩

theorem leftneg_num {v : Value} {A : Nat} {w : World} (h : Num w v A) (n : Int) (hn : n < 0) :
    Calls Tryd.prog 18 #[v, .int .i64 n] w fun e w' => e = .returned (.tuple #[.slice none 0 0, .int .i64 24]) ∧ Below w.heap.size w w' := by
  obtain ⟨k, h1, h2, h3⟩ := h
  exact (Left_neg v k A n w h1 h2 h3 hn).mono fun e w' ⟨he, hw⟩ => ⟨he, by rw [hw]; exact Below.refl _ _⟩

theorem rightneg_num {v : Value} {A : Nat} {w : World} (h : Num w v A) (n : Int) (hn : n < 0) :
    Calls Tryd.prog 19 #[v, .int .i64 n] w fun e w' => e = .returned (.tuple #[.slice none 0 0, .bool false, .int .i64 24]) ∧ Below w.heap.size w w' := by
  obtain ⟨k, h1, h2, h3⟩ := h
  exact (Right_neg v k A n w h1 h2 h3 hn).mono fun e w' ⟨he, hw⟩ => ⟨he, by rw [hw]; exact Below.refl _ _⟩

theorem bitneg_num {v : Value} {A : Nat} {w : World} (h : Num w v A) (n : Int) (hn : n < 0) :
    Calls Tryd.prog 20 #[v, .int .i64 n] w fun e w' => e = .returned (.bool false) ∧ Below w.heap.size w w' := by
  obtain ⟨k, h1, h2, h3⟩ := h
  exact (Bit_neg v k A n w h1 h2 h3 hn).mono fun e w' ⟨he, hw⟩ => ⟨he, by rw [hw]; exact Below.refl _ _⟩

theorem num_addr {ad : Option Addr} {k cap N : Nat} {w : World} (h : Num w (.slice ad k cap) N) (hk : 0 < k) : ∃ g o, ad = some ⟨g, o, none⟩ := by
  obtain ⟨m, ⟨_, _, ad', cap', hv, _, hc⟩, h2, h3⟩ := h
  simp only [Value.slice.injEq] at hv
  obtain ⟨g, o, ha, _⟩ := hc (by omega)
  exact ⟨g, o, by rw [hv.1, ha]⟩

theorem num_cell {g o k cap N : Nat} {w : World} (h : Num w (.slice (some ⟨g, o, none⟩) k cap) N) (hk : 0 < k) : w.cell? ⟨g, o, none⟩ = some (.int .u32 (dg N 0 : Nat)) := by
  obtain ⟨m, ⟨_, _, ad', cap', hv, _, hc⟩, h2, h3⟩ := h
  simp only [Value.slice.injEq] at hv
  obtain ⟨g', o', ha, _, hj⟩ := hc (by omega)
  rw [← hv.1] at ha
  simp only [Option.some.injEq, Addr.mk.injEq] at ha
  obtain ⟨rfl, rfl, _⟩ := ha
  exact hj 0 (by omega)

theorem dg_even (Q : Nat) : dg Q 0 % 2 = Q % 2 := by
  unfold dg
  rw [Nat.pow_zero, Nat.div_one]
  omega

theorem bits_bound {A k : Nat} (h : A < 4294967296 ^ k) : bitLen A ≤ 32 * k := bitLen_le (by rw [← pw_two]; exact h)

theorem bitLen_two (n : Nat) : bitLen (2 ^ n) = n + 1 := by
  have hs := bitLen_spec (2 ^ n)
  have h1 : n < bitLen (2 ^ n) := (Nat.pow_lt_pow_iff_right (by omega : 1 < 2)).1 hs.1
  have h2 : bitLen (2 ^ n) ≤ n + 1 := bitLen_le ((Nat.pow_lt_pow_iff_right (by omega : 1 < 2)).2 (by omega))
  omega

theorem bitLen_mul {A : Nat} (hA : A ≠ 0) (n : Nat) : bitLen (A * 2 ^ n) = bitLen A + n := by
  have h1 : A * 2 ^ n / 2 ^ n = A := Nat.mul_div_cancel _ (Nat.two_pow_pos n)
  have := bitLen_shift (A * 2 ^ n) n (by rw [h1]; exact hA)
  rw [h1] at this
  omega

/-- What is wanted of the numbers of a round. -/
structure Sh (A B n T X Q R : Nat) : Prop where
  two : 2 ^ n = T
  twoF : Fits T
  left : A * 2 ^ n = X
  leftF : Fits X
  mul : Fits (A * T)
  same : X = A * T
  back : X / 2 ^ n = A
  gone : decide (X % 2 ^ n ≠ 0) = false
  pos : 0 < T
  len : bitLen T = n + 1
  low : IsLow T n
  quo : B / T = Q
  rem : B % T = R
  quo2 : B / 2 ^ n = Q
  rem2 : B % 2 ^ n = R

theorem sh_gen {A B n p m : Nat} (hA : A < 4294967296 ^ p) (hn : n < 32 * m) (hpm : p + m ≤ 8192) : ∃ T X Q R, Sh A B n T X Q R := by
  have hp := Nat.two_pow_pos n
  have h2 : 2 ^ n < 4294967296 ^ m := by rw [pw_two]; exact (Nat.pow_lt_pow_iff_right (by omega)).2 hn
  have hX : A * 2 ^ n < 4294967296 ^ (p + m) := mul_lt_pow hA h2
  exact ⟨2 ^ n, A * 2 ^ n, B / 2 ^ n, B % 2 ^ n, rfl, fits_of (k := m) (by omega) h2, rfl, fits_of (k := p + m) hpm hX, fits_of (k := p + m) hpm hX, rfl, Nat.mul_div_cancel _ hp, by rw [Nat.mul_mod_left]; rfl, hp, bitLen_two n, isLow_two n, rfl, rfl, rfl, rfl⟩

theorem sh_any {A B n : Nat} (hA : A < 4294967296 ^ 200) (hn : n < 5000) : ∃ T X Q R, Sh A B n T X Q R := sh_gen (m := 157) hA (by omega) (by omega)

set_option maxRecDepth 100000 in
set_option maxHeartbeats 16000000 in
theorem shifts_any (aL aN : Option Addr) (nL cL nN cN : Nat) (w : World) (h : IsRows w aL nL) (hi : IsInts w aN nN) (hT : Tab w) :
    Calls Tryd.prog 4 #[.agg #[.slice aL nL cL, .slice aN nN cN]] w fun e w' => e = .returned (.bool true) ∧ Below w.heap.size w w' := by
  have HB0 : Hid (Below w.heap.size w (w.alloc (.cells #[.slice aL nL cL, .slice aN nN cN] 46))) := (Below.refl _ _).alloc (Nat.le_refl _) _
  have HR := hide (h.below HB0.out)
  have HI := hide hi
  have HT := hide (hT.below HB0.out)
  have HBox : Hid ((w.alloc (.cells #[.slice aL nL cL, .slice aN nN cN] 46)).cell? ⟨w.heap.size, 1, none⟩ = some (.slice aN nN cN)) := by show _ = _; rw [cell_of_row _ _ _ _ _ _ (heap_alloc_new _ _)]; rfl
  clear h hi hT
  go_enter Tryd.func4, Tryd.ntmps4
  go_wp2_with fail
  refine (three_any aL aN nL cL nN cN 200 _ HR.out (by omega)).mono ?_
  rintro e w0 ⟨a, b, c, rfl, A, B, C, hA, hB, hC, hAl, hBl, hCl, hb⟩
  have HL := hide (And.intro hAl hBl)
  have HW : Hid (Below w.heap.size w w0 ∧ Tab w0 ∧ w0.cell? ⟨w.heap.size, 1, none⟩ = some (.slice aN nN cN) ∧ w.heap.size < w0.heap.size ∧ Num w0 a A ∧ Num w0 b B) :=
    ⟨HB0.out.trans (hb.mono HB0.out.size), HT.out.below hb, (hb.cell (p := ⟨w.heap.size, 1, none⟩) (lt_of_cell HBox.out)).trans HBox.out, Nat.lt_of_lt_of_le (by simp) hb.size, hA, hB⟩
  clear hA hB hC hAl hBl hCl hb HB0 HR HT HBox
  obtain ⟨ada, ka, capa, rfl, hka, hla⟩ := num_len HW.out.2.2.2.2.1
  have HKa := hide hka
  clear hka
  go_wp2_with fail
  obtain ⟨M, hM⟩ : ∃ M, M = min nN 6 := ⟨_, rfl⟩
  have HMm : Hid (M ≤ nN ∧ M ≤ 6 ∧ (∀ i, i ≤ M → ¬ (i < nN ∧ i < 6) → i = M) ∧ ∀ i, i < nN → i < 6 → i < M) := ⟨by omega, by omega, fun i hi h => by omega, fun i h1 h2 => by omega⟩
  clear hM
  go_loopw [6] (fun t6 wr => ∃ i : Nat, i ≤ M ∧ t6 = .int .i64 i ∧ Hid (Below w0.heap.size w0 wr)) (fun t6 _ => M - (intOf t6).toNat)
  case atStart => exact ⟨0, by omega, rfl, Below.refl _ _⟩
  case round =>
    obtain ⟨i, hi, rfl, HB⟩ := hrel
    have hbox : wr.cell? ⟨w.heap.size, 1, none⟩ = some (.slice aN nN cN) := (HB.out.cell (p := ⟨w.heap.size, 1, none⟩) HW.out.2.2.2.1).trans HW.out.2.2.1
    by_cases hlt : i < nN ∧ i < 6
    · obtain ⟨hl1, hl2⟩ := hlt
      have hl1' : (i : Int) < (nN : Int) := by omega
      have hl2' : (i : Int) < 6 := by omega
      have hiM : i < M := HMm.out.2.2.2 i hl1 hl2
      obtain ⟨gN, oN, rfl, hgN, hjN⟩ := HI.out.2 (by omega)
      obtain ⟨x, hx0, hx1, hx2⟩ := hjN i hl1
      have hx : wr.cell? ⟨gN, oN + i, none⟩ = some (.int .i64 x) := by
        rw [HB.out.cell (p := ⟨gN, oN + i, none⟩) (Nat.lt_trans hgN HW.out.2.2.2.1), HW.out.1.cell (p := ⟨gN, oN + i, none⟩) hgN]
        exact hx0
      clear hjN hx0
      by_cases hxn : x < 0
      · have H0 : Hid (Num wr (.slice ada ka capa) (A) ∧ Num wr b (B) ∧ Below w0.heap.size w0 wr) := ⟨HW.out.2.2.2.2.1.below HB.out, HW.out.2.2.2.2.2.below HB.out, HB.out⟩
        go_wp2_with fail
        refine (leftneg_num H0.out.1 x hxn).mono ?_
        rintro e w1 ⟨rfl, hb⟩
        have H1 : Hid (Num w1 (.slice ada ka capa) (A) ∧ Num w1 b (B) ∧ Below w0.heap.size w0 w1) := ⟨H0.out.1.below hb, H0.out.2.1.below hb, H0.out.2.2.trans (hb.mono H0.out.2.2.size)⟩
        clear H0 hb
        go_wp2_with fail
        refine (rightneg_num H1.out.1 x hxn).mono ?_
        rintro e w2 ⟨rfl, hb⟩
        have H2 : Hid (Num w2 (.slice ada ka capa) (A) ∧ Num w2 b (B) ∧ Below w0.heap.size w0 w2) := ⟨H1.out.1.below hb, H1.out.2.1.below hb, H1.out.2.2.trans (hb.mono H1.out.2.2.size)⟩
        clear H1 hb
        go_wp2_with fail
        refine (num_below 24 _).mono ?_
        rintro e w3 ⟨rfl, hb⟩
        have H3 : Hid (Num w3 (.slice ada ka capa) (A) ∧ Num w3 b (B) ∧ Below w0.heap.size w0 w3) := ⟨H2.out.1.below hb, H2.out.2.1.below hb, H2.out.2.2.trans (hb.mono H2.out.2.2.size)⟩
        clear H2 hb
        go_wp2_with fail
        refine (num_below 24 _).mono ?_
        rintro e w4 ⟨rfl, hb⟩
        have H4 : Hid (Num w4 (.slice ada ka capa) (A) ∧ Num w4 b (B) ∧ Below w0.heap.size w0 w4) := ⟨H3.out.1.below hb, H3.out.2.1.below hb, H3.out.2.2.trans (hb.mono H3.out.2.2.size)⟩
        clear H3 hb
        go_wp2_with fail
        refine (bitneg_num H4.out.1 x hxn).mono ?_
        rintro e w5 ⟨rfl, hb⟩
        have H5 : Hid (Num w5 (.slice ada ka capa) (A) ∧ Num w5 b (B) ∧ Below w0.heap.size w0 w5) := ⟨H4.out.1.below hb, H4.out.2.1.below hb, H4.out.2.2.trans (hb.mono H4.out.2.2.size)⟩
        clear H4 hb
        go_wp2_with fail
        go_roundw
        case rel => exact ⟨i + 1, by omega, by go_num, H5.out.2.2⟩
        case measure => simp [intOf]; omega
      · obtain ⟨xn, rfl⟩ : ∃ xn : Nat, x = (xn : Int) := ⟨x.toNat, by omega⟩
        obtain ⟨n, hn, hn1, hn2⟩ : ∃ n : Nat, n < 5000 ∧ (xn : Int).tmod 5000 = (n : Int) ∧ (xn : Int) % 5000 = (n : Int) := ⟨xn % 5000, by omega, rfl, by omega⟩
        obtain ⟨T, X, Q, R, hS⟩ := sh_any (B := B) HL.out.1 hn
        have S := hide hS
        clear hS
        have H0 : Hid (Num wr (.slice ada ka capa) (A) ∧ Num wr b (B) ∧ Below w0.heap.size w0 wr) := ⟨HW.out.2.2.2.2.1.below HB.out, HW.out.2.2.2.2.2.below HB.out, HB.out⟩
        go_wp2_with fail
        refine (pow_num hn S.out.two S.out.twoF).mono ?_
        rintro e w1 ⟨two, rfl, hr, hb⟩
        have H1 : Hid (Num w1 (.slice ada ka capa) (A) ∧ Num w1 b (B) ∧ Num w1 two (T) ∧ Below w0.heap.size w0 w1) := ⟨H0.out.1.below hb, H0.out.2.1.below hb, hr, H0.out.2.2.trans (hb.mono H0.out.2.2.size)⟩
        clear H0 hb hr
        go_wp2_with fail
        refine (left_num H1.out.1 hn S.out.left S.out.leftF).mono ?_
        rintro e w2 ⟨x, rfl, hr, hb⟩
        have H2 : Hid (Num w2 (.slice ada ka capa) (A) ∧ Num w2 b (B) ∧ Num w2 two (T) ∧ Num w2 x (X) ∧ Below w0.heap.size w0 w2) := ⟨H1.out.1.below hb, H1.out.2.1.below hb, H1.out.2.2.1.below hb, hr, H1.out.2.2.2.trans (hb.mono H1.out.2.2.2.size)⟩
        clear H1 hb hr
        go_wp2_with fail
        refine (right_num H2.out.2.2.2.1 (HW.out.2.1.below H2.out.2.2.2.2) hn S.out.back false S.out.gone).mono ?_
        rintro e w3 ⟨y, rfl, hr, hb⟩
        have H3 : Hid (Num w3 (.slice ada ka capa) (A) ∧ Num w3 b (B) ∧ Num w3 two (T) ∧ Num w3 x (X) ∧ Num w3 y (A) ∧ Below w0.heap.size w0 w3) := ⟨H2.out.1.below hb, H2.out.2.1.below hb, H2.out.2.2.1.below hb, H2.out.2.2.2.1.below hb, hr, H2.out.2.2.2.2.trans (hb.mono H2.out.2.2.2.2.size)⟩
        clear H2 hb hr
        go_wp2_with fail
        refine (num_below 0 _).mono ?_
        rintro e w4 ⟨rfl, hb⟩
        have H4 : Hid (Num w4 (.slice ada ka capa) (A) ∧ Num w4 b (B) ∧ Num w4 two (T) ∧ Num w4 x (X) ∧ Num w4 y (A) ∧ Below w0.heap.size w0 w4) := ⟨H3.out.1.below hb, H3.out.2.1.below hb, H3.out.2.2.1.below hb, H3.out.2.2.2.1.below hb, H3.out.2.2.2.2.1.below hb, H3.out.2.2.2.2.2.trans (hb.mono H3.out.2.2.2.2.2.size)⟩
        clear H3 hb
        go_wp2_with fail
        refine (num_below 0 _).mono ?_
        rintro e w5 ⟨rfl, hb⟩
        have H5 : Hid (Num w5 (.slice ada ka capa) (A) ∧ Num w5 b (B) ∧ Num w5 two (T) ∧ Num w5 x (X) ∧ Num w5 y (A) ∧ Below w0.heap.size w0 w5) := ⟨H4.out.1.below hb, H4.out.2.1.below hb, H4.out.2.2.1.below hb, H4.out.2.2.2.1.below hb, H4.out.2.2.2.2.1.below hb, H4.out.2.2.2.2.2.trans (hb.mono H4.out.2.2.2.2.2.size)⟩
        clear H4 hb
        go_wp2_with fail
        refine (num_below 0 _).mono ?_
        rintro e w6 ⟨rfl, hb⟩
        have H6 : Hid (Num w6 (.slice ada ka capa) (A) ∧ Num w6 b (B) ∧ Num w6 two (T) ∧ Num w6 x (X) ∧ Num w6 y (A) ∧ Below w0.heap.size w0 w6) := ⟨H5.out.1.below hb, H5.out.2.1.below hb, H5.out.2.2.1.below hb, H5.out.2.2.2.1.below hb, H5.out.2.2.2.2.1.below hb, H5.out.2.2.2.2.2.trans (hb.mono H5.out.2.2.2.2.2.size)⟩
        clear H5 hb
        go_wp2_with fail
        refine (mul_num H6.out.1 H6.out.2.2.1 S.out.mul).mono ?_
        rintro e w7 ⟨m, rfl, hr, hb⟩
        have H7 : Hid (Num w7 (.slice ada ka capa) (A) ∧ Num w7 b (B) ∧ Num w7 two (T) ∧ Num w7 x (X) ∧ Num w7 y (A) ∧ Num w7 m (A * T) ∧ Below w0.heap.size w0 w7) := ⟨H6.out.1.below hb, H6.out.2.1.below hb, H6.out.2.2.1.below hb, H6.out.2.2.2.1.below hb, H6.out.2.2.2.2.1.below hb, hr, H6.out.2.2.2.2.2.trans (hb.mono H6.out.2.2.2.2.2.size)⟩
        clear H6 hb hr
        go_wp2_with fail
        refine (eq_true H7.out.2.2.2.1 H7.out.2.2.2.2.2.1 S.out.same).mono ?_
        rintro e w8 ⟨rfl, hb⟩
        have H8 : Hid (Num w8 (.slice ada ka capa) (A) ∧ Num w8 b (B) ∧ Num w8 two (T) ∧ Num w8 x (X) ∧ Num w8 y (A) ∧ Below w0.heap.size w0 w8) := ⟨H7.out.1.below hb, H7.out.2.1.below hb, H7.out.2.2.1.below hb, H7.out.2.2.2.1.below hb, H7.out.2.2.2.2.1.below hb, H7.out.2.2.2.2.2.2.trans (hb.mono H7.out.2.2.2.2.2.2.size)⟩
        clear H7 hb
        go_wp2_with fail
        refine (eq_true H8.out.2.2.2.2.1 H8.out.1 rfl).mono ?_
        rintro e w9 ⟨rfl, hb⟩
        have H9 : Hid (Num w9 (.slice ada ka capa) (A) ∧ Num w9 b (B) ∧ Num w9 two (T) ∧ Num w9 x (X) ∧ Below w0.heap.size w0 w9) := ⟨H8.out.1.below hb, H8.out.2.1.below hb, H8.out.2.2.1.below hb, H8.out.2.2.2.1.below hb, H8.out.2.2.2.2.2.trans (hb.mono H8.out.2.2.2.2.2.size)⟩
        clear H8 hb
        go_wp2_with fail
        refine (leng_num H9.out.2.2.1 S.out.len).mono ?_
        rintro e w10 ⟨rfl, hb⟩
        have H10 : Hid (Num w10 (.slice ada ka capa) (A) ∧ Num w10 b (B) ∧ Num w10 two (T) ∧ Num w10 x (X) ∧ Below w0.heap.size w0 w10) := ⟨H9.out.1.below hb, H9.out.2.1.below hb, H9.out.2.2.1.below hb, H9.out.2.2.2.1.below hb, H9.out.2.2.2.2.trans (hb.mono H9.out.2.2.2.2.size)⟩
        clear H9 hb
        go_wp2_with fail
        refine (low_num H10.out.2.2.1 (HW.out.2.1.below H10.out.2.2.2.2) S.out.low).mono ?_
        rintro e w11 ⟨rfl, hb⟩
        have H11 : Hid (Num w11 (.slice ada ka capa) (A) ∧ Num w11 b (B) ∧ Num w11 two (T) ∧ Num w11 x (X) ∧ Below w0.heap.size w0 w11) := ⟨H10.out.1.below hb, H10.out.2.1.below hb, H10.out.2.2.1.below hb, H10.out.2.2.2.1.below hb, H10.out.2.2.2.2.trans (hb.mono H10.out.2.2.2.2.size)⟩
        clear H10 hb
        go_wp2_with fail
        refine (DivMod_num H11.out.2.1 H11.out.2.2.1 S.out.pos).mono ?_
        rintro e w12 ⟨q, r, rfl, hq, hr, hb⟩
        have H12 : Hid (Num w12 (.slice ada ka capa) (A) ∧ Num w12 b (B) ∧ Num w12 x (X) ∧ Num w12 q (Q) ∧ Num w12 r (R) ∧ Below w0.heap.size w0 w12) := ⟨H11.out.1.below hb, H11.out.2.1.below hb, H11.out.2.2.2.1.below hb, (by rw [S.out.quo] at hq; exact hq), (by rw [S.out.rem] at hr; exact hr), H11.out.2.2.2.2.trans (hb.mono H11.out.2.2.2.2.size)⟩
        clear H11 hb hr
        clear hq
        obtain ⟨adr, kr, capr, rfl, hkr, hlr⟩ := num_len H12.out.2.2.2.2.1
        have HKr := hide hkr
        clear hkr
        obtain ⟨adq, kq, capq, rfl, hkq, hlq⟩ := num_len H12.out.2.2.2.1
        have HKq := hide hkq
        clear hkq
        have hgr : decide (B % 2 ^ n ≠ 0) = decide (0 < kr) := by
          rw [S.out.rem2]
          by_cases h0 : R = 0
          · rw [decide_eq_false (by omega), decide_eq_false (by have := HKr.out.2 h0; omega)]
          · rw [decide_eq_true h0, decide_eq_true (by have : ¬ kr = 0 := fun e => h0 (HKr.out.1 e); omega)]
        have Hgr := hide hgr
        clear hgr
        go_wp2_with fail
        refine (right_num H12.out.2.1 (HW.out.2.1.below H12.out.2.2.2.2.2) hn S.out.quo2 (decide (0 < kr)) Hgr.out).mono ?_
        rintro e w13 ⟨y2, rfl, hr, hb⟩
        have H13 : Hid (Num w13 (.slice ada ka capa) (A) ∧ Num w13 b (B) ∧ Num w13 x (X) ∧ Num w13 (.slice adq kq capq) (Q) ∧ Num w13 (.slice adr kr capr) (R) ∧ Num w13 y2 (Q) ∧ Below w0.heap.size w0 w13) := ⟨H12.out.1.below hb, H12.out.2.1.below hb, H12.out.2.2.1.below hb, H12.out.2.2.2.1.below hb, H12.out.2.2.2.2.1.below hb, hr, H12.out.2.2.2.2.2.trans (hb.mono H12.out.2.2.2.2.2.size)⟩
        clear H12 hb hr
        go_wp2_with fail
        refine (num_below 0 _).mono ?_
        rintro e w14 ⟨rfl, hb⟩
        have H14 : Hid (Num w14 (.slice ada ka capa) (A) ∧ Num w14 b (B) ∧ Num w14 x (X) ∧ Num w14 (.slice adq kq capq) (Q) ∧ Num w14 (.slice adr kr capr) (R) ∧ Num w14 y2 (Q) ∧ Below w0.heap.size w0 w14) := ⟨H13.out.1.below hb, H13.out.2.1.below hb, H13.out.2.2.1.below hb, H13.out.2.2.2.1.below hb, H13.out.2.2.2.2.1.below hb, H13.out.2.2.2.2.2.1.below hb, H13.out.2.2.2.2.2.2.trans (hb.mono H13.out.2.2.2.2.2.2.size)⟩
        clear H13 hb
        go_wp2_with fail
        refine (num_below 0 _).mono ?_
        rintro e w15 ⟨rfl, hb⟩
        have H15 : Hid (Num w15 (.slice ada ka capa) (A) ∧ Num w15 b (B) ∧ Num w15 x (X) ∧ Num w15 (.slice adq kq capq) (Q) ∧ Num w15 (.slice adr kr capr) (R) ∧ Num w15 y2 (Q) ∧ Below w0.heap.size w0 w15) := ⟨H14.out.1.below hb, H14.out.2.1.below hb, H14.out.2.2.1.below hb, H14.out.2.2.2.1.below hb, H14.out.2.2.2.2.1.below hb, H14.out.2.2.2.2.2.1.below hb, H14.out.2.2.2.2.2.2.trans (hb.mono H14.out.2.2.2.2.2.2.size)⟩
        clear H14 hb
        go_wp2_with fail
        refine (eq_true H15.out.2.2.2.1 H15.out.2.2.2.2.2.1 rfl).mono ?_
        rintro e w16 ⟨rfl, hb⟩
        have H16 : Hid (Num w16 (.slice ada ka capa) (A) ∧ Num w16 b (B) ∧ Num w16 x (X) ∧ Num w16 (.slice adq kq capq) (Q) ∧ Below w0.heap.size w0 w16) := ⟨H15.out.1.below hb, H15.out.2.1.below hb, H15.out.2.2.1.below hb, H15.out.2.2.2.1.below hb, H15.out.2.2.2.2.2.2.trans (hb.mono H15.out.2.2.2.2.2.2.size)⟩
        clear H15 hb
        by_cases hkq0 : kq = 0
        · have hkq1 : ¬ (0 : Int) < (kq : Int) := by omega
          have hkq2 : ¬ 0 < kq := by omega
          have HQ0 : Hid (decide (B / 2 ^ n % 2 = 1) = false) := by show _ = _; rw [S.out.quo2, HKq.out.1 hkq0]; rfl
          go_wp2_with fail
          refine (bit_num H16.out.2.1 hn false HQ0.out).mono ?_
          rintro e w17 ⟨rfl, hb⟩
          have H17 : Hid (Num w17 (.slice ada ka capa) (A) ∧ Num w17 b (B) ∧ Num w17 x (X) ∧ Num w17 (.slice adq kq capq) (Q) ∧ Below w0.heap.size w0 w17) := ⟨H16.out.1.below hb, H16.out.2.1.below hb, H16.out.2.2.1.below hb, H16.out.2.2.2.1.below hb, H16.out.2.2.2.2.trans (hb.mono H16.out.2.2.2.2.size)⟩
          clear H16 hb
          by_cases hka0 : ka = 0
          · subst hka0
            go_wp2_with fail
            go_roundw
            case rel => exact ⟨i + 1, by omega, by go_num, H17.out.2.2.2.2⟩
            case measure => simp [intOf]; omega
          · have hka1 : (0 : Int) < (ka : Int) := by omega
            have hka2 : 0 < ka := by omega
            have HA0 : Hid (A ≠ 0) := fun e => hka0 (HKa.out.2 e)
            obtain ⟨bl, hbl⟩ : ∃ bl, bitLen A = bl := ⟨_, rfl⟩
            obtain ⟨lo, hlo⟩ := low_exists HA0.out
            have hblb : bl ≤ 6400 := by have := bits_bound HL.out.1; omega
            have hlob : lo < bl := by
              have h1 := (hlo.mod (n := bl)).1
              apply h1
              rw [← hbl, Nat.mod_eq_of_lt (bitLen_spec A).1]
              exact HA0.out
            have HBL : Hid (bitLen A = bl ∧ bitLen X = bl + n ∧ IsLow A lo ∧ IsLow X (lo + n)) := ⟨hbl, by rw [← S.out.left, bitLen_mul HA0.out, hbl], hlo, by rw [← S.out.left]; exact hlo.shift n⟩
            clear hbl hlo
            go_wp2_with fail
            refine (leng_num H17.out.2.2.1 HBL.out.2.1).mono ?_
            rintro e w18 ⟨rfl, hb⟩
            have H18 : Hid (Num w18 (.slice ada ka capa) (A) ∧ Num w18 b (B) ∧ Num w18 x (X) ∧ Num w18 (.slice adq kq capq) (Q) ∧ Below w0.heap.size w0 w18) := ⟨H17.out.1.below hb, H17.out.2.1.below hb, H17.out.2.2.1.below hb, H17.out.2.2.2.1.below hb, H17.out.2.2.2.2.trans (hb.mono H17.out.2.2.2.2.size)⟩
            clear H17 hb
            go_wp2_with fail
            refine (leng_num H18.out.1 HBL.out.1).mono ?_
            rintro e w19 ⟨rfl, hb⟩
            have H19 : Hid (Num w19 (.slice ada ka capa) (A) ∧ Num w19 b (B) ∧ Num w19 x (X) ∧ Num w19 (.slice adq kq capq) (Q) ∧ Below w0.heap.size w0 w19) := ⟨H18.out.1.below hb, H18.out.2.1.below hb, H18.out.2.2.1.below hb, H18.out.2.2.2.1.below hb, H18.out.2.2.2.2.trans (hb.mono H18.out.2.2.2.2.size)⟩
            clear H18 hb
            go_wp2_with fail
            refine (low_num H19.out.2.2.1 (HW.out.2.1.below H19.out.2.2.2.2) HBL.out.2.2.2).mono ?_
            rintro e w20 ⟨rfl, hb⟩
            have H20 : Hid (Num w20 (.slice ada ka capa) (A) ∧ Num w20 b (B) ∧ Num w20 x (X) ∧ Num w20 (.slice adq kq capq) (Q) ∧ Below w0.heap.size w0 w20) := ⟨H19.out.1.below hb, H19.out.2.1.below hb, H19.out.2.2.1.below hb, H19.out.2.2.2.1.below hb, H19.out.2.2.2.2.trans (hb.mono H19.out.2.2.2.2.size)⟩
            clear H19 hb
            go_wp2_with fail
            refine (low_num H20.out.1 (HW.out.2.1.below H20.out.2.2.2.2) HBL.out.2.2.1).mono ?_
            rintro e w21 ⟨rfl, hb⟩
            have H21 : Hid (Num w21 (.slice ada ka capa) (A) ∧ Num w21 b (B) ∧ Num w21 x (X) ∧ Num w21 (.slice adq kq capq) (Q) ∧ Below w0.heap.size w0 w21) := ⟨H20.out.1.below hb, H20.out.2.1.below hb, H20.out.2.2.1.below hb, H20.out.2.2.2.1.below hb, H20.out.2.2.2.2.trans (hb.mono H20.out.2.2.2.2.size)⟩
            clear H20 hb
            go_wp2_with fail
            go_roundw
            case rel => exact ⟨i + 1, by omega, by go_num, H21.out.2.2.2.2⟩
            case measure => simp [intOf]; omega
        · have hkq1 : (0 : Int) < (kq : Int) := by omega
          have hkq2 : 0 < kq := by omega
          obtain ⟨gq, oq, rfl⟩ := num_addr H16.out.2.2.2.1 hkq2
          obtain ⟨z, hz⟩ : ∃ z, dg Q 0 = z := ⟨_, rfl⟩
          have hzl : z < 4294967296 := by rw [← hz]; exact dg_lt _ _
          have HQ0 : Hid (decide (B / 2 ^ n % 2 = 1) = ((z : Int) % 2 == 1) ∧ dg Q 0 = z) := by
            refine ⟨?_, hz⟩
            have h1 := dg_even Q
            rw [S.out.quo2, ← h1, hz]
            by_cases h0 : z % 2 = 1
            · have h2 : (z : Int) % 2 = 1 := by omega
              simp [h0, h2]
            · have h2 : ¬ (z : Int) % 2 = 1 := by omega
              rw [decide_eq_false h0]; symm; rw [beq_eq_false_iff_ne]; exact h2
          clear hz
          go_wp2_with fail
          refine (bit_num H16.out.2.1 hn ((z : Int) % 2 == 1) HQ0.out.1).mono ?_
          rintro e w17 ⟨rfl, hb⟩
          have H17 : Hid (Num w17 (.slice ada ka capa) (A) ∧ Num w17 b (B) ∧ Num w17 x (X) ∧ Num w17 (.slice (some ⟨gq, oq, none⟩) kq capq) (Q) ∧ Below w0.heap.size w0 w17) := ⟨H16.out.1.below hb, H16.out.2.1.below hb, H16.out.2.2.1.below hb, H16.out.2.2.2.1.below hb, H16.out.2.2.2.2.trans (hb.mono H16.out.2.2.2.2.size)⟩
          clear H16 hb
          have hq0 : w17.cell? ⟨gq, oq, none⟩ = some (.int .u32 z) := by have := num_cell H17.out.2.2.2.1 hkq2; rw [HQ0.out.2] at this; exact this
          have hzt : (z : Int).tmod 2 = (z : Int) % 2 := by rw [Int.tmod_eq_emod_of_nonneg (by omega)]
          by_cases hka0 : ka = 0
          · subst hka0
            go_wp2_with fail
            go_roundw
            case rel => exact ⟨i + 1, by omega, by go_num, H17.out.2.2.2.2⟩
            case measure => simp [intOf]; omega
          · have hka1 : (0 : Int) < (ka : Int) := by omega
            have hka2 : 0 < ka := by omega
            have HA0 : Hid (A ≠ 0) := fun e => hka0 (HKa.out.2 e)
            obtain ⟨bl, hbl⟩ : ∃ bl, bitLen A = bl := ⟨_, rfl⟩
            obtain ⟨lo, hlo⟩ := low_exists HA0.out
            have hblb : bl ≤ 6400 := by have := bits_bound HL.out.1; omega
            have hlob : lo < bl := by
              have h1 := (hlo.mod (n := bl)).1
              apply h1
              rw [← hbl, Nat.mod_eq_of_lt (bitLen_spec A).1]
              exact HA0.out
            have HBL : Hid (bitLen A = bl ∧ bitLen X = bl + n ∧ IsLow A lo ∧ IsLow X (lo + n)) := ⟨hbl, by rw [← S.out.left, bitLen_mul HA0.out, hbl], hlo, by rw [← S.out.left]; exact hlo.shift n⟩
            clear hbl hlo
            go_wp2_with fail
            refine (leng_num H17.out.2.2.1 HBL.out.2.1).mono ?_
            rintro e w18 ⟨rfl, hb⟩
            have H18 : Hid (Num w18 (.slice ada ka capa) (A) ∧ Num w18 b (B) ∧ Num w18 x (X) ∧ Num w18 (.slice (some ⟨gq, oq, none⟩) kq capq) (Q) ∧ Below w0.heap.size w0 w18) := ⟨H17.out.1.below hb, H17.out.2.1.below hb, H17.out.2.2.1.below hb, H17.out.2.2.2.1.below hb, H17.out.2.2.2.2.trans (hb.mono H17.out.2.2.2.2.size)⟩
            clear H17 hb
            go_wp2_with fail
            refine (leng_num H18.out.1 HBL.out.1).mono ?_
            rintro e w19 ⟨rfl, hb⟩
            have H19 : Hid (Num w19 (.slice ada ka capa) (A) ∧ Num w19 b (B) ∧ Num w19 x (X) ∧ Num w19 (.slice (some ⟨gq, oq, none⟩) kq capq) (Q) ∧ Below w0.heap.size w0 w19) := ⟨H18.out.1.below hb, H18.out.2.1.below hb, H18.out.2.2.1.below hb, H18.out.2.2.2.1.below hb, H18.out.2.2.2.2.trans (hb.mono H18.out.2.2.2.2.size)⟩
            clear H18 hb
            go_wp2_with fail
            refine (low_num H19.out.2.2.1 (HW.out.2.1.below H19.out.2.2.2.2) HBL.out.2.2.2).mono ?_
            rintro e w20 ⟨rfl, hb⟩
            have H20 : Hid (Num w20 (.slice ada ka capa) (A) ∧ Num w20 b (B) ∧ Num w20 x (X) ∧ Num w20 (.slice (some ⟨gq, oq, none⟩) kq capq) (Q) ∧ Below w0.heap.size w0 w20) := ⟨H19.out.1.below hb, H19.out.2.1.below hb, H19.out.2.2.1.below hb, H19.out.2.2.2.1.below hb, H19.out.2.2.2.2.trans (hb.mono H19.out.2.2.2.2.size)⟩
            clear H19 hb
            go_wp2_with fail
            refine (low_num H20.out.1 (HW.out.2.1.below H20.out.2.2.2.2) HBL.out.2.2.1).mono ?_
            rintro e w21 ⟨rfl, hb⟩
            have H21 : Hid (Num w21 (.slice ada ka capa) (A) ∧ Num w21 b (B) ∧ Num w21 x (X) ∧ Num w21 (.slice (some ⟨gq, oq, none⟩) kq capq) (Q) ∧ Below w0.heap.size w0 w21) := ⟨H20.out.1.below hb, H20.out.2.1.below hb, H20.out.2.2.1.below hb, H20.out.2.2.2.1.below hb, H20.out.2.2.2.2.trans (hb.mono H20.out.2.2.2.2.size)⟩
            clear H20 hb
            go_wp2_with fail
            go_roundw
            case rel => exact ⟨i + 1, by omega, by go_num, H21.out.2.2.2.2⟩
            case measure => simp [intOf]; omega
    · have hend : i = M := HMm.out.2.2.1 i hi hlt
      have hend2 : ¬ ((i : Int) < (nN : Int) ∧ (i : Int) < 6) := by omega
      by_cases hin : i < nN
      · have hin1 : (i : Int) < (nN : Int) := by omega
        have hin2 : ¬ (i : Int) < 6 := by omega
        go_wp2_with fail
        refine (wakes_any _).mono ?_
        rintro e wz ⟨rfl, hbz⟩
        have HZ := hide hbz
        clear hbz
        go_wp2_with fail
        go_ret
        exact ⟨rfl, HW.out.1.trans ((HB.out.trans (HZ.out.mono HB.out.size)).mono HW.out.1.size)⟩
      · have hin1 : ¬ (i : Int) < (nN : Int) := by omega
        go_wp2_with fail
        refine (wakes_any _).mono ?_
        rintro e wz ⟨rfl, hbz⟩
        have HZ := hide hbz
        clear hbz
        go_wp2_with fail
        go_ret
        exact ⟨rfl, HW.out.1.trans ((HB.out.trans (HZ.out.mono HB.out.size)).mono HW.out.1.size)⟩

end Go.Proofs.YtfbkdjghbgdgpaaDoor
