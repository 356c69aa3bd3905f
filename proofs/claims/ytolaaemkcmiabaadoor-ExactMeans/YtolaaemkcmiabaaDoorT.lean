/- (limb's T has nothing that is needed here.) -/
import Derived.Test.YtolaaemkcmiabaaDoorXA
import Derived.Test.YtolaaemkcmiabaaDoorZ
/- Package exact: divide, divideLong. -/
namespace Go.Proofs.YtolaaemkcmiabaaDoor
open Go.RowKit
open M
set_option linter.unusedVariables false
set_option linter.unusedSimpArgs false

theorem small_fits {N : Nat} (h : N < 4294967296 ^ 8) : Fits N := ⟨8, by omega, h⟩

theorem bitLen_mul (A n : Nat) (h : A ≠ 0) : bitLen (A * 2 ^ n) = bitLen A + n := by
  have := bitLen_shift (A * 2 ^ n) n (by rw [Nat.mul_div_cancel _ (Nat.two_pow_pos n)]; exact h)
  rw [Nat.mul_div_cancel _ (Nat.two_pow_pos n)] at this
  omega

theorem cross_div {N D P Q : Nat} (hD : 0 < D) (hQ : 0 < Q) (h : N * Q = P * D) : N / D = P / Q ∧ (N % D = 0 ↔ P % Q = 0) := by
  have e : N / D = P / Q := by
    rw [← Nat.mul_div_mul_right N D hQ, ← Nat.mul_div_mul_right P Q hD, h, Nat.mul_comm D Q]
  refine ⟨e, ?_⟩
  have h1 := Nat.div_add_mod N D
  have h2 := Nat.div_add_mod P Q
  rw [e] at h1
  have h3 : N % D * Q = P % Q * D := by
    have a1 : (D * (P / Q) + N % D) * Q = (Q * (P / Q) + P % Q) * D := by rw [h1, h2, h]
    rw [Nat.add_mul, Nat.add_mul] at a1
    have a2 : D * (P / Q) * Q = Q * (P / Q) * D := by simp only [Nat.mul_assoc, Nat.mul_left_comm, Nat.mul_comm]
    omega
  constructor
  · intro h0
    rw [h0, Nat.zero_mul] at h3
    rcases Nat.mul_eq_zero.1 h3.symm with h4 | h4
    · exact h4
    · omega
  · intro h0
    rw [h0, Nat.zero_mul] at h3
    rcases Nat.mul_eq_zero.1 h3 with h4 | h4
    · exact h4
    · omega

theorem quot_size {P Q s : Nat} (hP : 0 < P) (hQ : 0 < Q) (hs : 2 ≤ s) (h : bitLen P = bitLen Q + s - 1) : 2 ^ (s - 2) ≤ P / Q ∧ P / Q < 2 ^ s := by
  have p1 := (bitLen_spec P).1
  have p2 := (bitLen_spec P).2 (by omega)
  have q1 := (bitLen_spec Q).1
  have q2 := (bitLen_spec Q).2 (by omega)
  have hL : 1 ≤ bitLen Q := by
    rcases Nat.eq_zero_or_pos (bitLen Q) with h0 | h0
    · rw [h0] at q1; omega
    · exact h0
  rw [h] at p1 p2
  constructor
  · rw [Nat.le_div_iff_mul_le hQ]
    have e : 2 ^ (bitLen Q + s - 1 - 1) = 2 ^ (s - 2) * 2 ^ bitLen Q := by rw [← Nat.pow_add]; congr 1; omega
    rw [e] at p2
    exact Nat.le_trans (Nat.mul_le_mul_left _ (Nat.le_of_lt q1)) p2
  · rw [Nat.div_lt_iff_lt_mul hQ]
    have e : 2 ^ (bitLen Q + s - 1) = 2 ^ s * 2 ^ (bitLen Q - 1) := by rw [← Nat.pow_add]; congr 1; omega
    rw [e] at p1
    exact Nat.lt_of_lt_of_le p1 (Nat.mul_le_mul_left _ q2)

theorem less_twice {A B : Nat} (hA : 0 < A) (hB : 0 < B) (h : bitLen A = bitLen B) : A < 2 * B := by
  have a1 := (bitLen_spec A).1
  have b2 := (bitLen_spec B).2 (by omega)
  rw [h] at a1
  have hL : 1 ≤ bitLen B := by
    rcases Nat.eq_zero_or_pos (bitLen B) with h0 | h0
    · rw [h0] at a1; omega
    · exact h0
  have e : 2 ^ bitLen B = 2 * 2 ^ (bitLen B - 1) := by rw [← Nat.pow_succ']; congr 1; omega
  omega

/-- Is there more? -/
def mrB (N D : Nat) : Bool := decide (N % D ≠ 0)

/-- What is left, and how many were taken: by bits. -/
structure Bit2 (R0 D j W R : Nat) : Prop where
  sum : W * D + R = R0 * 2 ^ j
  less : R < D
  few : W < 2 ^ (j + 1)

theorem Bit2.low {R0 D j W R : Nat} (h : Bit2 R0 D j W R) (c : R < D - R) : Bit2 R0 D (j + 1) (W + W) (R + R) := by
  have h1 := h.sum
  have h2 := h.less
  have h3 := h.few
  refine ⟨?_, by omega, by rw [Nat.pow_succ]; omega⟩
  rw [Nat.pow_succ, ← Nat.mul_assoc, ← h1, Nat.add_mul W W]; omega
theorem Bit2.high {R0 D j W R : Nat} (h : Bit2 R0 D j W R) (c : ¬ R < D - R) : Bit2 R0 D (j + 1) (W + W + 1) (R - (D - R)) := by
  have h1 := h.sum
  have h2 := h.less
  have h3 := h.few
  refine ⟨?_, by omega, by rw [Nat.pow_succ]; omega⟩
  rw [Nat.pow_succ, ← Nat.mul_assoc, ← h1, Nat.add_mul (W + W), Nat.add_mul W W]; omega
theorem Bit2.first {R0 D : Nat} (h : R0 < 2 * D) : (R0 < D → Bit2 R0 D 0 0 R0) ∧ (¬ R0 < D → Bit2 R0 D 0 1 (R0 - D)) :=
  ⟨fun c => ⟨by simp, c, by simp⟩, fun c => ⟨by simp; omega, by omega, by simp⟩⟩
theorem Bit2.last {R0 D j W R : Nat} (h : Bit2 R0 D j W R) (hD : 0 < D) : W = R0 * 2 ^ j / D ∧ R = R0 * 2 ^ j % D := by
  have h1 := h.sum
  have h2 := h.less
  rw [← h1]
  constructor
  · rw [Nat.mul_comm, Nat.mul_add_div hD, Nat.div_eq_of_lt h2, Nat.add_zero]
  · rw [Nat.mul_comm, Nat.mul_add_mod, Nat.mod_eq_of_lt h2]
theorem Bit2.fits {R0 D j W R : Nat} (h : Bit2 R0 D j W R) (hj : j ≤ 200) : Fits (W + W) ∧ Fits (W + W + 1) := by
  have h3 := h.few
  have h4 : 2 ^ (j + 1) ≤ 2 ^ 201 := Nat.pow_le_pow_right (by omega) (by omega)
  have h5 : 4 * 2 ^ 201 ≤ 4294967296 ^ 8 := by decide
  generalize 2 ^ 201 = z at *
  generalize 2 ^ (j + 1) = y at *
  exact ⟨small_fits (by omega), small_fits (by omega)⟩

theorem cmp_less {A C : Nat} : (A < C → cmpI A C < 0) ∧ (¬ A < C → ¬ cmpI A C < 0) := by
  unfold cmpI
  constructor
  · intro h; rw [if_pos h]; omega
  · intro h; rw [if_neg h]; split <;> omega

theorem nCmp0 {v u : Value} {A C : Nat} {w : World} (h : Num w v A) (h' : Num w u C) :
    Calls Tryd.prog 75 #[v, u] w fun e w' => e = .returned (.int .i64 (cmpI A C)) ∧ Below w.heap.size w w' := by
  refine (Cmp_ok h h').mono ?_
  rintro e w' ⟨rfl, n, rfl⟩
  exact ⟨rfl, below_drewN (Below.refl _ _) n⟩

theorem nFrom1 (w : World) : Calls Tryd.prog 35 #[.int .u64 1] w fun e w' => ∃ r, e = .returned r ∧ Num w' r 1 ∧ Below w.heap.size w w' := by
  refine (From_any 1 w (by omega)).mono ?_
  rintro e w' ⟨r, rfl, k, ho, hn, hk, hb⟩
  exact ⟨r, rfl, ⟨k, ho.row, hn, by omega⟩, hb⟩

set_option maxRecDepth 100000 in
set_option maxHeartbeats 4000000 in
theorem divideLong_num {v u : Value} {P Q R0 D s : Nat} {w : World} (h : Num w v P) (h' : Num w u Q) (hP : 0 < P) (hQ : 0 < Q) (hs1 : 1 ≤ s) (hs2 : s ≤ 200) (hR : R0 = P * 2 ^ (bitLen Q - bitLen P)) (hD : D = Q * 2 ^ (bitLen P - bitLen Q)) :
    Calls Tryd.prog 61 #[v, u, .int .i64 s] w fun e w' => ∃ r, e = .returned (.tuple #[r, .bool (mrB (R0 * 2 ^ (s - 1)) D)]) ∧ Num w' r (R0 * 2 ^ (s - 1) / D) ∧ Below w.heap.size w w' := by
  have lp := fits_bits.1 h.fits
  have lq := fits_bits.1 h'.fits
  have hR0 : 0 < R0 := by rw [hR]; exact Nat.mul_pos hP (Nat.two_pow_pos _)
  have hD0 : 0 < D := by rw [hD]; exact Nat.mul_pos hQ (Nat.two_pow_pos _)
  have bR : bitLen R0 = max (bitLen P) (bitLen Q) := by rw [hR, bitLen_mul _ _ (by omega)]; omega
  have bD : bitLen D = max (bitLen P) (bitLen Q) := by rw [hD, bitLen_mul _ _ (by omega)]; omega
  have hlt := less_twice hR0 hD0 (by rw [bR, bD])
  have fR : Fits R0 := fits_bits.2 (by omega)
  have fD : Fits D := fits_bits.2 (by omega)
  obtain ⟨up, hup, hupb⟩ : ∃ up : Int, (bitLen Q : Int) - (bitLen P : Int) = up ∧ (-300000 ≤ up ∧ up ≤ 300000) := ⟨_, rfl, by omega⟩
  obtain ⟨un, hun, hunb⟩ : ∃ un : Int, -up = un ∧ (-300000 ≤ un ∧ un ≤ 300000) := ⟨_, rfl, by omega⟩
  have HLq := hide (xlen h')
  have HLp := hide (fun (w' : World) (hb : Below w.heap.size w w') => xlen (h.below hb))
  have HSp : Hid (∀ w' : World, Below w.heap.size w w' → Calls Tryd.prog 63 #[v, .int .i64 up] w' fun e w'' => ∃ r, e = .returned r ∧ Num w'' r R0 ∧ Below w'.heap.size w' w'') := by
    intro w' hb
    have := xshift (w := w') up (h.below hb) (by rw [show up.toNat = bitLen Q - bitLen P by omega, ← hR]; exact fR) (by omega) (by omega)
    rw [show up.toNat = bitLen Q - bitLen P by omega, ← hR] at this; exact this
  have HSq : Hid (∀ w' : World, Below w.heap.size w w' → Calls Tryd.prog 63 #[u, .int .i64 un] w' fun e w'' => ∃ r, e = .returned r ∧ Num w'' r D ∧ Below w'.heap.size w' w'') := by
    intro w' hb
    have := xshift (w := w') un (h'.below hb) (by rw [show un.toNat = bitLen P - bitLen Q by omega, ← hD]; exact fD) (by omega) (by omega)
    rw [show un.toNat = bitLen P - bitLen Q by omega, ← hD] at this; exact this
  obtain ⟨s1, hs, hs1b⟩ : ∃ s1 : Nat, s - 1 = s1 ∧ (s : Int) - 1 = (s1 : Int) := ⟨_, rfl, by omega⟩
  rw [hs]
  have HF := hide (Bit2.first hlt)
  have HL := hide (fun (W R : Nat) (hb : Bit2 R0 D s1 W R) => hb.last hD0)
  have hs1l : s1 ≤ 200 := by omega
  obtain ⟨bQ, hbQ⟩ : ∃ b : Nat, bitLen Q = b := ⟨_, rfl⟩
  obtain ⟨bP, hbP⟩ : ∃ b : Nat, bitLen P = b := ⟨_, rfl⟩
  rw [hbQ] at HLq hup lq
  rw [hbP] at HLp hup lp
  clear h h' hP hQ hR hD hR0 hD0 bR bD hlt fR fD hbQ hbP hs hs1
  go_enter Tryd.func61, Tryd.ntmps61
  go_wp2_with fail
  refine HLq.out.mono ?_
  rintro e x1 ⟨rfl, hw1⟩
  have hw1 := hw1.symm
  subst hw1
  go_wp2_with fail
  refine (HLp.out _ (Below.refl _ _)).mono ?_
  rintro e x1 ⟨rfl, hw1⟩
  have hw1 := hw1.symm
  subst hw1
  go_wp2_with (simp only [hup, hun])
  refine (HSp.out _ (Below.refl _ _)).mono ?_
  rintro e x1 ⟨vr, rfl, n1, b1⟩
  have N1 := hide n1
  have J1 := hide b1
  clear n1 b1
  go_wp2_with (simp only [hup, hun])
  refine (HSq.out _ J1.out).mono ?_
  rintro e x2 ⟨vd, rfl, n2, b2⟩
  have N2 := hide (N1.out.below b2)
  have D2 := hide n2
  have J2 := hide (J1.out.trans (b2.mono J1.out.size))
  clear n2 b2 N1 J1
  go_wp2_with fail
  refine (nCmp0 N2.out D2.out).mono ?_
  rintro e x3 ⟨rfl, b3⟩
  have N3 := hide (N2.out.below b3)
  have D3 := hide (D2.out.below b3)
  have J3 := hide (J2.out.trans (b3.mono J2.out.size))
  clear b3 N2 D2 J2
  have hcmp : (R0 < D ∧ ¬ (0 : Int) ≤ cmpI R0 D) ∨ (¬ R0 < D ∧ (0 : Int) ≤ cmpI R0 D) := by
    by_cases c : R0 < D
    · left; exact ⟨c, by have := cmp_less.1 c; omega⟩
    · right; exact ⟨c, by have := cmp_less.2 c; omega⟩
  generalize cmpI R0 D = cc at *
  have H0 : Hid (Num x3 (.slice none 0 0) 0) := Num.nil x3
  rcases hcmp with ⟨c, hcc⟩ | ⟨c, hcc⟩
  · have HB := hide (HF.out.1 c)
    have N6 := H0
    have N9 := N3
    have D9 := D3
    have J9 := J3
    clear c H0 N3 D3 J3 HF
    go_wp2_with fail
    go_loopw [6, 9, 34] (fun t6 t9 t34 wr => ∃ (j W R : Nat), j ≤ s1 ∧ t34 = .int .i64 j ∧ Hid (Bit2 R0 D j W R) ∧ Hid (Num wr t6 W) ∧ Hid (Num wr t9 R) ∧ Hid (Num wr vd D) ∧ Hid (Below w.heap.size w wr)) (fun _ _ t34 _ => s1 - (intOf t34).toNat)
    case atStart => exact ⟨0, _, _, Nat.zero_le _, rfl, HB, N6, N9, D9, J9⟩
    case round =>
      clear HB N6 N9 D9 J9
      obtain ⟨j, W, R, hj, rfl, HB, N6, N9, D9, J9⟩ := hrel
      by_cases hlt : j < s1
      · have g1 : (j : Int) < (s1 : Int) := by omega
        have HW := hide (HB.out.fits (by omega))
        have hRD : R ≤ D := Nat.le_of_lt HB.out.less
        clear HL
        go_wp2_with (simp only [hs1b])
        refine (xplus N6.out N6.out HW.out.1).mono ?_
        rintro e y1 ⟨v61, rfl, n1, b1⟩
        have M6 := hide n1
        have M9 := hide (N9.out.below b1)
        have MD := hide (D9.out.below b1)
        have MJ := hide (J9.out.trans (b1.mono J9.out.size))
        clear n1 b1 N6 N9 D9 J9
        go_wp2_with fail
        refine (xless MD.out M9.out hRD).mono ?_
        rintro e y2 ⟨v11, rfl, n1, b1⟩
        have L2 := hide n1
        have K6 := hide (M6.out.below b1)
        have K9 := hide (M9.out.below b1)
        have KD := hide (MD.out.below b1)
        have KJ := hide (MJ.out.trans (b1.mono MJ.out.size))
        clear n1 b1 M6 M9 MD MJ
        go_wp2_with fail
        refine (nCmp0 K9.out L2.out).mono ?_
        rintro e y3 ⟨rfl, b1⟩
        have L3 := hide (L2.out.below b1)
        have P6 := hide (K6.out.below b1)
        have P9 := hide (K9.out.below b1)
        have PD := hide (KD.out.below b1)
        have PJ := hide (KJ.out.trans (b1.mono KJ.out.size))
        clear b1 L2 K6 K9 KD KJ
        have hc2 : (R < D - R ∧ cmpI R (D - R) < 0) ∨ (¬ R < D - R ∧ ¬ cmpI R (D - R) < 0) := by
          by_cases c : R < D - R
          · exact .inl ⟨c, cmp_less.1 c⟩
          · exact .inr ⟨c, cmp_less.2 c⟩
        generalize cmpI R (D - R) = c2 at *
        rcases hc2 with ⟨c, hc2⟩ | ⟨c, hc2⟩
        · have HB2 := hide (HB.out.low c)
          have hf2 : Fits (R + R) := PD.out.fits.le (by omega)
          clear c hRD
          go_wp2_with fail
          refine (xplus P9.out P9.out hf2).mono ?_
          rintro e y4 ⟨v92, rfl, n1, b1⟩
          have Q9 := hide n1
          have Q6 := hide (P6.out.below b1)
          have QD := hide (PD.out.below b1)
          have QJ := hide (PJ.out.trans (b1.mono PJ.out.size))
          clear n1 b1 P6 P9 PD PJ L3 hf2
          go_wp2_with fail
          go_roundw
          case rel => exact ⟨j + 1, _, _, by omega, by go_num, HB2, Q6, Q9, QD, QJ⟩
          case measure => simp [intOf]; omega
        · have HB2 := hide (HB.out.high c)
          have hle : D - R ≤ R := by omega
          clear c hRD
          go_wp2_with fail
          refine (xless P9.out L3.out hle).mono ?_
          rintro e y4 ⟨v92, rfl, n1, b1⟩
          have Q9 := hide n1
          have Q6 := hide (P6.out.below b1)
          have QD := hide (PD.out.below b1)
          have QJ := hide (PJ.out.trans (b1.mono PJ.out.size))
          clear n1 b1 P6 P9 PD PJ L3 hle
          go_wp2_with fail
          refine (nFrom1 _).mono ?_
          rintro e y5 ⟨v1, rfl, n1, b1⟩
          have O1 := hide n1
          have S9 := hide (Q9.out.below b1)
          have S6 := hide (Q6.out.below b1)
          have SD := hide (QD.out.below b1)
          have SJ := hide (QJ.out.trans (b1.mono QJ.out.size))
          clear n1 b1 Q9 Q6 QD QJ
          go_wp2_with fail
          refine (xplus S6.out O1.out HW.out.2).mono ?_
          rintro e y6 ⟨v62, rfl, n1, b1⟩
          have T6 := hide n1
          have T9 := hide (S9.out.below b1)
          have TD := hide (SD.out.below b1)
          have TJ := hide (SJ.out.trans (b1.mono SJ.out.size))
          clear n1 b1 S9 S6 SD SJ O1
          go_wp2_with fail
          go_roundw
          case rel => exact ⟨j + 1, _, _, by omega, by go_num, HB2, T6, T9, TD, TJ⟩
          case measure => simp [intOf]; omega
      · have g1 : ¬ (j : Int) < (s1 : Int) := by omega
        obtain rfl : j = s1 := by omega
        obtain ⟨e1, e2⟩ := HL.out W R HB.out
        obtain ⟨a9, k9, p9, rfl, hk9⟩ := num_slice N9.out
        have hm : decide (0 < k9) = mrB (R0 * 2 ^ j) D := by
          unfold mrB
          rw [← e2]
          by_cases h0 : R = 0
          · have := hk9.2 h0
            rw [decide_eq_false (by omega), decide_eq_false (by omega)]
          · have : k9 ≠ 0 := fun h => h0 (hk9.1 h)
            rw [decide_eq_true (by omega), decide_eq_true h0]
        have N7 := hide (e1 ▸ N6.out)
        have HM := hide hm
        clear hm e1 e2 hk9 HB N6 N9 D9 HL hj hlt
        go_wp2_with (simp only [hs1b])
        go_ret2
        exact ⟨_, by rw [← HM.out]; rfl, N7.out, J9.out⟩
  · have HB := hide (HF.out.2 c)
    have hle : D ≤ R0 := by omega
    clear c H0 HF
    go_wp2_with fail
    refine (xless N3.out D3.out hle).mono ?_
    rintro e x4 ⟨v9, rfl, n4, b4⟩
    have N4 := hide n4
    have D4 := hide (D3.out.below b4)
    have J4 := hide (J3.out.trans (b4.mono J3.out.size))
    clear n4 b4 N3 D3 J3 hle
    go_wp2_with fail
    refine (nFrom1 _).mono ?_
    rintro e x5 ⟨v6, rfl, n5, b5⟩
    have N6 := hide n5
    have N9 := hide (N4.out.below b5)
    have D9 := hide (D4.out.below b5)
    have J9 := hide (J4.out.trans (b5.mono J4.out.size))
    clear n5 b5 N4 D4 J4
    go_wp2_with fail
    go_loopw [6, 9, 34] (fun t6 t9 t34 wr => ∃ (j W R : Nat), j ≤ s1 ∧ t34 = .int .i64 j ∧ Hid (Bit2 R0 D j W R) ∧ Hid (Num wr t6 W) ∧ Hid (Num wr t9 R) ∧ Hid (Num wr vd D) ∧ Hid (Below w.heap.size w wr)) (fun _ _ t34 _ => s1 - (intOf t34).toNat)
    case atStart => exact ⟨0, _, _, Nat.zero_le _, rfl, HB, N6, N9, D9, J9⟩
    case round =>
      clear HB N6 N9 D9 J9
      obtain ⟨j, W, R, hj, rfl, HB, N6, N9, D9, J9⟩ := hrel
      by_cases hlt : j < s1
      · have g1 : (j : Int) < (s1 : Int) := by omega
        have HW := hide (HB.out.fits (by omega))
        have hRD : R ≤ D := Nat.le_of_lt HB.out.less
        clear HL
        go_wp2_with (simp only [hs1b])
        refine (xplus N6.out N6.out HW.out.1).mono ?_
        rintro e y1 ⟨v61, rfl, n1, b1⟩
        have M6 := hide n1
        have M9 := hide (N9.out.below b1)
        have MD := hide (D9.out.below b1)
        have MJ := hide (J9.out.trans (b1.mono J9.out.size))
        clear n1 b1 N6 N9 D9 J9
        go_wp2_with fail
        refine (xless MD.out M9.out hRD).mono ?_
        rintro e y2 ⟨v11, rfl, n1, b1⟩
        have L2 := hide n1
        have K6 := hide (M6.out.below b1)
        have K9 := hide (M9.out.below b1)
        have KD := hide (MD.out.below b1)
        have KJ := hide (MJ.out.trans (b1.mono MJ.out.size))
        clear n1 b1 M6 M9 MD MJ
        go_wp2_with fail
        refine (nCmp0 K9.out L2.out).mono ?_
        rintro e y3 ⟨rfl, b1⟩
        have L3 := hide (L2.out.below b1)
        have P6 := hide (K6.out.below b1)
        have P9 := hide (K9.out.below b1)
        have PD := hide (KD.out.below b1)
        have PJ := hide (KJ.out.trans (b1.mono KJ.out.size))
        clear b1 L2 K6 K9 KD KJ
        have hc2 : (R < D - R ∧ cmpI R (D - R) < 0) ∨ (¬ R < D - R ∧ ¬ cmpI R (D - R) < 0) := by
          by_cases c : R < D - R
          · exact .inl ⟨c, cmp_less.1 c⟩
          · exact .inr ⟨c, cmp_less.2 c⟩
        generalize cmpI R (D - R) = c2 at *
        rcases hc2 with ⟨c, hc2⟩ | ⟨c, hc2⟩
        · have HB2 := hide (HB.out.low c)
          have hf2 : Fits (R + R) := PD.out.fits.le (by omega)
          clear c hRD
          go_wp2_with fail
          refine (xplus P9.out P9.out hf2).mono ?_
          rintro e y4 ⟨v92, rfl, n1, b1⟩
          have Q9 := hide n1
          have Q6 := hide (P6.out.below b1)
          have QD := hide (PD.out.below b1)
          have QJ := hide (PJ.out.trans (b1.mono PJ.out.size))
          clear n1 b1 P6 P9 PD PJ L3 hf2
          go_wp2_with fail
          go_roundw
          case rel => exact ⟨j + 1, _, _, by omega, by go_num, HB2, Q6, Q9, QD, QJ⟩
          case measure => simp [intOf]; omega
        · have HB2 := hide (HB.out.high c)
          have hle : D - R ≤ R := by omega
          clear c hRD
          go_wp2_with fail
          refine (xless P9.out L3.out hle).mono ?_
          rintro e y4 ⟨v92, rfl, n1, b1⟩
          have Q9 := hide n1
          have Q6 := hide (P6.out.below b1)
          have QD := hide (PD.out.below b1)
          have QJ := hide (PJ.out.trans (b1.mono PJ.out.size))
          clear n1 b1 P6 P9 PD PJ L3 hle
          go_wp2_with fail
          refine (nFrom1 _).mono ?_
          rintro e y5 ⟨v1, rfl, n1, b1⟩
          have O1 := hide n1
          have S9 := hide (Q9.out.below b1)
          have S6 := hide (Q6.out.below b1)
          have SD := hide (QD.out.below b1)
          have SJ := hide (QJ.out.trans (b1.mono QJ.out.size))
          clear n1 b1 Q9 Q6 QD QJ
          go_wp2_with fail
          refine (xplus S6.out O1.out HW.out.2).mono ?_
          rintro e y6 ⟨v62, rfl, n1, b1⟩
          have T6 := hide n1
          have T9 := hide (S9.out.below b1)
          have TD := hide (SD.out.below b1)
          have TJ := hide (SJ.out.trans (b1.mono SJ.out.size))
          clear n1 b1 S9 S6 SD SJ O1
          go_wp2_with fail
          go_roundw
          case rel => exact ⟨j + 1, _, _, by omega, by go_num, HB2, T6, T9, TD, TJ⟩
          case measure => simp [intOf]; omega
      · have g1 : ¬ (j : Int) < (s1 : Int) := by omega
        obtain rfl : j = s1 := by omega
        obtain ⟨e1, e2⟩ := HL.out W R HB.out
        obtain ⟨a9, k9, p9, rfl, hk9⟩ := num_slice N9.out
        have hm : decide (0 < k9) = mrB (R0 * 2 ^ j) D := by
          unfold mrB
          rw [← e2]
          by_cases h0 : R = 0
          · have := hk9.2 h0
            rw [decide_eq_false (by omega), decide_eq_false (by omega)]
          · have : k9 ≠ 0 := fun h => h0 (hk9.1 h)
            rw [decide_eq_true (by omega), decide_eq_true h0]
        have N7 := hide (e1 ▸ N6.out)
        have HM := hide hm
        clear hm e1 e2 hk9 HB N6 N9 D9 HL hj hlt
        go_wp2_with (simp only [hs1b])
        go_ret2
        exact ⟨_, by rw [← HM.out]; rfl, N7.out, J9.out⟩
end Go.Proofs.YtolaaemkcmiabaaDoor

/- Package exact: divide. -/
namespace Go.Proofs.YtolaaemkcmiabaaDoor
open Go.RowKit
open M
set_option linter.unusedVariables false
set_option linter.unusedSimpArgs false

/-- By which power of 2 a quotient gets so many bits. -/
def upI (P Q s : Nat) : Int := (bitLen Q : Int) + (s : Int) - 1 - (bitLen P : Int)

theorem three_results {fn : Func} {a b c : Tmp} (h : fn.results = #[.tmp a, .tmp b, .tmp c]) (tmps : Array Value) (P : Program) (w : World) :
    (results fn tmps).run P w = .ok (.tuple #[tmps.getD a undef, tmps.getD b undef, tmps.getD c undef]) w := by
  simp [results, h]

set_option maxRecDepth 100000 in
set_option maxHeartbeats 4000000 in
theorem divide_num {v u : Value} {P Q s : Nat} {w : World} (h : Num w v P) (h' : Num w u Q) (hP : 0 < P) (hQ : 0 < Q) (hs1 : 2 ≤ s) (hs2 : s ≤ 200) :
    Calls Tryd.prog 39 #[v, u, .int .i64 s] w fun e w' => ∃ r N D, e = .returned (.tuple #[r, .bool (mrB N D), .int .i64 (upI P Q s)]) ∧ Num w' r (N / D) ∧ 0 < D ∧ N * (Q * 2 ^ (-upI P Q s).toNat) = P * 2 ^ (upI P Q s).toNat * D ∧ Below w.heap.size w w' := by
  have lp := fits_bits.1 h.fits
  have lq := fits_bits.1 h'.fits
  obtain ⟨bP, hbP⟩ : ∃ b : Nat, bitLen P = b := ⟨_, rfl⟩
  obtain ⟨bQ, hbQ⟩ : ∃ b : Nat, bitLen Q = b := ⟨_, rfl⟩
  obtain ⟨t, ht, htb⟩ : ∃ t : Int, (bQ : Int) + (s : Int) = t ∧ (0 ≤ t ∧ t ≤ 300000) := ⟨_, rfl, by omega⟩
  obtain ⟨t1, ht1, ht1b⟩ : ∃ t1 : Int, t - 1 = t1 ∧ (-1 ≤ t1 ∧ t1 ≤ 300000) := ⟨_, rfl, by omega⟩
  obtain ⟨up, hup, hupb⟩ : ∃ up : Int, t1 - (bP : Int) = up ∧ (-300000 ≤ up ∧ up ≤ 300000) := ⟨_, rfl, by omega⟩
  obtain ⟨un, hun, hunb⟩ : ∃ un : Int, -up = un ∧ (-300000 ≤ un ∧ un ≤ 300000) := ⟨_, rfl, by omega⟩
  have hU : upI P Q s = up := by unfold upI; rw [hbP, hbQ]; omega
  rw [hU, hun]
  have HLq := hide (xlen h')
  have HLp := hide (xlen h)
  rw [hbQ] at HLq
  rw [hbP] at HLp
  by_cases c : 262144 < t1
  · have HD := hide (divideLong_num h h' hP hQ (by omega) hs2 rfl rfl)
    have key : P * 2 ^ (bitLen Q - bitLen P) * 2 ^ (s - 1) * (Q * 2 ^ un.toNat) = P * 2 ^ up.toNat * (Q * 2 ^ (bitLen P - bitLen Q)) := by
      rw [hbP, hbQ]
      have e : 2 ^ (bQ - bP) * 2 ^ (s - 1) * 2 ^ un.toNat = 2 ^ up.toNat * 2 ^ (bP - bQ) := by
        rw [← Nat.pow_add, ← Nat.pow_add, ← Nat.pow_add]; congr 1; omega
      generalize 2 ^ (bQ - bP) = a1 at *
      generalize 2 ^ (s - 1) = a2 at *
      generalize 2 ^ un.toNat = a3 at *
      generalize 2 ^ up.toNat = a4 at *
      generalize 2 ^ (bP - bQ) = a5 at *
      calc P * a1 * a2 * (Q * a3) = P * Q * (a1 * a2 * a3) := by simp only [Nat.mul_assoc, Nat.mul_left_comm, Nat.mul_comm]
        _ = P * Q * (a4 * a5) := by rw [e]
        _ = P * a4 * (Q * a5) := by simp only [Nat.mul_assoc, Nat.mul_left_comm, Nat.mul_comm]
    have hDp : 0 < Q * 2 ^ (bitLen P - bitLen Q) := Nat.mul_pos hQ (Nat.two_pow_pos _)
    generalize P * 2 ^ (bitLen Q - bitLen P) * 2 ^ (s - 1) = N at *
    generalize Q * 2 ^ (bitLen P - bitLen Q) = D at *
    have HK := hide (And.intro hDp key)
    clear h h' hP hQ hbP hbQ hU key hDp
    go_enter Tryd.func39, Tryd.ntmps39
    go_wp2_with fail
    refine HLq.out.mono ?_
    rintro e x1 ⟨rfl, hw1⟩
    have hw1 := hw1.symm
    subst hw1
    go_wp2_with (simp only [ht, ht1])
    refine HLp.out.mono ?_
    rintro e x1 ⟨rfl, hw1⟩
    have hw1 := hw1.symm
    subst hw1
    go_wp2_with (simp only [ht, ht1, hup])
    refine HLq.out.mono ?_
    rintro e x1 ⟨rfl, hw1⟩
    have hw1 := hw1.symm
    subst hw1
    go_wp2_with (simp only [ht, ht1])
    refine HD.out.mono ?_
    rintro e x1 ⟨r, rfl, hn, hb⟩
    have HN := hide (And.intro hn hb)
    clear hn hb
    go_wp2_with fail
    go_ret3
    exact ⟨r, N, D, rfl, HN.out.1, HK.out.1, HK.out.2, HN.out.2⟩
  · have fP : Fits (P * 2 ^ up.toNat) := fits_bits.2 (by rw [bitLen_mul _ _ (by omega)]; omega)
    have fQ : Fits (Q * 2 ^ un.toNat) := fits_bits.2 (by rw [bitLen_mul _ _ (by omega)]; omega)
    have HSp := hide (xshift up h fP (by omega) (by omega))
    have HSq := hide (fun (w' : World) (hb : Below w.heap.size w w') => xshift (w := w') un (h'.below hb) fQ (by omega) (by omega))
    have hDp : 0 < Q * 2 ^ un.toNat := Nat.mul_pos hQ (Nat.two_pow_pos _)
    have key : P * 2 ^ up.toNat * (Q * 2 ^ un.toNat) = P * 2 ^ up.toNat * (Q * 2 ^ un.toNat) := rfl
    generalize P * 2 ^ up.toNat = N at *
    generalize Q * 2 ^ un.toNat = D at *
    have HK := hide hDp
    clear h h' hP hQ hbP hbQ hU key hDp fP fQ
    go_enter Tryd.func39, Tryd.ntmps39
    go_wp2_with fail
    refine HLq.out.mono ?_
    rintro e x1 ⟨rfl, hw1⟩
    have hw1 := hw1.symm
    subst hw1
    go_wp2_with (simp only [ht, ht1])
    refine HLp.out.mono ?_
    rintro e x1 ⟨rfl, hw1⟩
    have hw1 := hw1.symm
    subst hw1
    go_wp2_with (simp only [ht, ht1, hup])
    refine HLq.out.mono ?_
    rintro e x1 ⟨rfl, hw1⟩
    have hw1 := hw1.symm
    subst hw1
    go_wp2_with (simp only [ht, ht1])
    refine HSp.out.mono ?_
    rintro e x1 ⟨vr, rfl, n1, b1⟩
    have N1 := hide n1
    have J1 := hide b1
    clear n1 b1
    go_wp2_with (simp only [hun])
    refine (HSq.out _ J1.out).mono ?_
    rintro e x2 ⟨vd, rfl, n2, b2⟩
    have N2 := hide (N1.out.below b2)
    have D2 := hide n2
    have J2 := hide (J1.out.trans (b2.mono J1.out.size))
    clear n2 b2 N1 J1
    go_wp2_with fail
    refine (DivMod_num N2.out D2.out HK.out).mono ?_
    rintro e x3 ⟨q, r, rfl, nq, nr, b3⟩
    obtain ⟨a9, k9, p9, rfl, hk9⟩ := num_slice nr
    have hm : decide (0 < k9) = mrB N D := by
      unfold mrB
      by_cases h0 : N % D = 0
      · have := hk9.2 h0
        rw [decide_eq_false (by omega), decide_eq_false (by omega)]
      · have : k9 ≠ 0 := fun h => h0 (hk9.1 h)
        rw [decide_eq_true (by omega), decide_eq_true h0]
    have HN := hide (And.intro nq (J2.out.trans (b3.mono J2.out.size)))
    have HM := hide hm
    clear hm nq nr b3 N2 D2 J2 hk9
    go_wp2_with fail
    go_ret3
    exact ⟨q, N, D, by rw [← HM.out]; rfl, HN.out.1, HK.out, rfl, HN.out.2⟩
end Go.Proofs.YtolaaemkcmiabaaDoor

namespace Go.Proofs.YtolaaemkcmiabaaDoor
end Go.Proofs.YtolaaemkcmiabaaDoor
