/- The document's whole numbers: Divide. -/
import Derived.Test.YtmkploknoohliaaGreatNL
namespace Go.Proofs.YtmkploknoohliaaGreat
open Go.RowKit
open M
set_option linter.unusedVariables false
set_option linter.unusedSimpArgs false

theorem pw_two (q : Nat) : 4294967296 ^ q = 2 ^ (32 * q) := by rw [Nat.pow_mul]

theorem bit_low {x r : Nat} (hr : r < 32) (h : x % 2 ^ (r + 1) = 0) : dg (x + 2 ^ r) 0 = dg x 0 + 2 ^ r ∧ dg x 0 + 2 ^ r < 4294967296 ∧ (x + 2 ^ r) / 4294967296 = x / 4294967296 := by
  obtain ⟨d, hd⟩ : ∃ d, 32 = r + 1 + d := ⟨31 - r, by omega⟩
  have hB : (4294967296 : Nat) = 2 ^ (r + 1) * 2 ^ d := by rw [← Nat.pow_add, ← hd]
  have hp := Nat.two_pow_pos r
  have hs : 2 ^ (r + 1) = 2 ^ r * 2 := Nat.pow_succ _ _
  obtain ⟨y, rfl⟩ : ∃ y, x = 2 ^ (r + 1) * y := ⟨x / 2 ^ (r + 1), by have := Nat.div_add_mod x (2 ^ (r + 1)); omega⟩
  have hm : 2 ^ (r + 1) * y % 4294967296 + 2 ^ (r + 1) ≤ 4294967296 := by
    rw [hB, Nat.mul_mod_mul_left]
    have h3 : y % 2 ^ d + 1 ≤ 2 ^ d := Nat.mod_lt _ (Nat.two_pow_pos d)
    have h4 : 2 ^ (r + 1) * (y % 2 ^ d + 1) ≤ 2 ^ (r + 1) * 2 ^ d := Nat.mul_le_mul_left _ h3
    rw [Nat.mul_add, Nat.mul_one] at h4
    exact h4
  unfold dg
  rw [Nat.pow_zero, Nat.div_one, Nat.div_one]
  generalize 2 ^ (r + 1) * y = z at *
  generalize 2 ^ r = P at *
  clear hB
  omega

theorem set_bit {N i : Nat} (h : N % 2 ^ (i + 1) = 0) : dg (N + 2 ^ i) (i / 32) = dg N (i / 32) + 2 ^ (i % 32) ∧ dg N (i / 32) + 2 ^ (i % 32) < 4294967296 ∧ ∀ j, j ≠ i / 32 → dg (N + 2 ^ i) j = dg N j := by
  have hr : i % 32 < 32 := Nat.mod_lt _ (by omega)
  have hi : i = 32 * (i / 32) + i % 32 := by omega
  generalize i / 32 = q at *
  generalize i % 32 = r at *
  subst hi
  have e0 : 2 ^ (32 * q + r) = 4294967296 ^ q * 2 ^ r := by rw [Nat.pow_add, pw_two]
  have hp := pw_pos q
  have hx : N / 4294967296 ^ q % 2 ^ (r + 1) = 0 := by
    rw [← Nat.mod_mul_right_div_self, show 4294967296 ^ q * 2 ^ (r + 1) = 2 ^ (32 * q + r + 1) by rw [pw_two, ← Nat.pow_add]; rfl, h, Nat.zero_div]
  obtain ⟨b1, b2, b3⟩ := bit_low hr hx
  have hs : ∀ t, dg (N + 2 ^ (32 * q + r)) (q + t) = dg (N / 4294967296 ^ q + 2 ^ r) t := fun t => by rw [dg_shift, e0, Nat.add_mul_div_left _ _ hp]
  have hn : ∀ t, dg N (q + t) = dg (N / 4294967296 ^ q) t := fun t => dg_shift N q t
  refine ⟨?_, ?_, fun j hj => ?_⟩
  · have := hs 0; have := hn 0; rw [Nat.add_zero] at *; omega
  · have := hn 0; rw [Nat.add_zero] at this; omega
  · rcases Nat.lt_or_ge j q with h1 | h1
    · rw [e0]; exact dg_congr (k := q) (by rw [Nat.add_mul_mod_self_left]) h1
    · obtain ⟨t, rfl⟩ : ∃ t, j = q + (1 + t) := ⟨j - q - 1, by omega⟩
      rw [hs, hn, dg_shift _ 1 t, dg_shift _ 1 t, Nat.pow_one, b3]

theorem Wk.bit {w : World} {g K N i : Nat} (h : Wk w g 0 K N) (hz : N % 2 ^ (i + 1) = 0) (hi : i / 32 < K) (hl : N + 2 ^ i < 4294967296 ^ K) (y : Int) (hy : y = ((dg N (i / 32) + 2 ^ (i % 32) : Nat) : Int)) :
    Wk (w.setCell ⟨g, i / 32, none⟩ (.int .u32 y)) g 0 K (N + 2 ^ i) := by
  obtain ⟨b1, b2, b3⟩ := set_bit hz
  refine ⟨hl, fun j hj => ?_, fun j hj => by rw [frozen_setCell]; exact h.free j hj⟩
  have hc := h.cell j hj
  rw [Nat.zero_add] at hc ⊢
  by_cases e : j = i / 32
  · subst e
    rw [b1, hy]
    exact cell_setCell_eq _ _ _ _ _ hc
  · rw [cell_setCell_ne _ _ _ _ _ e, b3 j e]
    exact hc


theorem half_step (A D : Nat) (hD : 0 < D) : (A % (2 * D) < D → A % D = A % (2 * D) ∧ A / D = 2 * (A / (2 * D))) ∧ (D ≤ A % (2 * D) → A % D = A % (2 * D) - D ∧ A / D = 2 * (A / (2 * D)) + 1) := by
  have h1 := Nat.div_add_mod A (2 * D)
  have h2 := Nat.mod_lt A (show 0 < 2 * D by omega)
  generalize A % (2 * D) = r at *
  generalize hQ : A / (2 * D) = Q at *
  have e : A = D * (2 * Q) + r := by rw [← h1, Nat.mul_comm 2 D, Nat.mul_assoc]
  constructor
  · intro h
    rw [e, Nat.mul_add_mod, Nat.mod_eq_of_lt h, Nat.mul_add_div hD, Nat.div_eq_of_lt h]
    exact ⟨rfl, by omega⟩
  · intro h
    have e2 : D * (2 * Q) + r = D * (2 * Q + 1) + (r - D) := by rw [Nat.mul_add D, Nat.mul_one]; omega
    have h3 : r - D < D := by omega
    rw [e, e2, Nat.mul_add_mod, Nat.mod_eq_of_lt h3, Nat.mul_add_div hD, Nat.div_eq_of_lt h3]
    exact ⟨rfl, by omega⟩

theorem nrm_len {k A m C : Nat} (h : Nrm k A) (h' : Nrm m C) (hle : C ≤ A) : m ≤ k := by
  rcases Nat.lt_or_ge k m with h1 | h1
  · exfalso
    obtain ⟨j, rfl⟩ : ∃ j, m = j + 1 := ⟨m - 1, by omega⟩
    have h2 : C < 4294967296 ^ j := Nat.lt_of_le_of_lt hle (Nat.lt_of_lt_of_le h.1 (Nat.pow_le_pow_right (by omega) (by omega)))
    exact h'.top (dg_high h2 (Nat.le_refl _))
  · exact h1

/-- Behind the bits from j on. -/
structure DivSt (w : World) (g K A C j : Nat) (v : Value) (wr : World) : Prop where
  quo : Wk wr g 0 K (A / (C * 2 ^ j) * 2 ^ j)
  rem : ∃ n, RowX (· ≠ g) wr v n (A % (C * 2 ^ j)) ∧ Nrm n (A % (C * 2 ^ j)) ∧ n ≤ 50000
  bel : Below w.heap.size w wr
  old : w.heap.size ≤ g ∧ g < wr.heap.size

theorem or_bit (x r : Nat) (hr : r < 32) (hx : x < 4294967296) (h : x % 2 ^ (r + 1) = 0) : bits BinOp.or IntKind.u32 (x : Int) ((2 ^ r : Nat) : Int) = ((x + 2 ^ r : Nat) : Int) := by
  have hl : 2 ^ r < 4294967296 := Nat.lt_of_lt_of_le ((Nat.pow_lt_pow_iff_right (by omega : 1 < 2)).2 hr) (by decide)
  rw [u32_or_nat _ _ hx hl]
  obtain ⟨y, rfl⟩ : ∃ y, x = 2 ^ (r + 1) * y := ⟨x / 2 ^ (r + 1), by have := Nat.div_add_mod x (2 ^ (r + 1)); omega⟩
  rw [Nat.two_pow_add_eq_or_of_lt (show 2 ^ r < 2 ^ (r + 1) by rw [Nat.pow_succ]; have := Nat.two_pow_pos r; omega) y]

theorem dg_bits {N i : Nat} (h : N % 2 ^ (i + 1) = 0) : dg N (i / 32) % 2 ^ (i % 32 + 1) = 0 := by
  have hr : i % 32 < 32 := Nat.mod_lt _ (by omega)
  have hi : i = 32 * (i / 32) + i % 32 := by omega
  generalize i / 32 = q at *
  generalize i % 32 = r at *
  subst hi
  have hx : N / 4294967296 ^ q % 2 ^ (r + 1) = 0 := by
    rw [← Nat.mod_mul_right_div_self, show 4294967296 ^ q * 2 ^ (r + 1) = 2 ^ (32 * q + r + 1) by rw [pw_two, ← Nat.pow_add]; rfl, h, Nat.zero_div]
  unfold dg
  rw [show (4294967296 : Nat) = 2 ^ (r + 1) * 2 ^ (31 - r) by rw [← Nat.pow_add, show r + 1 + (31 - r) = 32 by omega]] at *
  rw [Nat.mod_mul_right_mod]
  exact hx

theorem blen_lt (N : Nat) : N < 2 ^ blen N := by
  unfold blen
  split
  · rename_i h; rw [h]; exact Nat.two_pow_pos _
  · exact Nat.lt_log2_self
theorem blen_ge {N : Nat} (h : 0 < N) : 2 ^ (blen N - 1) ≤ N ∧ 1 ≤ blen N := by
  unfold blen
  rw [if_neg (by omega)]
  exact ⟨Nat.log2_self_le (by omega), by omega⟩
theorem blen_row {k N : Nat} (h : N < 4294967296 ^ k) : blen N ≤ 32 * k := by
  unfold blen
  split
  · omega
  · rename_i h0
    have : N.log2 < 32 * k := (Nat.log2_lt h0).2 (by rw [← pw_two]; exact h)
    omega

set_option maxRecDepth 100000 in
set_option maxHeartbeats 4000000 in
theorem nDivide {S S' : Nat → Prop} (v u : Value) (k A m C : Nat) (w : World) (h : RowX S w v k A) (h' : RowX S' w u m C) (hn : Nrm k A) (hn' : Nrm m C) (hC : 0 < C) (hkb : k ≤ 10000) (hmb : m ≤ 10000) :
    Calls Tryz.prog 105 #[v, u] w fun e w' => ∃ r s, e = .returned (.tuple #[r, s]) ∧ (∃ n, Row w' r n (A / C) ∧ Nrm n (A / C) ∧ n ≤ 50000) ∧ (∃ n, Row w' s n (A % C) ∧ Nrm n (A % C) ∧ n ≤ 50000) ∧ Below w.heap.size w w' := by
  obtain ⟨i5, hi5⟩ := info32
  have Hi := hide hi5
  clear hi5
  have HLa := hide (nLen v k A w h hn (by omega))
  have HLc := hide (nLen u m C w h' hn' (by omega))
  have HV := hide (And.intro (Row.old h.row) (And.intro hn hn'))
  have HU := hide (Row.old h'.row)
  have hba := blen_row h.1
  have hbc := blen_row h'.1
  have hAlt := blen_lt A
  have hClt := blen_lt C
  obtain ⟨hCge, hc1⟩ := blen_ge hC
  obtain ⟨_, _, ad, cap, rfl, _, _⟩ := h
  obtain ⟨_, _, ad', cap', rfl, _, _⟩ := h'
  by_cases hlt : blen A < blen C
  · have hAC : A < C := by
      rcases Nat.eq_zero_or_pos A with h0 | h0
      · omega
      · refine Nat.lt_of_lt_of_le hAlt (Nat.le_trans (Nat.pow_le_pow_right (by omega) (by omega)) hCge)
    have H1 : Hid (A / C = 0 ∧ A % C = A) := ⟨Nat.div_eq_of_lt hAC, Nat.mod_eq_of_lt hAC⟩
    obtain ⟨t, ht, ht0⟩ : ∃ t : Int, (blen A : Int) - (blen C : Int) = t ∧ t < 0 := ⟨_, rfl, by omega⟩
    have hw64 : wrap64 t = t := by unfold wrap64; omega
    clear hAlt hClt hCge hlt hAC
    generalize blen A = ba at *
    generalize blen C = bc at *
    go_enter Tryz.func105, Tryz.ntmps105
    go_wp2_with fail
    refine HLa.out.mono ?_
    rintro e w1 ⟨rfl, hw1⟩
    have hw1 := hw1.symm
    subst hw1
    go_wp2_with fail
    refine HLc.out.mono ?_
    rintro e w1 ⟨rfl, hw1⟩
    have hw1 := hw1.symm
    subst hw1
    go_wp2_with (simp only [hw64])
    go_ret2
    refine ⟨_, _, rfl, ⟨0, ?_, ?_, by omega⟩, ⟨k, ?_, ?_, by omega⟩, Below.refl _ _⟩
    · rw [H1.out.1]; exact Row.nil _
    · rw [H1.out.1]; exact nrm_zero
    · rw [H1.out.2]; exact HV.out.1.row
    · rw [H1.out.2]; exact HV.out.2.1
  · obtain ⟨N0, hN0, hN1⟩ : ∃ N0 : Nat, blen A - blen C = N0 ∧ (blen A : Int) - (blen C : Int) = (N0 : Int) := ⟨_, rfl, by omega⟩
    have hNb : N0 ≤ 32 * k := by omega
    have hbig : A < C * 2 ^ (N0 + 1) := by
      refine Nat.lt_of_lt_of_le hAlt (Nat.le_trans ?_ (Nat.mul_le_mul_right _ hCge))
      rw [← Nat.pow_add]; exact Nat.pow_le_pow_right (by omega) (by omega)
    obtain ⟨q0, hq0, hq1, hq2⟩ : ∃ q : Nat, N0 / 32 = q ∧ (N0 : Int) / 32 = (q : Int) ∧ (N0 : Int).tdiv 32 = (q : Int) := ⟨N0 / 32, rfl, by omega, rfl⟩
    obtain ⟨K, hK, hK1⟩ : ∃ K : Nat, q0 + 1 = K ∧ (q0 : Int) + 1 = (K : Int) := ⟨_, rfl, by omega⟩
    have HKb : Hid (N0 / 32 + 1 = K) := by show _ = _; omega
    have hKl : K ≤ 100000 := by omega
    have Hge := hide hC
    have HQl : Hid (∀ j, A / (C * 2 ^ j) * 2 ^ j < 4294967296 ^ K) := fun j => by
      have e1 : A / (C * 2 ^ j) * 2 ^ j ≤ A / C := by
        rw [← Nat.div_div_eq_div_mul]; exact Nat.div_mul_le_self _ _
      have e2 : A / C < 2 ^ (N0 + 1) := by rw [Nat.div_lt_iff_lt_mul hC, Nat.mul_comm]; exact hbig
      refine Nat.lt_of_le_of_lt e1 (Nat.lt_of_lt_of_le e2 ?_)
      rw [pw_two]; exact Nat.pow_le_pow_right (by omega) (by omega)
    have HS0 : Hid (DivSt w w.heap.size K A C (N0 + 1) (.slice ad k cap) (w.alloc (.cells (madeCells #[Value.int .u32 0] K) 38))) := by
      have hb0 : Below w.heap.size w (w.alloc (.cells (madeCells #[Value.int .u32 0] K) 38)) := (Below.refl _ _).alloc (Nat.le_refl _) _
      refine ⟨?_, ⟨k, ?_, ?_, by omega⟩, hb0, Nat.le_refl _, by simp⟩
      · rw [Nat.div_eq_of_lt hbig, Nat.zero_mul]; exact wk_of_block (pw_pos _) (make_block w K)
      · rw [Nat.mod_eq_of_lt hbig]
        exact (HV.out.1.belowB hb0).mono fun g _ hg => Nat.ne_of_lt hg
      · rw [Nat.mod_eq_of_lt hbig]; exact HV.out.2.1
    clear hAlt hClt hCge hlt hbig hq0 hK hN0 hC hn hn'
    generalize blen A = ba at *
    generalize blen C = bc at *
    go_enter Tryz.func105, Tryz.ntmps105
    go_wp2_with fail
    refine HLa.out.mono ?_
    rintro e w1 ⟨rfl, hw1⟩
    have hw1 := hw1.symm
    subst hw1
    go_wp2_with fail
    refine HLc.out.mono ?_
    rintro e w1 ⟨rfl, hw1⟩
    have hw1 := hw1.symm
    subst hw1
    go_wp2_with (at_make; refine wpList_make_row _ rfl _ _ _ rfl 38 i5 (.int .u32 0) Tryz.underlying69 Hi.out.1 Hi.out.2.1 Hi.out.2.2.1 rfl .i64 .i64 K rfl rfl (by rw [Hi.out.2.2.2]; omega) (by omega) ?_)
    generalize w.alloc (.cells (madeCells #[Value.int .u32 0] K) 38) = wa at *
    go_loopw [8, 9] (fun t8 t9 wr => ∃ j : Nat, j ≤ N0 + 1 ∧ t9 = .int .i64 ((j : Int) - 1) ∧ Hid (DivSt w w.heap.size K A C j t8 wr)) (fun _ t9 _ => (intOf t9 + 1).toNat)
    case atStart => exact ⟨N0 + 1, Nat.le_refl _, by go_num, HS0⟩
    case round =>
      clear HS0 HLa HLc
      obtain ⟨j, hj, rfl, HS⟩ := hrel
      by_cases hj0 : j = 0
      · subst hj0
        have HW : Hid (RowX (fun _ => True) wr (.slice (some ⟨w.heap.size, 0, none⟩) K K) K (A / C)) := by
          have := HS.out.quo
          rw [Nat.pow_zero, Nat.mul_one, Nat.mul_one] at this
          exact this.row (by omega) (Nat.le_refl _) trivial _ (fun _ => rfl)
        have HR := hide HS.out.rem
        rw [Nat.pow_zero, Nat.mul_one] at HR
        have HB := hide HS.out.bel
        clear HS
        go_wp2_with fail
        refine (nTrim _ K (A / C) _ HW.out).mono ?_
        rintro e w5 ⟨r5, rfl, n5, hr5, hn5, hnk5, rfl⟩
        have H5 := hide (And.intro hr5 (And.intro hn5 hnk5))
        clear hr5 hn5 hnk5
        go_wp2_with fail
        go_ret2
        obtain ⟨n, a1, a2, a3⟩ := HR.out
        exact ⟨r5, _, rfl, ⟨n5, H5.out.1, H5.out.2.1, by have := H5.out.2.2; omega⟩, ⟨n, a1.row, a2, a3⟩, HB.out⟩
      · obtain ⟨i, rfl⟩ : ∃ i, j = i + 1 := ⟨j - 1, by omega⟩
        have hij : ((i + 1 : Nat) : Int) - 1 = (i : Int) := by omega
        rw [hij]
        have hi0 : (0 : Int) ≤ (i : Int) := by omega
        clear hij hj0
        have HUp := hide (nUp2 _ m C i wr (HU.out.belowB HS.out.bel) (by omega) (by omega))
        go_wp2_with fail
        refine HUp.out.mono ?_
        rintro e w1 ⟨d, rfl, md, hd, hdn, hdl, hdb⟩
        have HS1 : Hid (DivSt w w.heap.size K A C (i + 1) u8 w1) := by
          obtain ⟨n, a1, a2, a3⟩ := HS.out.rem
          exact ⟨HS.out.quo.below hdb HS.out.old.2, ⟨n, a1.below hdb, a2, a3⟩, HS.out.bel.trans (hdb.mono HS.out.bel.size), HS.out.old.1, Nat.lt_of_lt_of_le HS.out.old.2 hdb.size⟩
        have HD := hide (And.intro hd hdn)
        clear hd hdn hdl hdb HS HUp
        obtain ⟨n, a1, a2, a3⟩ := HS1.out.rem
        have HRr := hide (And.intro a1 (And.intro a2 a3))
        clear a1 a2 a3
        have HCm := hide (nCmp u8 d n (A % (C * 2 ^ (i + 1))) md (C * 2 ^ i) w1 HRr.out.1 HD.out.1 HRr.out.2.1 HD.out.2)
        go_wp2_with fail
        refine HCm.out.mono ?_
        rintro e w2 ⟨rfl, nn, hw2⟩
        have hb2 : Below w1.heap.size w1 w2 := by rw [hw2]; exact ⟨rfl, rfl, rfl, Nat.le_refl _, fun _ _ => rfl⟩
        have HS2 : Hid (DivSt w w.heap.size K A C (i + 1) u8 w2 ∧ RowX (· ≠ w.heap.size) w2 u8 n (A % (C * 2 ^ (i + 1))) ∧ Row w2 d md (C * 2 ^ i)) :=
          ⟨⟨HS1.out.quo.below hb2 HS1.out.old.2, ⟨n, HRr.out.1.below hb2, HRr.out.2.1, HRr.out.2.2⟩, HS1.out.bel.trans (hb2.mono HS1.out.bel.size), HS1.out.old.1, Nat.lt_of_lt_of_le HS1.out.old.2 hb2.size⟩, HRr.out.1.below hb2, HD.out.1.below hb2⟩
        have HN2 := hide (And.intro HRr.out.2 HD.out.2)
        clear hw2 hb2 HS1 HRr HD HCm
        have hDp : 0 < C * 2 ^ i := Nat.mul_pos Hge.out (Nat.two_pow_pos i)
        have he2 : C * 2 ^ (i + 1) = 2 * (C * 2 ^ i) := by rw [Nat.pow_succ, ← Nat.mul_assoc, Nat.mul_comm]
        have Hst := hide (half_step A (C * 2 ^ i) hDp)
        rw [← he2] at Hst
        have Hpw : Hid (2 * (A / (C * 2 ^ (i + 1))) * 2 ^ i = A / (C * 2 ^ (i + 1)) * 2 ^ (i + 1)) := by
          show _ = _
          rw [Nat.pow_succ, Nat.mul_comm 2, Nat.mul_assoc, Nat.mul_comm 2]
        clear he2
        by_cases hge : C * 2 ^ i ≤ A % (C * 2 ^ (i + 1))
        · have hcmp : (0 : Int) ≤ M.cmpI (A % (C * 2 ^ (i + 1))) (C * 2 ^ i) := by
            unfold M.cmpI
            rw [if_neg (by omega)]
            split <;> omega
          have HLs := hide (nLess u8 d n _ md _ w2 HS2.out.2.1 HS2.out.2.2 (nrm_len HN2.out.1.1 HN2.out.2 hge) hge (by have := HN2.out.1.2; omega))
          obtain ⟨e1, e2⟩ := Hst.out.2 hge
          have HE := hide (And.intro e1 e2)
          clear e1 e2 hge hDp Hst
          generalize M.cmpI (A % (C * 2 ^ (i + 1))) (C * 2 ^ i) = cc at *
          go_wp2_with fail
          refine HLs.out.mono ?_
          rintro e w3 ⟨r3, rfl, n3, hr3, hn3, hk3, hb3⟩
          obtain ⟨qi, hqi, hqi1, hqi2⟩ : ∃ q : Nat, i / 32 = q ∧ (i : Int) / 32 = (q : Int) ∧ (i : Int).tdiv 32 = (q : Int) := ⟨i / 32, rfl, by omega, rfl⟩
          obtain ⟨ri, hri, hri1, hri2⟩ : ∃ r : Nat, i % 32 = r ∧ (i : Int) % 32 = (r : Int) ∧ (i : Int).tmod 32 = (r : Int) := ⟨i % 32, rfl, by omega, rfl⟩
          have hrl : ri < 32 := by omega
          have hr4 : (ri : Int) % 18446744073709551616 = (ri : Int) := by omega
          have hqK : qi < K := by have := HKb.out; omega
          have hqK' : (qi : Int) < (K : Int) := by omega
          have hz : A / (C * 2 ^ (i + 1)) * 2 ^ (i + 1) % 2 ^ (i + 1) = 0 := Nat.mul_mod_left _ _
          have hw3 := HS2.out.1.quo.below hb3 HS2.out.1.old.2
          have cq := hw3.cell qi hqK
          have fq := hw3.free qi hqK
          rw [Nat.zero_add] at cq fq
          have hxl := dg_lt (A / (C * 2 ^ (i + 1)) * 2 ^ (i + 1)) qi
          have hdb := dg_bits hz
          rw [hqi, hri] at hdb
          have hor := or_bit _ ri hrl hxl hdb
          have HNx : Hid (∀ y : Int, y = ((dg (A / (C * 2 ^ (i + 1)) * 2 ^ (i + 1)) qi + 2 ^ ri : Nat) : Int) → DivSt w w.heap.size K A C i r3 (w3.setCell ⟨w.heap.size, qi, none⟩ (.int .u32 y))) := by
            intro y hy
            have hq4 : A / (C * 2 ^ i) * 2 ^ i = A / (C * 2 ^ (i + 1)) * 2 ^ (i + 1) + 2 ^ i := by rw [HE.out.2, Nat.add_mul, Nat.one_mul, Hpw.out]
            refine ⟨?_, ⟨n3, ?_, ?_, by have := HN2.out.1.2; omega⟩, (HS2.out.1.bel.trans (hb3.mono HS2.out.1.bel.size)).setCell (Nat.le_refl _) _, Nat.le_refl _, ?_⟩
            · rw [hq4, ← hqi]
              exact hw3.bit hz (by omega) (by rw [← hq4]; exact HQl.out i) y (by rw [hy, hqi, hri])
            · rw [HE.out.1]
              exact (hr3.mono (S' := (· ≠ w.heap.size)) (fun g _ hg => by have := HS2.out.1.old.2; omega)).only (b := w.heap.size) (lo := qi) (hi := qi + 1) ((Only.refl _ _ _ _).setCell _ (Nat.le_refl _) (by omega) _)
            · rw [HE.out.1]; exact hn3
            · show w.heap.size < (w3.setCell _ _).heap.size
              have h5 := HS2.out.1.old.2
              have h6 := hb3.size
              simp [World.setCell]; omega
          obtain ⟨P, hP, hP1⟩ : ∃ P : Nat, 2 ^ ri = P ∧ (2 : Int) ^ ri = (P : Int) := ⟨2 ^ ri, rfl, by simp⟩
          have hPl : 2 ^ ri < 4294967296 := Nat.lt_of_lt_of_le ((Nat.pow_lt_pow_iff_right (by omega : 1 < 2)).2 hrl) (by decide)
          rw [hP] at hor hPl HNx
          have hP4 : (P : Int) % 4294967296 = (P : Int) := by omega
          clear hr3 hn3 hk3 hb3 hw3 hz hdb hP HLs HS2 HN2 HE Hpw hqi hri
          generalize dg (A / (C * 2 ^ (i + 1)) * 2 ^ (i + 1)) qi = xq at *
          go_wp2_with (simp only [hqi2, hri2, hr4, hP1, hP4, hor])
          go_roundw
          case rel => exact ⟨i, by omega, by go_num, HNx.out _ rfl⟩
          case measure => simp [intOf]
        · have hcmp : decide ((0 : Int) ≤ M.cmpI (A % (C * 2 ^ (i + 1))) (C * 2 ^ i)) = false := by
            unfold M.cmpI
            rw [if_pos (by omega)]; rfl
          obtain ⟨e1, e2⟩ := Hst.out.1 (by omega)
          have HNx : Hid (DivSt w w.heap.size K A C i u8 w2) := by
            refine ⟨?_, ⟨n, ?_, ?_, HN2.out.1.2⟩, HS2.out.1.bel, HS2.out.1.old⟩
            · rw [e2, Hpw.out]; exact HS2.out.1.quo
            · rw [e1]; exact HS2.out.2.1
            · rw [e1]; exact HN2.out.1.1
          clear e1 e2 hge hDp Hst HS2 HN2 Hpw
          generalize M.cmpI (A % (C * 2 ^ (i + 1))) (C * 2 ^ i) = cc at *
          go_wp2_with fail
          go_roundw
          case rel => exact ⟨i, by omega, by go_num, HNx⟩
          case measure => simp [intOf]
end Go.Proofs.YtmkploknoohliaaGreat
