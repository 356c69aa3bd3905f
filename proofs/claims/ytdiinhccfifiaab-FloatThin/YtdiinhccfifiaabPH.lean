/- The document's SquareRoot. -/
import Derived.Test.YtdiinhccfifiaabNN
namespace Go.Proofs.Ytdiinhccfifiaab
open Go.RowKit
open M
set_option linter.unusedVariables false
set_option linter.unusedSimpArgs false

/-- While the digits are tried. -/
def SqSt (w : World) (N j K : Nat) (v : Value) (wr : World) : Prop := ∃ k R, Row wr v k R ∧ Nrm k R ∧ k ≤ K ∧ R * R ≤ N ∧ N < (R + 2 ^ j) * (R + 2 ^ j) ∧ Below w.heap.size w wr
theorem cmp_le0 {A C : Nat} (h : A ≤ C) : M.cmpI A C ≤ 0 := by
  unfold M.cmpI
  split
  · omega
  · rw [if_neg (by omega)]; omega
theorem cmp_gt0 {A C : Nat} (h : C < A) : ¬ M.cmpI A C ≤ 0 := by
  unfold M.cmpI
  rw [if_neg (by omega), if_pos h]; omega
theorem root_limbs {N R k K : Nat} (hn : Nrm k R) (hR : R * R ≤ N) (hN : N < 4294967296 ^ K) : k ≤ K := by
  refine hn.le (Nat.lt_of_le_of_lt ?_ hN)
  rcases Nat.eq_zero_or_pos R with h | h
  · omega
  · exact Nat.le_trans (Nat.le_mul_of_pos_left R h) hR

set_option maxRecDepth 100000 in
set_option maxHeartbeats 1000000 in
theorem nSqrt (v : Value) (K N : Nat) (w : World) (h : Row w v K N) (hn : Nrm K N) (hK : K ≤ 1000) :
    Calls Try.prog 91 #[v] w fun e w' => ∃ (r : Value) (R : Nat) (b : Bool), e = .returned (.tuple #[r, .bool b]) ∧ (b = true ↔ R * R = N) ∧ R * R ≤ N ∧ N < (R + 1) * (R + 1) ∧ (∃ n, Row w' r n R ∧ Nrm n R ∧ n ≤ 1000) ∧ Below w.heap.size w w' := by
  have HLa := hide (nLen v K N w h hn (by omega))
  have hba := blen_row h.1
  have hlt := blen_lt N
  obtain ⟨L, hL, hL1, hL2⟩ : ∃ L : Nat, (blen N + 1) / 2 = L ∧ ((blen N : Int) + 1) / 2 = (L : Int) ∧ ((blen N : Int) + 1).tdiv 2 = (L : Int) := ⟨_, rfl, by omega, by rw [Int.tdiv_eq_ediv_of_nonneg (by omega)]; omega⟩
  have hLb : L ≤ 20000 := by omega
  have HS0 : Hid (SqSt w N (L + 1) K (.slice none 0 0) w) := by
    refine ⟨0, 0, Row.nil _, nrm_zero, by omega, by omega, ?_, Below.refl _ _⟩
    rw [Nat.zero_add, ← Nat.pow_add]
    exact Nat.lt_of_lt_of_le hlt (Nat.pow_le_pow_right (by omega) (by omega))
  have HV := hide (And.intro h (And.intro hn hK))
  have hbl : (blen N : Int) ≤ 100000 := by omega
  clear h hn hba hlt hL
  generalize blen N = bl at *
  go_enter Try.func91, Try.ntmps91
  go_wp2_with fail
  refine HLa.out.mono ?_
  rintro e w1 ⟨rfl, hw1⟩
  have hw1 := hw1.symm
  subst hw1
  go_wp2_with (simp only [hL1, hL2])
  go_loopw [4, 5] (fun t4 t5 wr => ∃ j : Nat, j ≤ L + 1 ∧ t5 = .int .i64 ((j : Int) - 1) ∧ Hid (SqSt w N j K t4 wr)) (fun _ t5 _ => (intOf t5 + 1).toNat)
  case atStart => exact ⟨L + 1, Nat.le_refl _, by go_num, HS0⟩
  case round =>
    clear HS0 HLa
    obtain ⟨j, hj, rfl, HS⟩ := hrel
    by_cases hj0 : j = 0
    · subst hj0
      obtain ⟨k, R, a1, a2, a3, a4, a5, a6⟩ := HS.out
      rw [Nat.pow_zero] at a5
      have HR := hide (And.intro a1 (And.intro a2 (And.intro a3 (And.intro a4 (And.intro a5 a6)))))
      clear a1 a2 a3 a4 a5 a6 HS
      have HT := hide (nTimes u4 u4 k R k R wr HR.out.1 HR.out.1 (by have := HR.out.2.2.1; have := HV.out.2.2; omega))
      go_wp2_with fail
      refine HT.out.mono ?_
      rintro e w2 ⟨r2, rfl, k2, c1, c2, c3, hb2⟩
      have H2 := hide (And.intro c1 (And.intro c2 hb2))
      clear c1 c2 c3 hb2 HT
      have BB := HR.out.2.2.2.2.2.trans (H2.out.2.2.mono HR.out.2.2.2.2.2.size)
      have HB2 := hide BB
      clear BB
      have HC := hide (nCmp r2 v k2 (R * R) K N w2 H2.out.1 (HV.out.1.below HB2.out) H2.out.2.1 HV.out.2.1)
      go_wp2_with fail
      refine HC.out.mono ?_
      rintro e w3 ⟨rfl, n3, hw3⟩
      have B3 : Below w2.heap.size w2 w3 := by rw [hw3]; exact ⟨rfl, rfl, rfl, Nat.le_refl _, fun _ _ => rfl⟩
      have HB3 := hide (HB2.out.trans (B3.mono HB2.out.size))
      have HR3 := hide ((HR.out.1.below H2.out.2.2).below B3)
      clear hw3 B3 HC
      by_cases heq : R * R = N
      · have hcc : M.cmpI (R * R) N = 0 := by rw [heq]; unfold M.cmpI; simp
        rw [hcc]
        clear hcc
        have HQ := hide heq
        clear heq
        go_wp2_with fail
        go_ret2
        exact ⟨_, R, true, rfl, ⟨fun _ => HQ.out, fun _ => rfl⟩, HR.out.2.2.2.1, HR.out.2.2.2.2.1, ⟨k, HR3.out, HR.out.2.1, by have := HR.out.2.2.1; have := HV.out.2.2; omega⟩, HB3.out⟩
      · have hcc : M.cmpI (R * R) N = -1 := by unfold M.cmpI; have := HR.out.2.2.2.1; rw [if_pos (by omega)]
        rw [hcc]
        clear hcc
        have HQ := hide heq
        clear heq
        go_wp2_with fail
        go_ret2
        exact ⟨_, R, false, rfl, ⟨fun h => (by cases h), fun h => absurd h HQ.out⟩, HR.out.2.2.2.1, HR.out.2.2.2.2.1, ⟨k, HR3.out, HR.out.2.1, by have := HR.out.2.2.1; have := HV.out.2.2; omega⟩, HB3.out⟩
    · obtain ⟨i, rfl⟩ : ∃ i, j = i + 1 := ⟨j - 1, by omega⟩
      have hij : ((i + 1 : Nat) : Int) - 1 = (i : Int) := by omega
      rw [hij]
      have hi0 : (0 : Int) ≤ (i : Int) := by omega
      clear hij hj0
      obtain ⟨k, R, a1, a2, a3, a4, a5, a6⟩ := HS.out
      have HR := hide (And.intro a1 (And.intro a2 (And.intro a3 (And.intro a4 (And.intro a5 a6)))))
      clear a1 a2 a3 a4 a5 a6 HS
      go_wp2_with fail
      refine (nOf 1 _ (by omega)).mono ?_
      rintro e w1 ⟨r1, rfl, k1, q1, q2, q3, hb1⟩
      have H1 := hide (And.intro q1 (And.intro q3 (And.intro hb1 (HR.out.2.2.2.2.2.trans (hb1.mono HR.out.2.2.2.2.2.size)))))
      clear q1 q2 q3 hb1
      have HU := hide (nUp2 r1 k1 1 i w1 H1.out.1 (by have := H1.out.2.1; omega) (by omega))
      rw [Nat.one_mul] at HU
      go_wp2_with fail
      refine HU.out.mono ?_
      rintro e w2 ⟨r2, rfl, k2, c1, c2, c3, hb2⟩
      have H2 := hide (And.intro c1 (And.intro (show k2 ≤ 5000 by have := H1.out.2.1; omega) (And.intro ((HR.out.1.below H1.out.2.2.1).below hb2) (H1.out.2.2.2.trans (hb2.mono H1.out.2.2.2.size)))))
      clear c1 c2 c3 hb2 HU
      have HSm := hide (nSum u4 r2 k R k2 (2 ^ i) w2 H2.out.2.2.1 H2.out.1 (by have := HR.out.2.2.1; have := HV.out.2.2; omega) (by have := H2.out.2.1; omega))
      go_wp2_with fail
      refine HSm.out.mono ?_
      rintro e w3 ⟨r3, rfl, k3, c1, c2, c3, hb3⟩
      have H3 := hide (And.intro c1 (And.intro c2 (And.intro (show k3 ≤ 10000 by have := H2.out.2.1; have := HR.out.2.2.1; have := HV.out.2.2; omega) (And.intro (H2.out.2.2.1.below hb3) (H2.out.2.2.2.trans (hb3.mono H2.out.2.2.2.size))))))
      clear c1 c2 c3 hb3 HSm H1 H2
      have HT := hide (nTimes r3 r3 k3 (R + 2 ^ i) k3 (R + 2 ^ i) w3 H3.out.1 H3.out.1 (by have := H3.out.2.2.1; omega))
      go_wp2_with fail
      refine HT.out.mono ?_
      rintro e w4 ⟨r4, rfl, k4, c1, c2, c3, hb4⟩
      have H4 := hide (And.intro c1 (And.intro c2 (And.intro (H3.out.1.below hb4) (And.intro (H3.out.2.2.2.1.below hb4) (H3.out.2.2.2.2.trans (hb4.mono H3.out.2.2.2.2.size))))))
      clear c1 c2 c3 hb4 HT
      have HC := hide (nCmp r4 v k4 ((R + 2 ^ i) * (R + 2 ^ i)) K N w4 H4.out.1 (HV.out.1.below H4.out.2.2.2.2) H4.out.2.1 HV.out.2.1)
      go_wp2_with fail
      refine HC.out.mono ?_
      rintro e w5 ⟨rfl, n5, hw5⟩
      have B5 : Below w4.heap.size w4 w5 := by rw [hw5]; exact ⟨rfl, rfl, rfl, Nat.le_refl _, fun _ _ => rfl⟩
      have H5 := hide (And.intro (H4.out.2.2.1.below B5) (And.intro (H4.out.2.2.2.1.below B5) (H4.out.2.2.2.2.trans (B5.mono H4.out.2.2.2.2.size))))
      clear hw5 B5 HC
      by_cases hle : (R + 2 ^ i) * (R + 2 ^ i) ≤ N
      · have hcc := cmp_le0 hle
        have HNx : Hid (SqSt w N i K r3 w5) := ⟨k3, R + 2 ^ i, H5.out.1, H3.out.2.1, root_limbs H3.out.2.1 hle HV.out.1.1, hle, by
          have := HR.out.2.2.2.2.1
          rwa [Nat.pow_succ, Nat.mul_two, ← Nat.add_assoc] at this, H5.out.2.2⟩
        clear hle
        generalize M.cmpI ((R + 2 ^ i) * (R + 2 ^ i)) N = cc at *
        go_wp2_with fail
        go_roundw
        case rel => exact ⟨i, by omega, by go_num, HNx⟩
        case measure => simp [intOf]
      · have hcc := cmp_gt0 (Nat.lt_of_not_le hle)
        have HNx : Hid (SqSt w N i K u4 w5) := ⟨k, R, H5.out.2.1, HR.out.2.1, HR.out.2.2.1, HR.out.2.2.2.1, Nat.lt_of_not_le hle, H5.out.2.2⟩
        clear hle
        generalize M.cmpI ((R + 2 ^ i) * (R + 2 ^ i)) N = cc at *
        go_wp2_with fail
        go_roundw
        case rel => exact ⟨i, by omega, by go_num, HNx⟩
        case measure => simp [intOf]
end Go.Proofs.Ytdiinhccfifiaab
