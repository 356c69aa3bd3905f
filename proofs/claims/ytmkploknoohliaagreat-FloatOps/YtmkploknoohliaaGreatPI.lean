/- The document's NearestRoot, Root. -/
import Derived.Test.YtmkploknoohliaaGreatNN
import Derived.Test.YtmkploknoohliaaGreatRF
import Derived.Test.YtmkploknoohliaaGreatRD
import Derived.Test.YtmkploknoohliaaGreatPC
/- The document's SquareRoot. -/
namespace Go.Proofs.YtmkploknoohliaaGreat
open Go.RowKit
open M
set_option linter.unusedVariables false
set_option linter.unusedSimpArgs false

/-- While the digits are tried. -/
def SqSt (w : World) (N j K : Nat) (v : Value) (wr : World) : Prop := ∃ k R, Row wr v k R ∧ Nrm k R ∧ k ≤ K ∧ R * R ≤ N ∧ N < (R + 2 ^ j) * (R + 2 ^ j) ∧ Below w.heap.size w wr
theorem cmp_le0 {A C : Nat} (h : A ≤ C) : M.cmpI A C ≤ 0 := by
  unfold M.cmpI
  split
  · omega
  · rw [if_neg (by omega)]; omega
theorem cmp_gt0 {A C : Nat} (h : C < A) : ¬ M.cmpI A C ≤ 0 := by
  unfold M.cmpI
  rw [if_neg (by omega), if_pos h]; omega
theorem root_limbs {N R k K : Nat} (hn : Nrm k R) (hR : R * R ≤ N) (hN : N < 4294967296 ^ K) : k ≤ K := by
  refine hn.le (Nat.lt_of_le_of_lt ?_ hN)
  rcases Nat.eq_zero_or_pos R with h | h
  · omega
  · exact Nat.le_trans (Nat.le_mul_of_pos_left R h) hR

set_option maxRecDepth 100000 in
set_option maxHeartbeats 1000000 in
theorem nSqrt (v : Value) (K N : Nat) (w : World) (h : Row w v K N) (hn : Nrm K N) (hK : K ≤ 1000) :
    Calls Tryz.prog 92 #[v] w fun e w' => ∃ (r : Value) (R : Nat) (b : Bool), e = .returned (.tuple #[r, .bool b]) ∧ (b = true ↔ R * R = N) ∧ R * R ≤ N ∧ N < (R + 1) * (R + 1) ∧ (∃ n, Row w' r n R ∧ Nrm n R ∧ n ≤ 1000) ∧ Below w.heap.size w w' := by
  have HLa := hide (nLen v K N w h hn (by omega))
  have hba := blen_row h.1
  have hlt := blen_lt N
  obtain ⟨L, hL, hL1, hL2⟩ : ∃ L : Nat, (blen N + 1) / 2 = L ∧ ((blen N : Int) + 1) / 2 = (L : Int) ∧ ((blen N : Int) + 1).tdiv 2 = (L : Int) := ⟨_, rfl, by omega, by rw [Int.tdiv_eq_ediv_of_nonneg (by omega)]; omega⟩
  have hLb : L ≤ 20000 := by omega
  have HS0 : Hid (SqSt w N (L + 1) K (.slice none 0 0) w) := by
    refine ⟨0, 0, Row.nil _, nrm_zero, by omega, by omega, ?_, Below.refl _ _⟩
    rw [Nat.zero_add, ← Nat.pow_add]
    exact Nat.lt_of_lt_of_le hlt (Nat.pow_le_pow_right (by omega) (by omega))
  have HV := hide (And.intro h (And.intro hn hK))
  have hbl : (blen N : Int) ≤ 100000 := by omega
  clear h hn hba hlt hL
  generalize blen N = bl at *
  go_enter Tryz.func92, Tryz.ntmps92
  go_wp2_with fail
  refine HLa.out.mono ?_
  rintro e w1 ⟨rfl, hw1⟩
  have hw1 := hw1.symm
  subst hw1
  go_wp2_with (simp only [hL1, hL2])
  go_loopw [4, 5] (fun t4 t5 wr => ∃ j : Nat, j ≤ L + 1 ∧ t5 = .int .i64 ((j : Int) - 1) ∧ Hid (SqSt w N j K t4 wr)) (fun _ t5 _ => (intOf t5 + 1).toNat)
  case atStart => exact ⟨L + 1, Nat.le_refl _, by go_num, HS0⟩
  case round =>
    clear HS0 HLa
    obtain ⟨j, hj, rfl, HS⟩ := hrel
    by_cases hj0 : j = 0
    · subst hj0
      obtain ⟨k, R, a1, a2, a3, a4, a5, a6⟩ := HS.out
      rw [Nat.pow_zero] at a5
      have HR := hide (And.intro a1 (And.intro a2 (And.intro a3 (And.intro a4 (And.intro a5 a6)))))
      clear a1 a2 a3 a4 a5 a6 HS
      have HT := hide (nTimes u4 u4 k R k R wr HR.out.1 HR.out.1 (by have := HR.out.2.2.1; have := HV.out.2.2; omega))
      go_wp2_with fail
      refine HT.out.mono ?_
      rintro e w2 ⟨r2, rfl, k2, c1, c2, c3, hb2⟩
      have H2 := hide (And.intro c1 (And.intro c2 hb2))
      clear c1 c2 c3 hb2 HT
      have BB := HR.out.2.2.2.2.2.trans (H2.out.2.2.mono HR.out.2.2.2.2.2.size)
      have HB2 := hide BB
      clear BB
      have HC := hide (nCmp r2 v k2 (R * R) K N w2 H2.out.1 (HV.out.1.below HB2.out) H2.out.2.1 HV.out.2.1)
      go_wp2_with fail
      refine HC.out.mono ?_
      rintro e w3 ⟨rfl, n3, hw3⟩
      have B3 : Below w2.heap.size w2 w3 := by rw [hw3]; exact ⟨rfl, rfl, rfl, Nat.le_refl _, fun _ _ => rfl⟩
      have HB3 := hide (HB2.out.trans (B3.mono HB2.out.size))
      have HR3 := hide ((HR.out.1.below H2.out.2.2).below B3)
      clear hw3 B3 HC
      by_cases heq : R * R = N
      · have hcc : M.cmpI (R * R) N = 0 := by rw [heq]; unfold M.cmpI; simp
        rw [hcc]
        clear hcc
        have HQ := hide heq
        clear heq
        go_wp2_with fail
        go_ret2
        exact ⟨_, R, true, rfl, ⟨fun _ => HQ.out, fun _ => rfl⟩, HR.out.2.2.2.1, HR.out.2.2.2.2.1, ⟨k, HR3.out, HR.out.2.1, by have := HR.out.2.2.1; have := HV.out.2.2; omega⟩, HB3.out⟩
      · have hcc : M.cmpI (R * R) N = -1 := by unfold M.cmpI; have := HR.out.2.2.2.1; rw [if_pos (by omega)]
        rw [hcc]
        clear hcc
        have HQ := hide heq
        clear heq
        go_wp2_with fail
        go_ret2
        exact ⟨_, R, false, rfl, ⟨fun h => (by cases h), fun h => absurd h HQ.out⟩, HR.out.2.2.2.1, HR.out.2.2.2.2.1, ⟨k, HR3.out, HR.out.2.1, by have := HR.out.2.2.1; have := HV.out.2.2; omega⟩, HB3.out⟩
    · obtain ⟨i, rfl⟩ : ∃ i, j = i + 1 := ⟨j - 1, by omega⟩
      have hij : ((i + 1 : Nat) : Int) - 1 = (i : Int) := by omega
      rw [hij]
      have hi0 : (0 : Int) ≤ (i : Int) := by omega
      clear hij hj0
      obtain ⟨k, R, a1, a2, a3, a4, a5, a6⟩ := HS.out
      have HR := hide (And.intro a1 (And.intro a2 (And.intro a3 (And.intro a4 (And.intro a5 a6)))))
      clear a1 a2 a3 a4 a5 a6 HS
      go_wp2_with fail
      refine (nOf 1 _ (by omega)).mono ?_
      rintro e w1 ⟨r1, rfl, k1, q1, q2, q3, hb1⟩
      have H1 := hide (And.intro q1 (And.intro q3 (And.intro hb1 (HR.out.2.2.2.2.2.trans (hb1.mono HR.out.2.2.2.2.2.size)))))
      clear q1 q2 q3 hb1
      have HU := hide (nUp2 r1 k1 1 i w1 H1.out.1 (by have := H1.out.2.1; omega) (by omega))
      rw [Nat.one_mul] at HU
      go_wp2_with fail
      refine HU.out.mono ?_
      rintro e w2 ⟨r2, rfl, k2, c1, c2, c3, hb2⟩
      have H2 := hide (And.intro c1 (And.intro (show k2 ≤ 5000 by have := H1.out.2.1; omega) (And.intro ((HR.out.1.below H1.out.2.2.1).below hb2) (H1.out.2.2.2.trans (hb2.mono H1.out.2.2.2.size)))))
      clear c1 c2 c3 hb2 HU
      have HSm := hide (nSum u4 r2 k R k2 (2 ^ i) w2 H2.out.2.2.1 H2.out.1 (by have := HR.out.2.2.1; have := HV.out.2.2; omega) (by have := H2.out.2.1; omega))
      go_wp2_with fail
      refine HSm.out.mono ?_
      rintro e w3 ⟨r3, rfl, k3, c1, c2, c3, hb3⟩
      have H3 := hide (And.intro c1 (And.intro c2 (And.intro (show k3 ≤ 10000 by have := H2.out.2.1; have := HR.out.2.2.1; have := HV.out.2.2; omega) (And.intro (H2.out.2.2.1.below hb3) (H2.out.2.2.2.trans (hb3.mono H2.out.2.2.2.size))))))
      clear c1 c2 c3 hb3 HSm H1 H2
      have HT := hide (nTimes r3 r3 k3 (R + 2 ^ i) k3 (R + 2 ^ i) w3 H3.out.1 H3.out.1 (by have := H3.out.2.2.1; omega))
      go_wp2_with fail
      refine HT.out.mono ?_
      rintro e w4 ⟨r4, rfl, k4, c1, c2, c3, hb4⟩
      have H4 := hide (And.intro c1 (And.intro c2 (And.intro (H3.out.1.below hb4) (And.intro (H3.out.2.2.2.1.below hb4) (H3.out.2.2.2.2.trans (hb4.mono H3.out.2.2.2.2.size))))))
      clear c1 c2 c3 hb4 HT
      have HC := hide (nCmp r4 v k4 ((R + 2 ^ i) * (R + 2 ^ i)) K N w4 H4.out.1 (HV.out.1.below H4.out.2.2.2.2) H4.out.2.1 HV.out.2.1)
      go_wp2_with fail
      refine HC.out.mono ?_
      rintro e w5 ⟨rfl, n5, hw5⟩
      have B5 : Below w4.heap.size w4 w5 := by rw [hw5]; exact ⟨rfl, rfl, rfl, Nat.le_refl _, fun _ _ => rfl⟩
      have H5 := hide (And.intro (H4.out.2.2.1.below B5) (And.intro (H4.out.2.2.2.1.below B5) (H4.out.2.2.2.2.trans (B5.mono H4.out.2.2.2.2.size))))
      clear hw5 B5 HC
      by_cases hle : (R + 2 ^ i) * (R + 2 ^ i) ≤ N
      · have hcc := cmp_le0 hle
        have HNx : Hid (SqSt w N i K r3 w5) := ⟨k3, R + 2 ^ i, H5.out.1, H3.out.2.1, root_limbs H3.out.2.1 hle HV.out.1.1, hle, by
          have := HR.out.2.2.2.2.1
          rwa [Nat.pow_succ, Nat.mul_two, ← Nat.add_assoc] at this, H5.out.2.2⟩
        clear hle
        generalize M.cmpI ((R + 2 ^ i) * (R + 2 ^ i)) N = cc at *
        go_wp2_with fail
        go_roundw
        case rel => exact ⟨i, by omega, by go_num, HNx⟩
        case measure => simp [intOf]
      · have hcc := cmp_gt0 (Nat.lt_of_not_le hle)
        have HNx : Hid (SqSt w N i K u4 w5) := ⟨k, R, H5.out.2.1, HR.out.2.1, HR.out.2.2.1, HR.out.2.2.2.1, Nat.lt_of_not_le hle, H5.out.2.2⟩
        clear hle
        generalize M.cmpI ((R + 2 ^ i) * (R + 2 ^ i)) N = cc at *
        go_wp2_with fail
        go_roundw
        case rel => exact ⟨i, by omega, by go_num, HNx⟩
        case measure => simp [intOf]
end Go.Proofs.YtmkploknoohliaaGreat

/- The document's way to the nearest root, in numbers. -/
namespace Go.Proofs.YtmkploknoohliaaGreat
namespace Flt
set_option linter.unusedVariables false
set_option linter.unusedSimpArgs false
open Ieee

theorem root_math (f : Format) (hf : 1 ≤ f.fractionBits) (T P Q : Nat) (e s u l : Int) (P' Q' w : Nat) (st : Bool) (hP : 0 < P) (hQ : 0 < Q) (hl : l = ((P.log2 + 1 : Nat) : Int) - ((Q.log2 + 1 : Nat) : Int) + e) (hu : u = l / 2 - ((f.fractionBits : Int) + 1) - 4) (hs : s = e - 2 * u)
    (hPQ : (0 ≤ s ∧ P' = P * 2 ^ s.toNat ∧ Q' = Q) ∨ (s < 0 ∧ P' = P ∧ Q' = Q * 2 ^ (-s).toNat)) (h1 : w * w ≤ P' / Q') (h2 : P' / Q' < (w + 1) * (w + 1)) (h3 : st = true ↔ ¬ (w * w = P' / Q' ∧ P' % Q' = 0)) :
    ∃ k sh g : Nat, 0 < Q' ∧ P' / Q' < 2 ^ (2 * f.fractionBits + 13) ∧ w ≠ 0 ∧ w.log2 = g ∧ f.fractionBits + 3 ≤ g ∧ g ≤ f.fractionBits + 6 ∧ w / 2 ^ sh < 2 ^ (f.fractionBits + 2) ∧ (w / 2 ^ sh / 2 < f.binade → k = 0) ∧
      (((g : Int) + 1 + u - ((f.fractionBits : Int) + 1) < -(T : Int) ∧ k = 0) ∨ (-(T : Int) ≤ (g : Int) + 1 + u - ((f.fractionBits : Int) + 1) ∧ (g : Int) + 1 + u - ((f.fractionBits : Int) + 1) = (k : Int) - (T : Int))) ∧
      (k : Int) - (T : Int) - u - 1 = (sh : Int) ∧
      RtR f (P * 2 ^ (e + 2 * (T : Int)).toNat) (Q * 2 ^ (-(2 * (T : Int)) - e).toNat) (k * f.binade + cutN w sh st) := by
  have bP := log2_bounds hP
  have bQ := log2_bounds hQ
  have hQ' : 0 < Q' := by
    rcases hPQ with ⟨_, _, h⟩ | ⟨_, _, h⟩
    · rw [h]; exact hQ
    · rw [h]; exact Nat.mul_pos hQ (Nat.two_pow_pos _)
  -- how many digits the quotient has
  obtain ⟨d, hd, hd1, hd2⟩ : ∃ d : Nat, s + (P.log2 : Int) = (d : Int) + (Q.log2 : Int) + 1 ∧ 2 * f.fractionBits + 8 ≤ d ∧ d ≤ 2 * f.fractionBits + 11 := ⟨(s + (P.log2 : Int) - (Q.log2 : Int) - 1).toNat, by omega, by omega, by omega⟩
  have hn : 2 ^ d ≤ P' / Q' ∧ P' / Q' < 2 ^ (d + 2) := by
    rcases hPQ with ⟨g1, g2, g3⟩ | ⟨g1, g2, g3⟩
    · rw [g2, g3]
      exact quot_len _ _ _ _ _ (shift_bounds _ bP) bQ (by omega)
    · rw [g2, g3]
      exact quot_len _ _ _ _ _ bP (shift_bounds _ bQ) (by omega)
  have hnb : P' / Q' < 2 ^ (2 * f.fractionBits + 13) := Nat.lt_of_lt_of_le hn.2 (Nat.pow_le_pow_right (by omega) (by omega))
  have hlo : 2 ^ (f.fractionBits + 3) ≤ w := by
    rcases Nat.lt_or_ge w (2 ^ (f.fractionBits + 3)) with h | h
    · exfalso
      have := sq_le (show w + 1 ≤ 2 ^ (f.fractionBits + 4) by rw [Nat.pow_succ]; omega)
      rw [← Nat.pow_add] at this
      have h5 : 2 ^ (f.fractionBits + 4 + (f.fractionBits + 4)) ≤ 2 ^ d := Nat.pow_le_pow_right (by omega) (by omega)
      omega
    · exact h
  have hhi : w < 2 ^ (f.fractionBits + 7) := by
    rcases Nat.lt_or_ge w (2 ^ (f.fractionBits + 7)) with h | h
    · exact h
    · exfalso
      have := sq_le h
      rw [← Nat.pow_add] at this
      have h5 : 2 ^ (d + 2) ≤ 2 ^ (f.fractionBits + 7 + (f.fractionBits + 7)) := Nat.pow_le_pow_right (by omega) (by omega)
      omega
  have hw0 : w ≠ 0 := by have := Nat.two_pow_pos (f.fractionBits + 3); omega
  obtain ⟨g, hg⟩ : ∃ g, w.log2 = g := ⟨_, rfl⟩
  have hg1 : f.fractionBits + 3 ≤ g := by rw [← hg]; exact (Nat.le_log2 hw0).2 hlo
  have hg2 : g ≤ f.fractionBits + 6 := by
    have : g < f.fractionBits + 7 := by rw [← hg]; exact (Nat.log2_lt hw0).2 hhi
    omega
  obtain ⟨A, hA⟩ : ∃ A, A = (u + T - 1).toNat := ⟨_, rfl⟩
  obtain ⟨B, hB⟩ : ∃ B, B = (1 - (T : Int) - u).toNat := ⟨_, rfl⟩
  obtain ⟨k, hk⟩ : ∃ k, k = g + 1 + A - B - f.fractionBits := ⟨_, rfl⟩
  obtain ⟨sh, hsh⟩ : ∃ sh, sh + 2 + A = k + B := ⟨k + B - 2 - A, by omega⟩
  have bw := log2_bounds (Nat.pos_of_ne_zero hw0)
  rw [hg] at bw
  obtain ⟨c1, c2⟩ := cut_bounds w sh k g f.fractionBits bw (by omega) (by omega)
  refine ⟨k, sh, g, hQ', hnb, hw0, hg, hg1, hg2, c1, c2, by omega, by omega, ?_⟩
  rw [← rnd_sticky f w A B sh k st hw0 (by rw [hg]; exact hk) hsh]
  have hdm := Nat.div_add_mod P' Q'
  have hml := Nat.mod_lt P' hQ'
  have g1 : w * w * Q' ≤ P' := Nat.le_trans (Nat.mul_le_mul_right _ h1) (Nat.div_mul_le_self _ _)
  have g2 : P' < (w + 1) * (w + 1) * Q' := (Nat.div_lt_iff_lt_mul hQ').1 h2
  refine root_rung f hf _ _ P' Q' w A B st (Nat.mul_pos hQ (Nat.two_pow_pos _)) hQ' g1 g2 ?_ (Nat.le_trans (Nat.pow_le_pow_right (by omega) (by omega)) hlo) ?_
  · rw [h3, ne_eq]
    refine not_congr ?_
    constructor
    · rintro ⟨a1, a2⟩
      rw [a2, Nat.add_zero] at hdm
      rw [a1, Nat.mul_comm]; exact hdm
    · intro h
      have e1 : P' / Q' = w * w := by rw [← h]; exact Nat.mul_div_cancel _ hQ'
      have e2 : P' % Q' = 0 := by rw [← h]; exact Nat.mul_mod_left _ _
      exact ⟨e1.symm, e2⟩
  · rcases hPQ with ⟨q1, q2, q3⟩ | ⟨q1, q2, q3⟩
    · rw [q2, q3]
      rw [show P * 2 ^ (e + 2 * (T : Int)).toNat * (Q * 2 ^ (2 * B)) = P * Q * (2 ^ (e + 2 * (T : Int)).toNat * 2 ^ (2 * B)) by simp only [Nat.mul_assoc, Nat.mul_left_comm, Nat.mul_comm],
        show 4 * (P * 2 ^ s.toNat * (Q * 2 ^ (-(2 * (T : Int)) - e).toNat * 2 ^ (2 * A))) = P * Q * (2 ^ 2 * 2 ^ s.toNat * 2 ^ (-(2 * (T : Int)) - e).toNat * 2 ^ (2 * A)) by rw [show (4 : Nat) = 2 ^ 2 from rfl]; simp only [Nat.mul_assoc, Nat.mul_left_comm, Nat.mul_comm]]
      rw [← Nat.pow_add, ← Nat.pow_add, ← Nat.pow_add, ← Nat.pow_add]
      congr 2; omega
    · rw [q2, q3]
      rw [show P * 2 ^ (e + 2 * (T : Int)).toNat * (Q * 2 ^ (-s).toNat * 2 ^ (2 * B)) = P * Q * (2 ^ (e + 2 * (T : Int)).toNat * 2 ^ (-s).toNat * 2 ^ (2 * B)) by simp only [Nat.mul_assoc, Nat.mul_left_comm, Nat.mul_comm],
        show 4 * (P * (Q * 2 ^ (-(2 * (T : Int)) - e).toNat * 2 ^ (2 * A))) = P * Q * (2 ^ 2 * 2 ^ (-(2 * (T : Int)) - e).toNat * 2 ^ (2 * A)) by rw [show (4 : Nat) = 2 ^ 2 from rfl]; simp only [Nat.mul_assoc, Nat.mul_left_comm, Nat.mul_comm]]
      rw [← Nat.pow_add, ← Nat.pow_add, ← Nat.pow_add, ← Nat.pow_add]
      congr 2; omega
end Flt
end Go.Proofs.YtmkploknoohliaaGreat

namespace Go.Proofs.YtmkploknoohliaaGreat
open Go.RowKit
open M
set_option linter.unusedVariables false
set_option linter.unusedSimpArgs false

/-- rounded, of a root. -/
theorem rrounded_root64 (P Q : Nat) (e s u l : Int) (P' Q' m : Nat) (st : Bool) (hP : 0 < P) (hQ : 0 < Q) (hl : l = ((P.log2 + 1 : Nat) : Int) - ((Q.log2 + 1 : Nat) : Int) + e) (hu : u = l / 2 - 53 - 4) (hs : s = e - 2 * u) (hPQ : Shared P Q s P' Q') (he : -20000 ≤ e ∧ e ≤ 20000) (hlb : -200000 ≤ l ∧ l ≤ 200000) (h1 : m * m ≤ P' / Q') (h2 : P' / Q' < (m + 1) * (m + 1)) (h3 : st = true ↔ ¬ (m * m = P' / Q' ∧ P' % Q' = 0)) (v : Value) (kk : Nat) (w : World) (h : Row w v kk m) (hnr : Nrm kk m) (hkk : kk ≤ 50000) :
    P' / Q' < 4294967296 ^ 10 ∧ ∃ R, Flt.RtR Ieee.double (P * 2 ^ (e + 2 * 1074).toNat) (Q * 2 ^ (-(2 * 1074) - e).toNat) R ∧ Calls Tryz.prog 93 #[.bool false, v, .int .i64 u, .bool st, .int .i64 64] w fun r w' => r = .returned (.int .u64 (min R 9218868437227405312 : Nat)) ∧ Below w.heap.size w w' := by
  have hfb : Ieee.double.fractionBits = 52 := rfl
  have hbin : Ieee.double.binade = 4503599627370496 := by decide
  obtain ⟨k, sh, g, q1, qn, q2, q3, q4, q5, q6, q7, q8, q9, q10⟩ := Flt.root_math Ieee.double (by decide) 1074 P Q e s u l P' Q' m st hP hQ hl (by rw [hu]; show _ = l / 2 - (((52 : Nat) : Int) + 1) - 4; omega) hs hPQ h1 h2 h3
  rw [hfb] at q4 q5 q6 q8 qn
  rw [hbin] at q7 q10
  have e1 : (((1074 : Nat) : Int)) = 1074 := rfl
  rw [e1] at q8 q9 q10
  refine ⟨Nat.lt_of_lt_of_le qn (by decide), _, q10, ?_⟩
  have hbl : blen m = g + 1 := by rw [blen_pos (Nat.pos_of_ne_zero q2), q3]
  have hwf : ∀ R, wd64 false R = R := fun _ => rfl
  have hcl : m / 2 ^ sh < 18014398509481984 := Nat.lt_of_lt_of_le q6 (Nat.le_of_eq (by decide))
  by_cases hbig : 2000 < ((g + 1 : Nat) : Int) + u - 53
  · refine (rroundedInf64 false _ v kk m u (g + 1) w h hnr (by omega) hbl (by omega) (by omega) hbig).mono ?_
    rintro r w' ⟨rfl, rfl⟩
    refine ⟨?_, Below.refl _ _⟩
    have hk : 2149 < k := by omega
    rw [Nat.min_eq_right (by omega), hwf]
  · refine (rrounded64 false _ v kk m u (g + 1) k sh _ w h hnr (by omega) hbl (by omega) (by omega) (by omega) (by omega) (by omega) q9 (by omega) rfl hcl q7).mono ?_
    rintro r w' ⟨rfl, hb⟩
    rw [hwf]
    exact ⟨rfl, hb⟩

theorem rrounded_rootN64 (P Q : Nat) (e s u l : Int) (P' Q' m : Nat) (st : Bool) (hP : 0 < P) (hQ : 0 < Q) (hl : l = ((P.log2 + 1 : Nat) : Int) - ((Q.log2 + 1 : Nat) : Int) + e) (hu : u = l / 2 - 53 - 4) (hs : s = e - 2 * u) (hPQ : Shared P Q s P' Q') (h1 : m * m ≤ P' / Q') (h2 : P' / Q' < (m + 1) * (m + 1)) (h3 : st = true ↔ ¬ (m * m = P' / Q' ∧ P' % Q' = 0)) : P' / Q' < 4294967296 ^ 10 := by
  obtain ⟨k, sh, g, q1, qn, _⟩ := Flt.root_math Ieee.double (by decide) 1074 P Q e s u l P' Q' m st hP hQ hl (by rw [hu]; show _ = l / 2 - (((52 : Nat) : Int) + 1) - 4; omega) hs hPQ h1 h2 h3
  exact Nat.lt_of_lt_of_le qn (by decide)

set_option maxRecDepth 100000 in
set_option maxHeartbeats 1000000 in
theorem rNearestRoot64 (v q : Value) (kp P kq Q : Nat) (e : Int) (w : World) (h : Row w v kp P) (h' : Row w q kq Q) (hn : Nrm kp P) (hn' : Nrm kq Q) (hP0 : 0 < P) (hQ : 0 < Q) (hkp : kp ≤ 2000) (hkq : kq ≤ 2000) (he : -20000 ≤ e ∧ e ≤ 20000) :
    Calls Tryz.prog 66 #[v, q, .int .i64 e, .int .i64 64] w fun r w' => (∃ R, Flt.RtR Ieee.double (P * 2 ^ (e + 2 * 1074).toNat) (Q * 2 ^ (-(2 * 1074) - e).toNat) R ∧ r = .returned (.int .u64 (min R 9218868437227405312 : Nat))) ∧ Below w.heap.size w w' := by
  have hkp0 : kp ≠ 0 := fun hk => by have := hn.zero_iff.1 hk; omega
  obtain ⟨a, ha, hab⟩ : ∃ a : Nat, P.log2 + 1 = a ∧ a ≤ 70000 := ⟨_, rfl, by have := blen_row h.1; rw [blen_pos hP0] at this; omega⟩
  obtain ⟨b, hb, hbb⟩ : ∃ b : Nat, Q.log2 + 1 = b ∧ b ≤ 70000 := ⟨_, rfl, by have := blen_row h'.1; rw [blen_pos hQ] at this; omega⟩
  obtain ⟨l, hl⟩ : ∃ l : Int, l = (a : Int) - (b : Int) + e := ⟨_, rfl⟩
  obtain ⟨u, hu⟩ : ∃ u : Int, u = l / 2 - 53 - 4 := ⟨_, rfl⟩
  obtain ⟨s, hs⟩ : ∃ s : Int, s = e - 2 * u := ⟨_, rfl⟩
  obtain ⟨P', Q', hPQ⟩ : ∃ P' Q', Shared P Q s P' Q' := by
    rcases Int.lt_or_le s 0 with h1 | h1
    · exact ⟨_, _, .inr ⟨h1, rfl, rfl⟩⟩
    · exact ⟨_, _, .inl ⟨h1, rfl, rfl⟩⟩
  have HLp : Hid (∀ w1 : World, Row w1 v kp P → Calls Tryz.prog 90 #[v] w1 fun e w' => e = .returned (.int .i64 a) ∧ w' = w1) := fun w1 hr => by
    have := nLen v kp P w1 hr hn (by omega)
    rwa [blen_pos hP0, ha] at this
  have HLq : Hid (∀ w1 : World, Row w1 q kq Q → Calls Tryz.prog 90 #[q] w1 fun e w' => e = .returned (.int .i64 b) ∧ w' = w1) := fun w1 hr => by
    have := nLen q kq Q w1 hr hn' (by omega)
    rwa [blen_pos hQ, hb] at this
  have HQ := hide (rquotient v q kp P kq Q s P' Q' w h h' hn hn' hQ hkp hkq (by omega) hPQ)
  have HR := hide (fun (m : Nat) (st : Bool) (h1 : m * m ≤ P' / Q') (h2 : P' / Q' < (m + 1) * (m + 1)) (h3 : st = true ↔ ¬ (m * m = P' / Q' ∧ P' % Q' = 0)) (v2 : Value) (kk : Nat) (w2 : World) (hr : Row w2 v2 kk m) (hnr : Nrm kk m) (hk : kk ≤ 50000) => rrounded_root64 P Q e s u l P' Q' m st hP0 hQ (by rw [ha, hb]; exact hl) hu hs hPQ he (by omega) h1 h2 h3 v2 kk w2 hr hnr hk)
  have Hrow := hide (And.intro h h')
  -- the quotient is short
  have HSh : Hid (P' / Q' < 4294967296 ^ 10) := by
    have hsq : ∃ m, m * m ≤ P' / Q' ∧ P' / Q' < (m + 1) * (m + 1) := ⟨_, Flt.isqrt (P' / Q')⟩
    obtain ⟨m, m1, m2⟩ := hsq
    obtain ⟨kk, hkk⟩ := nrm_exists m
    by_cases hc : m * m = P' / Q' ∧ P' % Q' = 0
    · exact (rrounded_rootN64 P Q e s u l P' Q' m false hP0 hQ (by rw [ha, hb]; exact hl) hu hs hPQ m1 m2 (by simp [hc]))
    · exact (rrounded_rootN64 P Q e s u l P' Q' m true hP0 hQ (by rw [ha, hb]; exact hl) hu hs hPQ m1 m2 (by simp [hc]))
  have he1 : ¬ (2097152 : Int) < e := by omega
  have he2 : ¬ e < (-2097152 : Int) := by omega
  obtain ⟨x1, hx1⟩ : ∃ x1 : Int, (a : Int) - (b : Int) = x1 := ⟨_, rfl⟩
  have hx2 : x1 + e = l := by omega
  obtain ⟨x3, hx3⟩ : ∃ x3 : Int, l + 4194304 = x3 := ⟨_, rfl⟩
  obtain ⟨x4, hx4, hx4'⟩ : ∃ x4 : Int, x3.tdiv 2 = x4 ∧ x3 / 2 = x4 := ⟨_, rfl, by rw [Int.tdiv_eq_ediv_of_nonneg (by omega)]⟩
  obtain ⟨x5, hx5⟩ : ∃ x5 : Int, x4 - 2097152 = x5 := ⟨_, rfl⟩
  obtain ⟨x6, hx6⟩ : ∃ x6 : Int, x5 - 53 = x6 := ⟨_, rfl⟩
  have hx7 : x6 - 4 = u := by omega
  obtain ⟨x8, hx8⟩ : ∃ x8 : Int, 2 * u = x8 := ⟨_, rfl⟩
  have hx9 : e - x8 = s := by omega
  have b1 : -100000 ≤ x1 ∧ x1 ≤ 100000 := by omega
  have b2 : -200000 ≤ l ∧ l ≤ 200000 := by omega
  have b3 : 0 ≤ x3 ∧ x3 ≤ 5000000 := by omega
  have b4 : 0 ≤ x4 ∧ x4 ≤ 5000000 := by omega
  have b5 : -5000000 ≤ x5 ∧ x5 ≤ 5000000 := by omega
  have b6 : -5000000 ≤ x6 ∧ x6 ≤ 5000000 := by omega
  have b7 : -200000 ≤ u ∧ u ≤ 200000 := by omega
  have b8 : -400000 ≤ x8 ∧ x8 ≤ 400000 := by omega
  have b9 : -600000 ≤ s ∧ s ≤ 600000 := by omega
  obtain ⟨hN, hkpb, ad, cap, hv, hcap, hcell⟩ := h
  have hkpz : ((kp : Int) == 0) = false := by simp; omega
  have hkpc : (kp : Int) ≤ 2000 := by omega
  clear hN hcell h' hn hn' hQ hkp hkq he hP0 ha hb hab hbb hl hu hs hPQ hkp0 hcap hkpb
  subst hv
  go_enter Tryz.func66, Tryz.ntmps66
  go_wp2_with (simp only [hkpz])
  refine (HLp.out _ Hrow.out.1).mono ?_
  rintro r w1 ⟨rfl, hw1⟩
  have hw1 := hw1.symm
  subst hw1
  go_wp2_with fail
  refine (HLq.out _ Hrow.out.2).mono ?_
  rintro r w1 ⟨rfl, hw1⟩
  have hw1 := hw1.symm
  subst hw1
  go_wp2_with (simp only [hx1, hx2, hx3, hx4, hx4', hx5])
  refine (rdigits64 _).mono ?_
  rintro r w1 ⟨rfl, hw1⟩
  have hw1 := hw1.symm
  subst hw1
  go_wp2_with (simp only [hx6, hx7, hx8, hx9])
  refine HQ.out.mono ?_
  rintro r w2 ⟨n2, r2, rfl, ⟨kn, an, bn, cn⟩, ⟨kr, ar, br, cr⟩, hb2⟩
  obtain ⟨_, _, adr, capr, rfl, _⟩ := ar
  have H2 := hide (And.intro an (And.intro bn (And.intro (show kn ≤ 10 from bn.le HSh.out) (And.intro br hb2))))
  clear an bn cn hb2 br cr HQ
  have HSq := hide (nSqrt n2 kn (P' / Q') w2 H2.out.1 H2.out.2.1 (by have := H2.out.2.2.1; omega))
  go_wp2_with fail
  refine HSq.out.mono ?_
  rintro r w3 ⟨r3, m, ex, rfl, hex, m1, m2, ⟨k3, c1, c2, c3⟩, hb3⟩
  have H3 := hide (And.intro c1 (And.intro c2 (And.intro (show k3 ≤ 50000 by omega) (H2.out.2.2.2.2.trans (hb3.mono H2.out.2.2.2.2.size)))))
  clear c1 c2 c3 hb3 HSq
  have HX := hide (And.intro hex (And.intro m1 m2))
  clear hex m1 m2
  by_cases hr0 : P' % Q' = 0
  · have hk0 : kr = 0 := H2.out.2.2.2.1.zero_iff.2 hr0
    subst hk0
    cases ex
    · obtain ⟨_, R, hR, hc⟩ := HR.out m true HX.out.2.1 HX.out.2.2 ⟨fun _ h => (by have := HX.out.1.2 h.1; cases this), fun _ => rfl⟩ r3 k3 w3 H3.out.1 H3.out.2.1 H3.out.2.2.1
      have HC := hide (And.intro hR hc)
      clear hR hc hr0
      go_wp2_with fail
      refine HC.out.2.mono ?_
      rintro r w4 ⟨rfl, hb4⟩
      go_wp2_with fail
      go_ret
      exact ⟨⟨R, HC.out.1, rfl⟩, H3.out.2.2.2.trans (hb4.mono H3.out.2.2.2.size)⟩
    · obtain ⟨_, R, hR, hc⟩ := HR.out m false HX.out.2.1 HX.out.2.2 ⟨fun h => (by cases h), fun h => absurd ⟨HX.out.1.1 rfl, hr0⟩ h⟩ r3 k3 w3 H3.out.1 H3.out.2.1 H3.out.2.2.1
      have HC := hide (And.intro hR hc)
      clear hR hc hr0
      go_wp2_with fail
      refine HC.out.2.mono ?_
      rintro r w4 ⟨rfl, hb4⟩
      go_wp2_with fail
      go_ret
      exact ⟨⟨R, HC.out.1, rfl⟩, H3.out.2.2.2.trans (hb4.mono H3.out.2.2.2.size)⟩
  · have hkn : 0 < kr := by
      rcases Nat.eq_zero_or_pos kr with hk | hk
      · exact absurd (H2.out.2.2.2.1.zero_iff.1 hk) hr0
      · exact hk
    have hk0 : (0 : Int) < (kr : Int) := by omega
    have hk1 : decide ((0 : Int) < (kr : Int)) = true := by simp; omega
    have hk2 : decide (0 < kr) = true := by simp; omega
    obtain ⟨_, R, hR, hc⟩ := HR.out m true HX.out.2.1 HX.out.2.2 ⟨fun _ h => hr0 h.2, fun _ => rfl⟩ r3 k3 w3 H3.out.1 H3.out.2.1 H3.out.2.2.1
    have HC := hide (And.intro hR hc)
    clear hR hc hr0 hkn
    cases ex
    all_goals
      go_wp2_with (simp only [hk1, hk2])
      refine HC.out.2.mono ?_
      rintro r w4 ⟨rfl, hb4⟩
      go_wp2_with fail
      go_ret
      exact ⟨⟨R, HC.out.1, rfl⟩, H3.out.2.2.2.trans (hb4.mono H3.out.2.2.2.size)⟩

set_option maxRecDepth 100000 in
set_option maxHeartbeats 1000000 in
theorem rRoot64 (a : Nat) (w : World) (ha : a < 18446744073709551616) : Calls Tryz.prog 21 #[.int .u64 a, .int .i64 64] w fun e w' => e = .returned (.int .u64 (tldW64 (Ieee.double.sqrt a) : Nat)) ∧ Below w.heap.size w w' := by
  have HNa := fhide (fun w : World => rIsNan64 a w ha)
  have HIa := fhide (fun w : World => rIsInf64 a w ha)
  have HZa := fhide (fun w : World => rIsZero64 a w ha)
  have HPa := fhide (fun w : World => rParts64 a w ha)
  have HGa := fhide (fun w : World => rNeg64 a w ha)
  by_cases na : 9218868437227405312 < a % 9223372036854775808
  · rw [decide_eq_true na] at HNa
    have ho : tldW64 (Ieee.double.sqrt a) = 9221120237041090560 := by rw [Flt.sqrt_nan2 Ieee.double (by decide) a (by rw [rgW64, infW64]; exact na)]; rfl
    rw [ho]
    clear ho na ha
    go_enter Tryz.func21, Tryz.ntmps21
    go_wp2_with fail
    refine (HNa.out _).mono ?_
    rintro e w1 ⟨rfl, hw1⟩
    have hw1 := hw1.symm
    subst hw1
    go_wp2_with fail
    refine (rNan64 _).mono ?_
    rintro e w1 ⟨rfl, hw1⟩
    have hw1 := hw1.symm
    subst hw1
    go_wp2_with fail
    go_ret
    exact ⟨rfl, Below.refl _ _⟩
  · rw [decide_eq_false na] at HNa
    by_cases za : a % 9223372036854775808 = 0
    · rw [decide_eq_true za] at HZa
      have ho : tldW64 (Ieee.double.sqrt a) = a := by
        rw [Flt.sqrt_zero Ieee.double a (by rw [rgW64]; exact za) (by decide)]
        have := Flt.word_self Ieee.double a (show a < 2 * 9223372036854775808 by omega)
        rw [rgW64, za] at this
        rw [this]; rfl
      rw [ho]
      clear ho na ha za
      go_enter Tryz.func21, Tryz.ntmps21
      go_wp2_with fail
      refine (HNa.out _).mono ?_
      rintro e w1 ⟨rfl, hw1⟩
      have hw1 := hw1.symm
      subst hw1
      go_wp2_with fail
      refine (HZa.out _).mono ?_
      rintro e w1 ⟨rfl, hw1⟩
      have hw1 := hw1.symm
      subst hw1
      go_wp2_with fail
      go_ret
      exact ⟨rfl, Below.refl _ _⟩
    · rw [decide_eq_false za] at HZa
      by_cases ga : 9223372036854775808 ≤ a
      · rw [decide_eq_true ga] at HGa
        have ho : tldW64 (Ieee.double.sqrt a) = 9221120237041090560 := by
          have hsg : Flt.sg Ieee.double a = true := by rw [sgW64 a ha, decide_eq_true ga]
          by_cases ia : a % 9223372036854775808 = 9218868437227405312
          · rw [Flt.sqrt_inf Ieee.double (by decide) a (by rw [rgW64, infW64]; exact ia), hsg]; rfl
          · rw [Flt.sqrt_neg Ieee.double a (by rw [rgW64, infW64]; omega) (by rw [rgW64]; exact za) hsg]; rfl
        rw [ho]
        clear ho na ha za ga
        go_enter Tryz.func21, Tryz.ntmps21
        go_wp2_with fail
        refine (HNa.out _).mono ?_
        rintro e w1 ⟨rfl, hw1⟩
        have hw1 := hw1.symm
        subst hw1
        go_wp2_with fail
        refine (HZa.out _).mono ?_
        rintro e w1 ⟨rfl, hw1⟩
        have hw1 := hw1.symm
        subst hw1
        go_wp2_with fail
        refine (HGa.out _).mono ?_
        rintro e w1 ⟨rfl, hw1⟩
        have hw1 := hw1.symm
        subst hw1
        go_wp2_with fail
        refine (rNan64 _).mono ?_
        rintro e w1 ⟨rfl, hw1⟩
        have hw1 := hw1.symm
        subst hw1
        go_wp2_with fail
        go_ret
        exact ⟨rfl, Below.refl _ _⟩
      · rw [decide_eq_false ga] at HGa
        have hsg : Flt.sg Ieee.double a = false := by rw [sgW64 a ha, decide_eq_false ga]
        by_cases ia : a % 9223372036854775808 = 9218868437227405312
        · rw [decide_eq_true ia] at HIa
          have ho : tldW64 (Ieee.double.sqrt a) = a := by
            rw [Flt.sqrt_inf Ieee.double (by decide) a (by rw [rgW64, infW64]; exact ia), hsg]
            have := selfW64 a ha ia
            rw [hsg] at this
            rw [infW64, this]; rfl
          rw [ho]
          clear ho na ha za ga hsg ia
          go_enter Tryz.func21, Tryz.ntmps21
          go_wp2_with fail
          refine (HNa.out _).mono ?_
          rintro e w1 ⟨rfl, hw1⟩
          have hw1 := hw1.symm
          subst hw1
          go_wp2_with fail
          refine (HZa.out _).mono ?_
          rintro e w1 ⟨rfl, hw1⟩
          have hw1 := hw1.symm
          subst hw1
          go_wp2_with fail
          refine (HGa.out _).mono ?_
          rintro e w1 ⟨rfl, hw1⟩
          have hw1 := hw1.symm
          subst hw1
          go_wp2_with fail
          refine (HIa.out _).mono ?_
          rintro e w1 ⟨rfl, hw1⟩
          have hw1 := hw1.symm
          subst hw1
          go_wp2_with fail
          go_ret
          exact ⟨rfl, Below.refl _ _⟩
        · rw [decide_eq_false ia] at HIa
          obtain ⟨T, hT⟩ : ∃ T : Nat, T = 1074 := ⟨_, rfl⟩
          obtain ⟨R0, hR0, hsq⟩ := Flt.sqrt_rung Ieee.double (by decide) T a (by rw [hT]; exact leastW64) (by rw [rgW64, infW64]; omega) (by rw [rgW64]; exact za) hsg
          rw [rgW64] at hR0
          have hnz : Flt.V Ieee.double (a % 9223372036854775808) ≠ 0 := fun e => za (Flt.V_inj (f := Ieee.double) (by rw [e, Flt.V_zero]))
          have HU : Hid (∀ m1 j1 R : Nat, m1 * 2 ^ j1 = Flt.V Ieee.double (a % 9223372036854775808) → 0 < m1 ∧ (Flt.RtR Ieee.double (m1 * 2 ^ (((j1 : Int) - 1074) + 2 * 1074).toNat) (1 * 2 ^ (-(2 * 1074) - ((j1 : Int) - 1074)).toNat) R → tldW64 (Ieee.double.sqrt a) = min R 9218868437227405312)) := by
            intro m1 j1 R h1
            have hm : 0 < m1 := by
              rcases Nat.eq_zero_or_pos m1 with h | h
              · rw [h, Nat.zero_mul] at h1; exact absurd h1.symm hnz
              · exact h
            refine ⟨hm, fun hR => ?_⟩
            have he : R0 = R := by
              refine Flt.RtR.uniq (by omega) (by rw [Nat.one_mul]; exact Nat.two_pow_pos _) hR0 hR ?_
              rw [← h1, Nat.one_mul, Nat.mul_one, Nat.mul_assoc, Nat.mul_assoc, ← Nat.pow_add, ← Nat.pow_add]
              congr 2; omega
            rw [hsq, he, infW64]; rfl
          clear hR0 hsq hsg hnz hT
          generalize tldW64 (Ieee.double.sqrt a) = out at *
          generalize decide (9223372036854775808 ≤ a) = sa at *
          clear na za ga ia ha
          go_enter Tryz.func21, Tryz.ntmps21
          go_wp2_with fail
          refine (HNa.out _).mono ?_
          rintro e w1 ⟨rfl, hw1⟩
          have hw1 := hw1.symm
          subst hw1
          go_wp2_with fail
          refine (HZa.out _).mono ?_
          rintro e w1 ⟨rfl, hw1⟩
          have hw1 := hw1.symm
          subst hw1
          go_wp2_with fail
          refine (HGa.out _).mono ?_
          rintro e w1 ⟨rfl, hw1⟩
          have hw1 := hw1.symm
          subst hw1
          go_wp2_with fail
          refine (HIa.out _).mono ?_
          rintro e w1 ⟨rfl, hw1⟩
          have hw1 := hw1.symm
          subst hw1
          go_wp2_with fail
          refine (HPa.out _).mono ?_
          rintro e w2 ⟨r1, m1, j1, rfl, ⟨k1, a1, a2, a3⟩, hV1, hm1, hj1, hb2⟩
          have HO := HU.out m1 j1
          have H2 := hide (And.intro a1 (And.intro a2 (And.intro a3 (And.intro hV1 (And.intro hj1 hb2)))))
          clear a1 a2 a3 hV1 hm1 hj1 hb2
          obtain ⟨e1, he1⟩ : ∃ e1 : Int, (j1 : Int) - 1074 = e1 := ⟨_, rfl⟩
          rw [he1] at HO ⊢
          have B1 : -10000 ≤ e1 ∧ e1 ≤ 10000 := by have := H2.out.2.2.2.2.1; omega
          have HO2 := hide HO
          clear HO he1
          go_wp2_with fail
          refine (nOf 1 _ (by omega)).mono ?_
          rintro e w5 ⟨r5, rfl, kq, q1, q2, q3, hb5⟩
          have HNr := hide (rNearestRoot64 r1 r5 k1 m1 kq 1 e1 w5 (H2.out.1.below hb5) q1 H2.out.2.1 q2 (HO2.out 0 H2.out.2.2.2.1).1 (by omega) (by have := H2.out.2.2.1; omega) (by omega) (by omega))
          have HB5 := hide (H2.out.2.2.2.2.2.trans (hb5.mono H2.out.2.2.2.2.2.size))
          clear q1 q2 q3 hb5
          go_wp2_with fail
          refine HNr.out.mono ?_
          rintro e w6 ⟨⟨R, hR, rfl⟩, hb6⟩
          have HOut := hide ((HO2.out R H2.out.2.2.2.1).2 hR)
          have HB6 := hide (HB5.out.trans (hb6.mono HB5.out.size))
          clear hb6 hR HNr
          go_wp2_with fail
          go_ret
          exact ⟨by rw [HOut.out]; rfl, HB6.out⟩

end Go.Proofs.YtmkploknoohliaaGreat
